/- AxiomTests. -/
import Derived.Test.YtnedkielehmneaaGreatDoorFc0
import Derived.Test.YtnedkielehmneaaGreatDoorChg
namespace Go.Proofs.YtnedkielehmneaaGreatDoor
open Go.RowKit
open Go.Shelf
set_option linter.unusedVariables false
set_option linter.unusedSimpArgs false
set_option maxRecDepth 8000

open Axm
theorem btw_len {l : List EvX} {k : Nat} {e0 e1 : Ev} (h : l.map EvX.e = btw k e0 e1) : 0 < l.length ∧ l.length ≤ 3 := by
  have e : l.length = (btw k e0 e1).length := by rw [← h, List.length_map]
  rw [e]
  unfold btw
  split <;> (try split) <;> simp
set_option maxHeartbeats 32000000 in
theorem tests_walk (one two : Int) (h1 : I64 one) (h2 : I64 two) {w : World} (T : Tab w) : Calls Tryz.prog 8 #[vI one, vI two] w fun e w' => e = .returned (.bool true) ∧ Below w.heap.size w w' := by
  have B := Below.refl w.heap.size w
  have hp1 : ∀ w, Calls Tryz.prog 22 #[vI one, vI 7] w fun e w' => e = .returned (vI (pickV one 7 : Nat)) ∧ w' = w := pick_c one 7 (by decide) (by decide) h1
  have hp2 : ∀ w, Calls Tryz.prog 22 #[vI two, vI 7] w fun e w' => e = .returned (vI (pickV two 7 : Nat)) ∧ w' = w := pick_c two 7 (by decide) (by decide) h2
  have hs1 := strong_c h1
  have hs2 := strong_c h2
  have hk1 : pickV one 7 < 7 := pick_lt (by decide)
  have hk2 : pickV two 7 < 7 := pick_lt (by decide)
  obtain ⟨c1, hc1⟩ : ∃ c, c = !(strongB (pickV one 7) && strongB (pickV two 7)) := ⟨_, rfl⟩
  obtain ⟨c2, hc2⟩ : ∃ c, c = !(sendsB (pickV one 7) && takesB (pickV two 7)) := ⟨_, rfl⟩
  replace hc1 := show Hid _ from hc1
  replace hc2 := show Hid _ from hc2
  go_enter Tryz.func8, Tryz.ntmps8
  go_upto_region 2 with (first | (go_at_call 9; with_reducible refine (examples_c T).mono ?_; rintro e u0 ⟨rfl, g⟩; replace B := B.trans (g.mono B.size); clear g; dsimp only))
  have G := Below.refl u0.heap.size u0
  go_upto_region 3 with (first | (go_at_call 24; with_reducible refine (wE_c 0 0 8 1 1 _).mono ?_; rintro e u1 ⟨rfl, g⟩; replace G := G.trans (g.mono G.size); clear g; dsimp only) | (go_at_call 25; with_reducible refine (rE_c 0 9 16 0 0 _).mono ?_; rintro e u2 ⟨rfl, g⟩; replace G := G.trans (g.mono G.size); clear g; dsimp only) | (go_at_call 23; refine Calls.mono (btw_wr h1 0 0 8 1 1 0 9 16 0 0 (World.alloc_heap_new u2 _)) ?_; rintro e u3 ⟨va, la, rfl, La, hla, hda, g⟩; dsimp only))
  have gG := G.trans (((below_alloc u2 _).trans g).mono G.size)
  have ha : u0.heap.size ≤ u2.heap.size := G.size
  have hva : ∀ b, va.ownBlock = some b → b < u3.heap.size := fun b hb => (La.row.lt b hb).2
  have hma : u2.heap.size ≤ u3.heap.size := Nat.le_trans (by simp) g.size
  have hwa : w.heap.size ≤ u2.heap.size := Nat.le_trans B.size ha
  have hda2 : ∀ t ∈ la, ∀ b, (t.s0.ownBlock = some b ∨ t.s1.ownBlock = some b ∨ t.s2.ownBlock = some b) → u2.heap.size ≤ b ∧ va.ownBlock ≠ some b := fun t ht b hb => ⟨Nat.le_trans (by simp) (hda t ht b hb).1, (hda t ht b hb).2⟩
  replace B := B.trans (gG.mono B.size)
  clear G g hda
  clear gG
  have G := Below.refl u3.heap.size u3
  go_upto_region 4 with (first | (go_at_call 24; with_reducible refine (wE_c 1 0 16 1 2 _).mono ?_; rintro e u4 ⟨rfl, g⟩; replace G := G.trans (g.mono G.size); clear g; dsimp only) | (go_at_call 25; with_reducible refine (rE_c 1 9 8 0 0 _).mono ?_; rintro e u5 ⟨rfl, g⟩; replace G := G.trans (g.mono G.size); clear g; dsimp only) | (go_at_call 23; refine Calls.mono (btw_wr h2 1 0 16 1 2 1 9 8 0 0 (World.alloc_heap_new u5 _)) ?_; rintro e u6 ⟨vb, lb, rfl, Lb, hlb, hdb, g⟩; dsimp only))
  have gG := G.trans (((below_alloc u5 _).trans g).mono G.size)
  have hb : u3.heap.size ≤ u5.heap.size := G.size
  have hvb : ∀ b, vb.ownBlock = some b → b < u6.heap.size := fun b hb => (Lb.row.lt b hb).2
  have hmb : u5.heap.size ≤ u6.heap.size := Nat.le_trans (by simp) g.size
  have hwb : w.heap.size ≤ u5.heap.size := Nat.le_trans B.size hb
  have hdb2 : ∀ t ∈ lb, ∀ b, (t.s0.ownBlock = some b ∨ t.s1.ownBlock = some b ∨ t.s2.ownBlock = some b) → u5.heap.size ≤ b ∧ vb.ownBlock ≠ some b := fun t ht b hb => ⟨Nat.le_trans (by simp) (hdb t ht b hb).1, (hdb t ht b hb).2⟩
  replace B := B.trans (gG.mono B.size)
  replace La := La.grow gG
  clear G g hdb
  clear gG
  have hdd : ∀ t ∈ la ++ lb, ∀ b, (t.s0.ownBlock = some b ∨ t.s1.ownBlock = some b ∨ t.s2.ownBlock = some b) → va.ownBlock ≠ some b := fun t ht b hb => by
    rcases List.mem_append.1 ht with ht | ht
    · exact (hda2 t ht b hb).2
    · intro e
      have e1 := (hdb2 t ht b hb).1
      have e2 := hva b e
      omega
  have hlA := btw_len (hla)
  have hlB := btw_len (hlb)
  have hszA : u2.heap.size ≤ u6.heap.size := Nat.le_trans hma (Nat.le_trans hb hmb)
  go_upto_region 5 with (first | (refine wpList_app2 rfl _ _ rfl rfl rfl La Lb (by omega) (by omega) hszA hdd ?_; intro vv u7 LL g; replace B := B.trans (g.mono hwa); clear g; simp only [Act.put, List.setIfInBounds_toArray, List.set_cons_succ, List.set_cons_zero]) | (go_at_call 12; (have kk : Calls Tryz.prog 12 #[vv] u7 fun r w9 => r = .returned (.tuple #[.agg (verV true c1 true), vI 0]) ∧ Below u7.heap.size u7 w9 := by (rw [hc1.out]; exact chk_pair sb_all hk1 hk2 LL (by rw [List.map_append, hla, hlb]; rfl) (T.grow B))); with_reducible refine kk.mono ?_; clear kk; rintro e u8 ⟨rfl, g⟩; replace B := B.trans (g.mono B.size); clear g; dsimp only) | (with_reducible refine wpList_new27 rfl rfl ?_; intro u9 V1 g z; have q := B.size; replace B := B.trans (g.mono B.size); clear g z; simp only [Act.put, List.setIfInBounds_toArray, List.set_cons_succ, List.set_cons_zero]) | (with_reducible refine wpList_store27 (i' := true) (e' := c1) (t' := true) rfl _ _ rfl rfl V1 rfl ?_; intro u10 V1 g z; replace B := B.trans (g.below B.size (fun k hk => by rw [hk]; exact q)); clear g z; simp only [Act.put, List.setIfInBounds_toArray, List.set_cons_succ, List.set_cons_zero]))
  clear LL q La Lb hdd hlA hlB hszA
  generalize u8.heap.size = q1 at V1 ⊢
  go_upto_region 6 with fail
  cases hS1 : strongB (pickV one 7) with
  | false =>
    rw [hS1] at hs1
    have V1 : VerAt q1 (verV true true true) u10 := by
      have := hc1.out
      rw [hS1] at this
      rw [this] at V1
      exact V1
    have hst : (StC u10 (fun _ => False)) 0 { u10 with drawn := u10.drawn + 1 } := Rel.below_draws (n := 1) (Below.refl _ _)
    refine Chg.wp_region_chainG (StC u10 (fun _ => False)) [] [0, 0, 0, 0, 0, 0, 0, 0, 0, 0, 0, 0, 0, 0, 0, 0, 0, 0, 0, 0, 0] [vI 0, .bool false, .bool false, ptr q1 0, .bool true, .bool false, .bool false, .bool false, ptr q1 1, .bool true, .func (.func 26) #[] #[], vI one, .bool false, .bool false, undef, undef, undef, .bool false, .bool true, .bool false, .bool false] (by kernel_rfl) (by kernel_rfl) (by kernel_rfl) (by kernel_rfl) (by kernel_rfl) hst ?_
    clear hst
    refine ⟨fun j w1 hj hC => Chg.uponW_yes (by rfl) (by exact Chn.upon_pure hC (fun F hF => by (go_simp <;> exact hF))), ?_⟩
    simp only [Act.put, List.setIfInBounds_toArray, List.set_cons_succ, List.set_cons_zero]
    refine ⟨fun j w1 hj hC => Chg.uponW_yes (by rfl) (by exact Chn.upon_pure hC (fun F hF => by (go_simp <;> exact hF))), ?_⟩
    simp only [Act.put, List.setIfInBounds_toArray, List.set_cons_succ, List.set_cons_zero]
    refine ⟨fun j w1 hj hC => Chg.uponW_yes (by rfl) (by exact Chn.upon_pure hC (fun F hF => by (go_simp <;> exact hF))), ?_⟩
    simp only [Act.put, List.setIfInBounds_toArray, List.set_cons_succ, List.set_cons_zero]
    refine ⟨fun j w1 hj hC => Chg.uponW_yes (by rfl) (by exact Chn.upon_pure hC (fun F hF => by (go_simp <;> exact hF))), ?_⟩
    simp only [Act.put, List.setIfInBounds_toArray, List.set_cons_succ, List.set_cons_zero]
    refine ⟨fun j w1 hj hC => Chg.uponW_yes (by rfl) (by
      have z := (show w1.cell? ⟨q1, 0, none⟩ = some (.bool true) from (V1.grow (stC_low hj hC)).cell 0)
      exact Chn.upon_pure hC (fun F hF => by (go_simp <;> exact hF))), ?_⟩
    simp only [Act.put, List.setIfInBounds_toArray, List.set_cons_succ, List.set_cons_zero]
    refine ⟨fun j w1 hj hC => Chg.uponW_yes (by rfl) (by exact Chn.upon_pure hC (fun F hF => by (go_simp <;> exact hF))), ?_⟩
    simp only [Act.put, List.setIfInBounds_toArray, List.set_cons_succ, List.set_cons_zero]
    refine ⟨fun j w1 hj hC => Chg.uponW_yes (by rfl) (by exact Chn.upon_pure hC (fun F hF => by (go_simp <;> exact hF))), ?_⟩
    simp only [Act.put, List.setIfInBounds_toArray, List.set_cons_succ, List.set_cons_zero]
    refine ⟨fun j w1 hj hC => Chg.uponW_yes (by rfl) (by exact Chn.upon_pure hC (fun F hF => by (go_simp <;> exact hF))), ?_⟩
    simp only [Act.put, List.setIfInBounds_toArray, List.set_cons_succ, List.set_cons_zero]
    refine ⟨fun j w1 hj hC => Chg.uponW_yes (by rfl) (by exact Chn.upon_pure hC (fun F hF => by (go_simp <;> exact hF))), ?_⟩
    simp only [Act.put, List.setIfInBounds_toArray, List.set_cons_succ, List.set_cons_zero]
    refine ⟨fun j w1 hj hC => Chg.uponW_yes (by rfl) (by
      have z := (show w1.cell? ⟨q1, 1, none⟩ = some (.bool true) from (V1.grow (stC_low hj hC)).cell 1)
      exact Chn.upon_pure hC (fun F hF => by (go_simp <;> exact hF))), ?_⟩
    simp only [Act.put, List.setIfInBounds_toArray, List.set_cons_succ, List.set_cons_zero]
    refine ⟨fun j w1 hj hC => Chg.uponW_yes (by rfl) (by exact Chn.upon_pure hC (fun F hF => by (go_simp <;> exact hF))), ?_⟩
    simp only [Act.put, List.setIfInBounds_toArray, List.set_cons_succ, List.set_cons_zero]
    refine ⟨fun j w1 hj hC => Chg.uponW_yes (by rfl) (by exact Chn.upon_pure hC (fun F hF => by (go_simp <;> exact hF))), ?_⟩
    simp only [Act.put, List.setIfInBounds_toArray, List.set_cons_succ, List.set_cons_zero]
    refine ⟨fun j w1 hj hC => Chg.uponW_yes (by rfl) (by
      exact Chn.upon_call (C := (StC u10 (fun _ => False)) j) (hs1 w1) (fun e2 w2 hh => ⟨hh.1, by rw [hh.2]; exact hC⟩) (fun F hF => by (go_simp <;> exact hF))), ?_⟩
    simp only [Act.put, List.setIfInBounds_toArray, List.set_cons_succ, List.set_cons_zero]
    refine ⟨fun j w1 hj hC => Chg.uponW_yes (by rfl) (by exact Chn.upon_pure hC (fun F hF => by (go_simp <;> exact hF))), ?_⟩
    simp only [Act.put, List.setIfInBounds_toArray, List.set_cons_succ, List.set_cons_zero]
    refine ⟨fun j w1 hj hC => Chg.uponW_no (by rfl) ⟨rfl, hC⟩, ?_⟩
    simp only [Act.put, List.setIfInBounds_toArray, List.set_cons_succ, List.set_cons_zero]
    refine ⟨fun j w1 hj hC => Chg.uponW_no (by rfl) ⟨rfl, hC⟩, ?_⟩
    simp only [Act.put, List.setIfInBounds_toArray, List.set_cons_succ, List.set_cons_zero]
    refine ⟨fun j w1 hj hC => Chg.uponW_no (by rfl) ⟨rfl, hC⟩, ?_⟩
    simp only [Act.put, List.setIfInBounds_toArray, List.set_cons_succ, List.set_cons_zero]
    refine ⟨fun j w1 hj hC => Chg.uponW_yes (by rfl) (by exact Chn.upon_pure hC (fun F hF => by (go_simp <;> exact hF))), ?_⟩
    simp only [Act.put, List.setIfInBounds_toArray, List.set_cons_succ, List.set_cons_zero]
    refine ⟨fun j w1 hj hC => Chg.uponW_yes (by rfl) (by exact Chn.upon_pure hC (fun F hF => by (go_simp <;> exact hF))), ?_⟩
    simp only [Act.put, List.setIfInBounds_toArray, List.set_cons_succ, List.set_cons_zero]
    refine ⟨fun j w1 hj hC => Chg.uponW_yes (by rfl) (by exact Chn.upon_pure hC (fun F hF => by (go_simp <;> exact hF))), ?_⟩
    simp only [Act.put, List.setIfInBounds_toArray, List.set_cons_succ, List.set_cons_zero]
    refine ⟨fun j w1 hj hC => Chg.uponW_yes (by rfl) (by exact Chn.upon_pure hC (fun F hF => by (go_simp <;> exact hF))), ?_⟩
    simp only [Act.put, List.setIfInBounds_toArray, List.set_cons_succ, List.set_cons_zero]
    intro w5 hC
    replace B := B.trans (Below.mono (show Below u10.heap.size u10 w5 from hC) B.size)
    clear hC V1
    go_upto_region 8 with fail
    have G := Below.refl w5.heap.size w5
    go_upto_region 9 with (first | (go_at_call 24; with_reducible refine (wE_c 0 0 8 1 1 _).mono ?_; rintro e u11 ⟨rfl, g⟩; replace G := G.trans (g.mono G.size); clear g; dsimp only) | (go_at_call 24; with_reducible refine (wE_c 0 9 16 1 2 _).mono ?_; rintro e u12 ⟨rfl, g⟩; replace G := G.trans (g.mono G.size); clear g; dsimp only) | (go_at_call 23; refine Calls.mono (btw_ww h1 0 0 8 1 1 0 9 16 1 2 (World.alloc_heap_new u12 _)) ?_; rintro e u13 ⟨vc, lc, rfl, Lc, hlc, hdc, g⟩; dsimp only))
    have gG := G.trans (((below_alloc u12 _).trans g).mono G.size)
    have hc : w5.heap.size ≤ u12.heap.size := G.size
    have hvc : ∀ b, vc.ownBlock = some b → b < u13.heap.size := fun b hb => (Lc.row.lt b hb).2
    have hmc : u12.heap.size ≤ u13.heap.size := Nat.le_trans (by simp) g.size
    have hwc : w.heap.size ≤ u12.heap.size := Nat.le_trans B.size hc
    have hdc2 : ∀ t ∈ lc, ∀ b, (t.s0.ownBlock = some b ∨ t.s1.ownBlock = some b ∨ t.s2.ownBlock = some b) → u12.heap.size ≤ b ∧ vc.ownBlock ≠ some b := fun t ht b hb => ⟨Nat.le_trans (by simp) (hdc t ht b hb).1, (hdc t ht b hb).2⟩
    replace B := B.trans (gG.mono B.size)
    clear G g hdc
    clear gG
    have G := Below.refl u13.heap.size u13
    go_upto_region 10 with (first | (go_at_call 25; with_reducible refine (rE_c 1 0 16 1 2 _).mono ?_; rintro e u14 ⟨rfl, g⟩; replace G := G.trans (g.mono G.size); clear g; dsimp only) | (go_at_call 25; with_reducible refine (rE_c 1 9 8 0 0 _).mono ?_; rintro e u15 ⟨rfl, g⟩; replace G := G.trans (g.mono G.size); clear g; dsimp only) | (go_at_call 23; refine Calls.mono (btw_rr h2 1 0 16 1 2 1 9 8 0 0 (World.alloc_heap_new u15 _)) ?_; rintro e u16 ⟨vd, ld, rfl, Ld, hld, hdd, g⟩; dsimp only))
    have gG := G.trans (((below_alloc u15 _).trans g).mono G.size)
    have hd : u13.heap.size ≤ u15.heap.size := G.size
    have hvd : ∀ b, vd.ownBlock = some b → b < u16.heap.size := fun b hb => (Ld.row.lt b hb).2
    have hmd : u15.heap.size ≤ u16.heap.size := Nat.le_trans (by simp) g.size
    have hwd : w.heap.size ≤ u15.heap.size := Nat.le_trans B.size hd
    have hdd2 : ∀ t ∈ ld, ∀ b, (t.s0.ownBlock = some b ∨ t.s1.ownBlock = some b ∨ t.s2.ownBlock = some b) → u15.heap.size ≤ b ∧ vd.ownBlock ≠ some b := fun t ht b hb => ⟨Nat.le_trans (by simp) (hdd t ht b hb).1, (hdd t ht b hb).2⟩
    replace B := B.trans (gG.mono B.size)
    replace Lc := Lc.grow gG
    clear G g hdd
    clear gG
    have hdd : ∀ t ∈ lc ++ ld, ∀ b, (t.s0.ownBlock = some b ∨ t.s1.ownBlock = some b ∨ t.s2.ownBlock = some b) → vc.ownBlock ≠ some b := fun t ht b hb => by
      rcases List.mem_append.1 ht with ht | ht
      · exact (hdc2 t ht b hb).2
      · intro e
        have e1 := (hdd2 t ht b hb).1
        have e2 := hvc b e
        omega
    have hlA := btw_len (hlc)
    have hlB := btw_len (hld)
    have hszA : u12.heap.size ≤ u16.heap.size := Nat.le_trans hmc (Nat.le_trans hd hmd)
    go_upto_region 11 with (first | (refine wpList_app2 rfl _ _ rfl rfl rfl Lc Ld (by omega) (by omega) hszA hdd ?_; intro vv u17 LL g; replace B := B.trans (g.mono hwc); clear g; simp only [Act.put, List.setIfInBounds_toArray, List.set_cons_succ, List.set_cons_zero]) | (go_at_call 12; (have kk : Calls Tryz.prog 12 #[vv] u17 fun r w9 => r = .returned (.tuple #[.agg (verV true c2 true), vI 0]) ∧ Below u17.heap.size u17 w9 := by (rw [hc2.out]; exact chk_pair mp_all hk1 hk2 LL (by rw [List.map_append, hlc, hld]; rfl) (T.grow B))); with_reducible refine kk.mono ?_; clear kk; rintro e u18 ⟨rfl, g⟩; replace B := B.trans (g.mono B.size); clear g; dsimp only) | (with_reducible refine wpList_new27 rfl rfl ?_; intro u19 V2 g z; have q := B.size; replace B := B.trans (g.mono B.size); clear g z; simp only [Act.put, List.setIfInBounds_toArray, List.set_cons_succ, List.set_cons_zero]) | (with_reducible refine wpList_store27 (i' := true) (e' := c2) (t' := true) rfl _ _ rfl rfl V2 rfl ?_; intro u20 V2 g z; replace B := B.trans (g.below B.size (fun k hk => by rw [hk]; exact q)); clear g z; simp only [Act.put, List.setIfInBounds_toArray, List.set_cons_succ, List.set_cons_zero]))
    clear LL q Lc Ld hdd hlA hlB hszA
    generalize u18.heap.size = q2 at V2 ⊢
    replace hc2 := hc2.out
    clear hs1 hs2 T
    generalize pickV one 7 = p1 at *
    generalize pickV two 7 = p2 at *
    by_cases s1 : (p1 : Int) = 2
    · by_cases t1 : (p2 : Int) = 1
      · have hS : sendsB p1 = true := by simp [sendsB]; omega
        have hT : takesB p2 = true := by simp [takesB]; omega
        rw [hS, hT] at hc2
        have d0 : u20.cell? ⟨q2, 0, none⟩ = some (.bool true) := V2.cell 0
        have d1 : u20.cell? ⟨q2, 1, none⟩ = some (.bool false) := by rw [hc2] at V2; exact V2.cell 1
        clear hS hT hc2 V2
        go_wp2_with (first | (go_at_call 22; with_reducible refine (hp1 _).mono ?_; rintro e u21 ⟨rfl, rfl⟩; dsimp only) | (go_at_call 22; with_reducible refine (hp2 _).mono ?_; rintro e u21 ⟨rfl, rfl⟩; dsimp only))
        go_ret
        exact ⟨by first | rfl | (show Ending.returned (.bool (!((p2 : Int) == 1))) = _; rw [(by simpa using t1 : ((p2 : Int) == 1) = false)]; rfl), B⟩
      · by_cases t2 : (p2 : Int) ≥ 3
        · have hS : sendsB p1 = true := by simp [sendsB]; omega
          have hT : takesB p2 = true := by simp [takesB]; omega
          rw [hS, hT] at hc2
          have d0 : u20.cell? ⟨q2, 0, none⟩ = some (.bool true) := V2.cell 0
          have d1 : u20.cell? ⟨q2, 1, none⟩ = some (.bool false) := by rw [hc2] at V2; exact V2.cell 1
          clear hS hT hc2 V2
          go_wp2_with (first | (go_at_call 22; with_reducible refine (hp1 _).mono ?_; rintro e u21 ⟨rfl, rfl⟩; dsimp only) | (go_at_call 22; with_reducible refine (hp2 _).mono ?_; rintro e u21 ⟨rfl, rfl⟩; dsimp only))
          go_ret
          exact ⟨by first | rfl | (show Ending.returned (.bool (!((p2 : Int) == 1))) = _; rw [(by simpa using t1 : ((p2 : Int) == 1) = false)]; rfl), B⟩
        · have hS : sendsB p1 = true := by simp [sendsB]; omega
          have hT : takesB p2 = false := by simp [takesB]; omega
          rw [hS, hT] at hc2
          have d0 : u20.cell? ⟨q2, 0, none⟩ = some (.bool true) := V2.cell 0
          have d1 : u20.cell? ⟨q2, 1, none⟩ = some (.bool true) := by rw [hc2] at V2; exact V2.cell 1
          clear hS hT hc2 V2
          go_wp2_with (first | (go_at_call 22; with_reducible refine (hp1 _).mono ?_; rintro e u21 ⟨rfl, rfl⟩; dsimp only) | (go_at_call 22; with_reducible refine (hp2 _).mono ?_; rintro e u21 ⟨rfl, rfl⟩; dsimp only))
          go_ret
          exact ⟨by first | rfl | (show Ending.returned (.bool (!((p2 : Int) == 1))) = _; rw [(by simpa using t1 : ((p2 : Int) == 1) = false)]; rfl), B⟩
    · by_cases s2 : (p1 : Int) = 3
      · by_cases t1 : (p2 : Int) = 1
        · have hS : sendsB p1 = true := by simp [sendsB]; omega
          have hT : takesB p2 = true := by simp [takesB]; omega
          rw [hS, hT] at hc2
          have d0 : u20.cell? ⟨q2, 0, none⟩ = some (.bool true) := V2.cell 0
          have d1 : u20.cell? ⟨q2, 1, none⟩ = some (.bool false) := by rw [hc2] at V2; exact V2.cell 1
          clear hS hT hc2 V2
          go_wp2_with (first | (go_at_call 22; with_reducible refine (hp1 _).mono ?_; rintro e u21 ⟨rfl, rfl⟩; dsimp only) | (go_at_call 22; with_reducible refine (hp2 _).mono ?_; rintro e u21 ⟨rfl, rfl⟩; dsimp only))
          go_ret
          exact ⟨by first | rfl | (show Ending.returned (.bool (!((p2 : Int) == 1))) = _; rw [(by simpa using t1 : ((p2 : Int) == 1) = false)]; rfl), B⟩
        · by_cases t2 : (p2 : Int) ≥ 3
          · have hS : sendsB p1 = true := by simp [sendsB]; omega
            have hT : takesB p2 = true := by simp [takesB]; omega
            rw [hS, hT] at hc2
            have d0 : u20.cell? ⟨q2, 0, none⟩ = some (.bool true) := V2.cell 0
            have d1 : u20.cell? ⟨q2, 1, none⟩ = some (.bool false) := by rw [hc2] at V2; exact V2.cell 1
            clear hS hT hc2 V2
            go_wp2_with (first | (go_at_call 22; with_reducible refine (hp1 _).mono ?_; rintro e u21 ⟨rfl, rfl⟩; dsimp only) | (go_at_call 22; with_reducible refine (hp2 _).mono ?_; rintro e u21 ⟨rfl, rfl⟩; dsimp only))
            go_ret
            exact ⟨by first | rfl | (show Ending.returned (.bool (!((p2 : Int) == 1))) = _; rw [(by simpa using t1 : ((p2 : Int) == 1) = false)]; rfl), B⟩
          · have hS : sendsB p1 = true := by simp [sendsB]; omega
            have hT : takesB p2 = false := by simp [takesB]; omega
            rw [hS, hT] at hc2
            have d0 : u20.cell? ⟨q2, 0, none⟩ = some (.bool true) := V2.cell 0
            have d1 : u20.cell? ⟨q2, 1, none⟩ = some (.bool true) := by rw [hc2] at V2; exact V2.cell 1
            clear hS hT hc2 V2
            go_wp2_with (first | (go_at_call 22; with_reducible refine (hp1 _).mono ?_; rintro e u21 ⟨rfl, rfl⟩; dsimp only) | (go_at_call 22; with_reducible refine (hp2 _).mono ?_; rintro e u21 ⟨rfl, rfl⟩; dsimp only))
            go_ret
            exact ⟨by first | rfl | (show Ending.returned (.bool (!((p2 : Int) == 1))) = _; rw [(by simpa using t1 : ((p2 : Int) == 1) = false)]; rfl), B⟩
      · by_cases s3 : (p1 : Int) ≥ 5
        · by_cases t1 : (p2 : Int) = 1
          · have hS : sendsB p1 = true := by simp [sendsB]; omega
            have hT : takesB p2 = true := by simp [takesB]; omega
            rw [hS, hT] at hc2
            have d0 : u20.cell? ⟨q2, 0, none⟩ = some (.bool true) := V2.cell 0
            have d1 : u20.cell? ⟨q2, 1, none⟩ = some (.bool false) := by rw [hc2] at V2; exact V2.cell 1
            clear hS hT hc2 V2
            go_wp2_with (first | (go_at_call 22; with_reducible refine (hp1 _).mono ?_; rintro e u21 ⟨rfl, rfl⟩; dsimp only) | (go_at_call 22; with_reducible refine (hp2 _).mono ?_; rintro e u21 ⟨rfl, rfl⟩; dsimp only))
            go_ret
            exact ⟨by first | rfl | (show Ending.returned (.bool (!((p2 : Int) == 1))) = _; rw [(by simpa using t1 : ((p2 : Int) == 1) = false)]; rfl), B⟩
          · by_cases t2 : (p2 : Int) ≥ 3
            · have hS : sendsB p1 = true := by simp [sendsB]; omega
              have hT : takesB p2 = true := by simp [takesB]; omega
              rw [hS, hT] at hc2
              have d0 : u20.cell? ⟨q2, 0, none⟩ = some (.bool true) := V2.cell 0
              have d1 : u20.cell? ⟨q2, 1, none⟩ = some (.bool false) := by rw [hc2] at V2; exact V2.cell 1
              clear hS hT hc2 V2
              go_wp2_with (first | (go_at_call 22; with_reducible refine (hp1 _).mono ?_; rintro e u21 ⟨rfl, rfl⟩; dsimp only) | (go_at_call 22; with_reducible refine (hp2 _).mono ?_; rintro e u21 ⟨rfl, rfl⟩; dsimp only))
              go_ret
              exact ⟨by first | rfl | (show Ending.returned (.bool (!((p2 : Int) == 1))) = _; rw [(by simpa using t1 : ((p2 : Int) == 1) = false)]; rfl), B⟩
            · have hS : sendsB p1 = true := by simp [sendsB]; omega
              have hT : takesB p2 = false := by simp [takesB]; omega
              rw [hS, hT] at hc2
              have d0 : u20.cell? ⟨q2, 0, none⟩ = some (.bool true) := V2.cell 0
              have d1 : u20.cell? ⟨q2, 1, none⟩ = some (.bool true) := by rw [hc2] at V2; exact V2.cell 1
              clear hS hT hc2 V2
              go_wp2_with (first | (go_at_call 22; with_reducible refine (hp1 _).mono ?_; rintro e u21 ⟨rfl, rfl⟩; dsimp only) | (go_at_call 22; with_reducible refine (hp2 _).mono ?_; rintro e u21 ⟨rfl, rfl⟩; dsimp only))
              go_ret
              exact ⟨by first | rfl | (show Ending.returned (.bool (!((p2 : Int) == 1))) = _; rw [(by simpa using t1 : ((p2 : Int) == 1) = false)]; rfl), B⟩
        · by_cases t1 : (p2 : Int) = 1
          · have hS : sendsB p1 = false := by simp [sendsB]; omega
            have hT : takesB p2 = true := by simp [takesB]; omega
            rw [hS, hT] at hc2
            have d0 : u20.cell? ⟨q2, 0, none⟩ = some (.bool true) := V2.cell 0
            have d1 : u20.cell? ⟨q2, 1, none⟩ = some (.bool true) := by rw [hc2] at V2; exact V2.cell 1
            clear hS hT hc2 V2
            go_wp2_with (first | (go_at_call 22; with_reducible refine (hp1 _).mono ?_; rintro e u21 ⟨rfl, rfl⟩; dsimp only) | (go_at_call 22; with_reducible refine (hp2 _).mono ?_; rintro e u21 ⟨rfl, rfl⟩; dsimp only))
            go_ret
            exact ⟨by first | rfl | (show Ending.returned (.bool (!((p2 : Int) == 1))) = _; rw [(by simpa using t1 : ((p2 : Int) == 1) = false)]; rfl), B⟩
          · by_cases t2 : (p2 : Int) ≥ 3
            · have hS : sendsB p1 = false := by simp [sendsB]; omega
              have hT : takesB p2 = true := by simp [takesB]; omega
              rw [hS, hT] at hc2
              have d0 : u20.cell? ⟨q2, 0, none⟩ = some (.bool true) := V2.cell 0
              have d1 : u20.cell? ⟨q2, 1, none⟩ = some (.bool true) := by rw [hc2] at V2; exact V2.cell 1
              clear hS hT hc2 V2
              go_wp2_with (first | (go_at_call 22; with_reducible refine (hp1 _).mono ?_; rintro e u21 ⟨rfl, rfl⟩; dsimp only) | (go_at_call 22; with_reducible refine (hp2 _).mono ?_; rintro e u21 ⟨rfl, rfl⟩; dsimp only))
              go_ret
              exact ⟨by first | rfl | (show Ending.returned (.bool (!((p2 : Int) == 1))) = _; rw [(by simpa using t1 : ((p2 : Int) == 1) = false)]; rfl), B⟩
            · have hS : sendsB p1 = false := by simp [sendsB]; omega
              have hT : takesB p2 = false := by simp [takesB]; omega
              rw [hS, hT] at hc2
              have d0 : u20.cell? ⟨q2, 0, none⟩ = some (.bool true) := V2.cell 0
              have d1 : u20.cell? ⟨q2, 1, none⟩ = some (.bool true) := by rw [hc2] at V2; exact V2.cell 1
              clear hS hT hc2 V2
              go_wp2_with (first | (go_at_call 22; with_reducible refine (hp1 _).mono ?_; rintro e u21 ⟨rfl, rfl⟩; dsimp only) | (go_at_call 22; with_reducible refine (hp2 _).mono ?_; rintro e u21 ⟨rfl, rfl⟩; dsimp only))
              go_ret
              exact ⟨by first | rfl | (show Ending.returned (.bool (!((p2 : Int) == 1))) = _; rw [(by simpa using t1 : ((p2 : Int) == 1) = false)]; rfl), B⟩
  | true =>
    rw [hS1] at hs1
    cases hS2 : strongB (pickV two 7) with
    | false =>
      rw [hS2] at hs2
      have V1 : VerAt q1 (verV true true true) u10 := by
        have := hc1.out
        rw [hS1, hS2] at this
        rw [this] at V1
        exact V1
      have hst : (StC u10 (fun _ => False)) 0 { u10 with drawn := u10.drawn + 1 } := Rel.below_draws (n := 1) (Below.refl _ _)
      refine Chg.wp_region_chainG (StC u10 (fun _ => False)) [] [0, 0, 0, 0, 0, 0, 0, 0, 0, 0, 0, 0, 0, 0, 0, 0, 0, 0, 0, 0, 0] [vI 0, .bool false, .bool false, ptr q1 0, .bool true, .bool false, .bool false, .bool false, ptr q1 1, .bool true, .func (.func 26) #[] #[], vI one, .bool true, .bool true, .func (.func 26) #[] #[], vI two, .bool false, .bool false, .bool true, .bool false, .bool false] (by kernel_rfl) (by kernel_rfl) (by kernel_rfl) (by kernel_rfl) (by kernel_rfl) hst ?_
      clear hst
      refine ⟨fun j w1 hj hC => Chg.uponW_yes (by rfl) (by exact Chn.upon_pure hC (fun F hF => by (go_simp <;> exact hF))), ?_⟩
      simp only [Act.put, List.setIfInBounds_toArray, List.set_cons_succ, List.set_cons_zero]
      refine ⟨fun j w1 hj hC => Chg.uponW_yes (by rfl) (by exact Chn.upon_pure hC (fun F hF => by (go_simp <;> exact hF))), ?_⟩
      simp only [Act.put, List.setIfInBounds_toArray, List.set_cons_succ, List.set_cons_zero]
      refine ⟨fun j w1 hj hC => Chg.uponW_yes (by rfl) (by exact Chn.upon_pure hC (fun F hF => by (go_simp <;> exact hF))), ?_⟩
      simp only [Act.put, List.setIfInBounds_toArray, List.set_cons_succ, List.set_cons_zero]
      refine ⟨fun j w1 hj hC => Chg.uponW_yes (by rfl) (by exact Chn.upon_pure hC (fun F hF => by (go_simp <;> exact hF))), ?_⟩
      simp only [Act.put, List.setIfInBounds_toArray, List.set_cons_succ, List.set_cons_zero]
      refine ⟨fun j w1 hj hC => Chg.uponW_yes (by rfl) (by
        have z := (show w1.cell? ⟨q1, 0, none⟩ = some (.bool true) from (V1.grow (stC_low hj hC)).cell 0)
        exact Chn.upon_pure hC (fun F hF => by (go_simp <;> exact hF))), ?_⟩
      simp only [Act.put, List.setIfInBounds_toArray, List.set_cons_succ, List.set_cons_zero]
      refine ⟨fun j w1 hj hC => Chg.uponW_yes (by rfl) (by exact Chn.upon_pure hC (fun F hF => by (go_simp <;> exact hF))), ?_⟩
      simp only [Act.put, List.setIfInBounds_toArray, List.set_cons_succ, List.set_cons_zero]
      refine ⟨fun j w1 hj hC => Chg.uponW_yes (by rfl) (by exact Chn.upon_pure hC (fun F hF => by (go_simp <;> exact hF))), ?_⟩
      simp only [Act.put, List.setIfInBounds_toArray, List.set_cons_succ, List.set_cons_zero]
      refine ⟨fun j w1 hj hC => Chg.uponW_yes (by rfl) (by exact Chn.upon_pure hC (fun F hF => by (go_simp <;> exact hF))), ?_⟩
      simp only [Act.put, List.setIfInBounds_toArray, List.set_cons_succ, List.set_cons_zero]
      refine ⟨fun j w1 hj hC => Chg.uponW_yes (by rfl) (by exact Chn.upon_pure hC (fun F hF => by (go_simp <;> exact hF))), ?_⟩
      simp only [Act.put, List.setIfInBounds_toArray, List.set_cons_succ, List.set_cons_zero]
      refine ⟨fun j w1 hj hC => Chg.uponW_yes (by rfl) (by
        have z := (show w1.cell? ⟨q1, 1, none⟩ = some (.bool true) from (V1.grow (stC_low hj hC)).cell 1)
        exact Chn.upon_pure hC (fun F hF => by (go_simp <;> exact hF))), ?_⟩
      simp only [Act.put, List.setIfInBounds_toArray, List.set_cons_succ, List.set_cons_zero]
      refine ⟨fun j w1 hj hC => Chg.uponW_yes (by rfl) (by exact Chn.upon_pure hC (fun F hF => by (go_simp <;> exact hF))), ?_⟩
      simp only [Act.put, List.setIfInBounds_toArray, List.set_cons_succ, List.set_cons_zero]
      refine ⟨fun j w1 hj hC => Chg.uponW_yes (by rfl) (by exact Chn.upon_pure hC (fun F hF => by (go_simp <;> exact hF))), ?_⟩
      simp only [Act.put, List.setIfInBounds_toArray, List.set_cons_succ, List.set_cons_zero]
      refine ⟨fun j w1 hj hC => Chg.uponW_yes (by rfl) (by
        exact Chn.upon_call (C := (StC u10 (fun _ => False)) j) (hs1 w1) (fun e2 w2 hh => ⟨hh.1, by rw [hh.2]; exact hC⟩) (fun F hF => by (go_simp <;> exact hF))), ?_⟩
      simp only [Act.put, List.setIfInBounds_toArray, List.set_cons_succ, List.set_cons_zero]
      refine ⟨fun j w1 hj hC => Chg.uponW_yes (by rfl) (by exact Chn.upon_pure hC (fun F hF => by (go_simp <;> exact hF))), ?_⟩
      simp only [Act.put, List.setIfInBounds_toArray, List.set_cons_succ, List.set_cons_zero]
      refine ⟨fun j w1 hj hC => Chg.uponW_yes (by rfl) (by exact Chn.upon_pure hC (fun F hF => by (go_simp <;> exact hF))), ?_⟩
      simp only [Act.put, List.setIfInBounds_toArray, List.set_cons_succ, List.set_cons_zero]
      refine ⟨fun j w1 hj hC => Chg.uponW_yes (by rfl) (by exact Chn.upon_pure hC (fun F hF => by (go_simp <;> exact hF))), ?_⟩
      simp only [Act.put, List.setIfInBounds_toArray, List.set_cons_succ, List.set_cons_zero]
      refine ⟨fun j w1 hj hC => Chg.uponW_yes (by rfl) (by
        exact Chn.upon_call (C := (StC u10 (fun _ => False)) j) (hs2 w1) (fun e2 w2 hh => ⟨hh.1, by rw [hh.2]; exact hC⟩) (fun F hF => by (go_simp <;> exact hF))), ?_⟩
      simp only [Act.put, List.setIfInBounds_toArray, List.set_cons_succ, List.set_cons_zero]
      refine ⟨fun j w1 hj hC => Chg.uponW_yes (by rfl) (by exact Chn.upon_pure hC (fun F hF => by (go_simp <;> exact hF))), ?_⟩
      simp only [Act.put, List.setIfInBounds_toArray, List.set_cons_succ, List.set_cons_zero]
      refine ⟨fun j w1 hj hC => Chg.uponW_yes (by rfl) (by exact Chn.upon_pure hC (fun F hF => by (go_simp <;> exact hF))), ?_⟩
      simp only [Act.put, List.setIfInBounds_toArray, List.set_cons_succ, List.set_cons_zero]
      refine ⟨fun j w1 hj hC => Chg.uponW_yes (by rfl) (by exact Chn.upon_pure hC (fun F hF => by (go_simp <;> exact hF))), ?_⟩
      simp only [Act.put, List.setIfInBounds_toArray, List.set_cons_succ, List.set_cons_zero]
      refine ⟨fun j w1 hj hC => Chg.uponW_yes (by rfl) (by exact Chn.upon_pure hC (fun F hF => by (go_simp <;> exact hF))), ?_⟩
      simp only [Act.put, List.setIfInBounds_toArray, List.set_cons_succ, List.set_cons_zero]
      intro w5 hC
      replace B := B.trans (Below.mono (show Below u10.heap.size u10 w5 from hC) B.size)
      clear hC V1
      go_upto_region 8 with fail
      have G := Below.refl w5.heap.size w5
      go_upto_region 9 with (first | (go_at_call 24; with_reducible refine (wE_c 0 0 8 1 1 _).mono ?_; rintro e u11 ⟨rfl, g⟩; replace G := G.trans (g.mono G.size); clear g; dsimp only) | (go_at_call 24; with_reducible refine (wE_c 0 9 16 1 2 _).mono ?_; rintro e u12 ⟨rfl, g⟩; replace G := G.trans (g.mono G.size); clear g; dsimp only) | (go_at_call 23; refine Calls.mono (btw_ww h1 0 0 8 1 1 0 9 16 1 2 (World.alloc_heap_new u12 _)) ?_; rintro e u13 ⟨vc, lc, rfl, Lc, hlc, hdc, g⟩; dsimp only))
      have gG := G.trans (((below_alloc u12 _).trans g).mono G.size)
      have hc : w5.heap.size ≤ u12.heap.size := G.size
      have hvc : ∀ b, vc.ownBlock = some b → b < u13.heap.size := fun b hb => (Lc.row.lt b hb).2
      have hmc : u12.heap.size ≤ u13.heap.size := Nat.le_trans (by simp) g.size
      have hwc : w.heap.size ≤ u12.heap.size := Nat.le_trans B.size hc
      have hdc2 : ∀ t ∈ lc, ∀ b, (t.s0.ownBlock = some b ∨ t.s1.ownBlock = some b ∨ t.s2.ownBlock = some b) → u12.heap.size ≤ b ∧ vc.ownBlock ≠ some b := fun t ht b hb => ⟨Nat.le_trans (by simp) (hdc t ht b hb).1, (hdc t ht b hb).2⟩
      replace B := B.trans (gG.mono B.size)
      clear G g hdc
      clear gG
      have G := Below.refl u13.heap.size u13
      go_upto_region 10 with (first | (go_at_call 25; with_reducible refine (rE_c 1 0 16 1 2 _).mono ?_; rintro e u14 ⟨rfl, g⟩; replace G := G.trans (g.mono G.size); clear g; dsimp only) | (go_at_call 25; with_reducible refine (rE_c 1 9 8 0 0 _).mono ?_; rintro e u15 ⟨rfl, g⟩; replace G := G.trans (g.mono G.size); clear g; dsimp only) | (go_at_call 23; refine Calls.mono (btw_rr h2 1 0 16 1 2 1 9 8 0 0 (World.alloc_heap_new u15 _)) ?_; rintro e u16 ⟨vd, ld, rfl, Ld, hld, hdd, g⟩; dsimp only))
      have gG := G.trans (((below_alloc u15 _).trans g).mono G.size)
      have hd : u13.heap.size ≤ u15.heap.size := G.size
      have hvd : ∀ b, vd.ownBlock = some b → b < u16.heap.size := fun b hb => (Ld.row.lt b hb).2
      have hmd : u15.heap.size ≤ u16.heap.size := Nat.le_trans (by simp) g.size
      have hwd : w.heap.size ≤ u15.heap.size := Nat.le_trans B.size hd
      have hdd2 : ∀ t ∈ ld, ∀ b, (t.s0.ownBlock = some b ∨ t.s1.ownBlock = some b ∨ t.s2.ownBlock = some b) → u15.heap.size ≤ b ∧ vd.ownBlock ≠ some b := fun t ht b hb => ⟨Nat.le_trans (by simp) (hdd t ht b hb).1, (hdd t ht b hb).2⟩
      replace B := B.trans (gG.mono B.size)
      replace Lc := Lc.grow gG
      clear G g hdd
      clear gG
      have hdd : ∀ t ∈ lc ++ ld, ∀ b, (t.s0.ownBlock = some b ∨ t.s1.ownBlock = some b ∨ t.s2.ownBlock = some b) → vc.ownBlock ≠ some b := fun t ht b hb => by
        rcases List.mem_append.1 ht with ht | ht
        · exact (hdc2 t ht b hb).2
        · intro e
          have e1 := (hdd2 t ht b hb).1
          have e2 := hvc b e
          omega
      have hlA := btw_len (hlc)
      have hlB := btw_len (hld)
      have hszA : u12.heap.size ≤ u16.heap.size := Nat.le_trans hmc (Nat.le_trans hd hmd)
      go_upto_region 11 with (first | (refine wpList_app2 rfl _ _ rfl rfl rfl Lc Ld (by omega) (by omega) hszA hdd ?_; intro vv u17 LL g; replace B := B.trans (g.mono hwc); clear g; simp only [Act.put, List.setIfInBounds_toArray, List.set_cons_succ, List.set_cons_zero]) | (go_at_call 12; (have kk : Calls Tryz.prog 12 #[vv] u17 fun r w9 => r = .returned (.tuple #[.agg (verV true c2 true), vI 0]) ∧ Below u17.heap.size u17 w9 := by (rw [hc2.out]; exact chk_pair mp_all hk1 hk2 LL (by rw [List.map_append, hlc, hld]; rfl) (T.grow B))); with_reducible refine kk.mono ?_; clear kk; rintro e u18 ⟨rfl, g⟩; replace B := B.trans (g.mono B.size); clear g; dsimp only) | (with_reducible refine wpList_new27 rfl rfl ?_; intro u19 V2 g z; have q := B.size; replace B := B.trans (g.mono B.size); clear g z; simp only [Act.put, List.setIfInBounds_toArray, List.set_cons_succ, List.set_cons_zero]) | (with_reducible refine wpList_store27 (i' := true) (e' := c2) (t' := true) rfl _ _ rfl rfl V2 rfl ?_; intro u20 V2 g z; replace B := B.trans (g.below B.size (fun k hk => by rw [hk]; exact q)); clear g z; simp only [Act.put, List.setIfInBounds_toArray, List.set_cons_succ, List.set_cons_zero]))
      clear LL q Lc Ld hdd hlA hlB hszA
      generalize u18.heap.size = q2 at V2 ⊢
      replace hc2 := hc2.out
      clear hs1 hs2 T
      generalize pickV one 7 = p1 at *
      generalize pickV two 7 = p2 at *
      by_cases s1 : (p1 : Int) = 2
      · by_cases t1 : (p2 : Int) = 1
        · have hS : sendsB p1 = true := by simp [sendsB]; omega
          have hT : takesB p2 = true := by simp [takesB]; omega
          rw [hS, hT] at hc2
          have d0 : u20.cell? ⟨q2, 0, none⟩ = some (.bool true) := V2.cell 0
          have d1 : u20.cell? ⟨q2, 1, none⟩ = some (.bool false) := by rw [hc2] at V2; exact V2.cell 1
          clear hS hT hc2 V2
          go_wp2_with (first | (go_at_call 22; with_reducible refine (hp1 _).mono ?_; rintro e u21 ⟨rfl, rfl⟩; dsimp only) | (go_at_call 22; with_reducible refine (hp2 _).mono ?_; rintro e u21 ⟨rfl, rfl⟩; dsimp only))
          go_ret
          exact ⟨by first | rfl | (show Ending.returned (.bool (!((p2 : Int) == 1))) = _; rw [(by simpa using t1 : ((p2 : Int) == 1) = false)]; rfl), B⟩
        · by_cases t2 : (p2 : Int) ≥ 3
          · have hS : sendsB p1 = true := by simp [sendsB]; omega
            have hT : takesB p2 = true := by simp [takesB]; omega
            rw [hS, hT] at hc2
            have d0 : u20.cell? ⟨q2, 0, none⟩ = some (.bool true) := V2.cell 0
            have d1 : u20.cell? ⟨q2, 1, none⟩ = some (.bool false) := by rw [hc2] at V2; exact V2.cell 1
            clear hS hT hc2 V2
            go_wp2_with (first | (go_at_call 22; with_reducible refine (hp1 _).mono ?_; rintro e u21 ⟨rfl, rfl⟩; dsimp only) | (go_at_call 22; with_reducible refine (hp2 _).mono ?_; rintro e u21 ⟨rfl, rfl⟩; dsimp only))
            go_ret
            exact ⟨by first | rfl | (show Ending.returned (.bool (!((p2 : Int) == 1))) = _; rw [(by simpa using t1 : ((p2 : Int) == 1) = false)]; rfl), B⟩
          · have hS : sendsB p1 = true := by simp [sendsB]; omega
            have hT : takesB p2 = false := by simp [takesB]; omega
            rw [hS, hT] at hc2
            have d0 : u20.cell? ⟨q2, 0, none⟩ = some (.bool true) := V2.cell 0
            have d1 : u20.cell? ⟨q2, 1, none⟩ = some (.bool true) := by rw [hc2] at V2; exact V2.cell 1
            clear hS hT hc2 V2
            go_wp2_with (first | (go_at_call 22; with_reducible refine (hp1 _).mono ?_; rintro e u21 ⟨rfl, rfl⟩; dsimp only) | (go_at_call 22; with_reducible refine (hp2 _).mono ?_; rintro e u21 ⟨rfl, rfl⟩; dsimp only))
            go_ret
            exact ⟨by first | rfl | (show Ending.returned (.bool (!((p2 : Int) == 1))) = _; rw [(by simpa using t1 : ((p2 : Int) == 1) = false)]; rfl), B⟩
      · by_cases s2 : (p1 : Int) = 3
        · by_cases t1 : (p2 : Int) = 1
          · have hS : sendsB p1 = true := by simp [sendsB]; omega
            have hT : takesB p2 = true := by simp [takesB]; omega
            rw [hS, hT] at hc2
            have d0 : u20.cell? ⟨q2, 0, none⟩ = some (.bool true) := V2.cell 0
            have d1 : u20.cell? ⟨q2, 1, none⟩ = some (.bool false) := by rw [hc2] at V2; exact V2.cell 1
            clear hS hT hc2 V2
            go_wp2_with (first | (go_at_call 22; with_reducible refine (hp1 _).mono ?_; rintro e u21 ⟨rfl, rfl⟩; dsimp only) | (go_at_call 22; with_reducible refine (hp2 _).mono ?_; rintro e u21 ⟨rfl, rfl⟩; dsimp only))
            go_ret
            exact ⟨by first | rfl | (show Ending.returned (.bool (!((p2 : Int) == 1))) = _; rw [(by simpa using t1 : ((p2 : Int) == 1) = false)]; rfl), B⟩
          · by_cases t2 : (p2 : Int) ≥ 3
            · have hS : sendsB p1 = true := by simp [sendsB]; omega
              have hT : takesB p2 = true := by simp [takesB]; omega
              rw [hS, hT] at hc2
              have d0 : u20.cell? ⟨q2, 0, none⟩ = some (.bool true) := V2.cell 0
              have d1 : u20.cell? ⟨q2, 1, none⟩ = some (.bool false) := by rw [hc2] at V2; exact V2.cell 1
              clear hS hT hc2 V2
              go_wp2_with (first | (go_at_call 22; with_reducible refine (hp1 _).mono ?_; rintro e u21 ⟨rfl, rfl⟩; dsimp only) | (go_at_call 22; with_reducible refine (hp2 _).mono ?_; rintro e u21 ⟨rfl, rfl⟩; dsimp only))
              go_ret
              exact ⟨by first | rfl | (show Ending.returned (.bool (!((p2 : Int) == 1))) = _; rw [(by simpa using t1 : ((p2 : Int) == 1) = false)]; rfl), B⟩
            · have hS : sendsB p1 = true := by simp [sendsB]; omega
              have hT : takesB p2 = false := by simp [takesB]; omega
              rw [hS, hT] at hc2
              have d0 : u20.cell? ⟨q2, 0, none⟩ = some (.bool true) := V2.cell 0
              have d1 : u20.cell? ⟨q2, 1, none⟩ = some (.bool true) := by rw [hc2] at V2; exact V2.cell 1
              clear hS hT hc2 V2
              go_wp2_with (first | (go_at_call 22; with_reducible refine (hp1 _).mono ?_; rintro e u21 ⟨rfl, rfl⟩; dsimp only) | (go_at_call 22; with_reducible refine (hp2 _).mono ?_; rintro e u21 ⟨rfl, rfl⟩; dsimp only))
              go_ret
              exact ⟨by first | rfl | (show Ending.returned (.bool (!((p2 : Int) == 1))) = _; rw [(by simpa using t1 : ((p2 : Int) == 1) = false)]; rfl), B⟩
        · by_cases s3 : (p1 : Int) ≥ 5
          · by_cases t1 : (p2 : Int) = 1
            · have hS : sendsB p1 = true := by simp [sendsB]; omega
              have hT : takesB p2 = true := by simp [takesB]; omega
              rw [hS, hT] at hc2
              have d0 : u20.cell? ⟨q2, 0, none⟩ = some (.bool true) := V2.cell 0
              have d1 : u20.cell? ⟨q2, 1, none⟩ = some (.bool false) := by rw [hc2] at V2; exact V2.cell 1
              clear hS hT hc2 V2
              go_wp2_with (first | (go_at_call 22; with_reducible refine (hp1 _).mono ?_; rintro e u21 ⟨rfl, rfl⟩; dsimp only) | (go_at_call 22; with_reducible refine (hp2 _).mono ?_; rintro e u21 ⟨rfl, rfl⟩; dsimp only))
              go_ret
              exact ⟨by first | rfl | (show Ending.returned (.bool (!((p2 : Int) == 1))) = _; rw [(by simpa using t1 : ((p2 : Int) == 1) = false)]; rfl), B⟩
            · by_cases t2 : (p2 : Int) ≥ 3
              · have hS : sendsB p1 = true := by simp [sendsB]; omega
                have hT : takesB p2 = true := by simp [takesB]; omega
                rw [hS, hT] at hc2
                have d0 : u20.cell? ⟨q2, 0, none⟩ = some (.bool true) := V2.cell 0
                have d1 : u20.cell? ⟨q2, 1, none⟩ = some (.bool false) := by rw [hc2] at V2; exact V2.cell 1
                clear hS hT hc2 V2
                go_wp2_with (first | (go_at_call 22; with_reducible refine (hp1 _).mono ?_; rintro e u21 ⟨rfl, rfl⟩; dsimp only) | (go_at_call 22; with_reducible refine (hp2 _).mono ?_; rintro e u21 ⟨rfl, rfl⟩; dsimp only))
                go_ret
                exact ⟨by first | rfl | (show Ending.returned (.bool (!((p2 : Int) == 1))) = _; rw [(by simpa using t1 : ((p2 : Int) == 1) = false)]; rfl), B⟩
              · have hS : sendsB p1 = true := by simp [sendsB]; omega
                have hT : takesB p2 = false := by simp [takesB]; omega
                rw [hS, hT] at hc2
                have d0 : u20.cell? ⟨q2, 0, none⟩ = some (.bool true) := V2.cell 0
                have d1 : u20.cell? ⟨q2, 1, none⟩ = some (.bool true) := by rw [hc2] at V2; exact V2.cell 1
                clear hS hT hc2 V2
                go_wp2_with (first | (go_at_call 22; with_reducible refine (hp1 _).mono ?_; rintro e u21 ⟨rfl, rfl⟩; dsimp only) | (go_at_call 22; with_reducible refine (hp2 _).mono ?_; rintro e u21 ⟨rfl, rfl⟩; dsimp only))
                go_ret
                exact ⟨by first | rfl | (show Ending.returned (.bool (!((p2 : Int) == 1))) = _; rw [(by simpa using t1 : ((p2 : Int) == 1) = false)]; rfl), B⟩
          · by_cases t1 : (p2 : Int) = 1
            · have hS : sendsB p1 = false := by simp [sendsB]; omega
              have hT : takesB p2 = true := by simp [takesB]; omega
              rw [hS, hT] at hc2
              have d0 : u20.cell? ⟨q2, 0, none⟩ = some (.bool true) := V2.cell 0
              have d1 : u20.cell? ⟨q2, 1, none⟩ = some (.bool true) := by rw [hc2] at V2; exact V2.cell 1
              clear hS hT hc2 V2
              go_wp2_with (first | (go_at_call 22; with_reducible refine (hp1 _).mono ?_; rintro e u21 ⟨rfl, rfl⟩; dsimp only) | (go_at_call 22; with_reducible refine (hp2 _).mono ?_; rintro e u21 ⟨rfl, rfl⟩; dsimp only))
              go_ret
              exact ⟨by first | rfl | (show Ending.returned (.bool (!((p2 : Int) == 1))) = _; rw [(by simpa using t1 : ((p2 : Int) == 1) = false)]; rfl), B⟩
            · by_cases t2 : (p2 : Int) ≥ 3
              · have hS : sendsB p1 = false := by simp [sendsB]; omega
                have hT : takesB p2 = true := by simp [takesB]; omega
                rw [hS, hT] at hc2
                have d0 : u20.cell? ⟨q2, 0, none⟩ = some (.bool true) := V2.cell 0
                have d1 : u20.cell? ⟨q2, 1, none⟩ = some (.bool true) := by rw [hc2] at V2; exact V2.cell 1
                clear hS hT hc2 V2
                go_wp2_with (first | (go_at_call 22; with_reducible refine (hp1 _).mono ?_; rintro e u21 ⟨rfl, rfl⟩; dsimp only) | (go_at_call 22; with_reducible refine (hp2 _).mono ?_; rintro e u21 ⟨rfl, rfl⟩; dsimp only))
                go_ret
                exact ⟨by first | rfl | (show Ending.returned (.bool (!((p2 : Int) == 1))) = _; rw [(by simpa using t1 : ((p2 : Int) == 1) = false)]; rfl), B⟩
              · have hS : sendsB p1 = false := by simp [sendsB]; omega
                have hT : takesB p2 = false := by simp [takesB]; omega
                rw [hS, hT] at hc2
                have d0 : u20.cell? ⟨q2, 0, none⟩ = some (.bool true) := V2.cell 0
                have d1 : u20.cell? ⟨q2, 1, none⟩ = some (.bool true) := by rw [hc2] at V2; exact V2.cell 1
                clear hS hT hc2 V2
                go_wp2_with (first | (go_at_call 22; with_reducible refine (hp1 _).mono ?_; rintro e u21 ⟨rfl, rfl⟩; dsimp only) | (go_at_call 22; with_reducible refine (hp2 _).mono ?_; rintro e u21 ⟨rfl, rfl⟩; dsimp only))
                go_ret
                exact ⟨by first | rfl | (show Ending.returned (.bool (!((p2 : Int) == 1))) = _; rw [(by simpa using t1 : ((p2 : Int) == 1) = false)]; rfl), B⟩
    | true =>
      rw [hS2] at hs2
      have V1 : VerAt q1 (verV true false true) u10 := by
        have := hc1.out
        rw [hS1, hS2] at this
        rw [this] at V1
        exact V1
      have hst : (StC u10 (fun _ => False)) 0 { u10 with drawn := u10.drawn + 1 } := Rel.below_draws (n := 1) (Below.refl _ _)
      refine Chg.wp_region_chainG (StC u10 (fun _ => False)) [] [0, 0, 0, 0, 0, 0, 0, 0, 0, 0, 0, 0, 0, 0, 0, 0, 0, 0, 0, 0, 0] [vI 0, .bool false, .bool false, ptr q1 0, .bool true, .bool false, .bool false, .bool false, ptr q1 1, .bool false, .func (.func 26) #[] #[], vI one, .bool true, .bool true, .func (.func 26) #[] #[], vI two, .bool true, .bool true, .bool false, .bool false, .bool false] (by kernel_rfl) (by kernel_rfl) (by kernel_rfl) (by kernel_rfl) (by kernel_rfl) hst ?_
      clear hst
      refine ⟨fun j w1 hj hC => Chg.uponW_yes (by rfl) (by exact Chn.upon_pure hC (fun F hF => by (go_simp <;> exact hF))), ?_⟩
      simp only [Act.put, List.setIfInBounds_toArray, List.set_cons_succ, List.set_cons_zero]
      refine ⟨fun j w1 hj hC => Chg.uponW_yes (by rfl) (by exact Chn.upon_pure hC (fun F hF => by (go_simp <;> exact hF))), ?_⟩
      simp only [Act.put, List.setIfInBounds_toArray, List.set_cons_succ, List.set_cons_zero]
      refine ⟨fun j w1 hj hC => Chg.uponW_yes (by rfl) (by exact Chn.upon_pure hC (fun F hF => by (go_simp <;> exact hF))), ?_⟩
      simp only [Act.put, List.setIfInBounds_toArray, List.set_cons_succ, List.set_cons_zero]
      refine ⟨fun j w1 hj hC => Chg.uponW_yes (by rfl) (by exact Chn.upon_pure hC (fun F hF => by (go_simp <;> exact hF))), ?_⟩
      simp only [Act.put, List.setIfInBounds_toArray, List.set_cons_succ, List.set_cons_zero]
      refine ⟨fun j w1 hj hC => Chg.uponW_yes (by rfl) (by
        have z := (show w1.cell? ⟨q1, 0, none⟩ = some (.bool true) from (V1.grow (stC_low hj hC)).cell 0)
        exact Chn.upon_pure hC (fun F hF => by (go_simp <;> exact hF))), ?_⟩
      simp only [Act.put, List.setIfInBounds_toArray, List.set_cons_succ, List.set_cons_zero]
      refine ⟨fun j w1 hj hC => Chg.uponW_yes (by rfl) (by exact Chn.upon_pure hC (fun F hF => by (go_simp <;> exact hF))), ?_⟩
      simp only [Act.put, List.setIfInBounds_toArray, List.set_cons_succ, List.set_cons_zero]
      refine ⟨fun j w1 hj hC => Chg.uponW_yes (by rfl) (by exact Chn.upon_pure hC (fun F hF => by (go_simp <;> exact hF))), ?_⟩
      simp only [Act.put, List.setIfInBounds_toArray, List.set_cons_succ, List.set_cons_zero]
      refine ⟨fun j w1 hj hC => Chg.uponW_yes (by rfl) (by exact Chn.upon_pure hC (fun F hF => by (go_simp <;> exact hF))), ?_⟩
      simp only [Act.put, List.setIfInBounds_toArray, List.set_cons_succ, List.set_cons_zero]
      refine ⟨fun j w1 hj hC => Chg.uponW_yes (by rfl) (by exact Chn.upon_pure hC (fun F hF => by (go_simp <;> exact hF))), ?_⟩
      simp only [Act.put, List.setIfInBounds_toArray, List.set_cons_succ, List.set_cons_zero]
      refine ⟨fun j w1 hj hC => Chg.uponW_yes (by rfl) (by
        have z := (show w1.cell? ⟨q1, 1, none⟩ = some (.bool false) from (V1.grow (stC_low hj hC)).cell 1)
        exact Chn.upon_pure hC (fun F hF => by (go_simp <;> exact hF))), ?_⟩
      simp only [Act.put, List.setIfInBounds_toArray, List.set_cons_succ, List.set_cons_zero]
      refine ⟨fun j w1 hj hC => Chg.uponW_yes (by rfl) (by exact Chn.upon_pure hC (fun F hF => by (go_simp <;> exact hF))), ?_⟩
      simp only [Act.put, List.setIfInBounds_toArray, List.set_cons_succ, List.set_cons_zero]
      refine ⟨fun j w1 hj hC => Chg.uponW_yes (by rfl) (by exact Chn.upon_pure hC (fun F hF => by (go_simp <;> exact hF))), ?_⟩
      simp only [Act.put, List.setIfInBounds_toArray, List.set_cons_succ, List.set_cons_zero]
      refine ⟨fun j w1 hj hC => Chg.uponW_yes (by rfl) (by
        exact Chn.upon_call (C := (StC u10 (fun _ => False)) j) (hs1 w1) (fun e2 w2 hh => ⟨hh.1, by rw [hh.2]; exact hC⟩) (fun F hF => by (go_simp <;> exact hF))), ?_⟩
      simp only [Act.put, List.setIfInBounds_toArray, List.set_cons_succ, List.set_cons_zero]
      refine ⟨fun j w1 hj hC => Chg.uponW_yes (by rfl) (by exact Chn.upon_pure hC (fun F hF => by (go_simp <;> exact hF))), ?_⟩
      simp only [Act.put, List.setIfInBounds_toArray, List.set_cons_succ, List.set_cons_zero]
      refine ⟨fun j w1 hj hC => Chg.uponW_yes (by rfl) (by exact Chn.upon_pure hC (fun F hF => by (go_simp <;> exact hF))), ?_⟩
      simp only [Act.put, List.setIfInBounds_toArray, List.set_cons_succ, List.set_cons_zero]
      refine ⟨fun j w1 hj hC => Chg.uponW_yes (by rfl) (by exact Chn.upon_pure hC (fun F hF => by (go_simp <;> exact hF))), ?_⟩
      simp only [Act.put, List.setIfInBounds_toArray, List.set_cons_succ, List.set_cons_zero]
      refine ⟨fun j w1 hj hC => Chg.uponW_yes (by rfl) (by
        exact Chn.upon_call (C := (StC u10 (fun _ => False)) j) (hs2 w1) (fun e2 w2 hh => ⟨hh.1, by rw [hh.2]; exact hC⟩) (fun F hF => by (go_simp <;> exact hF))), ?_⟩
      simp only [Act.put, List.setIfInBounds_toArray, List.set_cons_succ, List.set_cons_zero]
      refine ⟨fun j w1 hj hC => Chg.uponW_yes (by rfl) (by exact Chn.upon_pure hC (fun F hF => by (go_simp <;> exact hF))), ?_⟩
      simp only [Act.put, List.setIfInBounds_toArray, List.set_cons_succ, List.set_cons_zero]
      refine ⟨fun j w1 hj hC => Chg.uponW_yes (by rfl) (by exact Chn.upon_pure hC (fun F hF => by (go_simp <;> exact hF))), ?_⟩
      simp only [Act.put, List.setIfInBounds_toArray, List.set_cons_succ, List.set_cons_zero]
      refine ⟨fun j w1 hj hC => Chg.uponW_yes (by rfl) (by exact Chn.upon_pure hC (fun F hF => by (go_simp <;> exact hF))), ?_⟩
      simp only [Act.put, List.setIfInBounds_toArray, List.set_cons_succ, List.set_cons_zero]
      refine ⟨fun j w1 hj hC => Chg.uponW_yes (by rfl) (by exact Chn.upon_pure hC (fun F hF => by (go_simp <;> exact hF))), ?_⟩
      simp only [Act.put, List.setIfInBounds_toArray, List.set_cons_succ, List.set_cons_zero]
      intro w5 hC
      replace B := B.trans (Below.mono (show Below u10.heap.size u10 w5 from hC) B.size)
      clear hC V1
      go_upto_region 8 with fail
      have G := Below.refl w5.heap.size w5
      go_upto_region 9 with (first | (go_at_call 24; with_reducible refine (wE_c 0 0 8 1 1 _).mono ?_; rintro e u11 ⟨rfl, g⟩; replace G := G.trans (g.mono G.size); clear g; dsimp only) | (go_at_call 24; with_reducible refine (wE_c 0 9 16 1 2 _).mono ?_; rintro e u12 ⟨rfl, g⟩; replace G := G.trans (g.mono G.size); clear g; dsimp only) | (go_at_call 23; refine Calls.mono (btw_ww h1 0 0 8 1 1 0 9 16 1 2 (World.alloc_heap_new u12 _)) ?_; rintro e u13 ⟨vc, lc, rfl, Lc, hlc, hdc, g⟩; dsimp only))
      have gG := G.trans (((below_alloc u12 _).trans g).mono G.size)
      have hc : w5.heap.size ≤ u12.heap.size := G.size
      have hvc : ∀ b, vc.ownBlock = some b → b < u13.heap.size := fun b hb => (Lc.row.lt b hb).2
      have hmc : u12.heap.size ≤ u13.heap.size := Nat.le_trans (by simp) g.size
      have hwc : w.heap.size ≤ u12.heap.size := Nat.le_trans B.size hc
      have hdc2 : ∀ t ∈ lc, ∀ b, (t.s0.ownBlock = some b ∨ t.s1.ownBlock = some b ∨ t.s2.ownBlock = some b) → u12.heap.size ≤ b ∧ vc.ownBlock ≠ some b := fun t ht b hb => ⟨Nat.le_trans (by simp) (hdc t ht b hb).1, (hdc t ht b hb).2⟩
      replace B := B.trans (gG.mono B.size)
      clear G g hdc
      clear gG
      have G := Below.refl u13.heap.size u13
      go_upto_region 10 with (first | (go_at_call 25; with_reducible refine (rE_c 1 0 16 1 2 _).mono ?_; rintro e u14 ⟨rfl, g⟩; replace G := G.trans (g.mono G.size); clear g; dsimp only) | (go_at_call 25; with_reducible refine (rE_c 1 9 8 0 0 _).mono ?_; rintro e u15 ⟨rfl, g⟩; replace G := G.trans (g.mono G.size); clear g; dsimp only) | (go_at_call 23; refine Calls.mono (btw_rr h2 1 0 16 1 2 1 9 8 0 0 (World.alloc_heap_new u15 _)) ?_; rintro e u16 ⟨vd, ld, rfl, Ld, hld, hdd, g⟩; dsimp only))
      have gG := G.trans (((below_alloc u15 _).trans g).mono G.size)
      have hd : u13.heap.size ≤ u15.heap.size := G.size
      have hvd : ∀ b, vd.ownBlock = some b → b < u16.heap.size := fun b hb => (Ld.row.lt b hb).2
      have hmd : u15.heap.size ≤ u16.heap.size := Nat.le_trans (by simp) g.size
      have hwd : w.heap.size ≤ u15.heap.size := Nat.le_trans B.size hd
      have hdd2 : ∀ t ∈ ld, ∀ b, (t.s0.ownBlock = some b ∨ t.s1.ownBlock = some b ∨ t.s2.ownBlock = some b) → u15.heap.size ≤ b ∧ vd.ownBlock ≠ some b := fun t ht b hb => ⟨Nat.le_trans (by simp) (hdd t ht b hb).1, (hdd t ht b hb).2⟩
      replace B := B.trans (gG.mono B.size)
      replace Lc := Lc.grow gG
      clear G g hdd
      clear gG
      have hdd : ∀ t ∈ lc ++ ld, ∀ b, (t.s0.ownBlock = some b ∨ t.s1.ownBlock = some b ∨ t.s2.ownBlock = some b) → vc.ownBlock ≠ some b := fun t ht b hb => by
        rcases List.mem_append.1 ht with ht | ht
        · exact (hdc2 t ht b hb).2
        · intro e
          have e1 := (hdd2 t ht b hb).1
          have e2 := hvc b e
          omega
      have hlA := btw_len (hlc)
      have hlB := btw_len (hld)
      have hszA : u12.heap.size ≤ u16.heap.size := Nat.le_trans hmc (Nat.le_trans hd hmd)
      go_upto_region 11 with (first | (refine wpList_app2 rfl _ _ rfl rfl rfl Lc Ld (by omega) (by omega) hszA hdd ?_; intro vv u17 LL g; replace B := B.trans (g.mono hwc); clear g; simp only [Act.put, List.setIfInBounds_toArray, List.set_cons_succ, List.set_cons_zero]) | (go_at_call 12; (have kk : Calls Tryz.prog 12 #[vv] u17 fun r w9 => r = .returned (.tuple #[.agg (verV true c2 true), vI 0]) ∧ Below u17.heap.size u17 w9 := by (rw [hc2.out]; exact chk_pair mp_all hk1 hk2 LL (by rw [List.map_append, hlc, hld]; rfl) (T.grow B))); with_reducible refine kk.mono ?_; clear kk; rintro e u18 ⟨rfl, g⟩; replace B := B.trans (g.mono B.size); clear g; dsimp only) | (with_reducible refine wpList_new27 rfl rfl ?_; intro u19 V2 g z; have q := B.size; replace B := B.trans (g.mono B.size); clear g z; simp only [Act.put, List.setIfInBounds_toArray, List.set_cons_succ, List.set_cons_zero]) | (with_reducible refine wpList_store27 (i' := true) (e' := c2) (t' := true) rfl _ _ rfl rfl V2 rfl ?_; intro u20 V2 g z; replace B := B.trans (g.below B.size (fun k hk => by rw [hk]; exact q)); clear g z; simp only [Act.put, List.setIfInBounds_toArray, List.set_cons_succ, List.set_cons_zero]))
      clear LL q Lc Ld hdd hlA hlB hszA
      generalize u18.heap.size = q2 at V2 ⊢
      replace hc2 := hc2.out
      clear hs1 hs2 T
      generalize pickV one 7 = p1 at *
      generalize pickV two 7 = p2 at *
      by_cases s1 : (p1 : Int) = 2
      · by_cases t1 : (p2 : Int) = 1
        · have hS : sendsB p1 = true := by simp [sendsB]; omega
          have hT : takesB p2 = true := by simp [takesB]; omega
          rw [hS, hT] at hc2
          have d0 : u20.cell? ⟨q2, 0, none⟩ = some (.bool true) := V2.cell 0
          have d1 : u20.cell? ⟨q2, 1, none⟩ = some (.bool false) := by rw [hc2] at V2; exact V2.cell 1
          clear hS hT hc2 V2
          go_wp2_with (first | (go_at_call 22; with_reducible refine (hp1 _).mono ?_; rintro e u21 ⟨rfl, rfl⟩; dsimp only) | (go_at_call 22; with_reducible refine (hp2 _).mono ?_; rintro e u21 ⟨rfl, rfl⟩; dsimp only))
          go_ret
          exact ⟨by first | rfl | (show Ending.returned (.bool (!((p2 : Int) == 1))) = _; rw [(by simpa using t1 : ((p2 : Int) == 1) = false)]; rfl), B⟩
        · by_cases t2 : (p2 : Int) ≥ 3
          · have hS : sendsB p1 = true := by simp [sendsB]; omega
            have hT : takesB p2 = true := by simp [takesB]; omega
            rw [hS, hT] at hc2
            have d0 : u20.cell? ⟨q2, 0, none⟩ = some (.bool true) := V2.cell 0
            have d1 : u20.cell? ⟨q2, 1, none⟩ = some (.bool false) := by rw [hc2] at V2; exact V2.cell 1
            clear hS hT hc2 V2
            go_wp2_with (first | (go_at_call 22; with_reducible refine (hp1 _).mono ?_; rintro e u21 ⟨rfl, rfl⟩; dsimp only) | (go_at_call 22; with_reducible refine (hp2 _).mono ?_; rintro e u21 ⟨rfl, rfl⟩; dsimp only))
            go_ret
            exact ⟨by first | rfl | (show Ending.returned (.bool (!((p2 : Int) == 1))) = _; rw [(by simpa using t1 : ((p2 : Int) == 1) = false)]; rfl), B⟩
          · have hS : sendsB p1 = true := by simp [sendsB]; omega
            have hT : takesB p2 = false := by simp [takesB]; omega
            rw [hS, hT] at hc2
            have d0 : u20.cell? ⟨q2, 0, none⟩ = some (.bool true) := V2.cell 0
            have d1 : u20.cell? ⟨q2, 1, none⟩ = some (.bool true) := by rw [hc2] at V2; exact V2.cell 1
            clear hS hT hc2 V2
            go_wp2_with (first | (go_at_call 22; with_reducible refine (hp1 _).mono ?_; rintro e u21 ⟨rfl, rfl⟩; dsimp only) | (go_at_call 22; with_reducible refine (hp2 _).mono ?_; rintro e u21 ⟨rfl, rfl⟩; dsimp only))
            go_ret
            exact ⟨by first | rfl | (show Ending.returned (.bool (!((p2 : Int) == 1))) = _; rw [(by simpa using t1 : ((p2 : Int) == 1) = false)]; rfl), B⟩
      · by_cases s2 : (p1 : Int) = 3
        · by_cases t1 : (p2 : Int) = 1
          · have hS : sendsB p1 = true := by simp [sendsB]; omega
            have hT : takesB p2 = true := by simp [takesB]; omega
            rw [hS, hT] at hc2
            have d0 : u20.cell? ⟨q2, 0, none⟩ = some (.bool true) := V2.cell 0
            have d1 : u20.cell? ⟨q2, 1, none⟩ = some (.bool false) := by rw [hc2] at V2; exact V2.cell 1
            clear hS hT hc2 V2
            go_wp2_with (first | (go_at_call 22; with_reducible refine (hp1 _).mono ?_; rintro e u21 ⟨rfl, rfl⟩; dsimp only) | (go_at_call 22; with_reducible refine (hp2 _).mono ?_; rintro e u21 ⟨rfl, rfl⟩; dsimp only))
            go_ret
            exact ⟨by first | rfl | (show Ending.returned (.bool (!((p2 : Int) == 1))) = _; rw [(by simpa using t1 : ((p2 : Int) == 1) = false)]; rfl), B⟩
          · by_cases t2 : (p2 : Int) ≥ 3
            · have hS : sendsB p1 = true := by simp [sendsB]; omega
              have hT : takesB p2 = true := by simp [takesB]; omega
              rw [hS, hT] at hc2
              have d0 : u20.cell? ⟨q2, 0, none⟩ = some (.bool true) := V2.cell 0
              have d1 : u20.cell? ⟨q2, 1, none⟩ = some (.bool false) := by rw [hc2] at V2; exact V2.cell 1
              clear hS hT hc2 V2
              go_wp2_with (first | (go_at_call 22; with_reducible refine (hp1 _).mono ?_; rintro e u21 ⟨rfl, rfl⟩; dsimp only) | (go_at_call 22; with_reducible refine (hp2 _).mono ?_; rintro e u21 ⟨rfl, rfl⟩; dsimp only))
              go_ret
              exact ⟨by first | rfl | (show Ending.returned (.bool (!((p2 : Int) == 1))) = _; rw [(by simpa using t1 : ((p2 : Int) == 1) = false)]; rfl), B⟩
            · have hS : sendsB p1 = true := by simp [sendsB]; omega
              have hT : takesB p2 = false := by simp [takesB]; omega
              rw [hS, hT] at hc2
              have d0 : u20.cell? ⟨q2, 0, none⟩ = some (.bool true) := V2.cell 0
              have d1 : u20.cell? ⟨q2, 1, none⟩ = some (.bool true) := by rw [hc2] at V2; exact V2.cell 1
              clear hS hT hc2 V2
              go_wp2_with (first | (go_at_call 22; with_reducible refine (hp1 _).mono ?_; rintro e u21 ⟨rfl, rfl⟩; dsimp only) | (go_at_call 22; with_reducible refine (hp2 _).mono ?_; rintro e u21 ⟨rfl, rfl⟩; dsimp only))
              go_ret
              exact ⟨by first | rfl | (show Ending.returned (.bool (!((p2 : Int) == 1))) = _; rw [(by simpa using t1 : ((p2 : Int) == 1) = false)]; rfl), B⟩
        · by_cases s3 : (p1 : Int) ≥ 5
          · by_cases t1 : (p2 : Int) = 1
            · have hS : sendsB p1 = true := by simp [sendsB]; omega
              have hT : takesB p2 = true := by simp [takesB]; omega
              rw [hS, hT] at hc2
              have d0 : u20.cell? ⟨q2, 0, none⟩ = some (.bool true) := V2.cell 0
              have d1 : u20.cell? ⟨q2, 1, none⟩ = some (.bool false) := by rw [hc2] at V2; exact V2.cell 1
              clear hS hT hc2 V2
              go_wp2_with (first | (go_at_call 22; with_reducible refine (hp1 _).mono ?_; rintro e u21 ⟨rfl, rfl⟩; dsimp only) | (go_at_call 22; with_reducible refine (hp2 _).mono ?_; rintro e u21 ⟨rfl, rfl⟩; dsimp only))
              go_ret
              exact ⟨by first | rfl | (show Ending.returned (.bool (!((p2 : Int) == 1))) = _; rw [(by simpa using t1 : ((p2 : Int) == 1) = false)]; rfl), B⟩
            · by_cases t2 : (p2 : Int) ≥ 3
              · have hS : sendsB p1 = true := by simp [sendsB]; omega
                have hT : takesB p2 = true := by simp [takesB]; omega
                rw [hS, hT] at hc2
                have d0 : u20.cell? ⟨q2, 0, none⟩ = some (.bool true) := V2.cell 0
                have d1 : u20.cell? ⟨q2, 1, none⟩ = some (.bool false) := by rw [hc2] at V2; exact V2.cell 1
                clear hS hT hc2 V2
                go_wp2_with (first | (go_at_call 22; with_reducible refine (hp1 _).mono ?_; rintro e u21 ⟨rfl, rfl⟩; dsimp only) | (go_at_call 22; with_reducible refine (hp2 _).mono ?_; rintro e u21 ⟨rfl, rfl⟩; dsimp only))
                go_ret
                exact ⟨by first | rfl | (show Ending.returned (.bool (!((p2 : Int) == 1))) = _; rw [(by simpa using t1 : ((p2 : Int) == 1) = false)]; rfl), B⟩
              · have hS : sendsB p1 = true := by simp [sendsB]; omega
                have hT : takesB p2 = false := by simp [takesB]; omega
                rw [hS, hT] at hc2
                have d0 : u20.cell? ⟨q2, 0, none⟩ = some (.bool true) := V2.cell 0
                have d1 : u20.cell? ⟨q2, 1, none⟩ = some (.bool true) := by rw [hc2] at V2; exact V2.cell 1
                clear hS hT hc2 V2
                go_wp2_with (first | (go_at_call 22; with_reducible refine (hp1 _).mono ?_; rintro e u21 ⟨rfl, rfl⟩; dsimp only) | (go_at_call 22; with_reducible refine (hp2 _).mono ?_; rintro e u21 ⟨rfl, rfl⟩; dsimp only))
                go_ret
                exact ⟨by first | rfl | (show Ending.returned (.bool (!((p2 : Int) == 1))) = _; rw [(by simpa using t1 : ((p2 : Int) == 1) = false)]; rfl), B⟩
          · by_cases t1 : (p2 : Int) = 1
            · have hS : sendsB p1 = false := by simp [sendsB]; omega
              have hT : takesB p2 = true := by simp [takesB]; omega
              rw [hS, hT] at hc2
              have d0 : u20.cell? ⟨q2, 0, none⟩ = some (.bool true) := V2.cell 0
              have d1 : u20.cell? ⟨q2, 1, none⟩ = some (.bool true) := by rw [hc2] at V2; exact V2.cell 1
              clear hS hT hc2 V2
              go_wp2_with (first | (go_at_call 22; with_reducible refine (hp1 _).mono ?_; rintro e u21 ⟨rfl, rfl⟩; dsimp only) | (go_at_call 22; with_reducible refine (hp2 _).mono ?_; rintro e u21 ⟨rfl, rfl⟩; dsimp only))
              go_ret
              exact ⟨by first | rfl | (show Ending.returned (.bool (!((p2 : Int) == 1))) = _; rw [(by simpa using t1 : ((p2 : Int) == 1) = false)]; rfl), B⟩
            · by_cases t2 : (p2 : Int) ≥ 3
              · have hS : sendsB p1 = false := by simp [sendsB]; omega
                have hT : takesB p2 = true := by simp [takesB]; omega
                rw [hS, hT] at hc2
                have d0 : u20.cell? ⟨q2, 0, none⟩ = some (.bool true) := V2.cell 0
                have d1 : u20.cell? ⟨q2, 1, none⟩ = some (.bool true) := by rw [hc2] at V2; exact V2.cell 1
                clear hS hT hc2 V2
                go_wp2_with (first | (go_at_call 22; with_reducible refine (hp1 _).mono ?_; rintro e u21 ⟨rfl, rfl⟩; dsimp only) | (go_at_call 22; with_reducible refine (hp2 _).mono ?_; rintro e u21 ⟨rfl, rfl⟩; dsimp only))
                go_ret
                exact ⟨by first | rfl | (show Ending.returned (.bool (!((p2 : Int) == 1))) = _; rw [(by simpa using t1 : ((p2 : Int) == 1) = false)]; rfl), B⟩
              · have hS : sendsB p1 = false := by simp [sendsB]; omega
                have hT : takesB p2 = false := by simp [takesB]; omega
                rw [hS, hT] at hc2
                have d0 : u20.cell? ⟨q2, 0, none⟩ = some (.bool true) := V2.cell 0
                have d1 : u20.cell? ⟨q2, 1, none⟩ = some (.bool true) := by rw [hc2] at V2; exact V2.cell 1
                clear hS hT hc2 V2
                go_wp2_with (first | (go_at_call 22; with_reducible refine (hp1 _).mono ?_; rintro e u21 ⟨rfl, rfl⟩; dsimp only) | (go_at_call 22; with_reducible refine (hp2 _).mono ?_; rintro e u21 ⟨rfl, rfl⟩; dsimp only))
                go_ret
                exact ⟨by first | rfl | (show Ending.returned (.bool (!((p2 : Int) == 1))) = _; rw [(by simpa using t1 : ((p2 : Int) == 1) = false)]; rfl), B⟩
end Go.Proofs.YtnedkielehmneaaGreatDoor
