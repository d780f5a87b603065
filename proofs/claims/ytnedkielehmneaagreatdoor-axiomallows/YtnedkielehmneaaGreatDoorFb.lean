/- between. -/
import Derived.Test.YtnedkielehmneaaGreatDoorFa
namespace Go.Proofs.YtnedkielehmneaaGreatDoor
open Go.RowKit
open Go.Shelf
set_option linter.unusedVariables false
set_option linter.unusedSimpArgs false
set_option maxRecDepth 8000

open Axm
theorem inf3 : (Tryz.prog.info? 3).map (·.size) = some 1 := by kernel_rfl
theorem inf34 : (Tryz.prog.info? 34).map (·.size) = some 1 := by kernel_rfl
/-- What between makes of two events. -/
def btw (k : Nat) (e0 e1 : Ev) : List Ev :=
  match k with
  | 1 => [e0, e1, fE e0.core 5 13]
  | 2 => [e0, e1, fE e0.core 5 10]
  | 3 => [e0, e1, fE e0.core 5 15]
  | 4 => if e0.kind = 1 then [e0, { e1 with adr := [0] }] else [e0, e1]
  | 5 => [if e0.kind = 1 then { e0 with acq := 1 } else e0, if e1.kind = 2 then { e1 with rel := true } else e1]
  | 6 => [if e0.kind = 1 then { e0 with acq := 2 } else { e0 with rel := true }, if e1.kind = 1 then { e1 with acq := 2 } else { e1 with rel := true }]
  | _ => [e0, e1]
def BtwP (k g : Nat) (e0 e1 : Ev) (w : World) (e : Ending) (w' : World) : Prop := ∃ v' es, e = .returned v' ∧ EvO w' g v' es ∧ es.map EvX.e = btw k e0 e1 ∧ (∀ t ∈ es, ∀ b, (t.s0.ownBlock = some b ∨ t.s1.ownBlock = some b ∨ t.s2.ownBlock = some b) → w.heap.size ≤ b ∧ v'.ownBlock ≠ some b) ∧ Below g w w'
theorem nil_deps {es : List EvX} (h : ∀ t ∈ es, t = nilX t.e) (w : World) (v' : Value) : ∀ t ∈ es, ∀ b, (t.s0.ownBlock = some b ∨ t.s1.ownBlock = some b ∨ t.s2.ownBlock = some b) → w.heap.size ≤ b ∧ v'.ownBlock ≠ some b := fun t ht b hb => by
  rw [h t ht] at hb
  rcases hb with hb | hb | hb <;> cases hb
theorem loc_evO {w : World} {g n : Nat} {es : List EvX} {cs : Array Value} (H : LocE g cs w) (hcs : cs = (evF es).toArray) (hn : es.length = n) (hm : n ≤ maxLen) (D : Deps w es) : EvO w g (.slice (some ⟨g, 0, none⟩) n n) es := by
  refine ⟨⟨evF_len es, .inr ⟨g, n, cs, by rw [hn], Nat.le_refl _, H, by omega, by omega, ?_, ?_⟩⟩, D⟩
  · rw [hcs, List.size_toArray, evF_len, hn]
  · rw [hcs, List.take_of_length_le (by rw [evF_len]; omega)]
set_option maxHeartbeats 4000000 in
theorem btw_wr0 {how : Int} (hk : pickV how 7 = 0) (hh : I64 how) (c0 p0 a0 v0 t0 c1 p1 a1 v1 t1 : Int) {g : Nat} {w : World} (H : LocE g (evF [nilX (wE c0 p0 a0 v0 t0), nilX (rE c1 p1 a1 v1 t1)]).toArray w) : Calls Tryz.prog 23 #[vI how, .slice (some ⟨g, 0, none⟩) 2 2] w (BtwP 0 g (wE c0 p0 a0 v0 t0) (rE c1 p1 a1 v1 t1) w) := by
  have hp : ∀ w, Calls Tryz.prog 22 #[vI how, vI 7] w fun e w' => e = .returned (vI 0) ∧ w' = w := fun w => by
    have := pick_c how 7 (by decide) (by decide) hh w
    rw [hk] at this
    exact this
  have d0 : w.cell? ⟨g, 0, none⟩ = some (vI c0) := H.cell 0
  have d2 : w.cell? ⟨g, 2, none⟩ = some (vI 2) := H.cell 2
  have d15 : w.cell? ⟨g, 15, none⟩ = some (vI 1) := H.cell 15
  replace H : LocE g #[vI c0, vI p0, vI 2, vU a0, vU v0, vI 0, .bool false, .bool false, vI 0, vI t0, nilS, nilS, nilS, vI c1, vI p1, vI 1, vU a1, vU v1, vI 0, .bool false, .bool false, vI 0, vI t1, nilS, nilS, nilS] w := H
  go_enter Tryz.func23, Tryz.ntmps23
  go_wp2_with (first | (go_at_call 22; with_reducible refine (hp _).mono ?_; rintro e w ⟨rfl, rfl⟩; dsimp only))
  go_ret
  exact ⟨_, [nilX (wE c0 p0 a0 v0 t0), nilX (rE c1 p1 a1 v1 t1)], rfl, loc_evO H rfl rfl (by decide) (deps_nil _ _ (by simp)), rfl, nil_deps (by simp) _ _, Below.refl _ _⟩
set_option maxHeartbeats 4000000 in
theorem btw_wr1 {how : Int} (hk : pickV how 7 = 1) (hh : I64 how) (c0 p0 a0 v0 t0 c1 p1 a1 v1 t1 : Int) {g : Nat} {w : World} (H : LocE g (evF [nilX (wE c0 p0 a0 v0 t0), nilX (rE c1 p1 a1 v1 t1)]).toArray w) : Calls Tryz.prog 23 #[vI how, .slice (some ⟨g, 0, none⟩) 2 2] w (BtwP 1 g (wE c0 p0 a0 v0 t0) (rE c1 p1 a1 v1 t1) w) := by
  have hp : ∀ w, Calls Tryz.prog 22 #[vI how, vI 7] w fun e w' => e = .returned (vI 1) ∧ w' = w := fun w => by
    have := pick_c how 7 (by decide) (by decide) hh w
    rw [hk] at this
    exact this
  have d0 : w.cell? ⟨g, 0, none⟩ = some (vI c0) := H.cell 0
  have d2 : w.cell? ⟨g, 2, none⟩ = some (vI 2) := H.cell 2
  have d15 : w.cell? ⟨g, 15, none⟩ = some (vI 1) := H.cell 15
  replace H : LocE g #[vI c0, vI p0, vI 2, vU a0, vU v0, vI 0, .bool false, .bool false, vI 0, vI t0, nilS, nilS, nilS, vI c1, vI p1, vI 1, vU a1, vU v1, vI 0, .bool false, .bool false, vI 0, vI t1, nilS, nilS, nilS] w := H
  go_enter Tryz.func23, Tryz.ntmps23
  have hg : g ≤ w.heap.size := Nat.le_of_lt H.lt
  have G := Below.refl w.heap.size w
  have hf := fE_c c0 5 w
  go_upto_region 6 with (first | (go_at_call 22; with_reducible refine (hp _).mono ?_; rintro e w ⟨rfl, rfl⟩; dsimp only) | (go_at_call 27; with_reducible refine hf.mono ?_; clear hf; rintro e u1 ⟨rfl, g1⟩; replace G := G.trans (g1.mono G.size); clear g1; dsimp only) | (with_reducible refine wpList_new36 rfl rfl ?_; intro u2 X g1 z; have q := G.size; replace G := G.trans (g1.mono G.size); clear g1 z; simp only [Act.put, List.setIfInBounds_toArray, List.set_cons_succ, List.set_cons_zero]) | (with_reducible refine wpList_store36 (e := fE c0 5 15) (s0 := nilS) (s1 := nilS) (s2 := nilS) rfl _ _ rfl rfl X rfl rfl (evA_nil _) ?_; intro u3 X g1 z; replace G := G.trans (g1.below G.size (fun k hk => by rw [hk]; exact q)); clear g1 z; simp only [Act.put, List.setIfInBounds_toArray, List.set_cons_succ, List.set_cons_zero]))
  generalize u1.heap.size = tq at X q ⊢
  have HG := H.lt
  replace H := H.grow G
  have X4 := X.grow (below_alloc u3 (Obj.cells #[vI 0, vI 13, vI 10, vI 15] 3))
  have H4 := H.grow (below_alloc u3 (Obj.cells #[vI 0, vI 13, vI 10, vI 15] 3))
  go_upto_region 7 with (first | (go_at_call 22; with_reducible refine (hp _).mono ?_; rintro e w ⟨rfl, rfl⟩; dsimp only) | (refine wpList_cell (j := 8) rfl 3 _ _ rfl rfl X4 (vI 13) rfl inf3 rfl rfl (by show 8 < 13; decide) ?_; intro u4 X5 g5; simp only [Act.put, List.setIfInBounds_toArray, List.set_cons_succ, List.set_cons_zero]))
  replace X5 : LocE tq (evA (fE c0 5 13) nilS nilS nilS) u4 := X5
  have hql : g < tq := Nat.lt_of_lt_of_le HG q
  have H5 : LocE g #[vI c0, vI p0, vI 2, vU a0, vU v0, vI 0, .bool false, .bool false, vI 0, vI t0, nilS, nilS, nilS, vI c1, vI p1, vI 1, vU a1, vU v1, vI 0, .bool false, .bool false, vI 0, vI t1, nilS, nilS, nilS] u4 := by
    have hb := g5.block g H4.lt (fun h => by omega)
    unfold LocE
    rw [hb]
    exact H4
  have A5 : EvO u4 g (.slice (some ⟨g, 0, none⟩) 2 2) [nilX (wE c0 p0 a0 v0 t0), nilX (rE c1 p1 a1 v1 t1)] := loc_evO H5 rfl rfl (by decide) (deps_nil _ _ (by simp))
  have hu3 := G.size
  have G5 : Below g w u4 := (G.mono hg).trans (((below_alloc u3 _).mono (Nat.le_trans hg G.size)).trans (g5.below (by simp; omega) (fun k hk => by rw [hk]; omega)))
  have R5 : u4.ownsRow g 36 13 (.slice (some ⟨g, 0, none⟩) 2 2) 2 (evF [nilX (wE c0 p0 a0 v0 t0), nilX (rE c1 p1 a1 v1 t1)]) := A5.row
  have hsz5 : g ≤ u4.heap.size := Nat.le_of_lt H5.lt
  go_wp2_with (first | (with_reducible refine wpList_loadL rfl _ rfl rfl X5 ?_; simp only [Act.put, List.setIfInBounds_toArray, List.set_cons_succ, List.set_cons_zero]) | (with_reducible refine wpList_app1 (t := nilX (fE c0 5 13)) rfl _ _ rfl rfl rfl R5 (evA_nil _) (by decide) hsz5 ?_; intro v' w6 R6 g6; simp only [Act.put, List.setIfInBounds_toArray, List.set_cons_succ, List.set_cons_zero]))
  go_ret
  exact ⟨_, [nilX (wE c0 p0 a0 v0 t0), nilX (rE c1 p1 a1 v1 t1), nilX (fE c0 5 13)], rfl, ⟨R6, deps_nil _ _ (by simp)⟩, rfl, nil_deps (by simp) _ _, G5.trans g6⟩
set_option maxHeartbeats 4000000 in
theorem btw_wr2 {how : Int} (hk : pickV how 7 = 2) (hh : I64 how) (c0 p0 a0 v0 t0 c1 p1 a1 v1 t1 : Int) {g : Nat} {w : World} (H : LocE g (evF [nilX (wE c0 p0 a0 v0 t0), nilX (rE c1 p1 a1 v1 t1)]).toArray w) : Calls Tryz.prog 23 #[vI how, .slice (some ⟨g, 0, none⟩) 2 2] w (BtwP 2 g (wE c0 p0 a0 v0 t0) (rE c1 p1 a1 v1 t1) w) := by
  have hp : ∀ w, Calls Tryz.prog 22 #[vI how, vI 7] w fun e w' => e = .returned (vI 2) ∧ w' = w := fun w => by
    have := pick_c how 7 (by decide) (by decide) hh w
    rw [hk] at this
    exact this
  have d0 : w.cell? ⟨g, 0, none⟩ = some (vI c0) := H.cell 0
  have d2 : w.cell? ⟨g, 2, none⟩ = some (vI 2) := H.cell 2
  have d15 : w.cell? ⟨g, 15, none⟩ = some (vI 1) := H.cell 15
  replace H : LocE g #[vI c0, vI p0, vI 2, vU a0, vU v0, vI 0, .bool false, .bool false, vI 0, vI t0, nilS, nilS, nilS, vI c1, vI p1, vI 1, vU a1, vU v1, vI 0, .bool false, .bool false, vI 0, vI t1, nilS, nilS, nilS] w := H
  go_enter Tryz.func23, Tryz.ntmps23
  have hg : g ≤ w.heap.size := Nat.le_of_lt H.lt
  have G := Below.refl w.heap.size w
  have hf := fE_c c0 5 w
  go_upto_region 6 with (first | (go_at_call 22; with_reducible refine (hp _).mono ?_; rintro e w ⟨rfl, rfl⟩; dsimp only) | (go_at_call 27; with_reducible refine hf.mono ?_; clear hf; rintro e u1 ⟨rfl, g1⟩; replace G := G.trans (g1.mono G.size); clear g1; dsimp only) | (with_reducible refine wpList_new36 rfl rfl ?_; intro u2 X g1 z; have q := G.size; replace G := G.trans (g1.mono G.size); clear g1 z; simp only [Act.put, List.setIfInBounds_toArray, List.set_cons_succ, List.set_cons_zero]) | (with_reducible refine wpList_store36 (e := fE c0 5 15) (s0 := nilS) (s1 := nilS) (s2 := nilS) rfl _ _ rfl rfl X rfl rfl (evA_nil _) ?_; intro u3 X g1 z; replace G := G.trans (g1.below G.size (fun k hk => by rw [hk]; exact q)); clear g1 z; simp only [Act.put, List.setIfInBounds_toArray, List.set_cons_succ, List.set_cons_zero]))
  generalize u1.heap.size = tq at X q ⊢
  have HG := H.lt
  replace H := H.grow G
  have X4 := X.grow (below_alloc u3 (Obj.cells #[vI 0, vI 13, vI 10, vI 15] 3))
  have H4 := H.grow (below_alloc u3 (Obj.cells #[vI 0, vI 13, vI 10, vI 15] 3))
  go_upto_region 7 with (first | (go_at_call 22; with_reducible refine (hp _).mono ?_; rintro e w ⟨rfl, rfl⟩; dsimp only) | (refine wpList_cell (j := 8) rfl 3 _ _ rfl rfl X4 (vI 10) rfl inf3 rfl rfl (by show 8 < 13; decide) ?_; intro u4 X5 g5; simp only [Act.put, List.setIfInBounds_toArray, List.set_cons_succ, List.set_cons_zero]))
  replace X5 : LocE tq (evA (fE c0 5 10) nilS nilS nilS) u4 := X5
  have hql : g < tq := Nat.lt_of_lt_of_le HG q
  have H5 : LocE g #[vI c0, vI p0, vI 2, vU a0, vU v0, vI 0, .bool false, .bool false, vI 0, vI t0, nilS, nilS, nilS, vI c1, vI p1, vI 1, vU a1, vU v1, vI 0, .bool false, .bool false, vI 0, vI t1, nilS, nilS, nilS] u4 := by
    have hb := g5.block g H4.lt (fun h => by omega)
    unfold LocE
    rw [hb]
    exact H4
  have A5 : EvO u4 g (.slice (some ⟨g, 0, none⟩) 2 2) [nilX (wE c0 p0 a0 v0 t0), nilX (rE c1 p1 a1 v1 t1)] := loc_evO H5 rfl rfl (by decide) (deps_nil _ _ (by simp))
  have hu3 := G.size
  have G5 : Below g w u4 := (G.mono hg).trans (((below_alloc u3 _).mono (Nat.le_trans hg G.size)).trans (g5.below (by simp; omega) (fun k hk => by rw [hk]; omega)))
  have R5 : u4.ownsRow g 36 13 (.slice (some ⟨g, 0, none⟩) 2 2) 2 (evF [nilX (wE c0 p0 a0 v0 t0), nilX (rE c1 p1 a1 v1 t1)]) := A5.row
  have hsz5 : g ≤ u4.heap.size := Nat.le_of_lt H5.lt
  go_wp2_with (first | (with_reducible refine wpList_loadL rfl _ rfl rfl X5 ?_; simp only [Act.put, List.setIfInBounds_toArray, List.set_cons_succ, List.set_cons_zero]) | (with_reducible refine wpList_app1 (t := nilX (fE c0 5 10)) rfl _ _ rfl rfl rfl R5 (evA_nil _) (by decide) hsz5 ?_; intro v' w6 R6 g6; simp only [Act.put, List.setIfInBounds_toArray, List.set_cons_succ, List.set_cons_zero]))
  go_ret
  exact ⟨_, [nilX (wE c0 p0 a0 v0 t0), nilX (rE c1 p1 a1 v1 t1), nilX (fE c0 5 10)], rfl, ⟨R6, deps_nil _ _ (by simp)⟩, rfl, nil_deps (by simp) _ _, G5.trans g6⟩
set_option maxHeartbeats 4000000 in
theorem btw_wr3 {how : Int} (hk : pickV how 7 = 3) (hh : I64 how) (c0 p0 a0 v0 t0 c1 p1 a1 v1 t1 : Int) {g : Nat} {w : World} (H : LocE g (evF [nilX (wE c0 p0 a0 v0 t0), nilX (rE c1 p1 a1 v1 t1)]).toArray w) : Calls Tryz.prog 23 #[vI how, .slice (some ⟨g, 0, none⟩) 2 2] w (BtwP 3 g (wE c0 p0 a0 v0 t0) (rE c1 p1 a1 v1 t1) w) := by
  have hp : ∀ w, Calls Tryz.prog 22 #[vI how, vI 7] w fun e w' => e = .returned (vI 3) ∧ w' = w := fun w => by
    have := pick_c how 7 (by decide) (by decide) hh w
    rw [hk] at this
    exact this
  have d0 : w.cell? ⟨g, 0, none⟩ = some (vI c0) := H.cell 0
  have d2 : w.cell? ⟨g, 2, none⟩ = some (vI 2) := H.cell 2
  have d15 : w.cell? ⟨g, 15, none⟩ = some (vI 1) := H.cell 15
  replace H : LocE g #[vI c0, vI p0, vI 2, vU a0, vU v0, vI 0, .bool false, .bool false, vI 0, vI t0, nilS, nilS, nilS, vI c1, vI p1, vI 1, vU a1, vU v1, vI 0, .bool false, .bool false, vI 0, vI t1, nilS, nilS, nilS] w := H
  go_enter Tryz.func23, Tryz.ntmps23
  have hg : g ≤ w.heap.size := Nat.le_of_lt H.lt
  have G := Below.refl w.heap.size w
  have hf := fE_c c0 5 w
  go_upto_region 6 with (first | (go_at_call 22; with_reducible refine (hp _).mono ?_; rintro e w ⟨rfl, rfl⟩; dsimp only) | (go_at_call 27; with_reducible refine hf.mono ?_; clear hf; rintro e u1 ⟨rfl, g1⟩; replace G := G.trans (g1.mono G.size); clear g1; dsimp only) | (with_reducible refine wpList_new36 rfl rfl ?_; intro u2 X g1 z; have q := G.size; replace G := G.trans (g1.mono G.size); clear g1 z; simp only [Act.put, List.setIfInBounds_toArray, List.set_cons_succ, List.set_cons_zero]) | (with_reducible refine wpList_store36 (e := fE c0 5 15) (s0 := nilS) (s1 := nilS) (s2 := nilS) rfl _ _ rfl rfl X rfl rfl (evA_nil _) ?_; intro u3 X g1 z; replace G := G.trans (g1.below G.size (fun k hk => by rw [hk]; exact q)); clear g1 z; simp only [Act.put, List.setIfInBounds_toArray, List.set_cons_succ, List.set_cons_zero]))
  generalize u1.heap.size = tq at X q ⊢
  have HG := H.lt
  replace H := H.grow G
  have X4 := X.grow (below_alloc u3 (Obj.cells #[vI 0, vI 13, vI 10, vI 15] 3))
  have H4 := H.grow (below_alloc u3 (Obj.cells #[vI 0, vI 13, vI 10, vI 15] 3))
  go_upto_region 7 with (first | (go_at_call 22; with_reducible refine (hp _).mono ?_; rintro e w ⟨rfl, rfl⟩; dsimp only) | (refine wpList_cell (j := 8) rfl 3 _ _ rfl rfl X4 (vI 15) rfl inf3 rfl rfl (by show 8 < 13; decide) ?_; intro u4 X5 g5; simp only [Act.put, List.setIfInBounds_toArray, List.set_cons_succ, List.set_cons_zero]))
  replace X5 : LocE tq (evA (fE c0 5 15) nilS nilS nilS) u4 := X5
  have hql : g < tq := Nat.lt_of_lt_of_le HG q
  have H5 : LocE g #[vI c0, vI p0, vI 2, vU a0, vU v0, vI 0, .bool false, .bool false, vI 0, vI t0, nilS, nilS, nilS, vI c1, vI p1, vI 1, vU a1, vU v1, vI 0, .bool false, .bool false, vI 0, vI t1, nilS, nilS, nilS] u4 := by
    have hb := g5.block g H4.lt (fun h => by omega)
    unfold LocE
    rw [hb]
    exact H4
  have A5 : EvO u4 g (.slice (some ⟨g, 0, none⟩) 2 2) [nilX (wE c0 p0 a0 v0 t0), nilX (rE c1 p1 a1 v1 t1)] := loc_evO H5 rfl rfl (by decide) (deps_nil _ _ (by simp))
  have hu3 := G.size
  have G5 : Below g w u4 := (G.mono hg).trans (((below_alloc u3 _).mono (Nat.le_trans hg G.size)).trans (g5.below (by simp; omega) (fun k hk => by rw [hk]; omega)))
  have R5 : u4.ownsRow g 36 13 (.slice (some ⟨g, 0, none⟩) 2 2) 2 (evF [nilX (wE c0 p0 a0 v0 t0), nilX (rE c1 p1 a1 v1 t1)]) := A5.row
  have hsz5 : g ≤ u4.heap.size := Nat.le_of_lt H5.lt
  go_wp2_with (first | (with_reducible refine wpList_loadL rfl _ rfl rfl X5 ?_; simp only [Act.put, List.setIfInBounds_toArray, List.set_cons_succ, List.set_cons_zero]) | (with_reducible refine wpList_app1 (t := nilX (fE c0 5 15)) rfl _ _ rfl rfl rfl R5 (evA_nil _) (by decide) hsz5 ?_; intro v' w6 R6 g6; simp only [Act.put, List.setIfInBounds_toArray, List.set_cons_succ, List.set_cons_zero]))
  go_ret
  exact ⟨_, [nilX (wE c0 p0 a0 v0 t0), nilX (rE c1 p1 a1 v1 t1), nilX (fE c0 5 15)], rfl, ⟨R6, deps_nil _ _ (by simp)⟩, rfl, nil_deps (by simp) _ _, G5.trans g6⟩
set_option maxHeartbeats 4000000 in
theorem btw_wr4 {how : Int} (hk : pickV how 7 = 4) (hh : I64 how) (c0 p0 a0 v0 t0 c1 p1 a1 v1 t1 : Int) {g : Nat} {w : World} (H : LocE g (evF [nilX (wE c0 p0 a0 v0 t0), nilX (rE c1 p1 a1 v1 t1)]).toArray w) : Calls Tryz.prog 23 #[vI how, .slice (some ⟨g, 0, none⟩) 2 2] w (BtwP 4 g (wE c0 p0 a0 v0 t0) (rE c1 p1 a1 v1 t1) w) := by
  have hp : ∀ w, Calls Tryz.prog 22 #[vI how, vI 7] w fun e w' => e = .returned (vI 4) ∧ w' = w := fun w => by
    have := pick_c how 7 (by decide) (by decide) hh w
    rw [hk] at this
    exact this
  have d0 : w.cell? ⟨g, 0, none⟩ = some (vI c0) := H.cell 0
  have d2 : w.cell? ⟨g, 2, none⟩ = some (vI 2) := H.cell 2
  have d15 : w.cell? ⟨g, 15, none⟩ = some (vI 1) := H.cell 15
  replace H : LocE g #[vI c0, vI p0, vI 2, vU a0, vU v0, vI 0, .bool false, .bool false, vI 0, vI t0, nilS, nilS, nilS, vI c1, vI p1, vI 1, vU a1, vU v1, vI 0, .bool false, .bool false, vI 0, vI t1, nilS, nilS, nilS] w := H
  go_enter Tryz.func23, Tryz.ntmps23
  go_wp2_with (first | (go_at_call 22; with_reducible refine (hp _).mono ?_; rintro e w ⟨rfl, rfl⟩; dsimp only))
  go_ret
  exact ⟨_, [nilX (wE c0 p0 a0 v0 t0), nilX (rE c1 p1 a1 v1 t1)], rfl, loc_evO H rfl rfl (by decide) (deps_nil _ _ (by simp)), rfl, nil_deps (by simp) _ _, Below.refl _ _⟩
set_option maxHeartbeats 4000000 in
theorem btw_wr5 {how : Int} (hk : pickV how 7 = 5) (hh : I64 how) (c0 p0 a0 v0 t0 c1 p1 a1 v1 t1 : Int) {g : Nat} {w : World} (H : LocE g (evF [nilX (wE c0 p0 a0 v0 t0), nilX (rE c1 p1 a1 v1 t1)]).toArray w) : Calls Tryz.prog 23 #[vI how, .slice (some ⟨g, 0, none⟩) 2 2] w (BtwP 5 g (wE c0 p0 a0 v0 t0) (rE c1 p1 a1 v1 t1) w) := by
  have hp : ∀ w, Calls Tryz.prog 22 #[vI how, vI 7] w fun e w' => e = .returned (vI 5) ∧ w' = w := fun w => by
    have := pick_c how 7 (by decide) (by decide) hh w
    rw [hk] at this
    exact this
  have d0 : w.cell? ⟨g, 0, none⟩ = some (vI c0) := H.cell 0
  have d2 : w.cell? ⟨g, 2, none⟩ = some (vI 2) := H.cell 2
  have d15 : w.cell? ⟨g, 15, none⟩ = some (vI 1) := H.cell 15
  replace H : LocE g #[vI c0, vI p0, vI 2, vU a0, vU v0, vI 0, .bool false, .bool false, vI 0, vI t0, nilS, nilS, nilS, vI c1, vI p1, vI 1, vU a1, vU v1, vI 0, .bool false, .bool false, vI 0, vI t1, nilS, nilS, nilS] w := H
  go_enter Tryz.func23, Tryz.ntmps23
  have hg : g ≤ w.heap.size := Nat.le_of_lt H.lt
  have G := Below.refl g w
  go_wp2_with (first | (go_at_call 22; with_reducible refine (hp _).mono ?_; rintro e w ⟨rfl, rfl⟩; dsimp only))
  go_ret
  exact ⟨_, [nilX ⟨c0, p0, 2, a0, v0, 0, false, false, 0, t0, [], [], []⟩, nilX ⟨c1, p1, 1, a1, v1, 0, false, false, 0, t1, [], [], []⟩], rfl, loc_evO H rfl rfl (by decide) (deps_nil _ _ (by simp)), rfl, nil_deps (by simp) _ _, G⟩
set_option maxHeartbeats 4000000 in
theorem btw_wr6 {how : Int} (hk : pickV how 7 = 6) (hh : I64 how) (c0 p0 a0 v0 t0 c1 p1 a1 v1 t1 : Int) {g : Nat} {w : World} (H : LocE g (evF [nilX (wE c0 p0 a0 v0 t0), nilX (rE c1 p1 a1 v1 t1)]).toArray w) : Calls Tryz.prog 23 #[vI how, .slice (some ⟨g, 0, none⟩) 2 2] w (BtwP 6 g (wE c0 p0 a0 v0 t0) (rE c1 p1 a1 v1 t1) w) := by
  have hp : ∀ w, Calls Tryz.prog 22 #[vI how, vI 7] w fun e w' => e = .returned (vI 6) ∧ w' = w := fun w => by
    have := pick_c how 7 (by decide) (by decide) hh w
    rw [hk] at this
    exact this
  have d0 : w.cell? ⟨g, 0, none⟩ = some (vI c0) := H.cell 0
  have d2 : w.cell? ⟨g, 2, none⟩ = some (vI 2) := H.cell 2
  have d15 : w.cell? ⟨g, 15, none⟩ = some (vI 1) := H.cell 15
  replace H : LocE g #[vI c0, vI p0, vI 2, vU a0, vU v0, vI 0, .bool false, .bool false, vI 0, vI t0, nilS, nilS, nilS, vI c1, vI p1, vI 1, vU a1, vU v1, vI 0, .bool false, .bool false, vI 0, vI t1, nilS, nilS, nilS] w := H
  go_enter Tryz.func23, Tryz.ntmps23
  have hg : g ≤ w.heap.size := Nat.le_of_lt H.lt
  have G := Below.refl g w
  go_wp2_with (first | (go_at_call 22; with_reducible refine (hp _).mono ?_; rintro e w ⟨rfl, rfl⟩; dsimp only) | (refine wpList_cell (j := 6) (cs := #[vI c0, vI p0, vI 2, vU a0, vU v0, vI 0, .bool false, .bool false, vI 0, vI t0, nilS, nilS, nilS, vI c1, vI p1, vI 1, vU a1, vU v1, vI 0, .bool false, .bool false, vI 0, vI t1, nilS, nilS, nilS]) rfl 4 _ _ rfl rfl H (.bool true) rfl inf4 rfl rfl (by show 6 < 26; decide) ?_; intro w2 H2 g2; replace H2 : LocE g #[vI c0, vI p0, vI 2, vU a0, vU v0, vI 0, .bool true, .bool false, vI 0, vI t0, nilS, nilS, nilS, vI c1, vI p1, vI 1, vU a1, vU v1, vI 0, .bool false, .bool false, vI 0, vI t1, nilS, nilS, nilS] w2 := H2; replace G := G.trans (g2.below (Nat.le_trans hg G.size) (fun k hk => by rw [hk]; exact Nat.le_refl _)); have d2 : w2.cell? ⟨g, 2, none⟩ = some (vI 2) := H2.cell 2; have d15 : w2.cell? ⟨g, 15, none⟩ = some (vI 1) := H2.cell 15; replace H := H2; clear H2 g2; simp only [Act.put, List.setIfInBounds_toArray, List.set_cons_succ, List.set_cons_zero]) | (refine wpList_cell (j := 19) (cs := #[vI c0, vI p0, vI 2, vU a0, vU v0, vI 0, .bool true, .bool false, vI 0, vI t0, nilS, nilS, nilS, vI c1, vI p1, vI 1, vU a1, vU v1, vI 0, .bool false, .bool false, vI 0, vI t1, nilS, nilS, nilS]) rfl 4 _ _ rfl rfl H (.bool false) rfl inf4 rfl rfl (by show 19 < 26; decide) ?_; intro w2 H2 g2; replace H2 : LocE g #[vI c0, vI p0, vI 2, vU a0, vU v0, vI 0, .bool true, .bool false, vI 0, vI t0, nilS, nilS, nilS, vI c1, vI p1, vI 1, vU a1, vU v1, vI 0, .bool false, .bool false, vI 0, vI t1, nilS, nilS, nilS] w2 := H2; replace G := G.trans (g2.below (Nat.le_trans hg G.size) (fun k hk => by rw [hk]; exact Nat.le_refl _)); have d2 : w2.cell? ⟨g, 2, none⟩ = some (vI 2) := H2.cell 2; have d15 : w2.cell? ⟨g, 15, none⟩ = some (vI 1) := H2.cell 15; replace H := H2; clear H2 g2; simp only [Act.put, List.setIfInBounds_toArray, List.set_cons_succ, List.set_cons_zero]) | (refine wpList_cell (j := 18) (cs := #[vI c0, vI p0, vI 2, vU a0, vU v0, vI 0, .bool true, .bool false, vI 0, vI t0, nilS, nilS, nilS, vI c1, vI p1, vI 1, vU a1, vU v1, vI 0, .bool false, .bool false, vI 0, vI t1, nilS, nilS, nilS]) rfl 3 _ _ rfl rfl H (vI 2) rfl inf3 rfl rfl (by show 18 < 26; decide) ?_; intro w2 H2 g2; replace H2 : LocE g #[vI c0, vI p0, vI 2, vU a0, vU v0, vI 0, .bool true, .bool false, vI 0, vI t0, nilS, nilS, nilS, vI c1, vI p1, vI 1, vU a1, vU v1, vI 2, .bool false, .bool false, vI 0, vI t1, nilS, nilS, nilS] w2 := H2; replace G := G.trans (g2.below (Nat.le_trans hg G.size) (fun k hk => by rw [hk]; exact Nat.le_refl _)); have d2 : w2.cell? ⟨g, 2, none⟩ = some (vI 2) := H2.cell 2; have d15 : w2.cell? ⟨g, 15, none⟩ = some (vI 1) := H2.cell 15; replace H := H2; clear H2 g2; simp only [Act.put, List.setIfInBounds_toArray, List.set_cons_succ, List.set_cons_zero]))
  go_ret
  exact ⟨_, [nilX ⟨c0, p0, 2, a0, v0, 0, true, false, 0, t0, [], [], []⟩, nilX ⟨c1, p1, 1, a1, v1, 2, false, false, 0, t1, [], [], []⟩], rfl, loc_evO H rfl rfl (by decide) (deps_nil _ _ (by simp)), rfl, nil_deps (by simp) _ _, G⟩
set_option maxHeartbeats 4000000 in
theorem btw_ww0 {how : Int} (hk : pickV how 7 = 0) (hh : I64 how) (c0 p0 a0 v0 t0 c1 p1 a1 v1 t1 : Int) {g : Nat} {w : World} (H : LocE g (evF [nilX (wE c0 p0 a0 v0 t0), nilX (wE c1 p1 a1 v1 t1)]).toArray w) : Calls Tryz.prog 23 #[vI how, .slice (some ⟨g, 0, none⟩) 2 2] w (BtwP 0 g (wE c0 p0 a0 v0 t0) (wE c1 p1 a1 v1 t1) w) := by
  have hp : ∀ w, Calls Tryz.prog 22 #[vI how, vI 7] w fun e w' => e = .returned (vI 0) ∧ w' = w := fun w => by
    have := pick_c how 7 (by decide) (by decide) hh w
    rw [hk] at this
    exact this
  have d0 : w.cell? ⟨g, 0, none⟩ = some (vI c0) := H.cell 0
  have d2 : w.cell? ⟨g, 2, none⟩ = some (vI 2) := H.cell 2
  have d15 : w.cell? ⟨g, 15, none⟩ = some (vI 2) := H.cell 15
  replace H : LocE g #[vI c0, vI p0, vI 2, vU a0, vU v0, vI 0, .bool false, .bool false, vI 0, vI t0, nilS, nilS, nilS, vI c1, vI p1, vI 2, vU a1, vU v1, vI 0, .bool false, .bool false, vI 0, vI t1, nilS, nilS, nilS] w := H
  go_enter Tryz.func23, Tryz.ntmps23
  go_wp2_with (first | (go_at_call 22; with_reducible refine (hp _).mono ?_; rintro e w ⟨rfl, rfl⟩; dsimp only))
  go_ret
  exact ⟨_, [nilX (wE c0 p0 a0 v0 t0), nilX (wE c1 p1 a1 v1 t1)], rfl, loc_evO H rfl rfl (by decide) (deps_nil _ _ (by simp)), rfl, nil_deps (by simp) _ _, Below.refl _ _⟩
set_option maxHeartbeats 4000000 in
theorem btw_ww1 {how : Int} (hk : pickV how 7 = 1) (hh : I64 how) (c0 p0 a0 v0 t0 c1 p1 a1 v1 t1 : Int) {g : Nat} {w : World} (H : LocE g (evF [nilX (wE c0 p0 a0 v0 t0), nilX (wE c1 p1 a1 v1 t1)]).toArray w) : Calls Tryz.prog 23 #[vI how, .slice (some ⟨g, 0, none⟩) 2 2] w (BtwP 1 g (wE c0 p0 a0 v0 t0) (wE c1 p1 a1 v1 t1) w) := by
  have hp : ∀ w, Calls Tryz.prog 22 #[vI how, vI 7] w fun e w' => e = .returned (vI 1) ∧ w' = w := fun w => by
    have := pick_c how 7 (by decide) (by decide) hh w
    rw [hk] at this
    exact this
  have d0 : w.cell? ⟨g, 0, none⟩ = some (vI c0) := H.cell 0
  have d2 : w.cell? ⟨g, 2, none⟩ = some (vI 2) := H.cell 2
  have d15 : w.cell? ⟨g, 15, none⟩ = some (vI 2) := H.cell 15
  replace H : LocE g #[vI c0, vI p0, vI 2, vU a0, vU v0, vI 0, .bool false, .bool false, vI 0, vI t0, nilS, nilS, nilS, vI c1, vI p1, vI 2, vU a1, vU v1, vI 0, .bool false, .bool false, vI 0, vI t1, nilS, nilS, nilS] w := H
  go_enter Tryz.func23, Tryz.ntmps23
  have hg : g ≤ w.heap.size := Nat.le_of_lt H.lt
  have G := Below.refl w.heap.size w
  have hf := fE_c c0 5 w
  go_upto_region 6 with (first | (go_at_call 22; with_reducible refine (hp _).mono ?_; rintro e w ⟨rfl, rfl⟩; dsimp only) | (go_at_call 27; with_reducible refine hf.mono ?_; clear hf; rintro e u1 ⟨rfl, g1⟩; replace G := G.trans (g1.mono G.size); clear g1; dsimp only) | (with_reducible refine wpList_new36 rfl rfl ?_; intro u2 X g1 z; have q := G.size; replace G := G.trans (g1.mono G.size); clear g1 z; simp only [Act.put, List.setIfInBounds_toArray, List.set_cons_succ, List.set_cons_zero]) | (with_reducible refine wpList_store36 (e := fE c0 5 15) (s0 := nilS) (s1 := nilS) (s2 := nilS) rfl _ _ rfl rfl X rfl rfl (evA_nil _) ?_; intro u3 X g1 z; replace G := G.trans (g1.below G.size (fun k hk => by rw [hk]; exact q)); clear g1 z; simp only [Act.put, List.setIfInBounds_toArray, List.set_cons_succ, List.set_cons_zero]))
  generalize u1.heap.size = tq at X q ⊢
  have HG := H.lt
  replace H := H.grow G
  have X4 := X.grow (below_alloc u3 (Obj.cells #[vI 0, vI 13, vI 10, vI 15] 3))
  have H4 := H.grow (below_alloc u3 (Obj.cells #[vI 0, vI 13, vI 10, vI 15] 3))
  go_upto_region 7 with (first | (go_at_call 22; with_reducible refine (hp _).mono ?_; rintro e w ⟨rfl, rfl⟩; dsimp only) | (refine wpList_cell (j := 8) rfl 3 _ _ rfl rfl X4 (vI 13) rfl inf3 rfl rfl (by show 8 < 13; decide) ?_; intro u4 X5 g5; simp only [Act.put, List.setIfInBounds_toArray, List.set_cons_succ, List.set_cons_zero]))
  replace X5 : LocE tq (evA (fE c0 5 13) nilS nilS nilS) u4 := X5
  have hql : g < tq := Nat.lt_of_lt_of_le HG q
  have H5 : LocE g #[vI c0, vI p0, vI 2, vU a0, vU v0, vI 0, .bool false, .bool false, vI 0, vI t0, nilS, nilS, nilS, vI c1, vI p1, vI 2, vU a1, vU v1, vI 0, .bool false, .bool false, vI 0, vI t1, nilS, nilS, nilS] u4 := by
    have hb := g5.block g H4.lt (fun h => by omega)
    unfold LocE
    rw [hb]
    exact H4
  have A5 : EvO u4 g (.slice (some ⟨g, 0, none⟩) 2 2) [nilX (wE c0 p0 a0 v0 t0), nilX (wE c1 p1 a1 v1 t1)] := loc_evO H5 rfl rfl (by decide) (deps_nil _ _ (by simp))
  have hu3 := G.size
  have G5 : Below g w u4 := (G.mono hg).trans (((below_alloc u3 _).mono (Nat.le_trans hg G.size)).trans (g5.below (by simp; omega) (fun k hk => by rw [hk]; omega)))
  have R5 : u4.ownsRow g 36 13 (.slice (some ⟨g, 0, none⟩) 2 2) 2 (evF [nilX (wE c0 p0 a0 v0 t0), nilX (wE c1 p1 a1 v1 t1)]) := A5.row
  have hsz5 : g ≤ u4.heap.size := Nat.le_of_lt H5.lt
  go_wp2_with (first | (with_reducible refine wpList_loadL rfl _ rfl rfl X5 ?_; simp only [Act.put, List.setIfInBounds_toArray, List.set_cons_succ, List.set_cons_zero]) | (with_reducible refine wpList_app1 (t := nilX (fE c0 5 13)) rfl _ _ rfl rfl rfl R5 (evA_nil _) (by decide) hsz5 ?_; intro v' w6 R6 g6; simp only [Act.put, List.setIfInBounds_toArray, List.set_cons_succ, List.set_cons_zero]))
  go_ret
  exact ⟨_, [nilX (wE c0 p0 a0 v0 t0), nilX (wE c1 p1 a1 v1 t1), nilX (fE c0 5 13)], rfl, ⟨R6, deps_nil _ _ (by simp)⟩, rfl, nil_deps (by simp) _ _, G5.trans g6⟩
set_option maxHeartbeats 4000000 in
theorem btw_ww2 {how : Int} (hk : pickV how 7 = 2) (hh : I64 how) (c0 p0 a0 v0 t0 c1 p1 a1 v1 t1 : Int) {g : Nat} {w : World} (H : LocE g (evF [nilX (wE c0 p0 a0 v0 t0), nilX (wE c1 p1 a1 v1 t1)]).toArray w) : Calls Tryz.prog 23 #[vI how, .slice (some ⟨g, 0, none⟩) 2 2] w (BtwP 2 g (wE c0 p0 a0 v0 t0) (wE c1 p1 a1 v1 t1) w) := by
  have hp : ∀ w, Calls Tryz.prog 22 #[vI how, vI 7] w fun e w' => e = .returned (vI 2) ∧ w' = w := fun w => by
    have := pick_c how 7 (by decide) (by decide) hh w
    rw [hk] at this
    exact this
  have d0 : w.cell? ⟨g, 0, none⟩ = some (vI c0) := H.cell 0
  have d2 : w.cell? ⟨g, 2, none⟩ = some (vI 2) := H.cell 2
  have d15 : w.cell? ⟨g, 15, none⟩ = some (vI 2) := H.cell 15
  replace H : LocE g #[vI c0, vI p0, vI 2, vU a0, vU v0, vI 0, .bool false, .bool false, vI 0, vI t0, nilS, nilS, nilS, vI c1, vI p1, vI 2, vU a1, vU v1, vI 0, .bool false, .bool false, vI 0, vI t1, nilS, nilS, nilS] w := H
  go_enter Tryz.func23, Tryz.ntmps23
  have hg : g ≤ w.heap.size := Nat.le_of_lt H.lt
  have G := Below.refl w.heap.size w
  have hf := fE_c c0 5 w
  go_upto_region 6 with (first | (go_at_call 22; with_reducible refine (hp _).mono ?_; rintro e w ⟨rfl, rfl⟩; dsimp only) | (go_at_call 27; with_reducible refine hf.mono ?_; clear hf; rintro e u1 ⟨rfl, g1⟩; replace G := G.trans (g1.mono G.size); clear g1; dsimp only) | (with_reducible refine wpList_new36 rfl rfl ?_; intro u2 X g1 z; have q := G.size; replace G := G.trans (g1.mono G.size); clear g1 z; simp only [Act.put, List.setIfInBounds_toArray, List.set_cons_succ, List.set_cons_zero]) | (with_reducible refine wpList_store36 (e := fE c0 5 15) (s0 := nilS) (s1 := nilS) (s2 := nilS) rfl _ _ rfl rfl X rfl rfl (evA_nil _) ?_; intro u3 X g1 z; replace G := G.trans (g1.below G.size (fun k hk => by rw [hk]; exact q)); clear g1 z; simp only [Act.put, List.setIfInBounds_toArray, List.set_cons_succ, List.set_cons_zero]))
  generalize u1.heap.size = tq at X q ⊢
  have HG := H.lt
  replace H := H.grow G
  have X4 := X.grow (below_alloc u3 (Obj.cells #[vI 0, vI 13, vI 10, vI 15] 3))
  have H4 := H.grow (below_alloc u3 (Obj.cells #[vI 0, vI 13, vI 10, vI 15] 3))
  go_upto_region 7 with (first | (go_at_call 22; with_reducible refine (hp _).mono ?_; rintro e w ⟨rfl, rfl⟩; dsimp only) | (refine wpList_cell (j := 8) rfl 3 _ _ rfl rfl X4 (vI 10) rfl inf3 rfl rfl (by show 8 < 13; decide) ?_; intro u4 X5 g5; simp only [Act.put, List.setIfInBounds_toArray, List.set_cons_succ, List.set_cons_zero]))
  replace X5 : LocE tq (evA (fE c0 5 10) nilS nilS nilS) u4 := X5
  have hql : g < tq := Nat.lt_of_lt_of_le HG q
  have H5 : LocE g #[vI c0, vI p0, vI 2, vU a0, vU v0, vI 0, .bool false, .bool false, vI 0, vI t0, nilS, nilS, nilS, vI c1, vI p1, vI 2, vU a1, vU v1, vI 0, .bool false, .bool false, vI 0, vI t1, nilS, nilS, nilS] u4 := by
    have hb := g5.block g H4.lt (fun h => by omega)
    unfold LocE
    rw [hb]
    exact H4
  have A5 : EvO u4 g (.slice (some ⟨g, 0, none⟩) 2 2) [nilX (wE c0 p0 a0 v0 t0), nilX (wE c1 p1 a1 v1 t1)] := loc_evO H5 rfl rfl (by decide) (deps_nil _ _ (by simp))
  have hu3 := G.size
  have G5 : Below g w u4 := (G.mono hg).trans (((below_alloc u3 _).mono (Nat.le_trans hg G.size)).trans (g5.below (by simp; omega) (fun k hk => by rw [hk]; omega)))
  have R5 : u4.ownsRow g 36 13 (.slice (some ⟨g, 0, none⟩) 2 2) 2 (evF [nilX (wE c0 p0 a0 v0 t0), nilX (wE c1 p1 a1 v1 t1)]) := A5.row
  have hsz5 : g ≤ u4.heap.size := Nat.le_of_lt H5.lt
  go_wp2_with (first | (with_reducible refine wpList_loadL rfl _ rfl rfl X5 ?_; simp only [Act.put, List.setIfInBounds_toArray, List.set_cons_succ, List.set_cons_zero]) | (with_reducible refine wpList_app1 (t := nilX (fE c0 5 10)) rfl _ _ rfl rfl rfl R5 (evA_nil _) (by decide) hsz5 ?_; intro v' w6 R6 g6; simp only [Act.put, List.setIfInBounds_toArray, List.set_cons_succ, List.set_cons_zero]))
  go_ret
  exact ⟨_, [nilX (wE c0 p0 a0 v0 t0), nilX (wE c1 p1 a1 v1 t1), nilX (fE c0 5 10)], rfl, ⟨R6, deps_nil _ _ (by simp)⟩, rfl, nil_deps (by simp) _ _, G5.trans g6⟩
set_option maxHeartbeats 4000000 in
theorem btw_ww3 {how : Int} (hk : pickV how 7 = 3) (hh : I64 how) (c0 p0 a0 v0 t0 c1 p1 a1 v1 t1 : Int) {g : Nat} {w : World} (H : LocE g (evF [nilX (wE c0 p0 a0 v0 t0), nilX (wE c1 p1 a1 v1 t1)]).toArray w) : Calls Tryz.prog 23 #[vI how, .slice (some ⟨g, 0, none⟩) 2 2] w (BtwP 3 g (wE c0 p0 a0 v0 t0) (wE c1 p1 a1 v1 t1) w) := by
  have hp : ∀ w, Calls Tryz.prog 22 #[vI how, vI 7] w fun e w' => e = .returned (vI 3) ∧ w' = w := fun w => by
    have := pick_c how 7 (by decide) (by decide) hh w
    rw [hk] at this
    exact this
  have d0 : w.cell? ⟨g, 0, none⟩ = some (vI c0) := H.cell 0
  have d2 : w.cell? ⟨g, 2, none⟩ = some (vI 2) := H.cell 2
  have d15 : w.cell? ⟨g, 15, none⟩ = some (vI 2) := H.cell 15
  replace H : LocE g #[vI c0, vI p0, vI 2, vU a0, vU v0, vI 0, .bool false, .bool false, vI 0, vI t0, nilS, nilS, nilS, vI c1, vI p1, vI 2, vU a1, vU v1, vI 0, .bool false, .bool false, vI 0, vI t1, nilS, nilS, nilS] w := H
  go_enter Tryz.func23, Tryz.ntmps23
  have hg : g ≤ w.heap.size := Nat.le_of_lt H.lt
  have G := Below.refl w.heap.size w
  have hf := fE_c c0 5 w
  go_upto_region 6 with (first | (go_at_call 22; with_reducible refine (hp _).mono ?_; rintro e w ⟨rfl, rfl⟩; dsimp only) | (go_at_call 27; with_reducible refine hf.mono ?_; clear hf; rintro e u1 ⟨rfl, g1⟩; replace G := G.trans (g1.mono G.size); clear g1; dsimp only) | (with_reducible refine wpList_new36 rfl rfl ?_; intro u2 X g1 z; have q := G.size; replace G := G.trans (g1.mono G.size); clear g1 z; simp only [Act.put, List.setIfInBounds_toArray, List.set_cons_succ, List.set_cons_zero]) | (with_reducible refine wpList_store36 (e := fE c0 5 15) (s0 := nilS) (s1 := nilS) (s2 := nilS) rfl _ _ rfl rfl X rfl rfl (evA_nil _) ?_; intro u3 X g1 z; replace G := G.trans (g1.below G.size (fun k hk => by rw [hk]; exact q)); clear g1 z; simp only [Act.put, List.setIfInBounds_toArray, List.set_cons_succ, List.set_cons_zero]))
  generalize u1.heap.size = tq at X q ⊢
  have HG := H.lt
  replace H := H.grow G
  have X4 := X.grow (below_alloc u3 (Obj.cells #[vI 0, vI 13, vI 10, vI 15] 3))
  have H4 := H.grow (below_alloc u3 (Obj.cells #[vI 0, vI 13, vI 10, vI 15] 3))
  go_upto_region 7 with (first | (go_at_call 22; with_reducible refine (hp _).mono ?_; rintro e w ⟨rfl, rfl⟩; dsimp only) | (refine wpList_cell (j := 8) rfl 3 _ _ rfl rfl X4 (vI 15) rfl inf3 rfl rfl (by show 8 < 13; decide) ?_; intro u4 X5 g5; simp only [Act.put, List.setIfInBounds_toArray, List.set_cons_succ, List.set_cons_zero]))
  replace X5 : LocE tq (evA (fE c0 5 15) nilS nilS nilS) u4 := X5
  have hql : g < tq := Nat.lt_of_lt_of_le HG q
  have H5 : LocE g #[vI c0, vI p0, vI 2, vU a0, vU v0, vI 0, .bool false, .bool false, vI 0, vI t0, nilS, nilS, nilS, vI c1, vI p1, vI 2, vU a1, vU v1, vI 0, .bool false, .bool false, vI 0, vI t1, nilS, nilS, nilS] u4 := by
    have hb := g5.block g H4.lt (fun h => by omega)
    unfold LocE
    rw [hb]
    exact H4
  have A5 : EvO u4 g (.slice (some ⟨g, 0, none⟩) 2 2) [nilX (wE c0 p0 a0 v0 t0), nilX (wE c1 p1 a1 v1 t1)] := loc_evO H5 rfl rfl (by decide) (deps_nil _ _ (by simp))
  have hu3 := G.size
  have G5 : Below g w u4 := (G.mono hg).trans (((below_alloc u3 _).mono (Nat.le_trans hg G.size)).trans (g5.below (by simp; omega) (fun k hk => by rw [hk]; omega)))
  have R5 : u4.ownsRow g 36 13 (.slice (some ⟨g, 0, none⟩) 2 2) 2 (evF [nilX (wE c0 p0 a0 v0 t0), nilX (wE c1 p1 a1 v1 t1)]) := A5.row
  have hsz5 : g ≤ u4.heap.size := Nat.le_of_lt H5.lt
  go_wp2_with (first | (with_reducible refine wpList_loadL rfl _ rfl rfl X5 ?_; simp only [Act.put, List.setIfInBounds_toArray, List.set_cons_succ, List.set_cons_zero]) | (with_reducible refine wpList_app1 (t := nilX (fE c0 5 15)) rfl _ _ rfl rfl rfl R5 (evA_nil _) (by decide) hsz5 ?_; intro v' w6 R6 g6; simp only [Act.put, List.setIfInBounds_toArray, List.set_cons_succ, List.set_cons_zero]))
  go_ret
  exact ⟨_, [nilX (wE c0 p0 a0 v0 t0), nilX (wE c1 p1 a1 v1 t1), nilX (fE c0 5 15)], rfl, ⟨R6, deps_nil _ _ (by simp)⟩, rfl, nil_deps (by simp) _ _, G5.trans g6⟩
set_option maxHeartbeats 4000000 in
theorem btw_ww4 {how : Int} (hk : pickV how 7 = 4) (hh : I64 how) (c0 p0 a0 v0 t0 c1 p1 a1 v1 t1 : Int) {g : Nat} {w : World} (H : LocE g (evF [nilX (wE c0 p0 a0 v0 t0), nilX (wE c1 p1 a1 v1 t1)]).toArray w) : Calls Tryz.prog 23 #[vI how, .slice (some ⟨g, 0, none⟩) 2 2] w (BtwP 4 g (wE c0 p0 a0 v0 t0) (wE c1 p1 a1 v1 t1) w) := by
  have hp : ∀ w, Calls Tryz.prog 22 #[vI how, vI 7] w fun e w' => e = .returned (vI 4) ∧ w' = w := fun w => by
    have := pick_c how 7 (by decide) (by decide) hh w
    rw [hk] at this
    exact this
  have d0 : w.cell? ⟨g, 0, none⟩ = some (vI c0) := H.cell 0
  have d2 : w.cell? ⟨g, 2, none⟩ = some (vI 2) := H.cell 2
  have d15 : w.cell? ⟨g, 15, none⟩ = some (vI 2) := H.cell 15
  replace H : LocE g #[vI c0, vI p0, vI 2, vU a0, vU v0, vI 0, .bool false, .bool false, vI 0, vI t0, nilS, nilS, nilS, vI c1, vI p1, vI 2, vU a1, vU v1, vI 0, .bool false, .bool false, vI 0, vI t1, nilS, nilS, nilS] w := H
  go_enter Tryz.func23, Tryz.ntmps23
  go_wp2_with (first | (go_at_call 22; with_reducible refine (hp _).mono ?_; rintro e w ⟨rfl, rfl⟩; dsimp only))
  go_ret
  exact ⟨_, [nilX (wE c0 p0 a0 v0 t0), nilX (wE c1 p1 a1 v1 t1)], rfl, loc_evO H rfl rfl (by decide) (deps_nil _ _ (by simp)), rfl, nil_deps (by simp) _ _, Below.refl _ _⟩
set_option maxHeartbeats 4000000 in
theorem btw_ww5 {how : Int} (hk : pickV how 7 = 5) (hh : I64 how) (c0 p0 a0 v0 t0 c1 p1 a1 v1 t1 : Int) {g : Nat} {w : World} (H : LocE g (evF [nilX (wE c0 p0 a0 v0 t0), nilX (wE c1 p1 a1 v1 t1)]).toArray w) : Calls Tryz.prog 23 #[vI how, .slice (some ⟨g, 0, none⟩) 2 2] w (BtwP 5 g (wE c0 p0 a0 v0 t0) (wE c1 p1 a1 v1 t1) w) := by
  have hp : ∀ w, Calls Tryz.prog 22 #[vI how, vI 7] w fun e w' => e = .returned (vI 5) ∧ w' = w := fun w => by
    have := pick_c how 7 (by decide) (by decide) hh w
    rw [hk] at this
    exact this
  have d0 : w.cell? ⟨g, 0, none⟩ = some (vI c0) := H.cell 0
  have d2 : w.cell? ⟨g, 2, none⟩ = some (vI 2) := H.cell 2
  have d15 : w.cell? ⟨g, 15, none⟩ = some (vI 2) := H.cell 15
  replace H : LocE g #[vI c0, vI p0, vI 2, vU a0, vU v0, vI 0, .bool false, .bool false, vI 0, vI t0, nilS, nilS, nilS, vI c1, vI p1, vI 2, vU a1, vU v1, vI 0, .bool false, .bool false, vI 0, vI t1, nilS, nilS, nilS] w := H
  go_enter Tryz.func23, Tryz.ntmps23
  have hg : g ≤ w.heap.size := Nat.le_of_lt H.lt
  have G := Below.refl g w
  go_wp2_with (first | (go_at_call 22; with_reducible refine (hp _).mono ?_; rintro e w ⟨rfl, rfl⟩; dsimp only) | (refine wpList_cell (j := 19) (cs := #[vI c0, vI p0, vI 2, vU a0, vU v0, vI 0, .bool false, .bool false, vI 0, vI t0, nilS, nilS, nilS, vI c1, vI p1, vI 2, vU a1, vU v1, vI 0, .bool false, .bool false, vI 0, vI t1, nilS, nilS, nilS]) rfl 4 _ _ rfl rfl H (.bool true) rfl inf4 rfl rfl (by show 19 < 26; decide) ?_; intro w2 H2 g2; replace H2 : LocE g #[vI c0, vI p0, vI 2, vU a0, vU v0, vI 0, .bool false, .bool false, vI 0, vI t0, nilS, nilS, nilS, vI c1, vI p1, vI 2, vU a1, vU v1, vI 0, .bool true, .bool false, vI 0, vI t1, nilS, nilS, nilS] w2 := H2; replace G := G.trans (g2.below (Nat.le_trans hg G.size) (fun k hk => by rw [hk]; exact Nat.le_refl _)); have d2 : w2.cell? ⟨g, 2, none⟩ = some (vI 2) := H2.cell 2; have d15 : w2.cell? ⟨g, 15, none⟩ = some (vI 2) := H2.cell 15; replace H := H2; clear H2 g2; simp only [Act.put, List.setIfInBounds_toArray, List.set_cons_succ, List.set_cons_zero]))
  go_ret
  exact ⟨_, [nilX ⟨c0, p0, 2, a0, v0, 0, false, false, 0, t0, [], [], []⟩, nilX ⟨c1, p1, 2, a1, v1, 0, true, false, 0, t1, [], [], []⟩], rfl, loc_evO H rfl rfl (by decide) (deps_nil _ _ (by simp)), rfl, nil_deps (by simp) _ _, G⟩
set_option maxHeartbeats 4000000 in
theorem btw_ww6 {how : Int} (hk : pickV how 7 = 6) (hh : I64 how) (c0 p0 a0 v0 t0 c1 p1 a1 v1 t1 : Int) {g : Nat} {w : World} (H : LocE g (evF [nilX (wE c0 p0 a0 v0 t0), nilX (wE c1 p1 a1 v1 t1)]).toArray w) : Calls Tryz.prog 23 #[vI how, .slice (some ⟨g, 0, none⟩) 2 2] w (BtwP 6 g (wE c0 p0 a0 v0 t0) (wE c1 p1 a1 v1 t1) w) := by
  have hp : ∀ w, Calls Tryz.prog 22 #[vI how, vI 7] w fun e w' => e = .returned (vI 6) ∧ w' = w := fun w => by
    have := pick_c how 7 (by decide) (by decide) hh w
    rw [hk] at this
    exact this
  have d0 : w.cell? ⟨g, 0, none⟩ = some (vI c0) := H.cell 0
  have d2 : w.cell? ⟨g, 2, none⟩ = some (vI 2) := H.cell 2
  have d15 : w.cell? ⟨g, 15, none⟩ = some (vI 2) := H.cell 15
  replace H : LocE g #[vI c0, vI p0, vI 2, vU a0, vU v0, vI 0, .bool false, .bool false, vI 0, vI t0, nilS, nilS, nilS, vI c1, vI p1, vI 2, vU a1, vU v1, vI 0, .bool false, .bool false, vI 0, vI t1, nilS, nilS, nilS] w := H
  go_enter Tryz.func23, Tryz.ntmps23
  have hg : g ≤ w.heap.size := Nat.le_of_lt H.lt
  have G := Below.refl g w
  go_wp2_with (first | (go_at_call 22; with_reducible refine (hp _).mono ?_; rintro e w ⟨rfl, rfl⟩; dsimp only) | (refine wpList_cell (j := 6) (cs := #[vI c0, vI p0, vI 2, vU a0, vU v0, vI 0, .bool false, .bool false, vI 0, vI t0, nilS, nilS, nilS, vI c1, vI p1, vI 2, vU a1, vU v1, vI 0, .bool false, .bool false, vI 0, vI t1, nilS, nilS, nilS]) rfl 4 _ _ rfl rfl H (.bool true) rfl inf4 rfl rfl (by show 6 < 26; decide) ?_; intro w2 H2 g2; replace H2 : LocE g #[vI c0, vI p0, vI 2, vU a0, vU v0, vI 0, .bool true, .bool false, vI 0, vI t0, nilS, nilS, nilS, vI c1, vI p1, vI 2, vU a1, vU v1, vI 0, .bool false, .bool false, vI 0, vI t1, nilS, nilS, nilS] w2 := H2; replace G := G.trans (g2.below (Nat.le_trans hg G.size) (fun k hk => by rw [hk]; exact Nat.le_refl _)); have d2 : w2.cell? ⟨g, 2, none⟩ = some (vI 2) := H2.cell 2; have d15 : w2.cell? ⟨g, 15, none⟩ = some (vI 2) := H2.cell 15; replace H := H2; clear H2 g2; simp only [Act.put, List.setIfInBounds_toArray, List.set_cons_succ, List.set_cons_zero]) | (refine wpList_cell (j := 19) (cs := #[vI c0, vI p0, vI 2, vU a0, vU v0, vI 0, .bool true, .bool false, vI 0, vI t0, nilS, nilS, nilS, vI c1, vI p1, vI 2, vU a1, vU v1, vI 0, .bool false, .bool false, vI 0, vI t1, nilS, nilS, nilS]) rfl 4 _ _ rfl rfl H (.bool true) rfl inf4 rfl rfl (by show 19 < 26; decide) ?_; intro w2 H2 g2; replace H2 : LocE g #[vI c0, vI p0, vI 2, vU a0, vU v0, vI 0, .bool true, .bool false, vI 0, vI t0, nilS, nilS, nilS, vI c1, vI p1, vI 2, vU a1, vU v1, vI 0, .bool true, .bool false, vI 0, vI t1, nilS, nilS, nilS] w2 := H2; replace G := G.trans (g2.below (Nat.le_trans hg G.size) (fun k hk => by rw [hk]; exact Nat.le_refl _)); have d2 : w2.cell? ⟨g, 2, none⟩ = some (vI 2) := H2.cell 2; have d15 : w2.cell? ⟨g, 15, none⟩ = some (vI 2) := H2.cell 15; replace H := H2; clear H2 g2; simp only [Act.put, List.setIfInBounds_toArray, List.set_cons_succ, List.set_cons_zero]))
  go_ret
  exact ⟨_, [nilX ⟨c0, p0, 2, a0, v0, 0, true, false, 0, t0, [], [], []⟩, nilX ⟨c1, p1, 2, a1, v1, 0, true, false, 0, t1, [], [], []⟩], rfl, loc_evO H rfl rfl (by decide) (deps_nil _ _ (by simp)), rfl, nil_deps (by simp) _ _, G⟩
set_option maxHeartbeats 4000000 in
theorem btw_rr0 {how : Int} (hk : pickV how 7 = 0) (hh : I64 how) (c0 p0 a0 v0 t0 c1 p1 a1 v1 t1 : Int) {g : Nat} {w : World} (H : LocE g (evF [nilX (rE c0 p0 a0 v0 t0), nilX (rE c1 p1 a1 v1 t1)]).toArray w) : Calls Tryz.prog 23 #[vI how, .slice (some ⟨g, 0, none⟩) 2 2] w (BtwP 0 g (rE c0 p0 a0 v0 t0) (rE c1 p1 a1 v1 t1) w) := by
  have hp : ∀ w, Calls Tryz.prog 22 #[vI how, vI 7] w fun e w' => e = .returned (vI 0) ∧ w' = w := fun w => by
    have := pick_c how 7 (by decide) (by decide) hh w
    rw [hk] at this
    exact this
  have d0 : w.cell? ⟨g, 0, none⟩ = some (vI c0) := H.cell 0
  have d2 : w.cell? ⟨g, 2, none⟩ = some (vI 1) := H.cell 2
  have d15 : w.cell? ⟨g, 15, none⟩ = some (vI 1) := H.cell 15
  replace H : LocE g #[vI c0, vI p0, vI 1, vU a0, vU v0, vI 0, .bool false, .bool false, vI 0, vI t0, nilS, nilS, nilS, vI c1, vI p1, vI 1, vU a1, vU v1, vI 0, .bool false, .bool false, vI 0, vI t1, nilS, nilS, nilS] w := H
  go_enter Tryz.func23, Tryz.ntmps23
  go_wp2_with (first | (go_at_call 22; with_reducible refine (hp _).mono ?_; rintro e w ⟨rfl, rfl⟩; dsimp only))
  go_ret
  exact ⟨_, [nilX (rE c0 p0 a0 v0 t0), nilX (rE c1 p1 a1 v1 t1)], rfl, loc_evO H rfl rfl (by decide) (deps_nil _ _ (by simp)), rfl, nil_deps (by simp) _ _, Below.refl _ _⟩
set_option maxHeartbeats 4000000 in
theorem btw_rr1 {how : Int} (hk : pickV how 7 = 1) (hh : I64 how) (c0 p0 a0 v0 t0 c1 p1 a1 v1 t1 : Int) {g : Nat} {w : World} (H : LocE g (evF [nilX (rE c0 p0 a0 v0 t0), nilX (rE c1 p1 a1 v1 t1)]).toArray w) : Calls Tryz.prog 23 #[vI how, .slice (some ⟨g, 0, none⟩) 2 2] w (BtwP 1 g (rE c0 p0 a0 v0 t0) (rE c1 p1 a1 v1 t1) w) := by
  have hp : ∀ w, Calls Tryz.prog 22 #[vI how, vI 7] w fun e w' => e = .returned (vI 1) ∧ w' = w := fun w => by
    have := pick_c how 7 (by decide) (by decide) hh w
    rw [hk] at this
    exact this
  have d0 : w.cell? ⟨g, 0, none⟩ = some (vI c0) := H.cell 0
  have d2 : w.cell? ⟨g, 2, none⟩ = some (vI 1) := H.cell 2
  have d15 : w.cell? ⟨g, 15, none⟩ = some (vI 1) := H.cell 15
  replace H : LocE g #[vI c0, vI p0, vI 1, vU a0, vU v0, vI 0, .bool false, .bool false, vI 0, vI t0, nilS, nilS, nilS, vI c1, vI p1, vI 1, vU a1, vU v1, vI 0, .bool false, .bool false, vI 0, vI t1, nilS, nilS, nilS] w := H
  go_enter Tryz.func23, Tryz.ntmps23
  have hg : g ≤ w.heap.size := Nat.le_of_lt H.lt
  have G := Below.refl w.heap.size w
  have hf := fE_c c0 5 w
  go_upto_region 6 with (first | (go_at_call 22; with_reducible refine (hp _).mono ?_; rintro e w ⟨rfl, rfl⟩; dsimp only) | (go_at_call 27; with_reducible refine hf.mono ?_; clear hf; rintro e u1 ⟨rfl, g1⟩; replace G := G.trans (g1.mono G.size); clear g1; dsimp only) | (with_reducible refine wpList_new36 rfl rfl ?_; intro u2 X g1 z; have q := G.size; replace G := G.trans (g1.mono G.size); clear g1 z; simp only [Act.put, List.setIfInBounds_toArray, List.set_cons_succ, List.set_cons_zero]) | (with_reducible refine wpList_store36 (e := fE c0 5 15) (s0 := nilS) (s1 := nilS) (s2 := nilS) rfl _ _ rfl rfl X rfl rfl (evA_nil _) ?_; intro u3 X g1 z; replace G := G.trans (g1.below G.size (fun k hk => by rw [hk]; exact q)); clear g1 z; simp only [Act.put, List.setIfInBounds_toArray, List.set_cons_succ, List.set_cons_zero]))
  generalize u1.heap.size = tq at X q ⊢
  have HG := H.lt
  replace H := H.grow G
  have X4 := X.grow (below_alloc u3 (Obj.cells #[vI 0, vI 13, vI 10, vI 15] 3))
  have H4 := H.grow (below_alloc u3 (Obj.cells #[vI 0, vI 13, vI 10, vI 15] 3))
  go_upto_region 7 with (first | (go_at_call 22; with_reducible refine (hp _).mono ?_; rintro e w ⟨rfl, rfl⟩; dsimp only) | (refine wpList_cell (j := 8) rfl 3 _ _ rfl rfl X4 (vI 13) rfl inf3 rfl rfl (by show 8 < 13; decide) ?_; intro u4 X5 g5; simp only [Act.put, List.setIfInBounds_toArray, List.set_cons_succ, List.set_cons_zero]))
  replace X5 : LocE tq (evA (fE c0 5 13) nilS nilS nilS) u4 := X5
  have hql : g < tq := Nat.lt_of_lt_of_le HG q
  have H5 : LocE g #[vI c0, vI p0, vI 1, vU a0, vU v0, vI 0, .bool false, .bool false, vI 0, vI t0, nilS, nilS, nilS, vI c1, vI p1, vI 1, vU a1, vU v1, vI 0, .bool false, .bool false, vI 0, vI t1, nilS, nilS, nilS] u4 := by
    have hb := g5.block g H4.lt (fun h => by omega)
    unfold LocE
    rw [hb]
    exact H4
  have A5 : EvO u4 g (.slice (some ⟨g, 0, none⟩) 2 2) [nilX (rE c0 p0 a0 v0 t0), nilX (rE c1 p1 a1 v1 t1)] := loc_evO H5 rfl rfl (by decide) (deps_nil _ _ (by simp))
  have hu3 := G.size
  have G5 : Below g w u4 := (G.mono hg).trans (((below_alloc u3 _).mono (Nat.le_trans hg G.size)).trans (g5.below (by simp; omega) (fun k hk => by rw [hk]; omega)))
  have R5 : u4.ownsRow g 36 13 (.slice (some ⟨g, 0, none⟩) 2 2) 2 (evF [nilX (rE c0 p0 a0 v0 t0), nilX (rE c1 p1 a1 v1 t1)]) := A5.row
  have hsz5 : g ≤ u4.heap.size := Nat.le_of_lt H5.lt
  go_wp2_with (first | (with_reducible refine wpList_loadL rfl _ rfl rfl X5 ?_; simp only [Act.put, List.setIfInBounds_toArray, List.set_cons_succ, List.set_cons_zero]) | (with_reducible refine wpList_app1 (t := nilX (fE c0 5 13)) rfl _ _ rfl rfl rfl R5 (evA_nil _) (by decide) hsz5 ?_; intro v' w6 R6 g6; simp only [Act.put, List.setIfInBounds_toArray, List.set_cons_succ, List.set_cons_zero]))
  go_ret
  exact ⟨_, [nilX (rE c0 p0 a0 v0 t0), nilX (rE c1 p1 a1 v1 t1), nilX (fE c0 5 13)], rfl, ⟨R6, deps_nil _ _ (by simp)⟩, rfl, nil_deps (by simp) _ _, G5.trans g6⟩
set_option maxHeartbeats 4000000 in
theorem btw_rr2 {how : Int} (hk : pickV how 7 = 2) (hh : I64 how) (c0 p0 a0 v0 t0 c1 p1 a1 v1 t1 : Int) {g : Nat} {w : World} (H : LocE g (evF [nilX (rE c0 p0 a0 v0 t0), nilX (rE c1 p1 a1 v1 t1)]).toArray w) : Calls Tryz.prog 23 #[vI how, .slice (some ⟨g, 0, none⟩) 2 2] w (BtwP 2 g (rE c0 p0 a0 v0 t0) (rE c1 p1 a1 v1 t1) w) := by
  have hp : ∀ w, Calls Tryz.prog 22 #[vI how, vI 7] w fun e w' => e = .returned (vI 2) ∧ w' = w := fun w => by
    have := pick_c how 7 (by decide) (by decide) hh w
    rw [hk] at this
    exact this
  have d0 : w.cell? ⟨g, 0, none⟩ = some (vI c0) := H.cell 0
  have d2 : w.cell? ⟨g, 2, none⟩ = some (vI 1) := H.cell 2
  have d15 : w.cell? ⟨g, 15, none⟩ = some (vI 1) := H.cell 15
  replace H : LocE g #[vI c0, vI p0, vI 1, vU a0, vU v0, vI 0, .bool false, .bool false, vI 0, vI t0, nilS, nilS, nilS, vI c1, vI p1, vI 1, vU a1, vU v1, vI 0, .bool false, .bool false, vI 0, vI t1, nilS, nilS, nilS] w := H
  go_enter Tryz.func23, Tryz.ntmps23
  have hg : g ≤ w.heap.size := Nat.le_of_lt H.lt
  have G := Below.refl w.heap.size w
  have hf := fE_c c0 5 w
  go_upto_region 6 with (first | (go_at_call 22; with_reducible refine (hp _).mono ?_; rintro e w ⟨rfl, rfl⟩; dsimp only) | (go_at_call 27; with_reducible refine hf.mono ?_; clear hf; rintro e u1 ⟨rfl, g1⟩; replace G := G.trans (g1.mono G.size); clear g1; dsimp only) | (with_reducible refine wpList_new36 rfl rfl ?_; intro u2 X g1 z; have q := G.size; replace G := G.trans (g1.mono G.size); clear g1 z; simp only [Act.put, List.setIfInBounds_toArray, List.set_cons_succ, List.set_cons_zero]) | (with_reducible refine wpList_store36 (e := fE c0 5 15) (s0 := nilS) (s1 := nilS) (s2 := nilS) rfl _ _ rfl rfl X rfl rfl (evA_nil _) ?_; intro u3 X g1 z; replace G := G.trans (g1.below G.size (fun k hk => by rw [hk]; exact q)); clear g1 z; simp only [Act.put, List.setIfInBounds_toArray, List.set_cons_succ, List.set_cons_zero]))
  generalize u1.heap.size = tq at X q ⊢
  have HG := H.lt
  replace H := H.grow G
  have X4 := X.grow (below_alloc u3 (Obj.cells #[vI 0, vI 13, vI 10, vI 15] 3))
  have H4 := H.grow (below_alloc u3 (Obj.cells #[vI 0, vI 13, vI 10, vI 15] 3))
  go_upto_region 7 with (first | (go_at_call 22; with_reducible refine (hp _).mono ?_; rintro e w ⟨rfl, rfl⟩; dsimp only) | (refine wpList_cell (j := 8) rfl 3 _ _ rfl rfl X4 (vI 10) rfl inf3 rfl rfl (by show 8 < 13; decide) ?_; intro u4 X5 g5; simp only [Act.put, List.setIfInBounds_toArray, List.set_cons_succ, List.set_cons_zero]))
  replace X5 : LocE tq (evA (fE c0 5 10) nilS nilS nilS) u4 := X5
  have hql : g < tq := Nat.lt_of_lt_of_le HG q
  have H5 : LocE g #[vI c0, vI p0, vI 1, vU a0, vU v0, vI 0, .bool false, .bool false, vI 0, vI t0, nilS, nilS, nilS, vI c1, vI p1, vI 1, vU a1, vU v1, vI 0, .bool false, .bool false, vI 0, vI t1, nilS, nilS, nilS] u4 := by
    have hb := g5.block g H4.lt (fun h => by omega)
    unfold LocE
    rw [hb]
    exact H4
  have A5 : EvO u4 g (.slice (some ⟨g, 0, none⟩) 2 2) [nilX (rE c0 p0 a0 v0 t0), nilX (rE c1 p1 a1 v1 t1)] := loc_evO H5 rfl rfl (by decide) (deps_nil _ _ (by simp))
  have hu3 := G.size
  have G5 : Below g w u4 := (G.mono hg).trans (((below_alloc u3 _).mono (Nat.le_trans hg G.size)).trans (g5.below (by simp; omega) (fun k hk => by rw [hk]; omega)))
  have R5 : u4.ownsRow g 36 13 (.slice (some ⟨g, 0, none⟩) 2 2) 2 (evF [nilX (rE c0 p0 a0 v0 t0), nilX (rE c1 p1 a1 v1 t1)]) := A5.row
  have hsz5 : g ≤ u4.heap.size := Nat.le_of_lt H5.lt
  go_wp2_with (first | (with_reducible refine wpList_loadL rfl _ rfl rfl X5 ?_; simp only [Act.put, List.setIfInBounds_toArray, List.set_cons_succ, List.set_cons_zero]) | (with_reducible refine wpList_app1 (t := nilX (fE c0 5 10)) rfl _ _ rfl rfl rfl R5 (evA_nil _) (by decide) hsz5 ?_; intro v' w6 R6 g6; simp only [Act.put, List.setIfInBounds_toArray, List.set_cons_succ, List.set_cons_zero]))
  go_ret
  exact ⟨_, [nilX (rE c0 p0 a0 v0 t0), nilX (rE c1 p1 a1 v1 t1), nilX (fE c0 5 10)], rfl, ⟨R6, deps_nil _ _ (by simp)⟩, rfl, nil_deps (by simp) _ _, G5.trans g6⟩
set_option maxHeartbeats 4000000 in
theorem btw_rr3 {how : Int} (hk : pickV how 7 = 3) (hh : I64 how) (c0 p0 a0 v0 t0 c1 p1 a1 v1 t1 : Int) {g : Nat} {w : World} (H : LocE g (evF [nilX (rE c0 p0 a0 v0 t0), nilX (rE c1 p1 a1 v1 t1)]).toArray w) : Calls Tryz.prog 23 #[vI how, .slice (some ⟨g, 0, none⟩) 2 2] w (BtwP 3 g (rE c0 p0 a0 v0 t0) (rE c1 p1 a1 v1 t1) w) := by
  have hp : ∀ w, Calls Tryz.prog 22 #[vI how, vI 7] w fun e w' => e = .returned (vI 3) ∧ w' = w := fun w => by
    have := pick_c how 7 (by decide) (by decide) hh w
    rw [hk] at this
    exact this
  have d0 : w.cell? ⟨g, 0, none⟩ = some (vI c0) := H.cell 0
  have d2 : w.cell? ⟨g, 2, none⟩ = some (vI 1) := H.cell 2
  have d15 : w.cell? ⟨g, 15, none⟩ = some (vI 1) := H.cell 15
  replace H : LocE g #[vI c0, vI p0, vI 1, vU a0, vU v0, vI 0, .bool false, .bool false, vI 0, vI t0, nilS, nilS, nilS, vI c1, vI p1, vI 1, vU a1, vU v1, vI 0, .bool false, .bool false, vI 0, vI t1, nilS, nilS, nilS] w := H
  go_enter Tryz.func23, Tryz.ntmps23
  have hg : g ≤ w.heap.size := Nat.le_of_lt H.lt
  have G := Below.refl w.heap.size w
  have hf := fE_c c0 5 w
  go_upto_region 6 with (first | (go_at_call 22; with_reducible refine (hp _).mono ?_; rintro e w ⟨rfl, rfl⟩; dsimp only) | (go_at_call 27; with_reducible refine hf.mono ?_; clear hf; rintro e u1 ⟨rfl, g1⟩; replace G := G.trans (g1.mono G.size); clear g1; dsimp only) | (with_reducible refine wpList_new36 rfl rfl ?_; intro u2 X g1 z; have q := G.size; replace G := G.trans (g1.mono G.size); clear g1 z; simp only [Act.put, List.setIfInBounds_toArray, List.set_cons_succ, List.set_cons_zero]) | (with_reducible refine wpList_store36 (e := fE c0 5 15) (s0 := nilS) (s1 := nilS) (s2 := nilS) rfl _ _ rfl rfl X rfl rfl (evA_nil _) ?_; intro u3 X g1 z; replace G := G.trans (g1.below G.size (fun k hk => by rw [hk]; exact q)); clear g1 z; simp only [Act.put, List.setIfInBounds_toArray, List.set_cons_succ, List.set_cons_zero]))
  generalize u1.heap.size = tq at X q ⊢
  have HG := H.lt
  replace H := H.grow G
  have X4 := X.grow (below_alloc u3 (Obj.cells #[vI 0, vI 13, vI 10, vI 15] 3))
  have H4 := H.grow (below_alloc u3 (Obj.cells #[vI 0, vI 13, vI 10, vI 15] 3))
  go_upto_region 7 with (first | (go_at_call 22; with_reducible refine (hp _).mono ?_; rintro e w ⟨rfl, rfl⟩; dsimp only) | (refine wpList_cell (j := 8) rfl 3 _ _ rfl rfl X4 (vI 15) rfl inf3 rfl rfl (by show 8 < 13; decide) ?_; intro u4 X5 g5; simp only [Act.put, List.setIfInBounds_toArray, List.set_cons_succ, List.set_cons_zero]))
  replace X5 : LocE tq (evA (fE c0 5 15) nilS nilS nilS) u4 := X5
  have hql : g < tq := Nat.lt_of_lt_of_le HG q
  have H5 : LocE g #[vI c0, vI p0, vI 1, vU a0, vU v0, vI 0, .bool false, .bool false, vI 0, vI t0, nilS, nilS, nilS, vI c1, vI p1, vI 1, vU a1, vU v1, vI 0, .bool false, .bool false, vI 0, vI t1, nilS, nilS, nilS] u4 := by
    have hb := g5.block g H4.lt (fun h => by omega)
    unfold LocE
    rw [hb]
    exact H4
  have A5 : EvO u4 g (.slice (some ⟨g, 0, none⟩) 2 2) [nilX (rE c0 p0 a0 v0 t0), nilX (rE c1 p1 a1 v1 t1)] := loc_evO H5 rfl rfl (by decide) (deps_nil _ _ (by simp))
  have hu3 := G.size
  have G5 : Below g w u4 := (G.mono hg).trans (((below_alloc u3 _).mono (Nat.le_trans hg G.size)).trans (g5.below (by simp; omega) (fun k hk => by rw [hk]; omega)))
  have R5 : u4.ownsRow g 36 13 (.slice (some ⟨g, 0, none⟩) 2 2) 2 (evF [nilX (rE c0 p0 a0 v0 t0), nilX (rE c1 p1 a1 v1 t1)]) := A5.row
  have hsz5 : g ≤ u4.heap.size := Nat.le_of_lt H5.lt
  go_wp2_with (first | (with_reducible refine wpList_loadL rfl _ rfl rfl X5 ?_; simp only [Act.put, List.setIfInBounds_toArray, List.set_cons_succ, List.set_cons_zero]) | (with_reducible refine wpList_app1 (t := nilX (fE c0 5 15)) rfl _ _ rfl rfl rfl R5 (evA_nil _) (by decide) hsz5 ?_; intro v' w6 R6 g6; simp only [Act.put, List.setIfInBounds_toArray, List.set_cons_succ, List.set_cons_zero]))
  go_ret
  exact ⟨_, [nilX (rE c0 p0 a0 v0 t0), nilX (rE c1 p1 a1 v1 t1), nilX (fE c0 5 15)], rfl, ⟨R6, deps_nil _ _ (by simp)⟩, rfl, nil_deps (by simp) _ _, G5.trans g6⟩
set_option maxHeartbeats 4000000 in
theorem btw_rr4 {how : Int} (hk : pickV how 7 = 4) (hh : I64 how) (c0 p0 a0 v0 t0 c1 p1 a1 v1 t1 : Int) {g : Nat} {w : World} (H : LocE g (evF [nilX (rE c0 p0 a0 v0 t0), nilX (rE c1 p1 a1 v1 t1)]).toArray w) : Calls Tryz.prog 23 #[vI how, .slice (some ⟨g, 0, none⟩) 2 2] w (BtwP 4 g (rE c0 p0 a0 v0 t0) (rE c1 p1 a1 v1 t1) w) := by
  have hp : ∀ w, Calls Tryz.prog 22 #[vI how, vI 7] w fun e w' => e = .returned (vI 4) ∧ w' = w := fun w => by
    have := pick_c how 7 (by decide) (by decide) hh w
    rw [hk] at this
    exact this
  have d0 : w.cell? ⟨g, 0, none⟩ = some (vI c0) := H.cell 0
  have d2 : w.cell? ⟨g, 2, none⟩ = some (vI 1) := H.cell 2
  have d15 : w.cell? ⟨g, 15, none⟩ = some (vI 1) := H.cell 15
  replace H : LocE g #[vI c0, vI p0, vI 1, vU a0, vU v0, vI 0, .bool false, .bool false, vI 0, vI t0, nilS, nilS, nilS, vI c1, vI p1, vI 1, vU a1, vU v1, vI 0, .bool false, .bool false, vI 0, vI t1, nilS, nilS, nilS] w := H
  go_enter Tryz.func23, Tryz.ntmps23
  have hg : g ≤ w.heap.size := Nat.le_of_lt H.lt
  have G := below_alloc w (Obj.cells #[vI 0] 3)
  have H1 : LocE g #[vI c0, vI p0, vI 1, vU a0, vU v0, vI 0, .bool false, .bool false, vI 0, vI t0, nilS, nilS, nilS, vI c1, vI p1, vI 1, vU a1, vU v1, vI 0, .bool false, .bool false, vI 0, vI t1, nilS, nilS, nilS] (w.alloc (Obj.cells #[vI 0] 3)) := H.grow G
  have hq : (w.alloc (Obj.cells #[vI 0] 3)).cell? ⟨w.heap.size, 0, none⟩ = some (vI 0) := by rw [cell_of_row _ _ _ _ _ _ (World.alloc_heap_new w _)]; rfl
  have hlt := H.lt
  go_wp2_with (first | (go_at_call 22; with_reducible refine (hp _).mono ?_; rintro e w ⟨rfl, rfl⟩; dsimp only) | (refine wpList_cell (j := 23) rfl 34 _ _ rfl rfl H1 (.slice (some ⟨w.heap.size, 0, none⟩) 1 1) rfl inf34 rfl rfl (by show 23 < 26; decide) ?_; intro w2 H2 g2; simp only [Act.put, List.setIfInBounds_toArray, List.set_cons_succ, List.set_cons_zero]))
  go_ret
  have hq2 : w2.cell? ⟨w.heap.size, 0, none⟩ = some (vI 0) := by
    rw [← hq]
    have hb := g2.block w.heap.size (by simp) (fun h => by omega)
    simp only [World.cell?, hb]
  have hsz : w.heap.size < w2.heap.size := Nat.lt_of_lt_of_le (by simp) g2.size
  refine ⟨_, [nilX (rE c0 p0 a0 v0 t0), ⟨⟨c1, p1, 1, a1, v1, 0, false, false, 0, t1, [0], [], []⟩, .slice (some ⟨w.heap.size, 0, none⟩) 1 1, nilS, nilS⟩], rfl, loc_evO H2 rfl rfl (by decide) ⟨?_⟩, rfl, ?_, (G.mono hg).trans (g2.below (by simp; omega) (fun k hk => by rw [hk]; exact Nat.le_refl _))⟩
  · intro t ht
    rcases List.mem_cons.1 ht with rfl | ht
    · exact ⟨RawI.nil _, RawI.nil _, RawI.nil _⟩
    · obtain rfl := List.mem_singleton.1 ht
      refine ⟨⟨⟨_, _, rfl⟩, (by show 1 ≤ maxLen; decide), fun _ => ⟨_, _, rfl, fun i x hx => ?_⟩⟩, RawI.nil _, RawI.nil _⟩
      match i, hx with
      | 0, hx => cases hx; exact ⟨hsz, hq2⟩
  · intro t ht bb hbb
    rcases List.mem_cons.1 ht with rfl | ht
    · rcases hbb with h | h | h <;> cases h
    · obtain rfl := List.mem_singleton.1 ht
      rcases hbb with h | h | h
      · cases h; exact ⟨Nat.le_refl _, fun h => by have h' : g = w.heap.size := Option.some.inj h; omega⟩
      · cases h
      · cases h
set_option maxHeartbeats 4000000 in
theorem btw_rr5 {how : Int} (hk : pickV how 7 = 5) (hh : I64 how) (c0 p0 a0 v0 t0 c1 p1 a1 v1 t1 : Int) {g : Nat} {w : World} (H : LocE g (evF [nilX (rE c0 p0 a0 v0 t0), nilX (rE c1 p1 a1 v1 t1)]).toArray w) : Calls Tryz.prog 23 #[vI how, .slice (some ⟨g, 0, none⟩) 2 2] w (BtwP 5 g (rE c0 p0 a0 v0 t0) (rE c1 p1 a1 v1 t1) w) := by
  have hp : ∀ w, Calls Tryz.prog 22 #[vI how, vI 7] w fun e w' => e = .returned (vI 5) ∧ w' = w := fun w => by
    have := pick_c how 7 (by decide) (by decide) hh w
    rw [hk] at this
    exact this
  have d0 : w.cell? ⟨g, 0, none⟩ = some (vI c0) := H.cell 0
  have d2 : w.cell? ⟨g, 2, none⟩ = some (vI 1) := H.cell 2
  have d15 : w.cell? ⟨g, 15, none⟩ = some (vI 1) := H.cell 15
  replace H : LocE g #[vI c0, vI p0, vI 1, vU a0, vU v0, vI 0, .bool false, .bool false, vI 0, vI t0, nilS, nilS, nilS, vI c1, vI p1, vI 1, vU a1, vU v1, vI 0, .bool false, .bool false, vI 0, vI t1, nilS, nilS, nilS] w := H
  go_enter Tryz.func23, Tryz.ntmps23
  have hg : g ≤ w.heap.size := Nat.le_of_lt H.lt
  have G := Below.refl g w
  go_wp2_with (first | (go_at_call 22; with_reducible refine (hp _).mono ?_; rintro e w ⟨rfl, rfl⟩; dsimp only) | (refine wpList_cell (j := 5) (cs := #[vI c0, vI p0, vI 1, vU a0, vU v0, vI 0, .bool false, .bool false, vI 0, vI t0, nilS, nilS, nilS, vI c1, vI p1, vI 1, vU a1, vU v1, vI 0, .bool false, .bool false, vI 0, vI t1, nilS, nilS, nilS]) rfl 3 _ _ rfl rfl H (vI 1) rfl inf3 rfl rfl (by show 5 < 26; decide) ?_; intro w2 H2 g2; replace H2 : LocE g #[vI c0, vI p0, vI 1, vU a0, vU v0, vI 1, .bool false, .bool false, vI 0, vI t0, nilS, nilS, nilS, vI c1, vI p1, vI 1, vU a1, vU v1, vI 0, .bool false, .bool false, vI 0, vI t1, nilS, nilS, nilS] w2 := H2; replace G := G.trans (g2.below (Nat.le_trans hg G.size) (fun k hk => by rw [hk]; exact Nat.le_refl _)); have d2 : w2.cell? ⟨g, 2, none⟩ = some (vI 1) := H2.cell 2; have d15 : w2.cell? ⟨g, 15, none⟩ = some (vI 1) := H2.cell 15; replace H := H2; clear H2 g2; simp only [Act.put, List.setIfInBounds_toArray, List.set_cons_succ, List.set_cons_zero]))
  go_ret
  exact ⟨_, [nilX ⟨c0, p0, 1, a0, v0, 1, false, false, 0, t0, [], [], []⟩, nilX ⟨c1, p1, 1, a1, v1, 0, false, false, 0, t1, [], [], []⟩], rfl, loc_evO H rfl rfl (by decide) (deps_nil _ _ (by simp)), rfl, nil_deps (by simp) _ _, G⟩
set_option maxHeartbeats 4000000 in
theorem btw_rr6 {how : Int} (hk : pickV how 7 = 6) (hh : I64 how) (c0 p0 a0 v0 t0 c1 p1 a1 v1 t1 : Int) {g : Nat} {w : World} (H : LocE g (evF [nilX (rE c0 p0 a0 v0 t0), nilX (rE c1 p1 a1 v1 t1)]).toArray w) : Calls Tryz.prog 23 #[vI how, .slice (some ⟨g, 0, none⟩) 2 2] w (BtwP 6 g (rE c0 p0 a0 v0 t0) (rE c1 p1 a1 v1 t1) w) := by
  have hp : ∀ w, Calls Tryz.prog 22 #[vI how, vI 7] w fun e w' => e = .returned (vI 6) ∧ w' = w := fun w => by
    have := pick_c how 7 (by decide) (by decide) hh w
    rw [hk] at this
    exact this
  have d0 : w.cell? ⟨g, 0, none⟩ = some (vI c0) := H.cell 0
  have d2 : w.cell? ⟨g, 2, none⟩ = some (vI 1) := H.cell 2
  have d15 : w.cell? ⟨g, 15, none⟩ = some (vI 1) := H.cell 15
  replace H : LocE g #[vI c0, vI p0, vI 1, vU a0, vU v0, vI 0, .bool false, .bool false, vI 0, vI t0, nilS, nilS, nilS, vI c1, vI p1, vI 1, vU a1, vU v1, vI 0, .bool false, .bool false, vI 0, vI t1, nilS, nilS, nilS] w := H
  go_enter Tryz.func23, Tryz.ntmps23
  have hg : g ≤ w.heap.size := Nat.le_of_lt H.lt
  have G := Below.refl g w
  go_wp2_with (first | (go_at_call 22; with_reducible refine (hp _).mono ?_; rintro e w ⟨rfl, rfl⟩; dsimp only) | (refine wpList_cell (j := 6) (cs := #[vI c0, vI p0, vI 1, vU a0, vU v0, vI 0, .bool false, .bool false, vI 0, vI t0, nilS, nilS, nilS, vI c1, vI p1, vI 1, vU a1, vU v1, vI 0, .bool false, .bool false, vI 0, vI t1, nilS, nilS, nilS]) rfl 4 _ _ rfl rfl H (.bool false) rfl inf4 rfl rfl (by show 6 < 26; decide) ?_; intro w2 H2 g2; replace H2 : LocE g #[vI c0, vI p0, vI 1, vU a0, vU v0, vI 0, .bool false, .bool false, vI 0, vI t0, nilS, nilS, nilS, vI c1, vI p1, vI 1, vU a1, vU v1, vI 0, .bool false, .bool false, vI 0, vI t1, nilS, nilS, nilS] w2 := H2; replace G := G.trans (g2.below (Nat.le_trans hg G.size) (fun k hk => by rw [hk]; exact Nat.le_refl _)); have d2 : w2.cell? ⟨g, 2, none⟩ = some (vI 1) := H2.cell 2; have d15 : w2.cell? ⟨g, 15, none⟩ = some (vI 1) := H2.cell 15; replace H := H2; clear H2 g2; simp only [Act.put, List.setIfInBounds_toArray, List.set_cons_succ, List.set_cons_zero]) | (refine wpList_cell (j := 19) (cs := #[vI c0, vI p0, vI 1, vU a0, vU v0, vI 0, .bool false, .bool false, vI 0, vI t0, nilS, nilS, nilS, vI c1, vI p1, vI 1, vU a1, vU v1, vI 0, .bool false, .bool false, vI 0, vI t1, nilS, nilS, nilS]) rfl 4 _ _ rfl rfl H (.bool false) rfl inf4 rfl rfl (by show 19 < 26; decide) ?_; intro w2 H2 g2; replace H2 : LocE g #[vI c0, vI p0, vI 1, vU a0, vU v0, vI 0, .bool false, .bool false, vI 0, vI t0, nilS, nilS, nilS, vI c1, vI p1, vI 1, vU a1, vU v1, vI 0, .bool false, .bool false, vI 0, vI t1, nilS, nilS, nilS] w2 := H2; replace G := G.trans (g2.below (Nat.le_trans hg G.size) (fun k hk => by rw [hk]; exact Nat.le_refl _)); have d2 : w2.cell? ⟨g, 2, none⟩ = some (vI 1) := H2.cell 2; have d15 : w2.cell? ⟨g, 15, none⟩ = some (vI 1) := H2.cell 15; replace H := H2; clear H2 g2; simp only [Act.put, List.setIfInBounds_toArray, List.set_cons_succ, List.set_cons_zero]) | (refine wpList_cell (j := 5) (cs := #[vI c0, vI p0, vI 1, vU a0, vU v0, vI 0, .bool false, .bool false, vI 0, vI t0, nilS, nilS, nilS, vI c1, vI p1, vI 1, vU a1, vU v1, vI 0, .bool false, .bool false, vI 0, vI t1, nilS, nilS, nilS]) rfl 3 _ _ rfl rfl H (vI 2) rfl inf3 rfl rfl (by show 5 < 26; decide) ?_; intro w2 H2 g2; replace H2 : LocE g #[vI c0, vI p0, vI 1, vU a0, vU v0, vI 2, .bool false, .bool false, vI 0, vI t0, nilS, nilS, nilS, vI c1, vI p1, vI 1, vU a1, vU v1, vI 0, .bool false, .bool false, vI 0, vI t1, nilS, nilS, nilS] w2 := H2; replace G := G.trans (g2.below (Nat.le_trans hg G.size) (fun k hk => by rw [hk]; exact Nat.le_refl _)); have d2 : w2.cell? ⟨g, 2, none⟩ = some (vI 1) := H2.cell 2; have d15 : w2.cell? ⟨g, 15, none⟩ = some (vI 1) := H2.cell 15; replace H := H2; clear H2 g2; simp only [Act.put, List.setIfInBounds_toArray, List.set_cons_succ, List.set_cons_zero]) | (refine wpList_cell (j := 18) (cs := #[vI c0, vI p0, vI 1, vU a0, vU v0, vI 2, .bool false, .bool false, vI 0, vI t0, nilS, nilS, nilS, vI c1, vI p1, vI 1, vU a1, vU v1, vI 0, .bool false, .bool false, vI 0, vI t1, nilS, nilS, nilS]) rfl 3 _ _ rfl rfl H (vI 2) rfl inf3 rfl rfl (by show 18 < 26; decide) ?_; intro w2 H2 g2; replace H2 : LocE g #[vI c0, vI p0, vI 1, vU a0, vU v0, vI 2, .bool false, .bool false, vI 0, vI t0, nilS, nilS, nilS, vI c1, vI p1, vI 1, vU a1, vU v1, vI 2, .bool false, .bool false, vI 0, vI t1, nilS, nilS, nilS] w2 := H2; replace G := G.trans (g2.below (Nat.le_trans hg G.size) (fun k hk => by rw [hk]; exact Nat.le_refl _)); have d2 : w2.cell? ⟨g, 2, none⟩ = some (vI 1) := H2.cell 2; have d15 : w2.cell? ⟨g, 15, none⟩ = some (vI 1) := H2.cell 15; replace H := H2; clear H2 g2; simp only [Act.put, List.setIfInBounds_toArray, List.set_cons_succ, List.set_cons_zero]))
  go_ret
  exact ⟨_, [nilX ⟨c0, p0, 1, a0, v0, 2, false, false, 0, t0, [], [], []⟩, nilX ⟨c1, p1, 1, a1, v1, 2, false, false, 0, t1, [], [], []⟩], rfl, loc_evO H rfl rfl (by decide) (deps_nil _ _ (by simp)), rfl, nil_deps (by simp) _ _, G⟩
end Go.Proofs.YtnedkielehmneaaGreatDoor
