/- What the console is told: the walk. -/
import Derived.Test.YteklkololojamaaGreatLs
import Derived.Test.YteklkololojamaaGreatLa
namespace Go.Proofs.YteklkololojamaaGreat
open Go.RowKit
set_option linter.unusedVariables false
set_option linter.unusedSimpArgs false
set_option maxRecDepth 8000

theorem say_at {S : Bs} {c v : Nat} (hc : c < 2) (h : S.O.length < 10000) : bwrS 2 S c 150994944 v = { S with O := S.O ++ [((v % 256 : Nat) : Int)] } := by
  rw [bwr_at hc find7]
  show sayS S v = _
  rw [sayS, if_pos h]
/-- What the law holds behind i entries. -/
structure TL (W : World) (b g t i : Nat) (S : Bs) (wr : World) : Prop where
  bus : ∃ Y, BK W.heap.size W b g t 2 S Y wr
  le : S.O.length ≤ i
theorem stq_bt {q b g t n : Nat} {Y : BLay} {S S' : Bs} {o : St5} {w w' : World} (h : StAt q o w) (H : BusAt b g t n S Y w) (hT : BT b g t n Y S' w w') : StAt q o w' := by
  obtain ⟨Z, h1, h2, h3⟩ := hT
  unfold StAt
  rw [h2.block q (lt_of_some h) ?_]
  · exact h
  · rintro (rfl | hf | hf | hf)
    · exact ne_of_type h H.top (by decide) rfl
    · exact H.gic.notFoot h (by decide) (by decide) (by decide) hf
    · exact timNot H.tim h (by decide) (by decide) hf
    · obtain ⟨D, hD⟩ := H.outBlock hf
      exact ne_of_type h hD (by decide) rfl
set_option maxHeartbeats 4000000 in
theorem tells_all (v1 : Value) (ss : List St5) (W : World) (R : Scr W v1 ss) : Calls Tryz.prog 4 #[v1] W fun e w' => e = .returned (.bool true) ∧ Below W.heap.size W w' := by
  obtain ⟨ao, cap, ev⟩ := R.len
  have hnew : ∀ w : World, Calls Tryz.prog 9 #[vI 2] w fun e w' => ∃ b, e = .returned (.tuple #[ptr b 0, vI 0]) ∧ ∃ g t, BW w.heap.size w b g t 2 newS w' := bnew_c 2 (by decide) (by decide)
  go_enter Tryz.func4, Tryz.ntmps4
  go_upto_region 5 with (first | (go_at_call 8; refine (known_c _).mono ?_; rintro e wk ⟨rfl, HK⟩; dsimp only) | (go_at_call 9; refine (hnew wk).mono ?_; rintro e w1 ⟨b, rfl, g, t, Y, K⟩; dsimp only))
  clear hnew
  replace K : BK W.heap.size W b g t 2 newS Y w1 := ⟨K.at_, fun k hk => Nat.le_trans HK.size (K.foot k hk), below_then HK (Nat.le_refl _) K.below, Nat.le_refl _⟩
  clear HK

  rw [ev]
  go_wp2
  have K0 : TL W b g t 0 newS w1 := ⟨⟨Y, K⟩, Nat.le_refl _⟩
  clear K
  go_loopw [6, 7] (fun s6 s7 wr => ∃ i : Nat, i ≤ min ss.length 200 ∧ s7 = .int .i64 i ∧ ∃ S : Bs, s6 = .string (strOfNums S.O) ∧ Hid (TL W b g t i S wr)) (fun _ s7 _ => 200 - (intOf s7).toNat)
  case atStart => exact ⟨0, Nat.zero_le _, rfl, newS, rfl, K0⟩
  case round =>
    clear K0
    obtain ⟨i, hi, rfl, S, rfl, hM⟩ := hrel
    obtain ⟨⟨Y, K⟩, hle⟩ := hM.out
    clear hM
    by_cases hend : (i : Int) < ss.length ∧ (i : Int) < 200
    · obtain ⟨h1, h2⟩ := hend
      have hs := List.getElem?_eq_getElem (l := ss) (i := i) (by omega)
      generalize ss[i] = o at hs
      obtain ⟨ra, cap2, ev', hc⟩ := R.at K.below hs
      rw [ev] at ev'
      cases ev'
      have hwf := R.wf o (List.mem_of_getElem? hs)
      obtain ⟨v, hvv, hv⟩ := nat_of hwf.v
      go_upto_region 10 with (first | (refine wpList_load32 rfl _ rfl _ rfl o hc ?_; simp only [Act.put]) | (refine st32 rfl _ _ rfl wr.heap.size rfl o _ (by kernel_rfl) rfl (heap_alloc_new _ _) ?_; simp only [Act.put]))
      generalize hw3 : World.setRow _ _ _ = w3
      have hq : StAt wr.heap.size o w3 := by rw [← hw3]; exact setRow_heap _ _ _ _ _ _ (heap_alloc_new _ _)
      have hB3 : Below wr.heap.size wr w3 := by rw [← hw3]; exact below_setRow (below_alloc _ _) (Nat.le_refl _)
      replace K := K.grow hB3
      clear hw3 hB3 hc
      generalize wr.heap.size = q at *
      have hv4 : ∀ {w : World}, w.cell? ⟨q, 4, none⟩ = some (vU o.v) → w.cell? ⟨q, 4, none⟩ = some (vU v) := fun {w} h => by rw [h, hvv]
      have z0 := hq.c0
      replace hle := show Hid _ from hle
      replace hvv := show Hid _ from hvv
      replace hi := show Hid _ from hi
      by_cases k2 : o.k = 2
      · have hb2 : (o.k == 2) = true := by simpa using k2
        have hc2 : pickV o.c 2 < 2 := pick_lt (by decide)
        have hpick : ∀ w, Calls Tryz.prog 35 #[vI o.c, vI 2] w fun e w' => e = .returned (vI (pickV o.c 2)) ∧ w' = w := pick_c o.c 2 (by decide) (by decide) hwf.c
        generalize pickV o.c 2 = c2 at *
        have hwr : ∀ {Y : BLay} {w : World}, BusAt b g t 2 S Y w → Calls Tryz.prog 16 #[ptr b 0, vI c2, vU 150994944, vU v] w fun e w' => e = .returned (vI 0) ∧ BT b g t 2 Y (bwrS 2 S (c2 : Nat) 150994944 v) w w' := fun {Y w} H => by
          have := bwrite_c H c2 150994944 v hv
          rw [(brd_at (S := newS) hc2 find7).2] at this
          exact this
        clear k2
        go_upto_region 11 with fail
        clear z0
        have hst : Ch2 w3 (BT b g t 2 Y (bwrS 2 S (c2 : Nat) 150994944 v) w3) 0 { w3 with drawn := w3.drawn + 1 } := Rel.below_draws (n := 1) (Below.refl _ _)
        refine Chn.wp_region_chainL (Ch2 w3 (BT b g t 2 Y (bwrS 2 S (c2 : Nat) 150994944 v) w3)) [3, 6] [2, 2, 0, 2, 2, 1, 2, 2] [ptr b 0, ptr q 1, vI o.c, vI c2, ptr q 4, vU v, vI 0, .bool false] (by kernel_rfl) (by kernel_rfl) (by kernel_rfl) (by kernel_rfl) (by kernel_rfl) hst ?_
        clear hst
        refine ⟨fun j w1 hj hC => by exact Chn.upon_pure hC (fun F hF => by (go_simp <;> exact hF)), ?_⟩
        simp only [Act.put, List.setIfInBounds_toArray, List.set_cons_succ, List.set_cons_zero]
        refine ⟨fun j w1 hj hC => by exact Chn.upon_pure hC (fun F hF => by (go_simp <;> exact hF)), ?_⟩
        simp only [Act.put, List.setIfInBounds_toArray, List.set_cons_succ, List.set_cons_zero]
        refine ⟨fun j w1 hj hC => by
          have z := (hq.grow (ch2_below (Nat.le_trans hj (by decide)) hC)).c1
          exact Chn.upon_pure hC (fun F hF => by (go_simp <;> exact hF)), ?_⟩
        simp only [Act.put, List.setIfInBounds_toArray, List.set_cons_succ, List.set_cons_zero]
        refine ⟨fun w1 hC => by
          exact Chn.upon_call (C := (Ch2 w3 (BT b g t 2 Y (bwrS 2 S (c2 : Nat) 150994944 v) w3)) 1) (hpick w1) (fun e2 w2 hh => ⟨hh.1, by rw [hh.2]; exact hC⟩) (fun F hF => by (go_simp <;> exact hF)), ?_⟩
        simp only [Act.put, List.setIfInBounds_toArray, List.set_cons_succ, List.set_cons_zero]
        refine ⟨fun j w1 hj hC => by exact Chn.upon_pure hC (fun F hF => by (go_simp <;> exact hF)), ?_⟩
        simp only [Act.put, List.setIfInBounds_toArray, List.set_cons_succ, List.set_cons_zero]
        refine ⟨fun j w1 hj hC => by
          have z := hv4 (hq.grow (ch2_below hj hC)).c4
          exact Chn.upon_pure hC (fun F hF => by (go_simp <;> exact hF)), ?_⟩
        simp only [Act.put, List.setIfInBounds_toArray, List.set_cons_succ, List.set_cons_zero]
        refine ⟨fun w1 hC => by
          exact Chn.upon_call (C := (Ch2 w3 (BT b g t 2 Y (bwrS 2 S (c2 : Nat) 150994944 v) w3)) 2) (hwr (K.at_.grow hC)) (fun e2 w2 hh => ⟨hh.1, BT.ahead hC hh.2⟩) (fun F hF => by (go_simp <;> exact hF)), ?_⟩
        simp only [Act.put, List.setIfInBounds_toArray, List.set_cons_succ, List.set_cons_zero]
        refine ⟨fun j w1 hj hC => by exact Chn.upon_pure hC (fun F hF => by (go_simp <;> exact hF)), ?_⟩
        simp only [Act.put, List.setIfInBounds_toArray, List.set_cons_succ, List.set_cons_zero]
        intro w5 hC
        replace hC : BT b g t 2 Y (bwrS 2 S (c2 : Nat) 150994944 v) w3 w5 := hC
        have hq5 := stq_bt hq K.at_ hC
        rw [say_at hc2 (by have := hle.out; omega)] at hC
        obtain ⟨Y5, K5⟩ := K.bt hC
        have z4 := hv4 hq5.c4
        have e1 : IntKind.u8.wrap (v : Int) = ((v % 256 : Nat) : Int) := by rw [IntKind.wrap_u8]; omega
        have hll : S.O.length + [((v % 256 : Nat) : Int)].length ≤ 100000 := by have := hle.out; simp only [List.length_cons, List.length_nil]; omega
        have hle5 : (S.O ++ [((v % 256 : Nat) : Int)]).length ≤ i + 1 := by have := hle.out; simp only [List.length_append, List.length_cons, List.length_nil]; omega
        generalize ((v % 256 : Nat) : Int) = x at *
        replace hll := show Hid _ from hll
        replace hle5 := show Hid _ from hle5
        clear hC hwr hpick hq hq5 K hv4 hwf hs
        generalize (v : Int) = iv at *
        go_upto_region 13 with fail
        go_upto_region 8 with (first | (refine wpList_toStr rfl _ rfl w5.heap.size 1 x rfl (by rw [cell_of_row _ _ _ _ _ _ (heap_alloc_new _ _)]; rfl) ?_; simp only [Act.put, List.setIfInBounds_toArray, List.set_cons_succ, List.set_cons_zero]) | (refine wpList_catB rfl _ _ rfl S.O [x] rfl rfl hll.out ?_; simp only [Act.put, List.setIfInBounds_toArray, List.set_cons_succ, List.set_cons_zero]))
        generalize hw6 : World.alloc _ _ = w6
        have K6 := K5.grow (by rw [← hw6]; exact below_alloc _ _ : Below w5.heap.size w5 w6)
        clear hw6 K5
        go_wp2
        go_roundw
        case rel => exact ⟨i + 1, by have := hi.out; omega, by go_num, { S with O := S.O ++ [x] }, rfl, ⟨⟨Y5, K6⟩, hle5.out⟩⟩
        case measure => simp [intOf]; omega
      · have hb2 : (o.k == 2) = false := by simpa using k2
        clear k2
        go_upto_region 14 with fail
        clear z0
        have hst : Ch2 w3 (BT b g t 2 Y (bsetS 2 S o.c o.l (sysV o.s) v) w3) 0 { w3 with drawn := w3.drawn + 1 } := Rel.below_draws (n := 1) (Below.refl _ _)
        refine Chn.wp_region_chainL (Ch2 w3 (BT b g t 2 Y (bsetS 2 S o.c o.l (sysV o.s) v) w3)) [7, 10] [2, 2, 1, 2, 1, 2, 0, 2, 2, 1, 2] [ptr b 0, ptr q 1, vI o.c, ptr q 2, vI o.l, ptr q 3, vI o.s, vI (sysV o.s), ptr q 4, vU v, vI (bsetE 2 o.c o.l (sysV o.s))] (by kernel_rfl) (by kernel_rfl) (by kernel_rfl) (by kernel_rfl) (by kernel_rfl) hst ?_
        clear hst
        refine ⟨fun j w1 hj hC => by exact Chn.upon_pure hC (fun F hF => by (go_simp <;> exact hF)), ?_⟩
        simp only [Act.put, List.setIfInBounds_toArray, List.set_cons_succ, List.set_cons_zero]
        refine ⟨fun j w1 hj hC => by exact Chn.upon_pure hC (fun F hF => by (go_simp <;> exact hF)), ?_⟩
        simp only [Act.put, List.setIfInBounds_toArray, List.set_cons_succ, List.set_cons_zero]
        refine ⟨fun j w1 hj hC => by
          have z := (hq.grow (ch2_below hj hC)).c1
          exact Chn.upon_pure hC (fun F hF => by (go_simp <;> exact hF)), ?_⟩
        simp only [Act.put, List.setIfInBounds_toArray, List.set_cons_succ, List.set_cons_zero]
        refine ⟨fun j w1 hj hC => by exact Chn.upon_pure hC (fun F hF => by (go_simp <;> exact hF)), ?_⟩
        simp only [Act.put, List.setIfInBounds_toArray, List.set_cons_succ, List.set_cons_zero]
        refine ⟨fun j w1 hj hC => by
          have z := (hq.grow (ch2_below hj hC)).c2
          exact Chn.upon_pure hC (fun F hF => by (go_simp <;> exact hF)), ?_⟩
        simp only [Act.put, List.setIfInBounds_toArray, List.set_cons_succ, List.set_cons_zero]
        refine ⟨fun j w1 hj hC => by exact Chn.upon_pure hC (fun F hF => by (go_simp <;> exact hF)), ?_⟩
        simp only [Act.put, List.setIfInBounds_toArray, List.set_cons_succ, List.set_cons_zero]
        refine ⟨fun j w1 hj hC => by
          have z := (hq.grow (ch2_below (Nat.le_trans hj (by decide)) hC)).c3
          exact Chn.upon_pure hC (fun F hF => by (go_simp <;> exact hF)), ?_⟩
        simp only [Act.put, List.setIfInBounds_toArray, List.set_cons_succ, List.set_cons_zero]
        refine ⟨fun w1 hC => by
          exact Chn.upon_call (C := (Ch2 w3 (BT b g t 2 Y (bsetS 2 S o.c o.l (sysV o.s) v) w3)) 1) (sys_c o.s hwf.s w1) (fun e2 w2 hh => ⟨hh.1, below_then hC (Nat.le_refl _) hh.2⟩) (fun F hF => by (go_simp <;> exact hF)), ?_⟩
        simp only [Act.put, List.setIfInBounds_toArray, List.set_cons_succ, List.set_cons_zero]
        refine ⟨fun j w1 hj hC => by exact Chn.upon_pure hC (fun F hF => by (go_simp <;> exact hF)), ?_⟩
        simp only [Act.put, List.setIfInBounds_toArray, List.set_cons_succ, List.set_cons_zero]
        refine ⟨fun j w1 hj hC => by
          have z := hv4 (hq.grow (ch2_below hj hC)).c4
          exact Chn.upon_pure hC (fun F hF => by (go_simp <;> exact hF)), ?_⟩
        simp only [Act.put, List.setIfInBounds_toArray, List.set_cons_succ, List.set_cons_zero]
        refine ⟨fun w1 hC => by
          exact Chn.upon_call (C := (Ch2 w3 (BT b g t 2 Y (bsetS 2 S o.c o.l (sysV o.s) v) w3)) 2) (bset_c (K.at_.grow hC) o.c o.l (sysV o.s) v hv) (fun e2 w2 hh => ⟨hh.1, BT.ahead hC hh.2⟩) (fun F hF => by (go_simp <;> exact hF)), ?_⟩
        simp only [Act.put, List.setIfInBounds_toArray, List.set_cons_succ, List.set_cons_zero]
        intro w5 hC
        replace hC : BT b g t 2 Y (bsetS 2 S o.c o.l (sysV o.s) v) w3 w5 := hC
        have hq5 := stq_bt hq K.at_ hC
        have hO := set_out 2 S o.c o.l (sysV o.s) v
        obtain ⟨Y5, K5⟩ := K.bt hC
        generalize bsetS 2 S o.c o.l (sysV o.s) v = S6 at *
        generalize bsetE 2 o.c o.l (sysV o.s) = E6 at *
        replace hO := show Hid _ from hO
        clear hC K hq
        have hq := hq5
        have K6 := K5
        clear hq5 K5
        generalize hw56 : w5 = w6 at *
        clear hw56
        go_upto_region 15 with fail
        have hst : Ch2 w6 (Below w6.heap.size w6) 0 { w6 with drawn := w6.drawn + 1 } := Rel.below_draws (n := 1) (Below.refl _ _)
        refine Chn.wp_region_chainL (Ch2 w6 (Below w6.heap.size w6)) [5, 6] [2, 2, 1, 2, 0, 2, 2] [ptr b 0, ptr q 1, vI o.c, ptr q 3, vI o.s, vU (addrV o.s), .tuple #[vU (brdV 2 S6 o.c (addrV o.s)), vI (brdE 2 o.c (addrV o.s))]] (by kernel_rfl) (by kernel_rfl) (by kernel_rfl) (by kernel_rfl) (by kernel_rfl) hst ?_
        clear hst
        refine ⟨fun j w1 hj hC => by exact Chn.upon_pure hC (fun F hF => by (go_simp <;> exact hF)), ?_⟩
        simp only [Act.put, List.setIfInBounds_toArray, List.set_cons_succ, List.set_cons_zero]
        refine ⟨fun j w1 hj hC => by exact Chn.upon_pure hC (fun F hF => by (go_simp <;> exact hF)), ?_⟩
        simp only [Act.put, List.setIfInBounds_toArray, List.set_cons_succ, List.set_cons_zero]
        refine ⟨fun j w1 hj hC => by
          have z := (hq.grow (ch2_below hj hC)).c1
          exact Chn.upon_pure hC (fun F hF => by (go_simp <;> exact hF)), ?_⟩
        simp only [Act.put, List.setIfInBounds_toArray, List.set_cons_succ, List.set_cons_zero]
        refine ⟨fun j w1 hj hC => by exact Chn.upon_pure hC (fun F hF => by (go_simp <;> exact hF)), ?_⟩
        simp only [Act.put, List.setIfInBounds_toArray, List.set_cons_succ, List.set_cons_zero]
        refine ⟨fun j w1 hj hC => by
          have z := (hq.grow (ch2_below (Nat.le_trans hj (by decide)) hC)).c3
          exact Chn.upon_pure hC (fun F hF => by (go_simp <;> exact hF)), ?_⟩
        simp only [Act.put, List.setIfInBounds_toArray, List.set_cons_succ, List.set_cons_zero]
        refine ⟨fun w1 hC => by
          exact Chn.upon_call (C := (Ch2 w6 (Below w6.heap.size w6)) 1) (addr_c o.s hwf.s w1) (fun e2 w2 hh => ⟨hh.1, by rw [hh.2]; exact hC⟩) (fun F hF => by (go_simp <;> exact hF)), ?_⟩
        simp only [Act.put, List.setIfInBounds_toArray, List.set_cons_succ, List.set_cons_zero]
        refine ⟨fun w1 hC => by
          exact Chn.upon_call (C := (Ch2 w6 (Below w6.heap.size w6)) 2) (bread_c (K6.at_.grow hC) o.c (addrV o.s)) (fun e2 w2 hh => ⟨hh.1, below_then hC (Nat.le_refl _) hh.2⟩) (fun F hF => by (go_simp <;> exact hF)), ?_⟩
        simp only [Act.put, List.setIfInBounds_toArray, List.set_cons_succ, List.set_cons_zero]
        intro w7 hC
        replace hC : Below w6.heap.size w6 w7 := hC
        replace K6 := K6.grow hC
        clear hC hq
        go_wp2
        go_roundw
        case rel => exact ⟨i + 1, by have := hi.out; omega, by go_num, S6, by rw [hO.out], ⟨⟨Y5, K6⟩, by rw [hO.out]; exact Nat.le_succ_of_le hle.out⟩⟩
        case measure => simp [intOf]; omega
    · have hz := strOfNums_size S.O
      have hl2 : S.O.length ≤ 200 := by omega
      have e1 : IntKind.u64.wrap (S.O.length : Int) = S.O.length := by rw [IntKind.wrap_u64]; omega
      have hrd := bread_c K.at_ 0 150994944
      have hr0 := brd_at (S := S) (n := 2) (c := 0) (by decide) find7
      rw [show ((0 : Nat) : Int) = 0 from rfl] at hr0
      rw [hr0.1, hr0.2] at hrd
      replace hrd : Calls Tryz.prog 13 #[ptr b 0, vI 0, vU 150994944] wr fun e w' => e = .returned (.tuple #[vU S.O.length, vI 0]) ∧ Below wr.heap.size wr w' := hrd
      clear hr0
      by_cases hx : (i : Int) < ss.length
      · have hx2 : ¬ (i : Int) < 200 := by omega
        go_upto_region 17 with (first | (go_at_call 13; refine hrd.mono ?_; rintro e w2 ⟨rfl, hB⟩; dsimp only))
        replace K := K.grow hB
        clear hB hrd
        go_wp2_with (first | (go_at_call 33; refine (bout_c K.at_).mono ?_; rintro e w' ⟨rfl, rfl⟩; dsimp only))
        go_ret
        exact ⟨rfl, K.below⟩
      · go_upto_region 17 with (first | (go_at_call 13; refine hrd.mono ?_; rintro e w2 ⟨rfl, hB⟩; dsimp only))
        replace K := K.grow hB
        clear hB hrd
        go_wp2_with (first | (go_at_call 33; refine (bout_c K.at_).mono ?_; rintro e w' ⟨rfl, rfl⟩; dsimp only))
        go_ret
        exact ⟨rfl, K.below⟩
end Go.Proofs.YteklkololojamaaGreat
