/- RelMakes. -/
import Derived.Test.YtfgbhdcoemkdoaaDoorWf
namespace Go.Proofs.YtfgbhdcoemkdoaaDoor
open Go.RowKit
set_option linter.unusedVariables false
set_option linter.unusedSimpArgs false
set_option maxRecDepth 8000

open Rlw
theorem has_no {r n : Nat} {R : Nat → Nat → Bool} {w : World} {a b : Int} (H : RelAt r n R w) (h : inB n a = false ∨ inB n b = false) : Calls Tryd.prog 21 #[ptr r 0, vI a, vI b] w fun e w' => e = .returned (.bool false) ∧ w' = w := by
  have k := rhas_c H a b
  have e : (inB n a && (inB n b && R a.toNat b.toNat)) = false ∧ (inB n a && inB n b && R a.toNat b.toNat) = false := by rcases h with h | h <;> simp [h]
  first | (rw [e.1] at k; exact k) | (rw [e.2] at k; exact k)
set_option maxHeartbeats 16000000 in
theorem makes_bad {n : Int} (hn : newE n ≠ 0) {v : Value} {ps : List (Int × Int)} (a b : Int) {w : World} (hl : ps.length * 16 ≤ 140737488355328) (hv : Prs w v ps) (hT : Tab w) : Calls Tryd.prog 3 #[vI n, v, vI a, vI b] w fun e w' => e = .returned (.bool true) ∧ Below w.heap.size w w' := by
    have hW : Below w.heap.size w w := Below.refl _ _
    go_enter Tryd.func3, Tryd.ntmps3
    go_upto_region 2 with (first | (go_at_call 7; (with_reducible refine (examples_c hT).mono ?_); rintro e ww ⟨rfl, hB⟩; dsimp only; replace hT := hT.grow hB; replace hv := hv.grow hB; replace hW := hW.trans (hB.mono hW.size); clear hB))
    go_upto_region 3 with (first | (go_at_call 8; (with_reducible refine (made_bad hn hv).mono ?_); rintro e ww ⟨rfl, hB⟩; dsimp only; replace hT := hT.grow hB; replace hv := hv.grow hB; replace hW := hW.trans (hB.mono hW.size); clear hB))
    go_upto_region 4 with (first | (at_builtin; refine wpList_copyP (by rfl) _ _ (by rfl) (by rfl) (by rfl) hv hl ?_; intro vo wo hvo hB; simp only [Act.put, List.setIfInBounds_toArray, List.set_cons_succ, List.set_cons_zero]; replace hT := hT.grow hB; replace hv := hv.grow hB; replace hW := hW.trans (hB.mono hW.size); clear hB))
    go_upto_region 5 with (first | (go_at_call 9; (with_reducible refine (docOf_bad hv hn).mono ?_); rintro e ww ⟨rfl, hB⟩; dsimp only; replace hvo := hvo.grow hB; replace hW := hW.trans (hB.mono hW.size); clear hB))
    go_upto_region 6 with (first | (go_at_call 10; (with_reducible refine (of_bad hvo hn).mono ?_); rintro e ww ⟨rfl, hB⟩; dsimp only; replace hW := hW.trans (hB.mono hW.size); clear hB))
    have hne := newE_ne hn
    have hne2 : (newE n == 0) = false := by simpa using hn
    have hdec : decide (newE n = 0) = false := decide_eq_false hn
    generalize newE n = z at *
    have hself : (z != z) = false := by simp
    go_wp2
    go_ret
    exact ⟨rfl, hW⟩

set_option maxHeartbeats 16000000 in
theorem makes_no {m : Nat} (hm : m ≤ 64) (hn : newE m = 0) {v : Value} {ps : List (Int × Int)} (a b : Int) {w : World} (ho : ofOk m ps = false) (hl : ps.length * 16 ≤ 140737488355328) (hv : Prs w v ps) (hT : Tab w) : Calls Tryd.prog 3 #[vI m, v, vI a, vI b] w fun e w' => e = .returned (.bool true) ∧ Below w.heap.size w w' := by
      have hW : Below w.heap.size w w := Below.refl _ _
      go_enter Tryd.func3, Tryd.ntmps3
      go_upto_region 2 with (first | (go_at_call 7; (with_reducible refine (examples_c hT).mono ?_); rintro e ww ⟨rfl, hB⟩; dsimp only; replace hT := hT.grow hB; replace hv := hv.grow hB; replace hW := hW.trans (hB.mono hW.size); clear hB))
      go_upto_region 3 with (first | (go_at_call 8; (with_reducible refine (made_ok hm hv).mono ?_); rintro e ww ⟨r, x, R, rfl, HBB⟩; dsimp only; have hB := HBB.low; have HR := HBB.rel; have HX := HBB.ref; clear HBB; replace hT := hT.grow hB; replace hv := hv.grow hB; replace hW := hW.trans (hB.mono hW.size); clear hB))
      go_upto_region 4 with (first | (at_builtin; refine wpList_copyP (by rfl) _ _ (by rfl) (by rfl) (by rfl) hv hl ?_; intro vo wo hvo hB; simp only [Act.put, List.setIfInBounds_toArray, List.set_cons_succ, List.set_cons_zero]; replace HR := HR.grow hB; replace HX := HX.grow hB; replace hT := hT.grow hB; replace hv := hv.grow hB; replace hW := hW.trans (hB.mono hW.size); clear hB))
      go_upto_region 5 with (first | (go_at_call 9; (with_reducible refine (docOf_no hv hn ho).mono ?_); rintro e ww ⟨rfl, hB⟩; dsimp only; replace hvo := hvo.grow hB; replace HR := HR.grow hB; replace HX := HX.grow hB; replace hT := hT.grow hB; replace hW := hW.trans (hB.mono hW.size); clear hB))
      go_upto_region 6 with (first | (go_at_call 10; (with_reducible refine (of_no hvo hn ho).mono ?_); rintro e ww ⟨rfl, hB⟩; dsimp only; replace HR := HR.grow hB; replace HX := HX.grow hB; replace hT := hT.grow hB; replace hW := hW.trans (hB.mono hW.size); clear hB))
      clear hv hvo
      go_upto_region 14 with fail
      cases ha : inB m a with
      | false =>
        go_upto_region 15 with (first | (go_at_call 12; (with_reducible refine ((ha ▸ docIn_c HX a :)).mono ?_); rintro e ww ⟨rfl, rfl⟩; dsimp only))
        go_upto_region 18 with (first | (go_at_call 11; (with_reducible refine (is_c HR HX hT).mono ?_); rintro e ww ⟨rfl, hB⟩; dsimp only; replace HR := HR.grow hB; replace HX := HX.grow hB; replace hT := hT.grow hB; replace hW := hW.trans (hB.mono hW.size); clear hB))
        go_upto_region 19 with (first | (go_at_call 11; (with_reducible refine (is_c HR2 HX2 hT).mono ?_); rintro e ww ⟨rfl, hB⟩; dsimp only; replace HR := HR.grow hB; replace HX := HX.grow hB; replace hT := hT.grow hB; replace hW := hW.trans (hB.mono hW.size); replace HR2 := HR2.grow hB; replace HX2 := HX2.grow hB; clear hB) | (go_at_call 14; (with_reducible refine (docTurned_c HX HR.fit).mono ?_); rintro e ww ⟨x2, rfl, hD⟩; dsimp only; have hB := hD.low; have HX2 := hD.row; clear hD; replace HR := HR.grow hB; replace HX := HX.grow hB; replace hT := hT.grow hB; replace hW := hW.trans (hB.mono hW.size); replace HR2 := HR2.grow hB; clear hB) | (go_at_call 13; (with_reducible refine (turned_r HR hT).mono ?_); rintro e ww ⟨r2, rfl, HR2, _, hB⟩; dsimp only; replace HR := HR.grow hB; replace HX := HX.grow hB; replace hT := hT.grow hB; replace hW := hW.trans (hB.mono hW.size); clear hB))
        clear HR2 HX2
        go_upto_region 20 with (first | (go_at_call 11; (with_reducible refine (is_c HR2 HX2 hT).mono ?_); rintro e ww ⟨rfl, hB⟩; dsimp only; replace HR := HR.grow hB; replace HX := HX.grow hB; replace hT := hT.grow hB; replace hW := hW.trans (hB.mono hW.size); replace HR2 := HR2.grow hB; replace HX2 := HX2.grow hB; clear hB) | (go_at_call 16; (with_reducible refine (docClosed_c HX HR.fit).mono ?_); rintro e ww ⟨x2, rfl, hD⟩; dsimp only; have hB := hD.low; have HX2 := hD.row; clear hD; replace HR := HR.grow hB; replace HX := HX.grow hB; replace hT := hT.grow hB; replace hW := hW.trans (hB.mono hW.size); replace HR2 := HR2.grow hB; clear hB) | (go_at_call 15; (with_reducible refine (closed_c HR).mono ?_); rintro e ww ⟨r2, rfl, HR2, _, hB⟩; dsimp only; replace HR := HR.grow hB; replace HX := HX.grow hB; replace hT := hT.grow hB; replace hW := hW.trans (hB.mono hW.size); clear hB))
        clear HR2 HX2
        go_upto_region 21 with (first | (go_at_call 17; (with_reducible refine (loop_c HR).mono ?_); rintro e ww ⟨rfl, hB⟩; dsimp only; replace HR := HR.grow hB; replace HX := HX.grow hB; replace hT := hT.grow hB; replace hW := hW.trans (hB.mono hW.size); clear hB))
        go_upto_region 22 with (first | (go_at_call 18; (with_reducible refine (docLoop_c HX HR.fit).mono ?_); rintro e ww ⟨rfl, hB⟩; dsimp only; replace HR := HR.grow hB; replace HX := HX.grow hB; replace hT := hT.grow hB; replace hW := hW.trans (hB.mono hW.size); clear hB))
        generalize (loopF m R).getD 0 = lz at *
        generalize (loopF m R).isSome = lb at *
        go_upto_region 23 with (first | (go_at_call 19; (with_reducible refine (order_c HR hT).mono ?_); rintro e ww ⟨v1, rfl, hL1, hB⟩; dsimp only; replace HR := HR.grow hB; replace HX := HX.grow hB; replace hT := hT.grow hB; replace hW := hW.trans (hB.mono hW.size); clear hB))
        go_upto_region 24 with (first | (go_at_call 20; (with_reducible refine (docOrder_c HX HR.fit).mono ?_); rintro e ww ⟨v2, rfl, hL2, hB⟩; dsimp only; replace HR := HR.grow hB; replace HX := HX.grow hB; replace hT := hT.grow hB; replace hW := hW.trans (hB.mono hW.size); replace hL1 := own_grow hL1 hB; clear hB))
        have hll := Nat.le_trans (ordV_len m R) hm
        generalize ordV m R = l at *
        generalize ordB m R = ob at *
        obtain ⟨o1, c1, ev1, _, _⟩ := own_len hL1
        obtain ⟨o2, c2, ev2, _, _⟩ := own_len hL2
        subst ev1 ev2
        have hne : ((l.length : Int) != (l.length : Int)) = false := by simp
        go_wp2
        go_loopw [31] (fun s31 wr => ∃ i : Nat, i ≤ l.length ∧ s31 = vI i ∧ Hid (∃ q, Hid (RelAt r m R wr ∧ wr.ownsRow q 3 1 (.slice o1 l.length c1) l.length (flN l) ∧ (∃ q2, wr.ownsRow q2 3 1 (.slice o2 l.length c2) l.length (flN l)) ∧ Below w.heap.size w wr))) (fun s31 _ => 64 - (intOf s31).toNat)
        case atStart => exact ⟨0, Nat.zero_le _, rfl, _, HR, hL1, ⟨_, hL2⟩, hW⟩
        case round =>
          clear hL1 hL2 hW HR HX hT
          obtain ⟨i, hi, rfl, hH⟩ := hrel
          obtain ⟨q, hH2⟩ := hH.out
          obtain ⟨HR, hL1, ⟨q2, hL2⟩, hW⟩ := hH2.out
          clear hH hH2
          by_cases hlt : (i : Int) < l.length
          · obtain ⟨g1, k1, f1⟩ := own_slice hL1 (by omega)
            obtain ⟨g2, k2, f2⟩ := own_slice hL2 (by omega)
            cases f1
            cases f2
            have hgi : l[i]? = some (l[i]'(by omega)) := List.getElem?_eq_getElem _
            generalize l[i]'(by omega) = z at hgi
            have hca : ∀ w1, Below wr.heap.size wr w1 → w1.cell? ⟨g1, i, none⟩ = some (vI z) := fun w1 h1 => own_cell (own_grow hL1 h1) rfl hgi
            have hcb : ∀ w1, Below wr.heap.size wr w1 → w1.cell? ⟨g2, i, none⟩ = some (vI z) := fun w1 h1 => own_cell (own_grow hL2 h1) rfl hgi
            replace hgi := show Hid _ from hgi
            go_upto_region 29 with fail
            have hst : (StC wr (fun _ => False)) 0 { wr with drawn := wr.drawn + 1 } := Rel.below_draws (n := 1) (Below.refl _ _)
            refine Chn.wp_region_chainL (StC wr (fun _ => False)) [] [0, 0, 0, 0, 0, 0, 0, 0, 0] [.slice (some ⟨g1, 0, none⟩) l.length c1, vI i, ptr g1 i, vI z, .slice (some ⟨g2, 0, none⟩) l.length c2, vI i, ptr g2 i, vI z, .bool false] (by kernel_rfl) (by kernel_rfl) (by kernel_rfl) (by kernel_rfl) (by kernel_rfl) hst ?_
            clear hst
            refine ⟨fun j w1 hj hC => by exact Chn.upon_pure hC (fun F hF => by (go_simp <;> exact hF)), ?_⟩
            simp only [Act.put, List.setIfInBounds_toArray, List.set_cons_succ, List.set_cons_zero]
            refine ⟨fun j w1 hj hC => by exact Chn.upon_pure hC (fun F hF => by (go_simp <;> exact hF)), ?_⟩
            simp only [Act.put, List.setIfInBounds_toArray, List.set_cons_succ, List.set_cons_zero]
            refine ⟨fun j w1 hj hC => by exact Chn.upon_pure hC (fun F hF => by (go_simp <;> exact hF)), ?_⟩
            simp only [Act.put, List.setIfInBounds_toArray, List.set_cons_succ, List.set_cons_zero]
            refine ⟨fun j w1 hj hC => by
              have z := hca w1 (stC_low hj hC)
              exact Chn.upon_pure hC (fun F hF => by (go_simp <;> exact hF)), ?_⟩
            simp only [Act.put, List.setIfInBounds_toArray, List.set_cons_succ, List.set_cons_zero]
            refine ⟨fun j w1 hj hC => by exact Chn.upon_pure hC (fun F hF => by (go_simp <;> exact hF)), ?_⟩
            simp only [Act.put, List.setIfInBounds_toArray, List.set_cons_succ, List.set_cons_zero]
            refine ⟨fun j w1 hj hC => by exact Chn.upon_pure hC (fun F hF => by (go_simp <;> exact hF)), ?_⟩
            simp only [Act.put, List.setIfInBounds_toArray, List.set_cons_succ, List.set_cons_zero]
            refine ⟨fun j w1 hj hC => by exact Chn.upon_pure hC (fun F hF => by (go_simp <;> exact hF)), ?_⟩
            simp only [Act.put, List.setIfInBounds_toArray, List.set_cons_succ, List.set_cons_zero]
            refine ⟨fun j w1 hj hC => by
              have z := hcb w1 (stC_low hj hC)
              exact Chn.upon_pure hC (fun F hF => by (go_simp <;> exact hF)), ?_⟩
            simp only [Act.put, List.setIfInBounds_toArray, List.set_cons_succ, List.set_cons_zero]
            refine ⟨fun j w1 hj hC => by exact Chn.upon_pure hC (fun F hF => by (go_simp <;> exact hF)), ?_⟩
            simp only [Act.put, List.setIfInBounds_toArray, List.set_cons_succ, List.set_cons_zero]
            intro w5 hC
            have hB5 : Below wr.heap.size wr w5 := hC
            clear hC
            go_wp2
            go_roundw
            case rel => exact ⟨i + 1, by omega, by go_num, q, HR.grow hB5, own_grow hL1 hB5, ⟨q2, own_grow hL2 hB5⟩, hW.trans (hB5.mono hW.size)⟩
            case measure => simp [intOf]; omega
          · have hh := (has_no (a := a) (b := b) HR (.inl ha))
            clear hL1 hL2
            go_wp2_with (first | (go_at_call 21; (with_reducible refine hh.mono ?_); rintro e w9 ⟨rfl, rfl⟩; dsimp only))
            go_ret
            exact ⟨rfl, hW⟩
      | true =>
        cases hb : inB m b with
        | false =>
          have k1 := docIn_c HX a
          have k2 := docIn_c HX b
          rw [ha] at k1
          rw [hb] at k2
          go_upto_region 15 with (first | (go_at_call 12; (with_reducible refine k1.mono ?_); rintro e ww ⟨rfl, rfl⟩; dsimp only) | (go_at_call 12; (with_reducible refine k2.mono ?_); rintro e ww ⟨rfl, rfl⟩; dsimp only))
          clear k1 k2
          go_upto_region 18 with (first | (go_at_call 11; (with_reducible refine (is_c HR HX hT).mono ?_); rintro e ww ⟨rfl, hB⟩; dsimp only; replace HR := HR.grow hB; replace HX := HX.grow hB; replace hT := hT.grow hB; replace hW := hW.trans (hB.mono hW.size); clear hB))
          go_upto_region 19 with (first | (go_at_call 11; (with_reducible refine (is_c HR2 HX2 hT).mono ?_); rintro e ww ⟨rfl, hB⟩; dsimp only; replace HR := HR.grow hB; replace HX := HX.grow hB; replace hT := hT.grow hB; replace hW := hW.trans (hB.mono hW.size); replace HR2 := HR2.grow hB; replace HX2 := HX2.grow hB; clear hB) | (go_at_call 14; (with_reducible refine (docTurned_c HX HR.fit).mono ?_); rintro e ww ⟨x2, rfl, hD⟩; dsimp only; have hB := hD.low; have HX2 := hD.row; clear hD; replace HR := HR.grow hB; replace HX := HX.grow hB; replace hT := hT.grow hB; replace hW := hW.trans (hB.mono hW.size); replace HR2 := HR2.grow hB; clear hB) | (go_at_call 13; (with_reducible refine (turned_r HR hT).mono ?_); rintro e ww ⟨r2, rfl, HR2, _, hB⟩; dsimp only; replace HR := HR.grow hB; replace HX := HX.grow hB; replace hT := hT.grow hB; replace hW := hW.trans (hB.mono hW.size); clear hB))
          clear HR2 HX2
          go_upto_region 20 with (first | (go_at_call 11; (with_reducible refine (is_c HR2 HX2 hT).mono ?_); rintro e ww ⟨rfl, hB⟩; dsimp only; replace HR := HR.grow hB; replace HX := HX.grow hB; replace hT := hT.grow hB; replace hW := hW.trans (hB.mono hW.size); replace HR2 := HR2.grow hB; replace HX2 := HX2.grow hB; clear hB) | (go_at_call 16; (with_reducible refine (docClosed_c HX HR.fit).mono ?_); rintro e ww ⟨x2, rfl, hD⟩; dsimp only; have hB := hD.low; have HX2 := hD.row; clear hD; replace HR := HR.grow hB; replace HX := HX.grow hB; replace hT := hT.grow hB; replace hW := hW.trans (hB.mono hW.size); replace HR2 := HR2.grow hB; clear hB) | (go_at_call 15; (with_reducible refine (closed_c HR).mono ?_); rintro e ww ⟨r2, rfl, HR2, _, hB⟩; dsimp only; replace HR := HR.grow hB; replace HX := HX.grow hB; replace hT := hT.grow hB; replace hW := hW.trans (hB.mono hW.size); clear hB))
          clear HR2 HX2
          go_upto_region 21 with (first | (go_at_call 17; (with_reducible refine (loop_c HR).mono ?_); rintro e ww ⟨rfl, hB⟩; dsimp only; replace HR := HR.grow hB; replace HX := HX.grow hB; replace hT := hT.grow hB; replace hW := hW.trans (hB.mono hW.size); clear hB))
          go_upto_region 22 with (first | (go_at_call 18; (with_reducible refine (docLoop_c HX HR.fit).mono ?_); rintro e ww ⟨rfl, hB⟩; dsimp only; replace HR := HR.grow hB; replace HX := HX.grow hB; replace hT := hT.grow hB; replace hW := hW.trans (hB.mono hW.size); clear hB))
          generalize (loopF m R).getD 0 = lz at *
          generalize (loopF m R).isSome = lb at *
          go_upto_region 23 with (first | (go_at_call 19; (with_reducible refine (order_c HR hT).mono ?_); rintro e ww ⟨v1, rfl, hL1, hB⟩; dsimp only; replace HR := HR.grow hB; replace HX := HX.grow hB; replace hT := hT.grow hB; replace hW := hW.trans (hB.mono hW.size); clear hB))
          go_upto_region 24 with (first | (go_at_call 20; (with_reducible refine (docOrder_c HX HR.fit).mono ?_); rintro e ww ⟨v2, rfl, hL2, hB⟩; dsimp only; replace HR := HR.grow hB; replace HX := HX.grow hB; replace hT := hT.grow hB; replace hW := hW.trans (hB.mono hW.size); replace hL1 := own_grow hL1 hB; clear hB))
          have hll := Nat.le_trans (ordV_len m R) hm
          generalize ordV m R = l at *
          generalize ordB m R = ob at *
          obtain ⟨o1, c1, ev1, _, _⟩ := own_len hL1
          obtain ⟨o2, c2, ev2, _, _⟩ := own_len hL2
          subst ev1 ev2
          have hne : ((l.length : Int) != (l.length : Int)) = false := by simp
          go_wp2
          go_loopw [31] (fun s31 wr => ∃ i : Nat, i ≤ l.length ∧ s31 = vI i ∧ Hid (∃ q, Hid (RelAt r m R wr ∧ wr.ownsRow q 3 1 (.slice o1 l.length c1) l.length (flN l) ∧ (∃ q2, wr.ownsRow q2 3 1 (.slice o2 l.length c2) l.length (flN l)) ∧ Below w.heap.size w wr))) (fun s31 _ => 64 - (intOf s31).toNat)
          case atStart => exact ⟨0, Nat.zero_le _, rfl, _, HR, hL1, ⟨_, hL2⟩, hW⟩
          case round =>
            clear hL1 hL2 hW HR HX hT
            obtain ⟨i, hi, rfl, hH⟩ := hrel
            obtain ⟨q, hH2⟩ := hH.out
            obtain ⟨HR, hL1, ⟨q2, hL2⟩, hW⟩ := hH2.out
            clear hH hH2
            by_cases hlt : (i : Int) < l.length
            · obtain ⟨g1, k1, f1⟩ := own_slice hL1 (by omega)
              obtain ⟨g2, k2, f2⟩ := own_slice hL2 (by omega)
              cases f1
              cases f2
              have hgi : l[i]? = some (l[i]'(by omega)) := List.getElem?_eq_getElem _
              generalize l[i]'(by omega) = z at hgi
              have hca : ∀ w1, Below wr.heap.size wr w1 → w1.cell? ⟨g1, i, none⟩ = some (vI z) := fun w1 h1 => own_cell (own_grow hL1 h1) rfl hgi
              have hcb : ∀ w1, Below wr.heap.size wr w1 → w1.cell? ⟨g2, i, none⟩ = some (vI z) := fun w1 h1 => own_cell (own_grow hL2 h1) rfl hgi
              replace hgi := show Hid _ from hgi
              go_upto_region 29 with fail
              have hst : (StC wr (fun _ => False)) 0 { wr with drawn := wr.drawn + 1 } := Rel.below_draws (n := 1) (Below.refl _ _)
              refine Chn.wp_region_chainL (StC wr (fun _ => False)) [] [0, 0, 0, 0, 0, 0, 0, 0, 0] [.slice (some ⟨g1, 0, none⟩) l.length c1, vI i, ptr g1 i, vI z, .slice (some ⟨g2, 0, none⟩) l.length c2, vI i, ptr g2 i, vI z, .bool false] (by kernel_rfl) (by kernel_rfl) (by kernel_rfl) (by kernel_rfl) (by kernel_rfl) hst ?_
              clear hst
              refine ⟨fun j w1 hj hC => by exact Chn.upon_pure hC (fun F hF => by (go_simp <;> exact hF)), ?_⟩
              simp only [Act.put, List.setIfInBounds_toArray, List.set_cons_succ, List.set_cons_zero]
              refine ⟨fun j w1 hj hC => by exact Chn.upon_pure hC (fun F hF => by (go_simp <;> exact hF)), ?_⟩
              simp only [Act.put, List.setIfInBounds_toArray, List.set_cons_succ, List.set_cons_zero]
              refine ⟨fun j w1 hj hC => by exact Chn.upon_pure hC (fun F hF => by (go_simp <;> exact hF)), ?_⟩
              simp only [Act.put, List.setIfInBounds_toArray, List.set_cons_succ, List.set_cons_zero]
              refine ⟨fun j w1 hj hC => by
                have z := hca w1 (stC_low hj hC)
                exact Chn.upon_pure hC (fun F hF => by (go_simp <;> exact hF)), ?_⟩
              simp only [Act.put, List.setIfInBounds_toArray, List.set_cons_succ, List.set_cons_zero]
              refine ⟨fun j w1 hj hC => by exact Chn.upon_pure hC (fun F hF => by (go_simp <;> exact hF)), ?_⟩
              simp only [Act.put, List.setIfInBounds_toArray, List.set_cons_succ, List.set_cons_zero]
              refine ⟨fun j w1 hj hC => by exact Chn.upon_pure hC (fun F hF => by (go_simp <;> exact hF)), ?_⟩
              simp only [Act.put, List.setIfInBounds_toArray, List.set_cons_succ, List.set_cons_zero]
              refine ⟨fun j w1 hj hC => by exact Chn.upon_pure hC (fun F hF => by (go_simp <;> exact hF)), ?_⟩
              simp only [Act.put, List.setIfInBounds_toArray, List.set_cons_succ, List.set_cons_zero]
              refine ⟨fun j w1 hj hC => by
                have z := hcb w1 (stC_low hj hC)
                exact Chn.upon_pure hC (fun F hF => by (go_simp <;> exact hF)), ?_⟩
              simp only [Act.put, List.setIfInBounds_toArray, List.set_cons_succ, List.set_cons_zero]
              refine ⟨fun j w1 hj hC => by exact Chn.upon_pure hC (fun F hF => by (go_simp <;> exact hF)), ?_⟩
              simp only [Act.put, List.setIfInBounds_toArray, List.set_cons_succ, List.set_cons_zero]
              intro w5 hC
              have hB5 : Below wr.heap.size wr w5 := hC
              clear hC
              go_wp2
              go_roundw
              case rel => exact ⟨i + 1, by omega, by go_num, q, HR.grow hB5, own_grow hL1 hB5, ⟨q2, own_grow hL2 hB5⟩, hW.trans (hB5.mono hW.size)⟩
              case measure => simp [intOf]; omega
            · have hh := (has_no (a := a) (b := b) HR (.inr hb))
              clear hL1 hL2
              go_wp2_with (first | (go_at_call 21; (with_reducible refine hh.mono ?_); rintro e w9 ⟨rfl, rfl⟩; dsimp only))
              go_ret
              exact ⟨rfl, hW⟩
        | true =>
          have k1 := docIn_c HX a
          have k2 := docIn_c HX b
          rw [ha] at k1
          rw [hb] at k2
          go_upto_region 15 with (first | (go_at_call 12; (with_reducible refine k1.mono ?_); rintro e ww ⟨rfl, rfl⟩; dsimp only) | (go_at_call 12; (with_reducible refine k2.mono ?_); rintro e ww ⟨rfl, rfl⟩; dsimp only))
          clear k1 k2
          obtain ⟨a, rfl, ha2⟩ := inB_nat ha
          obtain ⟨b, rfl, hb2⟩ := inB_nat hb
          have ha64 : (a : Int) < 64 := by omega
          have hb64 : (b : Int) < 64 := by omega
          have cc := HX.cell (a := a) (b := b) (by omega) (by omega)
          go_upto_region 17 with fail
          clear cc
          go_upto_region 18 with (first | (go_at_call 11; (with_reducible refine (is_c HR HX hT).mono ?_); rintro e ww ⟨rfl, hB⟩; dsimp only; replace HR := HR.grow hB; replace HX := HX.grow hB; replace hT := hT.grow hB; replace hW := hW.trans (hB.mono hW.size); clear hB))
          go_upto_region 19 with (first | (go_at_call 11; (with_reducible refine (is_c HR2 HX2 hT).mono ?_); rintro e ww ⟨rfl, hB⟩; dsimp only; replace HR := HR.grow hB; replace HX := HX.grow hB; replace hT := hT.grow hB; replace hW := hW.trans (hB.mono hW.size); replace HR2 := HR2.grow hB; replace HX2 := HX2.grow hB; clear hB) | (go_at_call 14; (with_reducible refine (docTurned_c HX HR.fit).mono ?_); rintro e ww ⟨x2, rfl, hD⟩; dsimp only; have hB := hD.low; have HX2 := hD.row; clear hD; replace HR := HR.grow hB; replace HX := HX.grow hB; replace hT := hT.grow hB; replace hW := hW.trans (hB.mono hW.size); replace HR2 := HR2.grow hB; clear hB) | (go_at_call 13; (with_reducible refine (turned_r HR hT).mono ?_); rintro e ww ⟨r2, rfl, HR2, _, hB⟩; dsimp only; replace HR := HR.grow hB; replace HX := HX.grow hB; replace hT := hT.grow hB; replace hW := hW.trans (hB.mono hW.size); clear hB))
          clear HR2 HX2
          go_upto_region 20 with (first | (go_at_call 11; (with_reducible refine (is_c HR2 HX2 hT).mono ?_); rintro e ww ⟨rfl, hB⟩; dsimp only; replace HR := HR.grow hB; replace HX := HX.grow hB; replace hT := hT.grow hB; replace hW := hW.trans (hB.mono hW.size); replace HR2 := HR2.grow hB; replace HX2 := HX2.grow hB; clear hB) | (go_at_call 16; (with_reducible refine (docClosed_c HX HR.fit).mono ?_); rintro e ww ⟨x2, rfl, hD⟩; dsimp only; have hB := hD.low; have HX2 := hD.row; clear hD; replace HR := HR.grow hB; replace HX := HX.grow hB; replace hT := hT.grow hB; replace hW := hW.trans (hB.mono hW.size); replace HR2 := HR2.grow hB; clear hB) | (go_at_call 15; (with_reducible refine (closed_c HR).mono ?_); rintro e ww ⟨r2, rfl, HR2, _, hB⟩; dsimp only; replace HR := HR.grow hB; replace HX := HX.grow hB; replace hT := hT.grow hB; replace hW := hW.trans (hB.mono hW.size); clear hB))
          clear HR2 HX2
          go_upto_region 21 with (first | (go_at_call 17; (with_reducible refine (loop_c HR).mono ?_); rintro e ww ⟨rfl, hB⟩; dsimp only; replace HR := HR.grow hB; replace HX := HX.grow hB; replace hT := hT.grow hB; replace hW := hW.trans (hB.mono hW.size); clear hB))
          go_upto_region 22 with (first | (go_at_call 18; (with_reducible refine (docLoop_c HX HR.fit).mono ?_); rintro e ww ⟨rfl, hB⟩; dsimp only; replace HR := HR.grow hB; replace HX := HX.grow hB; replace hT := hT.grow hB; replace hW := hW.trans (hB.mono hW.size); clear hB))
          generalize (loopF m R).getD 0 = lz at *
          generalize (loopF m R).isSome = lb at *
          go_upto_region 23 with (first | (go_at_call 19; (with_reducible refine (order_c HR hT).mono ?_); rintro e ww ⟨v1, rfl, hL1, hB⟩; dsimp only; replace HR := HR.grow hB; replace HX := HX.grow hB; replace hT := hT.grow hB; replace hW := hW.trans (hB.mono hW.size); clear hB))
          go_upto_region 24 with (first | (go_at_call 20; (with_reducible refine (docOrder_c HX HR.fit).mono ?_); rintro e ww ⟨v2, rfl, hL2, hB⟩; dsimp only; replace HR := HR.grow hB; replace HX := HX.grow hB; replace hT := hT.grow hB; replace hW := hW.trans (hB.mono hW.size); replace hL1 := own_grow hL1 hB; clear hB))
          have hll := Nat.le_trans (ordV_len m R) hm
          generalize ordV m R = l at *
          generalize ordB m R = ob at *
          obtain ⟨o1, c1, ev1, _, _⟩ := own_len hL1
          obtain ⟨o2, c2, ev2, _, _⟩ := own_len hL2
          subst ev1 ev2
          have hne : ((l.length : Int) != (l.length : Int)) = false := by simp
          go_wp2
          go_loopw [31] (fun s31 wr => ∃ i : Nat, i ≤ l.length ∧ s31 = vI i ∧ Hid (∃ q, Hid (RelAt r m R wr ∧ wr.ownsRow q 3 1 (.slice o1 l.length c1) l.length (flN l) ∧ (∃ q2, wr.ownsRow q2 3 1 (.slice o2 l.length c2) l.length (flN l)) ∧ Below w.heap.size w wr))) (fun s31 _ => 64 - (intOf s31).toNat)
          case atStart => exact ⟨0, Nat.zero_le _, rfl, _, HR, hL1, ⟨_, hL2⟩, hW⟩
          case round =>
            clear hL1 hL2 hW HR HX hT
            obtain ⟨i, hi, rfl, hH⟩ := hrel
            obtain ⟨q, hH2⟩ := hH.out
            obtain ⟨HR, hL1, ⟨q2, hL2⟩, hW⟩ := hH2.out
            clear hH hH2
            by_cases hlt : (i : Int) < l.length
            · obtain ⟨g1, k1, f1⟩ := own_slice hL1 (by omega)
              obtain ⟨g2, k2, f2⟩ := own_slice hL2 (by omega)
              cases f1
              cases f2
              have hgi : l[i]? = some (l[i]'(by omega)) := List.getElem?_eq_getElem _
              generalize l[i]'(by omega) = z at hgi
              have hca : ∀ w1, Below wr.heap.size wr w1 → w1.cell? ⟨g1, i, none⟩ = some (vI z) := fun w1 h1 => own_cell (own_grow hL1 h1) rfl hgi
              have hcb : ∀ w1, Below wr.heap.size wr w1 → w1.cell? ⟨g2, i, none⟩ = some (vI z) := fun w1 h1 => own_cell (own_grow hL2 h1) rfl hgi
              replace hgi := show Hid _ from hgi
              go_upto_region 29 with fail
              have hst : (StC wr (fun _ => False)) 0 { wr with drawn := wr.drawn + 1 } := Rel.below_draws (n := 1) (Below.refl _ _)
              refine Chn.wp_region_chainL (StC wr (fun _ => False)) [] [0, 0, 0, 0, 0, 0, 0, 0, 0] [.slice (some ⟨g1, 0, none⟩) l.length c1, vI i, ptr g1 i, vI z, .slice (some ⟨g2, 0, none⟩) l.length c2, vI i, ptr g2 i, vI z, .bool false] (by kernel_rfl) (by kernel_rfl) (by kernel_rfl) (by kernel_rfl) (by kernel_rfl) hst ?_
              clear hst
              refine ⟨fun j w1 hj hC => by exact Chn.upon_pure hC (fun F hF => by (go_simp <;> exact hF)), ?_⟩
              simp only [Act.put, List.setIfInBounds_toArray, List.set_cons_succ, List.set_cons_zero]
              refine ⟨fun j w1 hj hC => by exact Chn.upon_pure hC (fun F hF => by (go_simp <;> exact hF)), ?_⟩
              simp only [Act.put, List.setIfInBounds_toArray, List.set_cons_succ, List.set_cons_zero]
              refine ⟨fun j w1 hj hC => by exact Chn.upon_pure hC (fun F hF => by (go_simp <;> exact hF)), ?_⟩
              simp only [Act.put, List.setIfInBounds_toArray, List.set_cons_succ, List.set_cons_zero]
              refine ⟨fun j w1 hj hC => by
                have z := hca w1 (stC_low hj hC)
                exact Chn.upon_pure hC (fun F hF => by (go_simp <;> exact hF)), ?_⟩
              simp only [Act.put, List.setIfInBounds_toArray, List.set_cons_succ, List.set_cons_zero]
              refine ⟨fun j w1 hj hC => by exact Chn.upon_pure hC (fun F hF => by (go_simp <;> exact hF)), ?_⟩
              simp only [Act.put, List.setIfInBounds_toArray, List.set_cons_succ, List.set_cons_zero]
              refine ⟨fun j w1 hj hC => by exact Chn.upon_pure hC (fun F hF => by (go_simp <;> exact hF)), ?_⟩
              simp only [Act.put, List.setIfInBounds_toArray, List.set_cons_succ, List.set_cons_zero]
              refine ⟨fun j w1 hj hC => by exact Chn.upon_pure hC (fun F hF => by (go_simp <;> exact hF)), ?_⟩
              simp only [Act.put, List.setIfInBounds_toArray, List.set_cons_succ, List.set_cons_zero]
              refine ⟨fun j w1 hj hC => by
                have z := hcb w1 (stC_low hj hC)
                exact Chn.upon_pure hC (fun F hF => by (go_simp <;> exact hF)), ?_⟩
              simp only [Act.put, List.setIfInBounds_toArray, List.set_cons_succ, List.set_cons_zero]
              refine ⟨fun j w1 hj hC => by exact Chn.upon_pure hC (fun F hF => by (go_simp <;> exact hF)), ?_⟩
              simp only [Act.put, List.setIfInBounds_toArray, List.set_cons_succ, List.set_cons_zero]
              intro w5 hC
              have hB5 : Below wr.heap.size wr w5 := hC
              clear hC
              go_wp2
              go_roundw
              case rel => exact ⟨i + 1, by omega, by go_num, q, HR.grow hB5, own_grow hL1 hB5, ⟨q2, own_grow hL2 hB5⟩, hW.trans (hB5.mono hW.size)⟩
              case measure => simp [intOf]; omega
            · have hh := (has_in HR ha2 hb2)
              clear hL1 hL2
              go_wp2_with (first | (go_at_call 21; (with_reducible refine hh.mono ?_); rintro e w9 ⟨rfl, rfl⟩; dsimp only))
              go_ret
              exact ⟨rfl, hW⟩

set_option maxHeartbeats 16000000 in
theorem makes_yes {m : Nat} (hm : m ≤ 64) (hn : newE m = 0) {v : Value} {ps : List (Int × Int)} (a b : Int) {w : World} (ho : ofOk m ps = true) (hl : ps.length * 16 ≤ 140737488355328) (hv : Prs w v ps) (hT : Tab w) : Calls Tryd.prog 3 #[vI m, v, vI a, vI b] w fun e w' => e = .returned (.bool true) ∧ Below w.heap.size w w' := by
      have hW : Below w.heap.size w w := Below.refl _ _
      go_enter Tryd.func3, Tryd.ntmps3
      go_upto_region 2 with (first | (go_at_call 7; (with_reducible refine (examples_c hT).mono ?_); rintro e ww ⟨rfl, hB⟩; dsimp only; replace hT := hT.grow hB; replace hv := hv.grow hB; replace hW := hW.trans (hB.mono hW.size); clear hB))
      go_upto_region 3 with (first | (go_at_call 8; (with_reducible refine (made_ok hm hv).mono ?_); rintro e ww ⟨r, x, R, rfl, HBB⟩; dsimp only; have hB := HBB.low; have HR := HBB.rel; have HX := HBB.ref; clear HBB; replace hT := hT.grow hB; replace hv := hv.grow hB; replace hW := hW.trans (hB.mono hW.size); clear hB))
      go_upto_region 4 with (first | (at_builtin; refine wpList_copyP (by rfl) _ _ (by rfl) (by rfl) (by rfl) hv hl ?_; intro vo wo hvo hB; simp only [Act.put, List.setIfInBounds_toArray, List.set_cons_succ, List.set_cons_zero]; replace HR := HR.grow hB; replace HX := HX.grow hB; replace hT := hT.grow hB; replace hv := hv.grow hB; replace hW := hW.trans (hB.mono hW.size); clear hB))
      go_upto_region 5 with (first | (go_at_call 9; (with_reducible refine (docOf_yes hv hn ho).mono ?_); rintro e ww ⟨y, rfl, HY, hB⟩; dsimp only; replace hvo := hvo.grow hB; replace HR := HR.grow hB; replace HX := HX.grow hB; replace hT := hT.grow hB; replace hW := hW.trans (hB.mono hW.size); clear hB))
      go_upto_region 6 with (first | (go_at_call 10; (with_reducible refine (of_yes hvo hn ho).mono ?_); rintro e ww ⟨s, rfl, HS, hB⟩; dsimp only; replace HY := HY.grow hB; replace HR := HR.grow hB; replace HX := HX.grow hB; replace hT := hT.grow hB; replace hW := hW.trans (hB.mono hW.size); clear hB))
      clear hv hvo
      go_upto_region 10 with (first | (go_at_call 11; (with_reducible refine (is_c HS HY hT).mono ?_); rintro e ww ⟨rfl, hB⟩; dsimp only; replace HR := HR.grow hB; replace HX := HX.grow hB; replace hT := hT.grow hB; replace hW := hW.trans (hB.mono hW.size); clear hB))
      clear HS HY
      go_upto_region 14 with fail
      cases ha : inB m a with
      | false =>
        go_upto_region 15 with (first | (go_at_call 12; (with_reducible refine ((ha ▸ docIn_c HX a :)).mono ?_); rintro e ww ⟨rfl, rfl⟩; dsimp only))
        go_upto_region 18 with (first | (go_at_call 11; (with_reducible refine (is_c HR HX hT).mono ?_); rintro e ww ⟨rfl, hB⟩; dsimp only; replace HR := HR.grow hB; replace HX := HX.grow hB; replace hT := hT.grow hB; replace hW := hW.trans (hB.mono hW.size); clear hB))
        go_upto_region 19 with (first | (go_at_call 11; (with_reducible refine (is_c HR2 HX2 hT).mono ?_); rintro e ww ⟨rfl, hB⟩; dsimp only; replace HR := HR.grow hB; replace HX := HX.grow hB; replace hT := hT.grow hB; replace hW := hW.trans (hB.mono hW.size); replace HR2 := HR2.grow hB; replace HX2 := HX2.grow hB; clear hB) | (go_at_call 14; (with_reducible refine (docTurned_c HX HR.fit).mono ?_); rintro e ww ⟨x2, rfl, hD⟩; dsimp only; have hB := hD.low; have HX2 := hD.row; clear hD; replace HR := HR.grow hB; replace HX := HX.grow hB; replace hT := hT.grow hB; replace hW := hW.trans (hB.mono hW.size); replace HR2 := HR2.grow hB; clear hB) | (go_at_call 13; (with_reducible refine (turned_r HR hT).mono ?_); rintro e ww ⟨r2, rfl, HR2, _, hB⟩; dsimp only; replace HR := HR.grow hB; replace HX := HX.grow hB; replace hT := hT.grow hB; replace hW := hW.trans (hB.mono hW.size); clear hB))
        clear HR2 HX2
        go_upto_region 20 with (first | (go_at_call 11; (with_reducible refine (is_c HR2 HX2 hT).mono ?_); rintro e ww ⟨rfl, hB⟩; dsimp only; replace HR := HR.grow hB; replace HX := HX.grow hB; replace hT := hT.grow hB; replace hW := hW.trans (hB.mono hW.size); replace HR2 := HR2.grow hB; replace HX2 := HX2.grow hB; clear hB) | (go_at_call 16; (with_reducible refine (docClosed_c HX HR.fit).mono ?_); rintro e ww ⟨x2, rfl, hD⟩; dsimp only; have hB := hD.low; have HX2 := hD.row; clear hD; replace HR := HR.grow hB; replace HX := HX.grow hB; replace hT := hT.grow hB; replace hW := hW.trans (hB.mono hW.size); replace HR2 := HR2.grow hB; clear hB) | (go_at_call 15; (with_reducible refine (closed_c HR).mono ?_); rintro e ww ⟨r2, rfl, HR2, _, hB⟩; dsimp only; replace HR := HR.grow hB; replace HX := HX.grow hB; replace hT := hT.grow hB; replace hW := hW.trans (hB.mono hW.size); clear hB))
        clear HR2 HX2
        go_upto_region 21 with (first | (go_at_call 17; (with_reducible refine (loop_c HR).mono ?_); rintro e ww ⟨rfl, hB⟩; dsimp only; replace HR := HR.grow hB; replace HX := HX.grow hB; replace hT := hT.grow hB; replace hW := hW.trans (hB.mono hW.size); clear hB))
        go_upto_region 22 with (first | (go_at_call 18; (with_reducible refine (docLoop_c HX HR.fit).mono ?_); rintro e ww ⟨rfl, hB⟩; dsimp only; replace HR := HR.grow hB; replace HX := HX.grow hB; replace hT := hT.grow hB; replace hW := hW.trans (hB.mono hW.size); clear hB))
        generalize (loopF m R).getD 0 = lz at *
        generalize (loopF m R).isSome = lb at *
        go_upto_region 23 with (first | (go_at_call 19; (with_reducible refine (order_c HR hT).mono ?_); rintro e ww ⟨v1, rfl, hL1, hB⟩; dsimp only; replace HR := HR.grow hB; replace HX := HX.grow hB; replace hT := hT.grow hB; replace hW := hW.trans (hB.mono hW.size); clear hB))
        go_upto_region 24 with (first | (go_at_call 20; (with_reducible refine (docOrder_c HX HR.fit).mono ?_); rintro e ww ⟨v2, rfl, hL2, hB⟩; dsimp only; replace HR := HR.grow hB; replace HX := HX.grow hB; replace hT := hT.grow hB; replace hW := hW.trans (hB.mono hW.size); replace hL1 := own_grow hL1 hB; clear hB))
        have hll := Nat.le_trans (ordV_len m R) hm
        generalize ordV m R = l at *
        generalize ordB m R = ob at *
        obtain ⟨o1, c1, ev1, _, _⟩ := own_len hL1
        obtain ⟨o2, c2, ev2, _, _⟩ := own_len hL2
        subst ev1 ev2
        have hne : ((l.length : Int) != (l.length : Int)) = false := by simp
        go_wp2
        go_loopw [31] (fun s31 wr => ∃ i : Nat, i ≤ l.length ∧ s31 = vI i ∧ Hid (∃ q, Hid (RelAt r m R wr ∧ wr.ownsRow q 3 1 (.slice o1 l.length c1) l.length (flN l) ∧ (∃ q2, wr.ownsRow q2 3 1 (.slice o2 l.length c2) l.length (flN l)) ∧ Below w.heap.size w wr))) (fun s31 _ => 64 - (intOf s31).toNat)
        case atStart => exact ⟨0, Nat.zero_le _, rfl, _, HR, hL1, ⟨_, hL2⟩, hW⟩
        case round =>
          clear hL1 hL2 hW HR HX hT
          obtain ⟨i, hi, rfl, hH⟩ := hrel
          obtain ⟨q, hH2⟩ := hH.out
          obtain ⟨HR, hL1, ⟨q2, hL2⟩, hW⟩ := hH2.out
          clear hH hH2
          by_cases hlt : (i : Int) < l.length
          · obtain ⟨g1, k1, f1⟩ := own_slice hL1 (by omega)
            obtain ⟨g2, k2, f2⟩ := own_slice hL2 (by omega)
            cases f1
            cases f2
            have hgi : l[i]? = some (l[i]'(by omega)) := List.getElem?_eq_getElem _
            generalize l[i]'(by omega) = z at hgi
            have hca : ∀ w1, Below wr.heap.size wr w1 → w1.cell? ⟨g1, i, none⟩ = some (vI z) := fun w1 h1 => own_cell (own_grow hL1 h1) rfl hgi
            have hcb : ∀ w1, Below wr.heap.size wr w1 → w1.cell? ⟨g2, i, none⟩ = some (vI z) := fun w1 h1 => own_cell (own_grow hL2 h1) rfl hgi
            replace hgi := show Hid _ from hgi
            go_upto_region 29 with fail
            have hst : (StC wr (fun _ => False)) 0 { wr with drawn := wr.drawn + 1 } := Rel.below_draws (n := 1) (Below.refl _ _)
            refine Chn.wp_region_chainL (StC wr (fun _ => False)) [] [0, 0, 0, 0, 0, 0, 0, 0, 0] [.slice (some ⟨g1, 0, none⟩) l.length c1, vI i, ptr g1 i, vI z, .slice (some ⟨g2, 0, none⟩) l.length c2, vI i, ptr g2 i, vI z, .bool false] (by kernel_rfl) (by kernel_rfl) (by kernel_rfl) (by kernel_rfl) (by kernel_rfl) hst ?_
            clear hst
            refine ⟨fun j w1 hj hC => by exact Chn.upon_pure hC (fun F hF => by (go_simp <;> exact hF)), ?_⟩
            simp only [Act.put, List.setIfInBounds_toArray, List.set_cons_succ, List.set_cons_zero]
            refine ⟨fun j w1 hj hC => by exact Chn.upon_pure hC (fun F hF => by (go_simp <;> exact hF)), ?_⟩
            simp only [Act.put, List.setIfInBounds_toArray, List.set_cons_succ, List.set_cons_zero]
            refine ⟨fun j w1 hj hC => by exact Chn.upon_pure hC (fun F hF => by (go_simp <;> exact hF)), ?_⟩
            simp only [Act.put, List.setIfInBounds_toArray, List.set_cons_succ, List.set_cons_zero]
            refine ⟨fun j w1 hj hC => by
              have z := hca w1 (stC_low hj hC)
              exact Chn.upon_pure hC (fun F hF => by (go_simp <;> exact hF)), ?_⟩
            simp only [Act.put, List.setIfInBounds_toArray, List.set_cons_succ, List.set_cons_zero]
            refine ⟨fun j w1 hj hC => by exact Chn.upon_pure hC (fun F hF => by (go_simp <;> exact hF)), ?_⟩
            simp only [Act.put, List.setIfInBounds_toArray, List.set_cons_succ, List.set_cons_zero]
            refine ⟨fun j w1 hj hC => by exact Chn.upon_pure hC (fun F hF => by (go_simp <;> exact hF)), ?_⟩
            simp only [Act.put, List.setIfInBounds_toArray, List.set_cons_succ, List.set_cons_zero]
            refine ⟨fun j w1 hj hC => by exact Chn.upon_pure hC (fun F hF => by (go_simp <;> exact hF)), ?_⟩
            simp only [Act.put, List.setIfInBounds_toArray, List.set_cons_succ, List.set_cons_zero]
            refine ⟨fun j w1 hj hC => by
              have z := hcb w1 (stC_low hj hC)
              exact Chn.upon_pure hC (fun F hF => by (go_simp <;> exact hF)), ?_⟩
            simp only [Act.put, List.setIfInBounds_toArray, List.set_cons_succ, List.set_cons_zero]
            refine ⟨fun j w1 hj hC => by exact Chn.upon_pure hC (fun F hF => by (go_simp <;> exact hF)), ?_⟩
            simp only [Act.put, List.setIfInBounds_toArray, List.set_cons_succ, List.set_cons_zero]
            intro w5 hC
            have hB5 : Below wr.heap.size wr w5 := hC
            clear hC
            go_wp2
            go_roundw
            case rel => exact ⟨i + 1, by omega, by go_num, q, HR.grow hB5, own_grow hL1 hB5, ⟨q2, own_grow hL2 hB5⟩, hW.trans (hB5.mono hW.size)⟩
            case measure => simp [intOf]; omega
          · have hh := (has_no (a := a) (b := b) HR (.inl ha))
            clear hL1 hL2
            go_wp2_with (first | (go_at_call 21; (with_reducible refine hh.mono ?_); rintro e w9 ⟨rfl, rfl⟩; dsimp only))
            go_ret
            exact ⟨rfl, hW⟩
      | true =>
        cases hb : inB m b with
        | false =>
          have k1 := docIn_c HX a
          have k2 := docIn_c HX b
          rw [ha] at k1
          rw [hb] at k2
          go_upto_region 15 with (first | (go_at_call 12; (with_reducible refine k1.mono ?_); rintro e ww ⟨rfl, rfl⟩; dsimp only) | (go_at_call 12; (with_reducible refine k2.mono ?_); rintro e ww ⟨rfl, rfl⟩; dsimp only))
          clear k1 k2
          go_upto_region 18 with (first | (go_at_call 11; (with_reducible refine (is_c HR HX hT).mono ?_); rintro e ww ⟨rfl, hB⟩; dsimp only; replace HR := HR.grow hB; replace HX := HX.grow hB; replace hT := hT.grow hB; replace hW := hW.trans (hB.mono hW.size); clear hB))
          go_upto_region 19 with (first | (go_at_call 11; (with_reducible refine (is_c HR2 HX2 hT).mono ?_); rintro e ww ⟨rfl, hB⟩; dsimp only; replace HR := HR.grow hB; replace HX := HX.grow hB; replace hT := hT.grow hB; replace hW := hW.trans (hB.mono hW.size); replace HR2 := HR2.grow hB; replace HX2 := HX2.grow hB; clear hB) | (go_at_call 14; (with_reducible refine (docTurned_c HX HR.fit).mono ?_); rintro e ww ⟨x2, rfl, hD⟩; dsimp only; have hB := hD.low; have HX2 := hD.row; clear hD; replace HR := HR.grow hB; replace HX := HX.grow hB; replace hT := hT.grow hB; replace hW := hW.trans (hB.mono hW.size); replace HR2 := HR2.grow hB; clear hB) | (go_at_call 13; (with_reducible refine (turned_r HR hT).mono ?_); rintro e ww ⟨r2, rfl, HR2, _, hB⟩; dsimp only; replace HR := HR.grow hB; replace HX := HX.grow hB; replace hT := hT.grow hB; replace hW := hW.trans (hB.mono hW.size); clear hB))
          clear HR2 HX2
          go_upto_region 20 with (first | (go_at_call 11; (with_reducible refine (is_c HR2 HX2 hT).mono ?_); rintro e ww ⟨rfl, hB⟩; dsimp only; replace HR := HR.grow hB; replace HX := HX.grow hB; replace hT := hT.grow hB; replace hW := hW.trans (hB.mono hW.size); replace HR2 := HR2.grow hB; replace HX2 := HX2.grow hB; clear hB) | (go_at_call 16; (with_reducible refine (docClosed_c HX HR.fit).mono ?_); rintro e ww ⟨x2, rfl, hD⟩; dsimp only; have hB := hD.low; have HX2 := hD.row; clear hD; replace HR := HR.grow hB; replace HX := HX.grow hB; replace hT := hT.grow hB; replace hW := hW.trans (hB.mono hW.size); replace HR2 := HR2.grow hB; clear hB) | (go_at_call 15; (with_reducible refine (closed_c HR).mono ?_); rintro e ww ⟨r2, rfl, HR2, _, hB⟩; dsimp only; replace HR := HR.grow hB; replace HX := HX.grow hB; replace hT := hT.grow hB; replace hW := hW.trans (hB.mono hW.size); clear hB))
          clear HR2 HX2
          go_upto_region 21 with (first | (go_at_call 17; (with_reducible refine (loop_c HR).mono ?_); rintro e ww ⟨rfl, hB⟩; dsimp only; replace HR := HR.grow hB; replace HX := HX.grow hB; replace hT := hT.grow hB; replace hW := hW.trans (hB.mono hW.size); clear hB))
          go_upto_region 22 with (first | (go_at_call 18; (with_reducible refine (docLoop_c HX HR.fit).mono ?_); rintro e ww ⟨rfl, hB⟩; dsimp only; replace HR := HR.grow hB; replace HX := HX.grow hB; replace hT := hT.grow hB; replace hW := hW.trans (hB.mono hW.size); clear hB))
          generalize (loopF m R).getD 0 = lz at *
          generalize (loopF m R).isSome = lb at *
          go_upto_region 23 with (first | (go_at_call 19; (with_reducible refine (order_c HR hT).mono ?_); rintro e ww ⟨v1, rfl, hL1, hB⟩; dsimp only; replace HR := HR.grow hB; replace HX := HX.grow hB; replace hT := hT.grow hB; replace hW := hW.trans (hB.mono hW.size); clear hB))
          go_upto_region 24 with (first | (go_at_call 20; (with_reducible refine (docOrder_c HX HR.fit).mono ?_); rintro e ww ⟨v2, rfl, hL2, hB⟩; dsimp only; replace HR := HR.grow hB; replace HX := HX.grow hB; replace hT := hT.grow hB; replace hW := hW.trans (hB.mono hW.size); replace hL1 := own_grow hL1 hB; clear hB))
          have hll := Nat.le_trans (ordV_len m R) hm
          generalize ordV m R = l at *
          generalize ordB m R = ob at *
          obtain ⟨o1, c1, ev1, _, _⟩ := own_len hL1
          obtain ⟨o2, c2, ev2, _, _⟩ := own_len hL2
          subst ev1 ev2
          have hne : ((l.length : Int) != (l.length : Int)) = false := by simp
          go_wp2
          go_loopw [31] (fun s31 wr => ∃ i : Nat, i ≤ l.length ∧ s31 = vI i ∧ Hid (∃ q, Hid (RelAt r m R wr ∧ wr.ownsRow q 3 1 (.slice o1 l.length c1) l.length (flN l) ∧ (∃ q2, wr.ownsRow q2 3 1 (.slice o2 l.length c2) l.length (flN l)) ∧ Below w.heap.size w wr))) (fun s31 _ => 64 - (intOf s31).toNat)
          case atStart => exact ⟨0, Nat.zero_le _, rfl, _, HR, hL1, ⟨_, hL2⟩, hW⟩
          case round =>
            clear hL1 hL2 hW HR HX hT
            obtain ⟨i, hi, rfl, hH⟩ := hrel
            obtain ⟨q, hH2⟩ := hH.out
            obtain ⟨HR, hL1, ⟨q2, hL2⟩, hW⟩ := hH2.out
            clear hH hH2
            by_cases hlt : (i : Int) < l.length
            · obtain ⟨g1, k1, f1⟩ := own_slice hL1 (by omega)
              obtain ⟨g2, k2, f2⟩ := own_slice hL2 (by omega)
              cases f1
              cases f2
              have hgi : l[i]? = some (l[i]'(by omega)) := List.getElem?_eq_getElem _
              generalize l[i]'(by omega) = z at hgi
              have hca : ∀ w1, Below wr.heap.size wr w1 → w1.cell? ⟨g1, i, none⟩ = some (vI z) := fun w1 h1 => own_cell (own_grow hL1 h1) rfl hgi
              have hcb : ∀ w1, Below wr.heap.size wr w1 → w1.cell? ⟨g2, i, none⟩ = some (vI z) := fun w1 h1 => own_cell (own_grow hL2 h1) rfl hgi
              replace hgi := show Hid _ from hgi
              go_upto_region 29 with fail
              have hst : (StC wr (fun _ => False)) 0 { wr with drawn := wr.drawn + 1 } := Rel.below_draws (n := 1) (Below.refl _ _)
              refine Chn.wp_region_chainL (StC wr (fun _ => False)) [] [0, 0, 0, 0, 0, 0, 0, 0, 0] [.slice (some ⟨g1, 0, none⟩) l.length c1, vI i, ptr g1 i, vI z, .slice (some ⟨g2, 0, none⟩) l.length c2, vI i, ptr g2 i, vI z, .bool false] (by kernel_rfl) (by kernel_rfl) (by kernel_rfl) (by kernel_rfl) (by kernel_rfl) hst ?_
              clear hst
              refine ⟨fun j w1 hj hC => by exact Chn.upon_pure hC (fun F hF => by (go_simp <;> exact hF)), ?_⟩
              simp only [Act.put, List.setIfInBounds_toArray, List.set_cons_succ, List.set_cons_zero]
              refine ⟨fun j w1 hj hC => by exact Chn.upon_pure hC (fun F hF => by (go_simp <;> exact hF)), ?_⟩
              simp only [Act.put, List.setIfInBounds_toArray, List.set_cons_succ, List.set_cons_zero]
              refine ⟨fun j w1 hj hC => by exact Chn.upon_pure hC (fun F hF => by (go_simp <;> exact hF)), ?_⟩
              simp only [Act.put, List.setIfInBounds_toArray, List.set_cons_succ, List.set_cons_zero]
              refine ⟨fun j w1 hj hC => by
                have z := hca w1 (stC_low hj hC)
                exact Chn.upon_pure hC (fun F hF => by (go_simp <;> exact hF)), ?_⟩
              simp only [Act.put, List.setIfInBounds_toArray, List.set_cons_succ, List.set_cons_zero]
              refine ⟨fun j w1 hj hC => by exact Chn.upon_pure hC (fun F hF => by (go_simp <;> exact hF)), ?_⟩
              simp only [Act.put, List.setIfInBounds_toArray, List.set_cons_succ, List.set_cons_zero]
              refine ⟨fun j w1 hj hC => by exact Chn.upon_pure hC (fun F hF => by (go_simp <;> exact hF)), ?_⟩
              simp only [Act.put, List.setIfInBounds_toArray, List.set_cons_succ, List.set_cons_zero]
              refine ⟨fun j w1 hj hC => by exact Chn.upon_pure hC (fun F hF => by (go_simp <;> exact hF)), ?_⟩
              simp only [Act.put, List.setIfInBounds_toArray, List.set_cons_succ, List.set_cons_zero]
              refine ⟨fun j w1 hj hC => by
                have z := hcb w1 (stC_low hj hC)
                exact Chn.upon_pure hC (fun F hF => by (go_simp <;> exact hF)), ?_⟩
              simp only [Act.put, List.setIfInBounds_toArray, List.set_cons_succ, List.set_cons_zero]
              refine ⟨fun j w1 hj hC => by exact Chn.upon_pure hC (fun F hF => by (go_simp <;> exact hF)), ?_⟩
              simp only [Act.put, List.setIfInBounds_toArray, List.set_cons_succ, List.set_cons_zero]
              intro w5 hC
              have hB5 : Below wr.heap.size wr w5 := hC
              clear hC
              go_wp2
              go_roundw
              case rel => exact ⟨i + 1, by omega, by go_num, q, HR.grow hB5, own_grow hL1 hB5, ⟨q2, own_grow hL2 hB5⟩, hW.trans (hB5.mono hW.size)⟩
              case measure => simp [intOf]; omega
            · have hh := (has_no (a := a) (b := b) HR (.inr hb))
              clear hL1 hL2
              go_wp2_with (first | (go_at_call 21; (with_reducible refine hh.mono ?_); rintro e w9 ⟨rfl, rfl⟩; dsimp only))
              go_ret
              exact ⟨rfl, hW⟩
        | true =>
          have k1 := docIn_c HX a
          have k2 := docIn_c HX b
          rw [ha] at k1
          rw [hb] at k2
          go_upto_region 15 with (first | (go_at_call 12; (with_reducible refine k1.mono ?_); rintro e ww ⟨rfl, rfl⟩; dsimp only) | (go_at_call 12; (with_reducible refine k2.mono ?_); rintro e ww ⟨rfl, rfl⟩; dsimp only))
          clear k1 k2
          obtain ⟨a, rfl, ha2⟩ := inB_nat ha
          obtain ⟨b, rfl, hb2⟩ := inB_nat hb
          have ha64 : (a : Int) < 64 := by omega
          have hb64 : (b : Int) < 64 := by omega
          have cc := HX.cell (a := a) (b := b) (by omega) (by omega)
          go_upto_region 17 with fail
          clear cc
          go_upto_region 18 with (first | (go_at_call 11; (with_reducible refine (is_c HR HX hT).mono ?_); rintro e ww ⟨rfl, hB⟩; dsimp only; replace HR := HR.grow hB; replace HX := HX.grow hB; replace hT := hT.grow hB; replace hW := hW.trans (hB.mono hW.size); clear hB))
          go_upto_region 19 with (first | (go_at_call 11; (with_reducible refine (is_c HR2 HX2 hT).mono ?_); rintro e ww ⟨rfl, hB⟩; dsimp only; replace HR := HR.grow hB; replace HX := HX.grow hB; replace hT := hT.grow hB; replace hW := hW.trans (hB.mono hW.size); replace HR2 := HR2.grow hB; replace HX2 := HX2.grow hB; clear hB) | (go_at_call 14; (with_reducible refine (docTurned_c HX HR.fit).mono ?_); rintro e ww ⟨x2, rfl, hD⟩; dsimp only; have hB := hD.low; have HX2 := hD.row; clear hD; replace HR := HR.grow hB; replace HX := HX.grow hB; replace hT := hT.grow hB; replace hW := hW.trans (hB.mono hW.size); replace HR2 := HR2.grow hB; clear hB) | (go_at_call 13; (with_reducible refine (turned_r HR hT).mono ?_); rintro e ww ⟨r2, rfl, HR2, _, hB⟩; dsimp only; replace HR := HR.grow hB; replace HX := HX.grow hB; replace hT := hT.grow hB; replace hW := hW.trans (hB.mono hW.size); clear hB))
          clear HR2 HX2
          go_upto_region 20 with (first | (go_at_call 11; (with_reducible refine (is_c HR2 HX2 hT).mono ?_); rintro e ww ⟨rfl, hB⟩; dsimp only; replace HR := HR.grow hB; replace HX := HX.grow hB; replace hT := hT.grow hB; replace hW := hW.trans (hB.mono hW.size); replace HR2 := HR2.grow hB; replace HX2 := HX2.grow hB; clear hB) | (go_at_call 16; (with_reducible refine (docClosed_c HX HR.fit).mono ?_); rintro e ww ⟨x2, rfl, hD⟩; dsimp only; have hB := hD.low; have HX2 := hD.row; clear hD; replace HR := HR.grow hB; replace HX := HX.grow hB; replace hT := hT.grow hB; replace hW := hW.trans (hB.mono hW.size); replace HR2 := HR2.grow hB; clear hB) | (go_at_call 15; (with_reducible refine (closed_c HR).mono ?_); rintro e ww ⟨r2, rfl, HR2, _, hB⟩; dsimp only; replace HR := HR.grow hB; replace HX := HX.grow hB; replace hT := hT.grow hB; replace hW := hW.trans (hB.mono hW.size); clear hB))
          clear HR2 HX2
          go_upto_region 21 with (first | (go_at_call 17; (with_reducible refine (loop_c HR).mono ?_); rintro e ww ⟨rfl, hB⟩; dsimp only; replace HR := HR.grow hB; replace HX := HX.grow hB; replace hT := hT.grow hB; replace hW := hW.trans (hB.mono hW.size); clear hB))
          go_upto_region 22 with (first | (go_at_call 18; (with_reducible refine (docLoop_c HX HR.fit).mono ?_); rintro e ww ⟨rfl, hB⟩; dsimp only; replace HR := HR.grow hB; replace HX := HX.grow hB; replace hT := hT.grow hB; replace hW := hW.trans (hB.mono hW.size); clear hB))
          generalize (loopF m R).getD 0 = lz at *
          generalize (loopF m R).isSome = lb at *
          go_upto_region 23 with (first | (go_at_call 19; (with_reducible refine (order_c HR hT).mono ?_); rintro e ww ⟨v1, rfl, hL1, hB⟩; dsimp only; replace HR := HR.grow hB; replace HX := HX.grow hB; replace hT := hT.grow hB; replace hW := hW.trans (hB.mono hW.size); clear hB))
          go_upto_region 24 with (first | (go_at_call 20; (with_reducible refine (docOrder_c HX HR.fit).mono ?_); rintro e ww ⟨v2, rfl, hL2, hB⟩; dsimp only; replace HR := HR.grow hB; replace HX := HX.grow hB; replace hT := hT.grow hB; replace hW := hW.trans (hB.mono hW.size); replace hL1 := own_grow hL1 hB; clear hB))
          have hll := Nat.le_trans (ordV_len m R) hm
          generalize ordV m R = l at *
          generalize ordB m R = ob at *
          obtain ⟨o1, c1, ev1, _, _⟩ := own_len hL1
          obtain ⟨o2, c2, ev2, _, _⟩ := own_len hL2
          subst ev1 ev2
          have hne : ((l.length : Int) != (l.length : Int)) = false := by simp
          go_wp2
          go_loopw [31] (fun s31 wr => ∃ i : Nat, i ≤ l.length ∧ s31 = vI i ∧ Hid (∃ q, Hid (RelAt r m R wr ∧ wr.ownsRow q 3 1 (.slice o1 l.length c1) l.length (flN l) ∧ (∃ q2, wr.ownsRow q2 3 1 (.slice o2 l.length c2) l.length (flN l)) ∧ Below w.heap.size w wr))) (fun s31 _ => 64 - (intOf s31).toNat)
          case atStart => exact ⟨0, Nat.zero_le _, rfl, _, HR, hL1, ⟨_, hL2⟩, hW⟩
          case round =>
            clear hL1 hL2 hW HR HX hT
            obtain ⟨i, hi, rfl, hH⟩ := hrel
            obtain ⟨q, hH2⟩ := hH.out
            obtain ⟨HR, hL1, ⟨q2, hL2⟩, hW⟩ := hH2.out
            clear hH hH2
            by_cases hlt : (i : Int) < l.length
            · obtain ⟨g1, k1, f1⟩ := own_slice hL1 (by omega)
              obtain ⟨g2, k2, f2⟩ := own_slice hL2 (by omega)
              cases f1
              cases f2
              have hgi : l[i]? = some (l[i]'(by omega)) := List.getElem?_eq_getElem _
              generalize l[i]'(by omega) = z at hgi
              have hca : ∀ w1, Below wr.heap.size wr w1 → w1.cell? ⟨g1, i, none⟩ = some (vI z) := fun w1 h1 => own_cell (own_grow hL1 h1) rfl hgi
              have hcb : ∀ w1, Below wr.heap.size wr w1 → w1.cell? ⟨g2, i, none⟩ = some (vI z) := fun w1 h1 => own_cell (own_grow hL2 h1) rfl hgi
              replace hgi := show Hid _ from hgi
              go_upto_region 29 with fail
              have hst : (StC wr (fun _ => False)) 0 { wr with drawn := wr.drawn + 1 } := Rel.below_draws (n := 1) (Below.refl _ _)
              refine Chn.wp_region_chainL (StC wr (fun _ => False)) [] [0, 0, 0, 0, 0, 0, 0, 0, 0] [.slice (some ⟨g1, 0, none⟩) l.length c1, vI i, ptr g1 i, vI z, .slice (some ⟨g2, 0, none⟩) l.length c2, vI i, ptr g2 i, vI z, .bool false] (by kernel_rfl) (by kernel_rfl) (by kernel_rfl) (by kernel_rfl) (by kernel_rfl) hst ?_
              clear hst
              refine ⟨fun j w1 hj hC => by exact Chn.upon_pure hC (fun F hF => by (go_simp <;> exact hF)), ?_⟩
              simp only [Act.put, List.setIfInBounds_toArray, List.set_cons_succ, List.set_cons_zero]
              refine ⟨fun j w1 hj hC => by exact Chn.upon_pure hC (fun F hF => by (go_simp <;> exact hF)), ?_⟩
              simp only [Act.put, List.setIfInBounds_toArray, List.set_cons_succ, List.set_cons_zero]
              refine ⟨fun j w1 hj hC => by exact Chn.upon_pure hC (fun F hF => by (go_simp <;> exact hF)), ?_⟩
              simp only [Act.put, List.setIfInBounds_toArray, List.set_cons_succ, List.set_cons_zero]
              refine ⟨fun j w1 hj hC => by
                have z := hca w1 (stC_low hj hC)
                exact Chn.upon_pure hC (fun F hF => by (go_simp <;> exact hF)), ?_⟩
              simp only [Act.put, List.setIfInBounds_toArray, List.set_cons_succ, List.set_cons_zero]
              refine ⟨fun j w1 hj hC => by exact Chn.upon_pure hC (fun F hF => by (go_simp <;> exact hF)), ?_⟩
              simp only [Act.put, List.setIfInBounds_toArray, List.set_cons_succ, List.set_cons_zero]
              refine ⟨fun j w1 hj hC => by exact Chn.upon_pure hC (fun F hF => by (go_simp <;> exact hF)), ?_⟩
              simp only [Act.put, List.setIfInBounds_toArray, List.set_cons_succ, List.set_cons_zero]
              refine ⟨fun j w1 hj hC => by exact Chn.upon_pure hC (fun F hF => by (go_simp <;> exact hF)), ?_⟩
              simp only [Act.put, List.setIfInBounds_toArray, List.set_cons_succ, List.set_cons_zero]
              refine ⟨fun j w1 hj hC => by
                have z := hcb w1 (stC_low hj hC)
                exact Chn.upon_pure hC (fun F hF => by (go_simp <;> exact hF)), ?_⟩
              simp only [Act.put, List.setIfInBounds_toArray, List.set_cons_succ, List.set_cons_zero]
              refine ⟨fun j w1 hj hC => by exact Chn.upon_pure hC (fun F hF => by (go_simp <;> exact hF)), ?_⟩
              simp only [Act.put, List.setIfInBounds_toArray, List.set_cons_succ, List.set_cons_zero]
              intro w5 hC
              have hB5 : Below wr.heap.size wr w5 := hC
              clear hC
              go_wp2
              go_roundw
              case rel => exact ⟨i + 1, by omega, by go_num, q, HR.grow hB5, own_grow hL1 hB5, ⟨q2, own_grow hL2 hB5⟩, hW.trans (hB5.mono hW.size)⟩
              case measure => simp [intOf]; omega
            · have hh := (has_in HR ha2 hb2)
              clear hL1 hL2
              go_wp2_with (first | (go_at_call 21; (with_reducible refine hh.mono ?_); rintro e w9 ⟨rfl, rfl⟩; dsimp only))
              go_ret
              exact ⟨rfl, hW⟩

theorem makes_walk (n : Int) {v : Value} {ps : List (Int × Int)} (a b : Int) {w : World} (hl : ps.length * 16 ≤ 140737488355328) (hv : Prs w v ps) (hT : Tab w) : Calls Tryd.prog 3 #[vI n, v, vI a, vI b] w fun e w' => e = .returned (.bool true) ∧ Below w.heap.size w w' := by
  by_cases hn : newE n = 0
  · obtain ⟨m, rfl, hm⟩ := new_nat hn
    cases ho : ofOk m ps with
    | false => exact makes_no hm hn a b ho hl hv hT
    | true => exact makes_yes hm hn a b ho hl hv hT
  · exact makes_bad hn a b hl hv hT
end Go.Proofs.YtfgbhdcoemkdoaaDoor
