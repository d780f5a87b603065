/- Loop; matched. -/
import Derived.Test.YtnedkielehmneaaGreatDoorRi
namespace Go.Proofs.YtnedkielehmneaaGreatDoor
open Go.RowKit
set_option linter.unusedVariables false
set_option linter.unusedSimpArgs false
set_option maxRecDepth 8000

set_option maxHeartbeats 1000000 in
theorem loop_c {r n : Nat} {R : Nat → Nat → Bool} {w : World} (H : RelAt r n R w) : Calls Tryz.prog 57 #[ptr r 0] w fun e w' => e = .returned (.tuple #[vI ((Rlw.loopF n R).getD 0 : Nat), .bool (Rlw.loopF n R).isSome]) ∧ Below w.heap.size w w' := by
  have hc := closed_c H
  have hle := H.le
  have hfit := H.fit.wa n
  go_enter Tryz.func57, Tryz.ntmps57
  go_wp2_with (first | (go_at_call 100; with_reducible refine hc.mono ?_; rintro e w1 ⟨q, rfl, HQ, hq, hB⟩; have H4 := HQ.row; dsimp only) | (with_reducible refine wpList_load68 rfl _ rfl rfl H4 ?_; simp only [Act.put, List.setIfInBounds_toArray, List.set_cons_succ, List.set_cons_zero]))
  go_loop [11] (fun s11 => ∃ k : Nat, k ≤ 64 ∧ s11 = vI k ∧ ∀ x, x < k → Rlw.war R n x x = false) (fun s11 => 64 - (intOf s11).toNat)
  case atStart => exact ⟨0, Nat.zero_le _, rfl, fun x h => by omega⟩
  case round =>
    obtain ⟨k, hk, rfl, hno⟩ := hrel
    replace hno := show Hid _ from hno
    by_cases hlt : (k : Int) < 64
    · have hk2 : k < 64 := by omega
      have hh := has_c (rwd (Rlw.war R n) k) k (rwd_lt _ _) hk2 w1
      rw [rwd_test, decide_eq_true hk2, Bool.true_and] at hh
      cases hw : Rlw.war R n k k with
      | true =>
        rw [hw] at hh
        have e1 : Rlw.loopF n R = some k := Rlw.find_range.2 ⟨(hfit k k hw).1, hw, hno.out⟩
        go_wp2_with (first | (with_reducible refine wpList_index68 rfl _ _ rfl rfl k hk2 rfl ?_; simp only [Act.put, List.setIfInBounds_toArray, List.set_cons_succ, List.set_cons_zero]) | (go_at_call 101; with_reducible refine hh.mono ?_; rintro e w1 ⟨rfl, rfl⟩; dsimp only))
        go_ret2
        exact ⟨rfl, hB⟩
      | false =>
        rw [hw] at hh
        go_wp2_with (first | (with_reducible refine wpList_index68 rfl _ _ rfl rfl k hk2 rfl ?_; simp only [Act.put, List.setIfInBounds_toArray, List.set_cons_succ, List.set_cons_zero]) | (go_at_call 101; with_reducible refine hh.mono ?_; rintro e w1 ⟨rfl, rfl⟩; dsimp only))
        go_round
        case rel => exact ⟨k + 1, by omega, by go_num, fun x hx => by
          by_cases e : x = k
          · rw [e]; exact hw
          · exact hno.out x (by omega)⟩
        case measure => simp [intOf]; omega
    · obtain rfl : k = 64 := by omega
      have e1 : Rlw.loopF n R = none := Rlw.find_none.2 fun a ha => hno.out a (by omega)
      go_wp2
      go_ret2
      exact ⟨rfl, hB⟩
/-- One size? -/
theorem eqN {n m : Nat} (h : n ≠ m) : ((n : Int) != (m : Int)) = true := by simp; omega
theorem matched_no {r s n m : Nat} {f g : Nat → Nat} {w : World} (H : RowAt r n f w) (K : RowAt s m g w) (hnm : n ≠ m) (fv : Value) : Calls Tryz.prog 131 #[ptr r 0, ptr s 0, fv] w fun e w' => e = .returned (.tuple #[.pointer none, vI 6]) ∧ Below w.heap.size w w' := by
  have hne := eqN hnm
  go_enter Tryz.func131, Tryz.ntmps131
  go_upto_region 1 with fail
  have hst : (StC w (fun _ => False)) 0 { w with drawn := w.drawn + 1 } := Rel.below_draws (n := 1) (Below.refl _ _)
  refine Chn.wp_region_chainL (StC w (fun _ => False)) [] [0, 0, 0, 0, 0, 0, 0, 0, 0] [ptr r 0, ptr r 0, ptr r 0, vI n, ptr s 0, ptr s 0, ptr s 0, vI m, .bool true] (by kernel_rfl) (by kernel_rfl) (by kernel_rfl) (by kernel_rfl) (by kernel_rfl) hst ?_
  clear hst
  refine ⟨fun j w1 hj hC => by exact Chn.upon_pure hC (fun F hF => by (go_simp <;> exact hF)), ?_⟩
  simp only [Act.put, List.setIfInBounds_toArray, List.set_cons_succ, List.set_cons_zero]
  refine ⟨fun j w1 hj hC => by exact Chn.upon_pure hC (fun F hF => by (go_simp <;> exact hF)), ?_⟩
  simp only [Act.put, List.setIfInBounds_toArray, List.set_cons_succ, List.set_cons_zero]
  refine ⟨fun j w1 hj hC => by exact Chn.upon_pure hC (fun F hF => by (go_simp <;> exact hF)), ?_⟩
  simp only [Act.put, List.setIfInBounds_toArray, List.set_cons_succ, List.set_cons_zero]
  refine ⟨fun j w1 hj hC => by
    have z := (H.grow (stC_low hj hC)).c0
    exact Chn.upon_pure hC (fun F hF => by (go_simp <;> exact hF)), ?_⟩
  simp only [Act.put, List.setIfInBounds_toArray, List.set_cons_succ, List.set_cons_zero]
  refine ⟨fun j w1 hj hC => by exact Chn.upon_pure hC (fun F hF => by (go_simp <;> exact hF)), ?_⟩
  simp only [Act.put, List.setIfInBounds_toArray, List.set_cons_succ, List.set_cons_zero]
  refine ⟨fun j w1 hj hC => by exact Chn.upon_pure hC (fun F hF => by (go_simp <;> exact hF)), ?_⟩
  simp only [Act.put, List.setIfInBounds_toArray, List.set_cons_succ, List.set_cons_zero]
  refine ⟨fun j w1 hj hC => by exact Chn.upon_pure hC (fun F hF => by (go_simp <;> exact hF)), ?_⟩
  simp only [Act.put, List.setIfInBounds_toArray, List.set_cons_succ, List.set_cons_zero]
  refine ⟨fun j w1 hj hC => by
    have z := (K.grow (stC_low hj hC)).c0
    exact Chn.upon_pure hC (fun F hF => by (go_simp <;> exact hF)), ?_⟩
  simp only [Act.put, List.setIfInBounds_toArray, List.set_cons_succ, List.set_cons_zero]
  refine ⟨fun j w1 hj hC => by exact Chn.upon_pure hC (fun F hF => by (go_simp <;> exact hF)), ?_⟩
  simp only [Act.put, List.setIfInBounds_toArray, List.set_cons_succ, List.set_cons_zero]
  intro w5 hC
  go_wp2
  go_ret2
  exact ⟨rfl, hC⟩
/-- The rows so far. -/
def maW (h : Nat → Nat) (k a : Nat) : Nat := if a < k then h a else 0
theorem maW_put (h : Nat → Nat) (k x : Nat) : up (maW h k) k (h k) x = maW h (k + 1) x := by
  unfold up maW
  by_cases e : x = k
  · subst e; rw [if_pos rfl, if_pos (by omega)]
  · rw [if_neg e]
    by_cases h1 : x < k
    · rw [if_pos h1, if_pos (by omega)]
    · rw [if_neg h1, if_neg (by omega)]
set_option maxHeartbeats 2000000 in
theorem matched_c {r s n : Nat} {f g : Nat → Nat} {w : World} (H : RowAt r n f w) (K : RowAt s n g w) (hn : n ≤ 64) (fid : FuncId) (p1 p2 : Value) (h : Nat → Nat) (eg : ∀ args w, (callFunc fid args).run Tryz.prog w = .ok (.enter fid args) w)
    (hc : ∀ a, a < n → ∀ W, Below w.heap.size w W → Calls Tryz.prog fid #[vI a, p1, p2] W fun e W' => e = .returned (vU (h a)) ∧ Below W.heap.size W W') : Calls Tryz.prog 131 #[ptr r 0, ptr s 0, .func (.func fid) #[] #[p1, p2]] w fun e w' => ∃ q, e = .returned (.tuple #[ptr q 0, vI 0]) ∧ RowAt q n (fun a => if a < n then h a else 0) w' ∧ w.heap.size ≤ q ∧ Below w.heap.size w w' := by
  go_enter Tryz.func131, Tryz.ntmps131
  go_upto_region 1 with fail
  have hst : (StC w (fun _ => False)) 0 { w with drawn := w.drawn + 1 } := Rel.below_draws (n := 1) (Below.refl _ _)
  refine Chn.wp_region_chainL (StC w (fun _ => False)) [] [0, 0, 0, 0, 0, 0, 0, 0, 0] [ptr r 0, ptr r 0, ptr r 0, vI n, ptr s 0, ptr s 0, ptr s 0, vI n, .bool false] (by kernel_rfl) (by kernel_rfl) (by kernel_rfl) (by kernel_rfl) (by kernel_rfl) hst ?_
  clear hst
  refine ⟨fun j w1 hj hC => by exact Chn.upon_pure hC (fun F hF => by (go_simp <;> exact hF)), ?_⟩
  simp only [Act.put, List.setIfInBounds_toArray, List.set_cons_succ, List.set_cons_zero]
  refine ⟨fun j w1 hj hC => by exact Chn.upon_pure hC (fun F hF => by (go_simp <;> exact hF)), ?_⟩
  simp only [Act.put, List.setIfInBounds_toArray, List.set_cons_succ, List.set_cons_zero]
  refine ⟨fun j w1 hj hC => by exact Chn.upon_pure hC (fun F hF => by (go_simp <;> exact hF)), ?_⟩
  simp only [Act.put, List.setIfInBounds_toArray, List.set_cons_succ, List.set_cons_zero]
  refine ⟨fun j w1 hj hC => by
    have z := (H.grow (stC_low hj hC)).c0
    exact Chn.upon_pure hC (fun F hF => by (go_simp <;> exact hF)), ?_⟩
  simp only [Act.put, List.setIfInBounds_toArray, List.set_cons_succ, List.set_cons_zero]
  refine ⟨fun j w1 hj hC => by exact Chn.upon_pure hC (fun F hF => by (go_simp <;> exact hF)), ?_⟩
  simp only [Act.put, List.setIfInBounds_toArray, List.set_cons_succ, List.set_cons_zero]
  refine ⟨fun j w1 hj hC => by exact Chn.upon_pure hC (fun F hF => by (go_simp <;> exact hF)), ?_⟩
  simp only [Act.put, List.setIfInBounds_toArray, List.set_cons_succ, List.set_cons_zero]
  refine ⟨fun j w1 hj hC => by exact Chn.upon_pure hC (fun F hF => by (go_simp <;> exact hF)), ?_⟩
  simp only [Act.put, List.setIfInBounds_toArray, List.set_cons_succ, List.set_cons_zero]
  refine ⟨fun j w1 hj hC => by
    have z := (K.grow (stC_low hj hC)).c0
    exact Chn.upon_pure hC (fun F hF => by (go_simp <;> exact hF)), ?_⟩
  simp only [Act.put, List.setIfInBounds_toArray, List.set_cons_succ, List.set_cons_zero]
  refine ⟨fun j w1 hj hC => by exact Chn.upon_pure hC (fun F hF => by (go_simp <;> exact hF)), ?_⟩
  simp only [Act.put, List.setIfInBounds_toArray, List.set_cons_succ, List.set_cons_zero]
  intro w5 hC
  have c0 := (H.grow hC).c0
  go_upto_region 4 with (first | (with_reducible refine wpList_new70 rfl _ rfl n rfl ?_; simp only [Act.put, List.setIfInBounds_toArray, List.set_cons_succ, List.set_cons_zero]) | (with_reducible refine wpList_box70 rfl _ rfl n (fun _ => 0) rfl ?_; intro w1 hR1 hB1 hsz1; simp only [Act.put, List.setIfInBounds_toArray, List.set_cons_succ, List.set_cons_zero]))
  have hB0 : Below w.heap.size w w5 := hC
  have hB2 : Below w.heap.size w w1 := hB0.trans (hB1.mono hB0.size)
  have hwq := hB0.size
  have c1 := (H.grow hB2).c0
  clear c0 hC
  go_wp2
  clear c1
  go_loopw [29] (fun s29 wr => ∃ k : Nat, k ≤ n ∧ s29 = vI k ∧ Hid (RowAt w5.heap.size n (maW h k) wr ∧ Below w.heap.size w wr)) (fun s29 _ => 64 - (intOf s29).toNat)
  case atStart => exact ⟨0, Nat.zero_le _, rfl, hR1.congr fun a _ => by simp [maW], hB2⟩
  case round =>
    clear hR1 hB1 hB2
    obtain ⟨k, hk, rfl, hH⟩ := hrel
    obtain ⟨hRk, hBk⟩ := hH.out
    clear hH
    by_cases hlt : (k : Int) < n
    · have hkn : k < n := by omega
      have hk64 : (k : Int) < 64 := by omega
      go_upto_region 7 with fail
      have hst : (StC wr (fun w1 => RowAt w5.heap.size n (maW h (k + 1)) w1 ∧ Below w.heap.size w w1)) 0 { wr with drawn := wr.drawn + 1 } := Rel.below_draws (n := 1) (Below.refl _ _)
      refine Chn.wp_region_chainL (StC wr (fun w1 => RowAt w5.heap.size n (maW h (k + 1)) w1 ∧ Below w.heap.size w w1)) [8] [1, 1, 1, 1, 0, 1, 1, 1, 1] [ptr w5.heap.size 0, vI k, .func (.func fid) #[] #[p1, p2], vI k, vU (h k), ptr w5.heap.size 0, ptr w5.heap.size 1, ptr w5.heap.size (1 + k), undef] (by kernel_rfl) (by kernel_rfl) (by kernel_rfl) (by kernel_rfl) (by kernel_rfl) hst ?_
      clear hst
      refine ⟨fun j w1 hj hC => by exact Chn.upon_pure hC (fun F hF => by (go_simp <;> exact hF)), ?_⟩
      simp only [Act.put, List.setIfInBounds_toArray, List.set_cons_succ, List.set_cons_zero]
      refine ⟨fun j w1 hj hC => by exact Chn.upon_pure hC (fun F hF => by (go_simp <;> exact hF)), ?_⟩
      simp only [Act.put, List.setIfInBounds_toArray, List.set_cons_succ, List.set_cons_zero]
      refine ⟨fun j w1 hj hC => by exact Chn.upon_pure hC (fun F hF => by (go_simp <;> exact hF)), ?_⟩
      simp only [Act.put, List.setIfInBounds_toArray, List.set_cons_succ, List.set_cons_zero]
      refine ⟨fun j w1 hj hC => by exact Chn.upon_pure hC (fun F hF => by (go_simp <;> exact hF)), ?_⟩
      simp only [Act.put, List.setIfInBounds_toArray, List.set_cons_succ, List.set_cons_zero]
      refine ⟨fun j w1 hj hC => by
        exact Chn.upon_call (C := (StC wr (fun w1 => RowAt w5.heap.size n (maW h (k + 1)) w1 ∧ Below w.heap.size w w1)) j) (hc k hkn w1 (hBk.trans ((stC_low hj hC).mono hBk.size))) (fun e2 w2 hh => ⟨hh.1, by obtain rfl : j = 0 := Nat.le_zero.1 hj; exact below_then hC (Nat.le_refl _) hh.2⟩) (fun F hF => by (go_simp <;> exact hF)), ?_⟩
      simp only [Act.put, List.setIfInBounds_toArray, List.set_cons_succ, List.set_cons_zero]
      refine ⟨fun j w1 hj hC => by exact Chn.upon_pure hC (fun F hF => by (go_simp <;> exact hF)), ?_⟩
      simp only [Act.put, List.setIfInBounds_toArray, List.set_cons_succ, List.set_cons_zero]
      refine ⟨fun j w1 hj hC => by exact Chn.upon_pure hC (fun F hF => by (go_simp <;> exact hF)), ?_⟩
      simp only [Act.put, List.setIfInBounds_toArray, List.set_cons_succ, List.set_cons_zero]
      refine ⟨fun j w1 hj hC => by exact Chn.upon_pure hC (fun F hF => by (go_simp <;> exact hF)), ?_⟩
      simp only [Act.put, List.setIfInBounds_toArray, List.set_cons_succ, List.set_cons_zero]
      refine ⟨fun w1 hC => by
        exact chn_store (C := (StC wr (fun w1 => RowAt w5.heap.size n (maW h (k + 1)) w1 ∧ Below w.heap.size w w1)) 1) 94 _ _ rfl w5.heap.size (1 + k) rfl (vU (h k)) rfl ((hRk.grow hC).run67 (j := k) (by omega) _) (⟨((hRk.grow hC).put (j := k) (by omega) _).congr fun x _ => maW_put h k x, (hBk.trans (hC.mono hBk.size)).setCell (p := ⟨w5.heap.size, 1 + k, none⟩) hwq _⟩), ?_⟩
      simp only [Act.put, List.setIfInBounds_toArray, List.set_cons_succ, List.set_cons_zero]
      intro w6 hC
      obtain ⟨hR5, hB5⟩ := (show _ ∧ _ from hC)
      clear hC
      go_wp2
      go_roundw
      case rel => exact ⟨k + 1, by omega, by go_num, hR5, hB5⟩
      case measure => simp [intOf]; omega
    · obtain rfl : k = n := by omega
      go_wp2
      go_ret2
      exact ⟨w5.heap.size, rfl, hRk, hwq, hBk⟩
end Go.Proofs.YtnedkielehmneaaGreatDoor
