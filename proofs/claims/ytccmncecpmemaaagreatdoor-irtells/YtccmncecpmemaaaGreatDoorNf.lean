/- What both tell of a block. -/
import Derived.Test.YtccmncecpmemaaaGreatDoorNe
import Derived.Test.YtccmncecpmemaaaGreatDoorXo
namespace Go.Proofs.YtccmncecpmemaaaGreatDoor
open Go.RowKit
set_option linter.unusedVariables false
set_option linter.unusedSimpArgs false
set_option maxRecDepth 8000

set_option maxHeartbeats 4000000 in
theorem dText_no {w : World} {v : Value} {l : List Opr} {pc words el : Int} (hpc : 0 ≤ pc) (O : Ops w v l) (himm : ∀ k, 0 ≤ (opAt l k).imm) (hcap : ∀ ao n cap, v = .slice ao n cap → n ≤ cap) (hR : rightB pc words el l = false) :
    Calls Tryz.prog 8 #[blV pc words el v] w fun e w' => e = .returned (.tuple #[.string ⟨#[]⟩, .bool false]) ∧ Below w.heap.size w w' := by
  have hb := below_alloc w (.cells (blA pc words el v) 25)
  have r1 : (w.alloc (.cells (blA pc words el v) 25)).heap[w.heap.size]? = some (.cells (blA pc words el v) 25) := heap_alloc_new _ _
  have k1 := dRight_c (words := words) (el := el) hpc (O.grow hb) himm hcap
  rw [hR] at k1
  go_enter Tryz.func8, Tryz.ntmps8
  go_upto_region 1 with fail
  generalize w.alloc (.cells (blA pc words el v) 25) = w1 at *
  go_wp2_with (first | ((with_reducible refine wpList_load_if rfl 25 _ rfl _ rfl 25 _ (0, 0) _ r1 Tryz.underlying25 rfl (bl_inf _ _ _ _) ?_); simp only [Act.put, List.setIfInBounds_toArray, List.set_cons_succ, List.set_cons_zero]) | (go_at_call 6; (with_reducible refine k1.mono ?_); clear k1; rintro e w2 ⟨rfl, B2⟩; dsimp only))
  go_ret2
  exact ⟨rfl, below_then hb (Nat.le_refl _) B2⟩
set_option maxHeartbeats 4000000 in
theorem text_no {w : World} {v : Value} {l : List Opr} {pc words el : Int} (hpc : 0 ≤ pc) (O : Ops w v l) (himm : ∀ k, 0 ≤ (opAt l k).imm) (hcap : ∀ ao n cap, v = .slice ao n cap → n ≤ cap) (hR : rightB pc words el l = false) :
    Calls Tryz.prog 7 #[blV pc words el v] w fun e w' => e = .returned (.tuple #[.string ⟨#[]⟩, vI 4]) ∧ Below w.heap.size w w' := by
  have hb := below_alloc w (.cells (blA pc words el v) 25)
  have r1 : (w.alloc (.cells (blA pc words el v) 25)).heap[w.heap.size]? = some (.cells (blA pc words el v) 25) := heap_alloc_new _ _
  have k1 := right_c (words := words) (el := el) hpc (O.grow hb) himm hcap
  rw [hR] at k1
  go_enter Tryz.func7, Tryz.ntmps7
  go_upto_region 1 with fail
  generalize w.alloc (.cells (blA pc words el v) 25) = w1 at *
  go_wp2_with (first | ((with_reducible refine wpList_load_if rfl 25 _ rfl _ rfl 25 _ (0, 0) _ r1 Tryz.underlying25 rfl (bl_inf _ _ _ _) ?_); simp only [Act.put, List.setIfInBounds_toArray, List.set_cons_succ, List.set_cons_zero]) | (go_at_call 13; (with_reducible refine k1.mono ?_); clear k1; rintro e w2 ⟨rfl, B2⟩; dsimp only))
  go_ret2
  exact ⟨rfl, below_then hb (Nat.le_refl _) B2⟩

theorem tells_ok {l : List Opr} {k : Nat} (h : okAt l k = true) (hk : (k : Int) < 9223372036854775807) (hi1 : 0 ≤ (opAt l k).imm) (hi2 : (opAt l k).imm < 18446744073709551616) {w : World} (ht : Tab w) : Tells w (opAt l k) digS digS := by
  obtain ⟨hok, hfr, hfo, _⟩ := fld_ok h
  have hu : ∀ p ∈ usesL (opAt l k), 0 ≤ p ∧ p < (k : Int) := by
    unfold okAt at h
    simp only [Bool.and_eq_true] at h
    intro p hp
    have hd := List.all_eq_true.1 h.2 p hp
    unfold defB at hd
    simp only [Bool.and_eq_true, decide_eq_true_eq] at hd
    exact hd.1
  generalize opAt l k = o at *
  refine ⟨digS_size, digS_size, ?_, ?_⟩
  · intro j hj hp w1 hb
    have hbd : 0 ≤ (fld o j).2 ∧ (fld o j).2 ≤ 9223372036854775807 := by
      match j, hj with
      | 0, _ => have := hfr hp; exact ⟨this.1, by show o.r ≤ _; omega⟩
      | 1, _ =>
        have hm : o.a ∈ usesL o := by unfold usesL; rw [if_pos (show hasP o.kind 2 = true from hp)]; simp
        have := hu _ hm; exact ⟨this.1, by show o.a ≤ _; omega⟩
      | 2, _ =>
        have hm : o.b ∈ usesL o := by unfold usesL; rw [if_pos (show hasP o.kind 4 = true from hp)]; simp
        have := hu _ hm; exact ⟨this.1, by show o.b ≤ _; omega⟩
      | 3, _ => have := hfo hp; exact ⟨this.1, by show o.order ≤ _; omega⟩
      | j + 4, hj => exact absurd hj (by omega)
    exact itoaS_c hbd.1 hbd.2 (ht.grow hb)
  · intro _ w1 hb
    exact uintS_c hi1 hi2 (ht.grow hb)
theorem uses_eq (o : Opr) : usesD o = usesL o := by
  cases h : isK o.kind with
  | true =>
    obtain ⟨kind, r, a, b, order, imm⟩ := o
    dsimp only at h
    rcases isK_cases h with rfl | rfl | rfl | rfl | rfl | rfl | rfl | rfl | rfl | rfl | rfl | rfl | rfl | rfl | rfl | rfl | rfl | rfl <;> simp [usesD, usesL, shpV, go_sem]
  | false =>
    rw [usesL_none h]
    have h0 : shpV o.kind = 0 := by
      unfold isK at h
      simp only [Bool.and_eq_false_iff, decide_eq_false_iff_not] at h
      unfold shpV
      rw [if_neg (by omega), if_neg (by omega)]
    unfold usesD
    rw [h0]
    rfl
/-- The text that both tell. -/
def txtV (pc words el : Int) (l : List Opr) : ByteArray := if rightB pc words el l = true then docLs l l.length else ⟨#[]⟩
def errV (b : Bool) : Int := if b = true then 0 else 4
theorem dText_c {w : World} {v : Value} {l : List Opr} {pc words el : Int} (hpc : 0 ≤ pc) (O : Ops w v l) (himm : ∀ k, 0 ≤ (opAt l k).imm) (himm2 : ∀ k, (opAt l k).imm < 18446744073709551616) (hcap : ∀ ao n cap, v = .slice ao n cap → n ≤ cap) :
    Calls Tryz.prog 8 #[blV pc words el v] w fun e w' => e = .returned (.tuple #[.string (txtV pc words el l), .bool (rightB pc words el l)]) ∧ Below w.heap.size w w' := by
  unfold txtV
  cases hR : rightB pc words el l with
  | true => rw [if_pos rfl]; exact dText_yes hpc O himm himm2 hcap hR
  | false => rw [if_neg (by decide)]; exact dText_no hpc O himm hcap hR
theorem textA_c {w : World} {v : Value} {l : List Opr} {pc words el : Int} (hpc : 0 ≤ pc) (O : Ops w v l) (himm : ∀ k, 0 ≤ (opAt l k).imm) (himm2 : ∀ k, (opAt l k).imm < 18446744073709551616) (hcap : ∀ ao n cap, v = .slice ao n cap → n ≤ cap) (ht : Tab w) :
    Calls Tryz.prog 7 #[blV pc words el v] w fun e w' => e = .returned (.tuple #[.string (txtV pc words el l), vI (errV (rightB pc words el l))]) ∧ Below w.heap.size w w' := by
  unfold txtV errV
  cases hR : rightB pc words el l with
  | true =>
    rw [if_pos rfl, if_pos rfl]
    have hH : headB pc words el l = true := by unfold rightB at hR; rw [Bool.and_eq_true] at hR; exact hR.1
    have hOB : opsB l = true := by unfold rightB at hR; rw [Bool.and_eq_true] at hR; exact hR.2
    obtain ⟨h0, hl⟩ := headB_len hH
    rw [docLs_eq hOB _ (Nat.le_refl _)]
    exact text_c hpc O himm hcap hR fun k hk w1 hb => ⟨tells_ok (ops_at hOB hk) (by omega) (himm k) (himm2 k) (ht.grow hb), itoaS_c (by omega) (by omega) (ht.grow hb)⟩
  | false => rw [if_neg (by decide), if_neg (by decide)]; exact text_no hpc O himm hcap hR
end Go.Proofs.YtccmncecpmemaaaGreatDoor
