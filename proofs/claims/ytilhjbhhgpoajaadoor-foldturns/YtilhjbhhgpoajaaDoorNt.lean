/- Numerals; what is told of an operation; Text of a right block; the table as it is laid. -/
import Derived.Test.YtilhjbhhgpoajaaDoorNa
import Derived.Test.YtilhjbhhgpoajaaDoorTb
import Derived.Test.YtilhjbhhgpoajaaDoorFr
import Derived.Lib.ItoaNum
import Derived.MakeChecks
import Derived.LaidMore
namespace Go.Proofs.YtilhjbhhgpoajaaDoor
open Go.RowKit
open Go.WideShapes Go.ChangeShapes
set_option linter.unusedVariables false
set_option linter.unusedSimpArgs false
set_option maxRecDepth 8000

def digS (n : Int) : ByteArray := if 0 ≤ n ∧ n < 18446744073709551616 then ⟨(Lib.decDigits n.toNat).toArray⟩ else ⟨#[]⟩
theorem digS_of {n : Int} (h0 : 0 ≤ n) (h1 : n < 18446744073709551616) : digS n = ⟨(Lib.decDigits n.toNat).toArray⟩ := by unfold digS; rw [if_pos ⟨h0, h1⟩]
theorem digS_size (n : Int) : (digS n).size ≤ 32 := by
  unfold digS
  split
  · rename_i h
    show (Lib.decDigits n.toNat).toArray.size ≤ 32
    rw [List.size_toArray, Lib.decDigits_length]
    by_cases h1 : n.toNat = 0
    · rw [h1, ← Lib.decDigits_length, Lib.decDigits_one (by decide)]; exact Nat.le_of_ble_eq_true rfl
    · have := Lib.numDigits_eq n.toNat (by omega) (by omega)
      split at this <;> omega
  · show (#[] : Array UInt8).size ≤ 32
    simp
theorem itoaS_c {n : Int} (h0 : 0 ≤ n) (h1 : n ≤ 9223372036854775807) {w : World} (ht : Tab w) : Calls Tryd.prog 17 #[vI n] w fun e w' => e = .returned (.string (digS n)) ∧ Below w.heap.size w w' := by
  rw [digS_of h0 (by omega)]
  have e : Lib.itoa n = Lib.decDigits n.toNat := by unfold Lib.itoa; rw [if_neg (by omega)]
  have := itoa_c n (by omega) h1 w ht
  rw [e] at this
  exact this
theorem uintS_c {n : Int} (h0 : 0 ≤ n) (h1 : n < 18446744073709551616) {w : World} (ht : Tab w) : Calls Tryd.prog 32 #[vU n, vI 10] w fun e w' => e = .returned (.string (digS n)) ∧ Below w.heap.size w w' := by
  rw [digS_of h0 h1]
  obtain ⟨m, rfl⟩ : ∃ m : Nat, n = m := ⟨n.toNat, by omega⟩
  exact uint_c m (by omega) w ht
theorem fld_ok {l : List Opr} {k : Nat} (h : okAt l k = true) : isK (opAt l k).kind = true ∧ (hasP (opAt l k).kind 1 = true → 0 ≤ (opAt l k).r ∧ (opAt l k).r ≤ 30) ∧ (hasP (opAt l k).kind 8 = true → 0 ≤ (opAt l k).order ∧ (opAt l k).order ≤ 4) := by
  unfold okAt at h
  simp only [Bool.and_eq_true] at h
  refine ⟨h.1.1.1, ?_, ?_⟩
  all_goals
    intro hp
    have hB := h.1.2
    have hK := h.1.1.1
    clear h
    unfold opB at hB
    simp only [Bool.and_eq_true] at hB
    replace hB := hB.2
    generalize opAt l k = o at *
    obtain ⟨kind, r, a, b, order, imm⟩ := o
    dsimp only at *
    unfold rangeB at hB
    dsimp only at hB
    rcases isK_cases hK with rfl | rfl | rfl | rfl | rfl | rfl | rfl | rfl | rfl | rfl | rfl | rfl | rfl | rfl | rfl | rfl | rfl | rfl <;> simp [go_sem] at hp hB <;> omega
theorem tells_ok {l : List Opr} {k : Nat} (h : okAt l k = true) (hk : (k : Int) < 9223372036854775807) (hi1 : 0 ≤ (opAt l k).imm) (hi2 : (opAt l k).imm < 18446744073709551616) {w : World} (ht : Tab w) : Tells w (opAt l k) digS digS := by
  obtain ⟨hok, hfr, hfo⟩ := fld_ok h
  have hu : ∀ p ∈ usesL (opAt l k), 0 ≤ p ∧ p < (k : Int) := by
    unfold okAt at h
    simp only [Bool.and_eq_true] at h
    intro p hp
    have hd := List.all_eq_true.1 h.2 p hp
    unfold defB at hd
    simp only [Bool.and_eq_true, decide_eq_true_eq] at hd
    exact hd.1
  generalize opAt l k = o at *
  refine ⟨digS_size, digS_size, ?_, ?_⟩
  · intro j hj hp w1 hb
    have hbd : 0 ≤ (fld o j).2 ∧ (fld o j).2 ≤ 9223372036854775807 := by
      match j, hj with
      | 0, _ => have := hfr hp; exact ⟨this.1, by show o.r ≤ _; omega⟩
      | 1, _ =>
        have hm : o.a ∈ usesL o := by unfold usesL; rw [if_pos (show hasP o.kind 2 = true from hp)]; simp
        have := hu _ hm; exact ⟨this.1, by show o.a ≤ _; omega⟩
      | 2, _ =>
        have hm : o.b ∈ usesL o := by unfold usesL; rw [if_pos (show hasP o.kind 4 = true from hp)]; simp
        have := hu _ hm; exact ⟨this.1, by show o.b ≤ _; omega⟩
      | 3, _ => have := hfo hp; exact ⟨this.1, by show o.order ≤ _; omega⟩
      | j + 4, hj => exact absurd hj (by omega)
    exact itoaS_c hbd.1 hbd.2 (ht.grow hb)
  · intro _ w1 hb
    exact uintS_c hi1 hi2 (ht.grow hb)
theorem gTab : Tryd.prog.globalNamed "internal/strconv.uint64pow10" = some 0 := by kernel_rfl
theorem tTab : (Tryd.prog.globals[0]?).map (·.type) = some 92 := by kernel_rfl
theorem tab_of_laid {W : World} (h : laidMetH Tryd.prog laid1 W) : Tab W := by
  rw [MakeChecks.laidMetH_plain _ _ _ (by kernel_rfl)] at h
  exact Lib.tabIs_of_head gTab tTab Tryd.underlying92 Tryd.underlying22 (by kernel_rfl) (by kernel_rfl) (zs := Lib.pow10Tab) (rest := []) h.tail.tail
/-- Text of a right block. -/
theorem textR_c {w : World} {v : Value} {l : List Opr} {pc words el : Int} (hpc : 0 ≤ pc) (O : Ops w v l) (hu : ∀ k, U64 (opAt l k).imm) (hcap : ∀ ao n cap, v = .slice ao n cap → n ≤ cap) (hR : rightB pc words el l = true) (ht : Tab w) :
    Calls Tryd.prog 8 #[blV pc words el v] w fun e w' => e = .returned (.tuple #[.string (linesS digS digS l l.length), vI 0]) ∧ Below w.heap.size w w' := by
  have hH : headB pc words el l = true := by unfold rightB at hR; rw [Bool.and_eq_true] at hR; exact hR.1
  have hOB : opsB l = true := by unfold rightB at hR; rw [Bool.and_eq_true] at hR; exact hR.2
  obtain ⟨h0, hl⟩ := headB_len hH
  exact text_c hpc O (fun k => (hu k).1) hcap hR fun k hk w1 hb => ⟨tells_ok (ops_at hOB hk) (by omega) (hu k).1 (by have := (hu k).2; omega) (ht.grow hb), itoaS_c (by omega) (by omega) (ht.grow hb)⟩
end Go.Proofs.YtilhjbhhgpoajaaDoor
