/- What the calls do to one core's mark. -/
import Derived.Test.YtgloemlbkkjcaaaMg
namespace Go.Proofs.Ytgloemlbkkjcaaa
open Go.RowKit
set_option linter.unusedVariables false
set_option linter.unusedSimpArgs false

theorem getD_set (ms : List Mk) (k : Nat) (s d : Mk) (hk : k < ms.length) (c : Nat) : (ms.set k s).getD c d = if c = k then s else ms.getD c d := by
  simp only [List.getD_eq_getElem?_getD, List.getElem?_set]
  by_cases e : c = k
  · subst e; simp [hk]
  · rw [if_neg (Ne.symm e), if_neg e]
theorem wip_get (ms : List Mk) (c : Int) (s : Mk) (j : Nat) (hj : j ≤ ms.length) (i : Nat) : (wip ms c s j).getD i (false, 0) = if i < j ∧ hitM ms c s i = true then (false, 0) else ms.getD i (false, 0) := by
  induction j with
  | zero => simp [wip]
  | succ j ih =>
    have ih := ih (by omega)
    rw [wip]
    by_cases h : hitM ms c s j = true
    · rw [if_pos h, getD_set _ _ _ _ (by rw [wip_len]; omega), ih]
      by_cases e : i = j
      · subst e; simp [h]
      · rw [if_neg e]
        by_cases h2 : i < j
        · simp [h2, Nat.lt_succ_of_lt h2]
        · simp [h2, show ¬ i < j + 1 by omega]
    · rw [if_neg h, ih]
      by_cases e : i = j
      · subst e; simp [h]
      · by_cases h2 : i < j
        · simp [h2, Nat.lt_succ_of_lt h2]
        · simp [h2, show ¬ i < j + 1 by omega]
theorem lst_mem (ms : List Mk) (c : Int) (s : Mk) (j : Nat) (x : Int) : x ∈ lst ms c s j ↔ ∃ i : Nat, i < j ∧ x = i ∧ hitM ms c s i = true := by
  induction j with
  | zero => simp [lst]
  | succ j ih =>
    rw [lst]
    split
    · rename_i h
      rw [List.mem_append, ih, List.mem_singleton]
      constructor
      · rintro (⟨i, h1, h2, h3⟩ | rfl)
        · exact ⟨i, by omega, h2, h3⟩
        · exact ⟨j, by omega, rfl, h⟩
      · rintro ⟨i, h1, h2, h3⟩
        by_cases e : i = j
        · exact .inr (by rw [h2, e])
        · exact .inl ⟨i, by omega, h2, h3⟩
    · rename_i h
      rw [ih]
      constructor
      · rintro ⟨i, h1, h2, h3⟩
        exact ⟨i, by omega, h2, h3⟩
      · rintro ⟨i, h1, h2, h3⟩
        by_cases e : i = j
        · subst e; exact absurd h3 h
        · exact ⟨i, by omega, h2, h3⟩
theorem hit_iff {ms : List Mk} {c : Int} {s : Mk} {j : Nat} (hj : j < ms.length) : hitM ms c s j = true ↔ (j : Int) ≠ c ∧ mkAt ms j = s := by
  have := mkAt_get (ms := ms) hj
  simp [hitM, this]
theorem mark_at {n : Int} {ms : List Mk} {k : Int} (hk : hasB n k = true) (hn : n ≤ 8) (hl : ms.length = 8) (a : Int) {c : Int} (h0 : 0 ≤ c) : mkAt (markS n ms k a) c = if c = k then ofV a else mkAt ms c := by
  have h := hasB_iff.1 hk
  rw [markS, hk, if_pos rfl, mkAt, getD_set _ _ _ _ (by omega)]
  by_cases e : c = k
  · rw [if_pos e, if_pos (by omega)]
  · rw [if_neg e, if_neg (by omega)]; rfl
theorem clear_at {n : Int} {ms : List Mk} {k : Int} (hk : hasB n k = true) (hn : n ≤ 8) (hl : ms.length = 8) {c : Int} (h0 : 0 ≤ c) : mkAt (clearS n ms k) c = if c = k then (false, 0) else mkAt ms c := by
  have h := hasB_iff.1 hk
  rw [clearS, hk, if_pos rfl, mkAt, getD_set _ _ _ _ (by omega)]
  by_cases e : c = k
  · rw [if_pos e, if_pos (by omega)]
  · rw [if_neg e, if_neg (by omega)]; rfl
theorem wrote_at {n : Int} {ms : List Mk} {k : Int} (hk : hasB n k = true) (hl : ms.length = 8) (a : Int) {c : Int} (h0 : 0 ≤ c) (h8 : c < 8) : mkAt (wroteS n ms k a) c = if c ≠ k ∧ mkAt ms c = ofV a then (false, 0) else mkAt ms c := by
  obtain ⟨i, rfl⟩ : ∃ i : Nat, c = i := ⟨c.toNat, by omega⟩
  rw [wroteS, hk, if_pos rfl, mkAt, Int.toNat_natCast, wip_get _ _ _ _ (by omega)]
  have hi : i < ms.length := by omega
  by_cases e : hitM ms k (ofV a) i = true
  · rw [if_pos ⟨by omega, e⟩, if_pos ((hit_iff hi).1 e)]
  · rw [if_neg (fun h => e h.2), if_neg (fun h => e ((hit_iff hi).2 h))]; rfl
theorem wrote_mem {n : Int} {ms : List Mk} {k : Int} (hk : hasB n k = true) (hl : ms.length = 8) (a : Int) {x : Int} (h : x ∈ wroteL n ms k a) : 0 ≤ x ∧ x < 8 ∧ x ≠ k ∧ mkAt ms x = ofV a := by
  rw [wroteL, hk, if_pos rfl] at h
  obtain ⟨i, h1, rfl, h3⟩ := (lst_mem _ _ _ _ _).1 h
  have := (hit_iff (by omega)).1 h3
  exact ⟨by omega, by omega, this.1, this.2⟩
theorem take_iff {n : Int} {ms : List Mk} {k a : Int} (hk : hasB n k = true) : takeB n ms k a = true ↔ mkAt ms k = ofV a := by rw [takeB, hk, Bool.true_and, eqM_iff]
theorem of_inj {a b : Int} : ofV a = ofV b ↔ a / 64 = b / 64 := by simp [ofV]
theorem of_ne_nil (a : Int) : ofV a ≠ (false, 0) := by simp [ofV]
theorem errT : errE true = 0 := rfl
end Go.Proofs.Ytgloemlbkkjcaaa
