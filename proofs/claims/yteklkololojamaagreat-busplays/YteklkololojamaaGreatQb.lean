/- The program's controller: hasCore, find, look and what is read. -/
import Derived.Test.YteklkololojamaaGreatQa
import Derived.Test.YteklkololojamaaGreatRel
namespace Go.Proofs.YteklkololojamaaGreat
open Go.RowKit
set_option linter.unusedVariables false
set_option linter.unusedSimpArgs false

def hasB (n : Nat) (core : Int) : Bool := decide (0 ≤ core) && decide (core < (n : Int))
def badB (n : Nat) (core id : Int) : Bool := !hasB n core || decide (id < 0) || decide (64 ≤ id)
theorem has_of {n : Nat} {core : Int} (h : hasB n core = true) : 0 ≤ core ∧ core < n := by
  simp only [hasB, Bool.and_eq_true, decide_eq_true_eq] at h
  exact h
theorem bad_of {n : Nat} {core id : Int} (h : badB n core id = false) : hasB n core = true ∧ 0 ≤ id ∧ id < 64 := by
  simp only [badB, Bool.or_eq_false_iff, decide_eq_false_iff_not, Bool.not_eq_false'] at h
  exact ⟨h.1.1, by omega, by omega⟩
/-- Where an interrupt stands. -/
def pr (n : Nat) (core id : Int) : Nat := if 32 ≤ id then n else core.toNat
def pk (id : Int) : Nat := if 32 ≤ id then (id - 32).toNat else id.toNat
theorem pr_le {n : Nat} {core id : Int} (h : badB n core id = false) : pr n core id ≤ n := by
  obtain ⟨h1, h2, h3⟩ := bad_of h
  have := has_of h1
  unfold pr; split <;> omega
theorem pk_lt {n : Nat} {core id : Int} (h : badB n core id = false) : pk id < 32 := by
  obtain ⟨h1, h2, h3⟩ := bad_of h
  unfold pk; split <;> omega
section
variable {g n : Nat} {P : Pg} {L : GLay} {w : World}
theorem has_c (H : GicAt g n P L w) (core : Int) : Calls Tryz.prog 67 #[ptr g 0, vI core] w fun e w' => e = .returned (.bool (hasB n core)) ∧ w' = w := by
  have c0 := H.c0
  clear H
  unfold hasB
  by_cases h1 : 0 ≤ core
  · rw [decide_eq_true h1]
    go_enter Tryz.func67, Tryz.ntmps67
    go_wp2
    go_ret
    exact ⟨rfl, rfl⟩
  · rw [decide_eq_false h1]
    go_enter Tryz.func67, Tryz.ntmps67
    go_wp2
    go_ret
    exact ⟨rfl, rfl⟩
set_option maxRecDepth 4000 in
theorem find_no (H : GicAt g n P L w) (core id : Int) (hb : badB n core id = true) : Calls Tryz.prog 80 #[ptr g 0, vI core, vI id] w fun e w' => e = .returned (.pointer none) ∧ w' = w := by
  cases h1 : hasB n core with
  | false =>
    go_enter Tryz.func80, Tryz.ntmps80
    go_wp2_with (go_at_call 67; refine (has_c H core).mono ?_; rintro e w' ⟨rfl, rfl⟩; dsimp only; rw [h1])
    go_ret
    exact ⟨rfl, rfl⟩
  | true =>
    by_cases h2 : id < 0
    · go_enter Tryz.func80, Tryz.ntmps80
      go_wp2_with (go_at_call 67; refine (has_c H core).mono ?_; rintro e w' ⟨rfl, rfl⟩; dsimp only; rw [h1])
      go_ret
      exact ⟨rfl, rfl⟩
    · have h3 : 64 ≤ id := by
        simp only [badB, h1, Bool.not_true, Bool.false_or, Bool.or_eq_true, decide_eq_true_eq] at hb
        omega
      clear hb
      go_enter Tryz.func80, Tryz.ntmps80
      go_wp2_with (go_at_call 67; refine (has_c H core).mono ?_; rintro e w' ⟨rfl, rfl⟩; dsimp only; rw [h1])
      go_ret
      exact ⟨rfl, rfl⟩
set_option maxRecDepth 4000 in
theorem find_c (H : GicAt g n P L w) (core id : Int) (hb : badB n core id = false) : Calls Tryz.prog 80 #[ptr g 0, vI core, vI id] w fun e w' => e = .returned (ptr (sb g n L (pr n core id)) (so n (pr n core id) (pk id))) ∧ w' = w := by
  obtain ⟨h1, h2, h3⟩ := bad_of hb
  obtain ⟨h4, h5⟩ := has_of h1
  clear hb
  unfold pr pk
  by_cases h6 : 32 ≤ id
  · rw [if_pos h6, if_pos h6]
    have e1 : sb g n L n = g := if_pos rfl
    have e2 : so n n (id - 32).toNat = 1 + (id - 32).toNat * 6 := if_pos rfl
    rw [e1, e2]
    obtain ⟨k, rfl⟩ : ∃ k : Nat, id = 32 + (k : Int) := ⟨(id - 32).toNat, by omega⟩
    have e3 : (32 + (k : Int) - 32).toNat = k := by omega
    have w1 : IntKind.i64.wrap (32 + (k : Int) - 32) = k := by rw [IntKind.wrap_i64]; omega
    have k1 : (0 : Int) ≤ k := by omega
    have k2 : (k : Int) < 32 := by omega
    rw [e3]
    clear e1 e2
    go_enter Tryz.func80, Tryz.ntmps80
    go_wp2_with (go_at_call 67; refine (has_c H core).mono ?_; rintro e w' ⟨rfl, rfl⟩; dsimp only; rw [h1])
    go_ret
    exact ⟨rfl, rfl⟩
  · rw [if_neg h6, if_neg h6]
    obtain ⟨k, rfl⟩ : ∃ k : Nat, id = (k : Int) := ⟨id.toNat, by omega⟩
    obtain ⟨c, rfl⟩ : ∃ c : Nat, core = (c : Int) := ⟨core.toNat, by omega⟩
    rw [Int.toNat_natCast, Int.toNat_natCast]
    have hc : c < n := by omega
    have e1 : sb g n L c = L.cb := if_neg (by omega)
    have e2 : so n c k = c * 194 + 1 + k * 6 := if_neg (by omega)
    rw [e1, e2]
    have k2 : (k : Int) < 32 := by omega
    have c0 := H.c0
    clear e1 e2
    go_enter Tryz.func80, Tryz.ntmps80
    go_wp2_with (go_at_call 67; refine (has_c H c).mono ?_; rintro e w' ⟨rfl, rfl⟩; dsimp only; rw [h1])
    go_ret
    exact ⟨rfl, rfl⟩
theorem spend_c (s : Src) (w : World) : Calls Tryz.prog 70 #[s.val] w fun e w' => e = .returned (.bool (s.l || s.h)) ∧ Below w.heap.size w w' := by
  obtain ⟨e, l, h, a, r, k⟩ := s
  cases l
  · go_enter Tryz.func70, Tryz.ntmps70
    go_wp2
    go_ret
    exact ⟨rfl, below_alloc _ _⟩
  · go_enter Tryz.func70, Tryz.ntmps70
    go_wp2
    go_ret
    exact ⟨rfl, below_alloc _ _⟩
end
end Go.Proofs.YteklkololojamaaGreat
