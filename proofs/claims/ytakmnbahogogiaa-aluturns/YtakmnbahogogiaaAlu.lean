/- What package alu's small functions and the methods of its numbers give back: contracts, for all numbers. -/
import Derived.Test.YtakmnbahogogiaaNumbers
import Derived.Below
import Derived.Laws.Rows
import Derived.Laws.ResultCell
import Derived.Laws.Externs
namespace Go.Proofs.Ytakmnbahogogiaa
open Go.RowKit

theorem below_alloc (w : World) (o : Obj) : Below w.heap.size w (w.alloc o) := (Below.refl _ w).alloc (Nat.le_refl _) o
theorem below_more {w x : World} {o : Obj} (h : Below w.heap.size w x) : Below w.heap.size w (x.alloc o) := h.alloc h.size o
theorem below_then {w x y : World} (h : Below w.heap.size w x) (k : Below x.heap.size x y) : Below w.heap.size w y := h.trans (k.mono h.size)
theorem below_drew {w x : World} (h : Below w.heap.size w x) : Below w.heap.size w x.drew := h.drew
theorem below_drewN {w x : World} {n : Nat} (h : Below w.heap.size w x) : Below w.heap.size w (x.drewN n) := ⟨h.os, h.tape, h.output, h.size, h.block⟩
theorem below_setRow {w x : World} {g : Nat} {cs : Array Value} (h : Below w.heap.size w x) (hg : w.heap.size ≤ g) : Below w.heap.size w (x.setRow g cs) :=
  h.trans ⟨rfl, rfl, rfl, by rw [size_setRow]; exact Nat.le_refl _, fun k hk => setRow_other _ _ _ _ (by omega)⟩

abbrev U64 (a : Int) : Prop := 0 ≤ a ∧ a < 18446744073709551616
def oneI (b : Bool) : Int := bif b then 1 else 0
/-- What is reckoned of two numbers, by its kind. -/
def reckonV (k a b : Int) : Int :=
  if k = 1 then (a + b) % 18446744073709551616 else if k = 2 then (a - b) % 18446744073709551616
  else if k = 3 then bits .and .u64 a b else if k = 4 then bits .or .u64 a b else if k = 5 then bits .xor .u64 a b
  else if k = 6 then (a * b) % 18446744073709551616 else if k = 7 then (if b = 0 then 0 else a / b)
  else if k = 8 then (if b = 0 then 0 else (wrap64 a).tdiv (wrap64 b) % 18446744073709551616)
  else if k = 9 then a * 2 ^ (b % 64).toNat % 18446744073709551616 else if k = 10 then a / 2 ^ (b % 64).toNat
  else if k = 11 then wrap64 a / 2 ^ (b % 64).toNat % 18446744073709551616 else if k = 12 then rorV a (b % 64) 64
  else if k = 13 then oneI (a == b) else if k = 14 then oneI (decide (a < b)) else if k = 15 then oneI (decide (wrap64 a < wrap64 b)) else 0
def kindB (k : Int) : Bool := decide (1 ≤ k ∧ k ≤ 15)
def kindE (k : Int) : Int := if kindB k = true then 0 else 1
theorem oneIf_c (a : Bool) (w : World) :
    Calls Try.prog 25 #[.bool a] w fun e w' => e = .returned (.int .u64 (oneI a)) ∧ w' = w := by
  cases a
  · go_enter Try.func25, Try.ntmps25
    go_wp2
    go_ret
    exact ⟨rfl, rfl⟩
  · go_enter Try.func25, Try.ntmps25
    go_wp2
    go_ret
    exact ⟨rfl, rfl⟩
theorem isBelow0_c (a : Int) (w : World) :
    Calls Try.prog 26 #[.int .u64 a] w fun e w' => e = .returned (.bool (decide (wrap64 a < 0))) ∧ w' = w := by
  go_enter Try.func26, Try.ntmps26
  go_wp2
  go_ret
  exact ⟨rfl, rfl⟩
def placeB (m : Int) : Bool := decide (0 ≤ m ∧ m ≤ 63)
theorem isPlace_c (m : Int) (w : World) :
    Calls Try.prog 27 #[.int .i64 m] w fun e w' => e = .returned (.bool (placeB m)) ∧ w' = w := by
  go_enter Try.func27, Try.ntmps27
  go_wp2
  all_goals (go_ret; refine ⟨ret_bool ?_, rfl⟩; unfold placeB; first | (rw [eq_comm, decide_eq_false_iff_not]; omega) | (rw [decide_eq_decide]; omega))
theorem wrapU (x : Int) : IntKind.u64.wrap x = x % 18446744073709551616 := by rw [IntKind.wrap_u64]
theorem m1 (a b : Int) (w : World) : Calls Try.prog 30 #[.int .u64 a, .int .u64 b] w fun e w' => e = .returned (.int .u64 (reckonV 1 a b)) ∧ Below w.heap.size w w' := by
  go_enter Try.func30, Try.ntmps30
  go_wp2
  go_ret
  exact ⟨ret_int (by simp only [reckonV, wrapU, reduceIte, Int.reduceEq]), Below.refl _ _⟩
theorem m2 (a b : Int) (w : World) : Calls Try.prog 31 #[.int .u64 a, .int .u64 b] w fun e w' => e = .returned (.int .u64 (reckonV 2 a b)) ∧ Below w.heap.size w w' := by
  go_enter Try.func31, Try.ntmps31
  go_wp2
  go_ret
  exact ⟨ret_int (by simp only [reckonV, wrapU, reduceIte, Int.reduceEq]), Below.refl _ _⟩
theorem m3 (a b : Int) (w : World) : Calls Try.prog 32 #[.int .u64 a, .int .u64 b] w fun e w' => e = .returned (.int .u64 (reckonV 3 a b)) ∧ Below w.heap.size w w' := by
  go_enter Try.func32, Try.ntmps32
  go_wp2
  go_ret
  exact ⟨ret_int (by simp only [reckonV, reduceIte, Int.reduceEq]), Below.refl _ _⟩
theorem m4 (a b : Int) (w : World) : Calls Try.prog 33 #[.int .u64 a, .int .u64 b] w fun e w' => e = .returned (.int .u64 (reckonV 4 a b)) ∧ Below w.heap.size w w' := by
  go_enter Try.func33, Try.ntmps33
  go_wp2
  go_ret
  exact ⟨ret_int (by simp only [reckonV, reduceIte, Int.reduceEq]), Below.refl _ _⟩
theorem m5 (a b : Int) (w : World) : Calls Try.prog 34 #[.int .u64 a, .int .u64 b] w fun e w' => e = .returned (.int .u64 (reckonV 5 a b)) ∧ Below w.heap.size w w' := by
  go_enter Try.func34, Try.ntmps34
  go_wp2
  go_ret
  exact ⟨ret_int (by simp only [reckonV, reduceIte, Int.reduceEq]), Below.refl _ _⟩
theorem m6 (a b : Int) (w : World) : Calls Try.prog 35 #[.int .u64 a, .int .u64 b] w fun e w' => e = .returned (.int .u64 (reckonV 6 a b)) ∧ Below w.heap.size w w' := by
  go_enter Try.func35, Try.ntmps35
  go_wp2
  go_ret
  exact ⟨ret_int (by simp only [reckonV, wrapU, reduceIte, Int.reduceEq]), Below.refl _ _⟩
theorem m7 (a b : Int) (ha : U64 a) (hb : U64 b) (w : World) : Calls Try.prog 36 #[.int .u64 a, .int .u64 b] w fun e w' => e = .returned (.int .u64 (reckonV 7 a b)) ∧ Below w.heap.size w w' := by
  by_cases h : b = 0
  · subst h
    go_enter Try.func36, Try.ntmps36
    go_wp2
    go_ret
    exact ⟨ret_int (by simp [reckonV]), Below.refl _ _⟩
  · have hE : Hid (IntKind.u64.wrap (a.tdiv b) = reckonV 7 a b) := by
      show _ = _
      simp only [reckonV, reduceIte, Int.reduceEq, if_neg h]
      rw [wrapU, Int.tdiv_eq_ediv_of_nonneg ha.1]
      have h1 : 0 ≤ a / b := Int.ediv_nonneg ha.1 hb.1
      have h2 : a / b ≤ a := Int.ediv_le_self _ ha.1
      have h3 := ha.2
      omega
    have h' : (b == 0) = false := by simpa using h
    clear ha hb
    go_enter Try.func36, Try.ntmps36
    go_wp2
    go_ret
    exact ⟨ret_int hE.out, Below.refl _ _⟩
theorem m8 (a b : Int) (hb : U64 b) (w : World) : Calls Try.prog 37 #[.int .u64 a, .int .u64 b] w fun e w' => e = .returned (.int .u64 (reckonV 8 a b)) ∧ Below w.heap.size w w' := by
  by_cases h : b = 0
  · subst h
    go_enter Try.func37, Try.ntmps37
    go_wp2
    go_ret
    exact ⟨ret_int (by simp [reckonV]), Below.refl _ _⟩
  · have hE : Hid (IntKind.u64.wrap (wrap64 ((wrap64 a).tdiv (wrap64 b))) = reckonV 8 a b) := by
      show _ = _
      simp only [reckonV, reduceIte, Int.reduceEq, if_neg h]
      rw [wrapU]
      generalize (wrap64 a).tdiv (wrap64 b) = x
      unfold wrap64
      omega
    have h' : (b == 0) = false := by simpa using h
    have h0 : wrap64 b ≠ 0 := by
      have := hb.1; have := hb.2
      unfold wrap64; omega
    have h0' : ¬ wrap64 b = 0 := h0
    clear hb
    go_enter Try.func37, Try.ntmps37
    go_wp2
    all_goals first | (go_ret; exact ⟨ret_int hE.out, Below.refl _ _⟩) | (exfalso; exact h0 (by assumption))
theorem m9 (a b : Int) (hb : U64 b) (w : World) : Calls Try.prog 38 #[.int .u64 a, .int .u64 b] w fun e w' => e = .returned (.int .u64 (reckonV 9 a b)) ∧ Below w.heap.size w w' := by
  have h0 : 0 ≤ b % 64 := by omega
  have h1 : b % 64 < 64 := by omega
  have h2 : 0 ≤ b := hb.1
  clear hb
  go_enter Try.func38, Try.ntmps38
  go_wp2
  go_ret
  exact ⟨ret_int (by simp only [reckonV, wrapU, reduceIte, Int.reduceEq]), Below.refl _ _⟩
theorem m10 (a b : Int) (hb : U64 b) (w : World) : Calls Try.prog 39 #[.int .u64 a, .int .u64 b] w fun e w' => e = .returned (.int .u64 (reckonV 10 a b)) ∧ Below w.heap.size w w' := by
  have h0 : 0 ≤ b % 64 := by omega
  have h1 : b % 64 < 64 := by omega
  have h2 : 0 ≤ b := hb.1
  clear hb
  go_enter Try.func39, Try.ntmps39
  go_wp2
  go_ret
  exact ⟨ret_int (by simp only [reckonV, reduceIte, Int.reduceEq]), Below.refl _ _⟩
theorem m11 (a b : Int) (hb : U64 b) (w : World) : Calls Try.prog 40 #[.int .u64 a, .int .u64 b] w fun e w' => e = .returned (.int .u64 (reckonV 11 a b)) ∧ Below w.heap.size w w' := by
  have h0 : 0 ≤ b % 64 := by omega
  have h1 : b % 64 < 64 := by omega
  have h2 : 0 ≤ b := hb.1
  clear hb
  go_enter Try.func40, Try.ntmps40
  go_wp2
  go_ret
  exact ⟨ret_int (by simp only [reckonV, wrapU, reduceIte, Int.reduceEq]), Below.refl _ _⟩
theorem m12 (a b : Int) (ha : U64 a) (hb : U64 b) (w : World) : Calls Try.prog 41 #[.int .u64 a, .int .u64 b] w fun e w' => e = .returned (.int .u64 (reckonV 12 a b)) ∧ Below w.heap.size w w' := by
  have hh : Hid (0 ≤ a ∧ a < 18446744073709551616) := ha
  have h0 : 0 ≤ b % 64 := by omega
  have h1 : b % 64 < 64 := by omega
  have h2 : 0 ≤ b := hb.1
  have hE : Hid (rorV a (b % 64) 64 = reckonV 12 a b) := by show _ = _; simp only [reckonV, reduceIte, Int.reduceEq]
  clear hb ha
  go_enter Try.func41, Try.ntmps41
  go_wp2_with fail
  refine (ror_c _ _ _ hh _).mono ?_
  rintro e w' ⟨rfl, n, rfl⟩
  go_wp2
  go_ret
  exact ⟨ret_int hE.out, below_drewN (Below.refl _ _)⟩
theorem m13 (a b : Int) (w : World) : Calls Try.prog 42 #[.int .u64 a, .int .u64 b] w fun e w' => e = .returned (.int .u64 (reckonV 13 a b)) ∧ Below w.heap.size w w' := by
  go_enter Try.func42, Try.ntmps42
  go_wp2_with (go_at_call 25; refine (oneIf_c _ _).mono ?_; rintro e w' ⟨rfl, rfl⟩)
  go_ret
  exact ⟨ret_int (by simp only [reckonV, reduceIte, Int.reduceEq]), Below.refl _ _⟩
theorem m14 (a b : Int) (w : World) : Calls Try.prog 43 #[.int .u64 a, .int .u64 b] w fun e w' => e = .returned (.int .u64 (reckonV 14 a b)) ∧ Below w.heap.size w w' := by
  go_enter Try.func43, Try.ntmps43
  go_wp2_with (go_at_call 25; refine (oneIf_c _ _).mono ?_; rintro e w' ⟨rfl, rfl⟩)
  go_ret
  exact ⟨ret_int (by simp only [reckonV, reduceIte, Int.reduceEq]), Below.refl _ _⟩
theorem m15 (a b : Int) (w : World) : Calls Try.prog 44 #[.int .u64 a, .int .u64 b] w fun e w' => e = .returned (.int .u64 (reckonV 15 a b)) ∧ Below w.heap.size w w' := by
  go_enter Try.func44, Try.ntmps44
  go_wp2_with (go_at_call 25; refine (oneIf_c _ _).mono ?_; rintro e w' ⟨rfl, rfl⟩)
  go_ret
  exact ⟨ret_int (by simp only [reckonV, reduceIte, Int.reduceEq]), Below.refl _ _⟩
end Go.Proofs.Ytakmnbahogogiaa
