/- From stage 5: Alu. -/
import Derived.Test.YtioeiogcejikbaaDoorANumbers
import Derived.Laws.Externs
import Derived.Laws.ResultCell
namespace Go.Proofs.YtioeiogcejikbaaDoor.Alu
open Go.RowKit
set_option linter.unusedVariables false
set_option linter.unusedSimpArgs false
set_option maxRecDepth 8000

theorem below_alloc (w : World) (o : Obj) : Below w.heap.size w (w.alloc o) := (Below.refl _ w).alloc (Nat.le_refl _) o
theorem below_more {w x : World} {o : Obj} (h : Below w.heap.size w x) : Below w.heap.size w (x.alloc o) := h.alloc h.size o
theorem below_then {w x y : World} (h : Below w.heap.size w x) (k : Below x.heap.size x y) : Below w.heap.size w y := h.trans (k.mono h.size)
theorem below_drew {w x : World} (h : Below w.heap.size w x) : Below w.heap.size w x.drew := h.drew
theorem below_drewN {w x : World} {n : Nat} (h : Below w.heap.size w x) : Below w.heap.size w (x.drewN n) := ⟨h.os, h.tape, h.output, h.size, h.block⟩
theorem below_setRow {w x : World} {g : Nat} {cs : Array Value} (h : Below w.heap.size w x) (hg : w.heap.size ≤ g) : Below w.heap.size w (x.setRow g cs) :=
  h.trans ⟨rfl, rfl, rfl, by rw [size_setRow]; exact Nat.le_refl _, fun k hk => setRow_other _ _ _ _ (by omega)⟩

abbrev U64 (a : Int) : Prop := 0 ≤ a ∧ a < 18446744073709551616
def oneI (b : Bool) : Int := bif b then 1 else 0
/-- What is reckoned of two numbers, by its kind. -/
def reckonV (k a b : Int) : Int :=
  if k = 1 then (a + b) % 18446744073709551616 else if k = 2 then (a - b) % 18446744073709551616
  else if k = 3 then bits .and .u64 a b else if k = 4 then bits .or .u64 a b else if k = 5 then bits .xor .u64 a b
  else if k = 6 then (a * b) % 18446744073709551616 else if k = 7 then (if b = 0 then 0 else a / b)
  else if k = 8 then (if b = 0 then 0 else (wrap64 a).tdiv (wrap64 b) % 18446744073709551616)
  else if k = 9 then a * 2 ^ (b % 64).toNat % 18446744073709551616 else if k = 10 then a / 2 ^ (b % 64).toNat
  else if k = 11 then wrap64 a / 2 ^ (b % 64).toNat % 18446744073709551616 else if k = 12 then rorV a (b % 64) 64
  else if k = 13 then oneI (a == b) else if k = 14 then oneI (decide (a < b)) else if k = 15 then oneI (decide (wrap64 a < wrap64 b)) else 0
def kindB (k : Int) : Bool := decide (1 ≤ k ∧ k ≤ 15)
def kindE (k : Int) : Int := if kindB k = true then 0 else 1
theorem oneIf_c (a : Bool) (w : World) :
    Calls Tryd.prog 80 #[.bool a] w fun e w' => e = .returned (.int .u64 (oneI a)) ∧ w' = w := by
  cases a
  · go_enter Tryd.func80, Tryd.ntmps80
    go_wp2
    go_ret
    exact ⟨rfl, rfl⟩
  · go_enter Tryd.func80, Tryd.ntmps80
    go_wp2
    go_ret
    exact ⟨rfl, rfl⟩
def placeB (m : Int) : Bool := decide (0 ≤ m ∧ m ≤ 63)
theorem wrapU (x : Int) : IntKind.u64.wrap x = x % 18446744073709551616 := by rw [IntKind.wrap_u64]
theorem m1 (a b : Int) (w : World) : Calls Tryd.prog 59 #[.int .u64 a, .int .u64 b] w fun e w' => e = .returned (.int .u64 (reckonV 1 a b)) ∧ Below w.heap.size w w' := by
  go_enter Tryd.func59, Tryd.ntmps59
  go_wp2
  go_ret
  exact ⟨ret_int (by simp only [reckonV, wrapU, reduceIte, Int.reduceEq]), Below.refl _ _⟩
theorem m2 (a b : Int) (w : World) : Calls Tryd.prog 60 #[.int .u64 a, .int .u64 b] w fun e w' => e = .returned (.int .u64 (reckonV 2 a b)) ∧ Below w.heap.size w w' := by
  go_enter Tryd.func60, Tryd.ntmps60
  go_wp2
  go_ret
  exact ⟨ret_int (by simp only [reckonV, wrapU, reduceIte, Int.reduceEq]), Below.refl _ _⟩
theorem m3 (a b : Int) (w : World) : Calls Tryd.prog 61 #[.int .u64 a, .int .u64 b] w fun e w' => e = .returned (.int .u64 (reckonV 3 a b)) ∧ Below w.heap.size w w' := by
  go_enter Tryd.func61, Tryd.ntmps61
  go_wp2
  go_ret
  exact ⟨ret_int (by simp only [reckonV, reduceIte, Int.reduceEq]), Below.refl _ _⟩
theorem m4 (a b : Int) (w : World) : Calls Tryd.prog 62 #[.int .u64 a, .int .u64 b] w fun e w' => e = .returned (.int .u64 (reckonV 4 a b)) ∧ Below w.heap.size w w' := by
  go_enter Tryd.func62, Tryd.ntmps62
  go_wp2
  go_ret
  exact ⟨ret_int (by simp only [reckonV, reduceIte, Int.reduceEq]), Below.refl _ _⟩
theorem m5 (a b : Int) (w : World) : Calls Tryd.prog 63 #[.int .u64 a, .int .u64 b] w fun e w' => e = .returned (.int .u64 (reckonV 5 a b)) ∧ Below w.heap.size w w' := by
  go_enter Tryd.func63, Tryd.ntmps63
  go_wp2
  go_ret
  exact ⟨ret_int (by simp only [reckonV, reduceIte, Int.reduceEq]), Below.refl _ _⟩
theorem m6 (a b : Int) (w : World) : Calls Tryd.prog 64 #[.int .u64 a, .int .u64 b] w fun e w' => e = .returned (.int .u64 (reckonV 6 a b)) ∧ Below w.heap.size w w' := by
  go_enter Tryd.func64, Tryd.ntmps64
  go_wp2
  go_ret
  exact ⟨ret_int (by simp only [reckonV, wrapU, reduceIte, Int.reduceEq]), Below.refl _ _⟩
theorem m7 (a b : Int) (ha : U64 a) (hb : U64 b) (w : World) : Calls Tryd.prog 65 #[.int .u64 a, .int .u64 b] w fun e w' => e = .returned (.int .u64 (reckonV 7 a b)) ∧ Below w.heap.size w w' := by
  by_cases h : b = 0
  · subst h
    go_enter Tryd.func65, Tryd.ntmps65
    go_wp2
    go_ret
    exact ⟨ret_int (by simp [reckonV]), Below.refl _ _⟩
  · have hE : Hid (IntKind.u64.wrap (a.tdiv b) = reckonV 7 a b) := by
      show _ = _
      simp only [reckonV, reduceIte, Int.reduceEq, if_neg h]
      rw [wrapU, Int.tdiv_eq_ediv_of_nonneg ha.1]
      have h1 : 0 ≤ a / b := Int.ediv_nonneg ha.1 hb.1
      have h2 : a / b ≤ a := Int.ediv_le_self _ ha.1
      have h3 := ha.2
      omega
    have h' : (b == 0) = false := by simpa using h
    clear ha hb
    go_enter Tryd.func65, Tryd.ntmps65
    go_wp2
    go_ret
    exact ⟨ret_int hE.out, Below.refl _ _⟩
theorem m8 (a b : Int) (hb : U64 b) (w : World) : Calls Tryd.prog 66 #[.int .u64 a, .int .u64 b] w fun e w' => e = .returned (.int .u64 (reckonV 8 a b)) ∧ Below w.heap.size w w' := by
  by_cases h : b = 0
  · subst h
    go_enter Tryd.func66, Tryd.ntmps66
    go_wp2
    go_ret
    exact ⟨ret_int (by simp [reckonV]), Below.refl _ _⟩
  · have hE : Hid (IntKind.u64.wrap (wrap64 ((wrap64 a).tdiv (wrap64 b))) = reckonV 8 a b) := by
      show _ = _
      simp only [reckonV, reduceIte, Int.reduceEq, if_neg h]
      rw [wrapU]
      generalize (wrap64 a).tdiv (wrap64 b) = x
      unfold wrap64
      omega
    have h' : (b == 0) = false := by simpa using h
    have h0 : wrap64 b ≠ 0 := by
      have := hb.1; have := hb.2
      unfold wrap64; omega
    have h0' : ¬ wrap64 b = 0 := h0
    clear hb
    go_enter Tryd.func66, Tryd.ntmps66
    go_wp2
    all_goals first | (go_ret; exact ⟨ret_int hE.out, Below.refl _ _⟩) | (exfalso; exact h0 (by assumption))
theorem m9 (a b : Int) (hb : U64 b) (w : World) : Calls Tryd.prog 67 #[.int .u64 a, .int .u64 b] w fun e w' => e = .returned (.int .u64 (reckonV 9 a b)) ∧ Below w.heap.size w w' := by
  have h0 : 0 ≤ b % 64 := by omega
  have h1 : b % 64 < 64 := by omega
  have h2 : 0 ≤ b := hb.1
  clear hb
  go_enter Tryd.func67, Tryd.ntmps67
  go_wp2
  go_ret
  exact ⟨ret_int (by simp only [reckonV, wrapU, reduceIte, Int.reduceEq]), Below.refl _ _⟩
theorem m10 (a b : Int) (hb : U64 b) (w : World) : Calls Tryd.prog 68 #[.int .u64 a, .int .u64 b] w fun e w' => e = .returned (.int .u64 (reckonV 10 a b)) ∧ Below w.heap.size w w' := by
  have h0 : 0 ≤ b % 64 := by omega
  have h1 : b % 64 < 64 := by omega
  have h2 : 0 ≤ b := hb.1
  clear hb
  go_enter Tryd.func68, Tryd.ntmps68
  go_wp2
  go_ret
  exact ⟨ret_int (by simp only [reckonV, reduceIte, Int.reduceEq]), Below.refl _ _⟩
theorem m11 (a b : Int) (hb : U64 b) (w : World) : Calls Tryd.prog 69 #[.int .u64 a, .int .u64 b] w fun e w' => e = .returned (.int .u64 (reckonV 11 a b)) ∧ Below w.heap.size w w' := by
  have h0 : 0 ≤ b % 64 := by omega
  have h1 : b % 64 < 64 := by omega
  have h2 : 0 ≤ b := hb.1
  clear hb
  go_enter Tryd.func69, Tryd.ntmps69
  go_wp2
  go_ret
  exact ⟨ret_int (by simp only [reckonV, wrapU, reduceIte, Int.reduceEq]), Below.refl _ _⟩
theorem m12 (a b : Int) (ha : U64 a) (hb : U64 b) (w : World) : Calls Tryd.prog 70 #[.int .u64 a, .int .u64 b] w fun e w' => e = .returned (.int .u64 (reckonV 12 a b)) ∧ Below w.heap.size w w' := by
  have hh : Hid (0 ≤ a ∧ a < 18446744073709551616) := ha
  have h0 : 0 ≤ b % 64 := by omega
  have h1 : b % 64 < 64 := by omega
  have h2 : 0 ≤ b := hb.1
  have hE : Hid (rorV a (b % 64) 64 = reckonV 12 a b) := by show _ = _; simp only [reckonV, reduceIte, Int.reduceEq]
  clear hb ha
  go_enter Tryd.func70, Tryd.ntmps70
  go_wp2_with fail
  refine (ror_c _ _ _ hh _).mono ?_
  rintro e w' ⟨rfl, n, rfl⟩
  go_wp2
  go_ret
  exact ⟨ret_int hE.out, below_drewN (Below.refl _ _)⟩
theorem m13 (a b : Int) (w : World) : Calls Tryd.prog 71 #[.int .u64 a, .int .u64 b] w fun e w' => e = .returned (.int .u64 (reckonV 13 a b)) ∧ Below w.heap.size w w' := by
  go_enter Tryd.func71, Tryd.ntmps71
  go_wp2_with (go_at_call 80; refine (oneIf_c _ _).mono ?_; rintro e w' ⟨rfl, rfl⟩)
  go_ret
  exact ⟨ret_int (by simp only [reckonV, reduceIte, Int.reduceEq]), Below.refl _ _⟩
theorem m14 (a b : Int) (w : World) : Calls Tryd.prog 72 #[.int .u64 a, .int .u64 b] w fun e w' => e = .returned (.int .u64 (reckonV 14 a b)) ∧ Below w.heap.size w w' := by
  go_enter Tryd.func72, Tryd.ntmps72
  go_wp2_with (go_at_call 80; refine (oneIf_c _ _).mono ?_; rintro e w' ⟨rfl, rfl⟩)
  go_ret
  exact ⟨ret_int (by simp only [reckonV, reduceIte, Int.reduceEq]), Below.refl _ _⟩
theorem m15 (a b : Int) (w : World) : Calls Tryd.prog 73 #[.int .u64 a, .int .u64 b] w fun e w' => e = .returned (.int .u64 (reckonV 15 a b)) ∧ Below w.heap.size w w' := by
  go_enter Tryd.func73, Tryd.ntmps73
  go_wp2_with (go_at_call 80; refine (oneIf_c _ _).mono ?_; rintro e w' ⟨rfl, rfl⟩)
  go_ret
  exact ⟨ret_int (by simp only [reckonV, reduceIte, Int.reduceEq]), Below.refl _ _⟩
end Go.Proofs.YtioeiogcejikbaaDoor.Alu
