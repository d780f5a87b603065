/- Words of bits, plain: no program is named. -/
import Derived.Test.YtnedkielehmneaaGreatDoorHg
namespace Go.Proofs.YtnedkielehmneaaGreatDoor.Bit
open Go.RowKit
set_option linter.unusedVariables false
set_option linter.unusedSimpArgs false

/-- The word whose bits below n are those of f. -/
def orN (f : Nat → Bool) : Nat → Nat
  | 0 => 0
  | k + 1 => if f k then orN f k ||| 2 ^ k else orN f k
theorem test_orN (f : Nat → Bool) : ∀ n j, (orN f n).testBit j = (decide (j < n) && f j)
  | 0, j => by simp [orN]
  | n + 1, j => by
    have ih := test_orN f n j
    unfold orN
    by_cases hf : f n = true
    · rw [if_pos hf, Nat.testBit_or, ih, Nat.testBit_two_pow]
      by_cases e : j = n
      · subst e; simp [hf]
      · have e1 : decide (n = j) = false := decide_eq_false (fun h => e h.symm)
        rw [e1, Bool.or_false]
        by_cases hl : j < n
        · rw [decide_eq_true hl, decide_eq_true (by omega : j < n + 1)]
        · rw [decide_eq_false hl, decide_eq_false (by omega : ¬ j < n + 1)]
    · rw [if_neg hf, ih]
      by_cases e : j = n
      · subst e
        simp [hf]
      · by_cases hl : j < n
        · rw [decide_eq_true hl, decide_eq_true (by omega : j < n + 1)]
        · rw [decide_eq_false hl, decide_eq_false (by omega : ¬ j < n + 1)]
theorem orN_lt (f : Nat → Bool) (n : Nat) : orN f n < 2 ^ n :=
  Nat.lt_pow_two_of_testBit _ fun j hj => by rw [test_orN, decide_eq_false (by omega), Bool.false_and]
theorem orN_congr {f g : Nat → Bool} : ∀ n, (∀ j, j < n → f j = g j) → orN f n = orN g n
  | 0, _ => rfl
  | n + 1, h => by
    unfold orN
    rw [h n (Nat.lt_succ_self n), orN_congr n fun j hj => h j (by omega)]
theorem orN_all {v : Nat} (h : v < 2 ^ 64) : orN v.testBit 64 = v := by
  apply Nat.eq_of_testBit_eq
  intro j
  rw [test_orN]
  by_cases hj : j < 64
  · rw [decide_eq_true hj, Bool.true_and]
  · rw [decide_eq_false hj, Bool.false_and]
    exact (Nat.testBit_lt_two_pow (Nat.lt_of_lt_of_le h (Nat.pow_le_pow_right (by decide) (by omega)))).symm
/-- A bit more, as the machine has it. -/
theorem or_bit {a b : Nat} (ha : a < 2 ^ 64) (hb : b < 2 ^ 64) : bits .or .u64 (a : Int) (b : Int) = ((a ||| b : Nat) : Int) := by
  have key : (BitVec.ofInt 64 (a : Int) ||| BitVec.ofInt 64 (b : Int)).toNat = a ||| b := by
    rw [BitVec.toNat_or, BitVec.toNat_ofInt, BitVec.toNat_ofInt]
    have e1 : ((a : Int) % ((2 ^ 64 : Nat) : Int)).toNat = a := by omega
    have e2 : ((b : Int) % ((2 ^ 64 : Nat) : Int)).toNat = b := by omega
    rw [e1, e2]
  have hlt : a ||| b < 2 ^ 64 := Nat.or_lt_two_pow ha hb
  show IntKind.u64.wrap ((BitVec.ofInt 64 (a : Int) ||| BitVec.ofInt 64 (b : Int)).toNat : Nat) = _
  rw [key, IntKind.wrap_u64]
  omega
theorem and_bit {a b : Nat} (ha : a < 2 ^ 64) (hb : b < 2 ^ 64) : bits .and .u64 (a : Int) (b : Int) = ((a &&& b : Nat) : Int) := by
  have key : (BitVec.ofInt 64 (a : Int) &&& BitVec.ofInt 64 (b : Int)).toNat = a &&& b := by
    rw [BitVec.toNat_and, BitVec.toNat_ofInt, BitVec.toNat_ofInt]
    have e1 : ((a : Int) % ((2 ^ 64 : Nat) : Int)).toNat = a := by omega
    have e2 : ((b : Int) % ((2 ^ 64 : Nat) : Int)).toNat = b := by omega
    rw [e1, e2]
  have hlt : a &&& b < 2 ^ 64 := Nat.lt_of_le_of_lt Nat.and_le_left ha
  show IntKind.u64.wrap ((BitVec.ofInt 64 (a : Int) &&& BitVec.ofInt 64 (b : Int)).toNat : Nat) = _
  rw [key, IntKind.wrap_u64]
  omega
/-- A bit asked. -/
theorem shr_one (v k : Nat) : (v / 2 ^ k) % 2 = 1 ↔ v.testBit k = true := by
  rw [Nat.testBit_eq_decide_div_mod_eq, decide_eq_true_eq]
/-- What stays of a when b is taken away. -/
def less (a b : Nat) : Nat := orN (fun j => a.testBit j && !b.testBit j) 64
theorem test_less (a b j : Nat) : (less a b).testBit j = (decide (j < 64) && (a.testBit j && !b.testBit j)) := test_orN _ _ _
theorem up32 (v : Nat) (h : v < 2 ^ 64) : orN (fun j => decide (32 ≤ j) && v.testBit j) 64 = v / 2 ^ 32 * 2 ^ 32 := by
  apply Nat.eq_of_testBit_eq
  intro j
  rw [test_orN, Nat.testBit_mul_two_pow, Nat.testBit_div_two_pow]
  by_cases hj : 32 ≤ j
  · rw [decide_eq_true hj, Nat.sub_add_cancel hj, Bool.true_and]
    by_cases h64 : j < 64
    · rw [decide_eq_true h64, Bool.true_and]
    · rw [decide_eq_false h64, Bool.false_and, Nat.testBit_lt_two_pow (Nat.lt_of_lt_of_le h (Nat.pow_le_pow_right (by decide) (by omega)))]
  · rw [decide_eq_false hj]; simp
end Go.Proofs.YtnedkielehmneaaGreatDoor.Bit
