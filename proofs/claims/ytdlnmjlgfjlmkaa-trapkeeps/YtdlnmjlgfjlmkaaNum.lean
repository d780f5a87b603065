/- Numbers: single bits, and what is masked off. -/
import Derived.Test.YtdlnmjlgfjlmkaaCore
namespace Go.Proofs.Ytdlnmjlgfjlmkaa
open Go.RowKit

def bitB (v : Int) (k : Nat) : Bool := v / 2 ^ k % 2 == 1
def U64 (v : Int) : Prop := 0 ≤ v ∧ v < 18446744073709551616

theorem bv64 (a : Nat) (ha : a < 18446744073709551616) : (BitVec.ofInt 64 (a : Int)).toNat = a := by
  rw [BitVec.ofInt_natCast, BitVec.toNat_ofNat]; exact Nat.mod_eq_of_lt (by omega)
theorem and64 (a b : Nat) (ha : a < 18446744073709551616) (hb : b < 18446744073709551616) : bits .and .u64 (a : Int) (b : Int) = ((a &&& b : Nat) : Int) := by
  have hx : a &&& b < 2 ^ 64 := Nat.and_lt_two_pow _ (by omega)
  show IntKind.u64.wrap ((BitVec.ofInt 64 (a : Int) &&& BitVec.ofInt 64 (b : Int)).toNat : Int) = _
  rw [BitVec.toNat_and, bv64 a ha, bv64 b hb, IntKind.wrap_u64]
  omega
theorem andNot64 (a b : Nat) (ha : a < 18446744073709551616) (hb : b < 18446744073709551616) : bits .andNot .u64 (a : Int) (b : Int) = ((a &&& (18446744073709551616 - (b + 1)) : Nat) : Int) := by
  have hx : a &&& (18446744073709551616 - (b + 1)) < 2 ^ 64 := Nat.and_lt_two_pow _ (by omega)
  show IntKind.u64.wrap ((BitVec.ofInt 64 (a : Int) &&& ~~~ BitVec.ofInt 64 (b : Int)).toNat : Int) = _
  rw [BitVec.toNat_and, BitVec.toNat_not, bv64 a ha, bv64 b hb, IntKind.wrap_u64, show (2 : Nat) ^ 64 - 1 - b = 18446744073709551616 - (b + 1) by omega]
  omega
theorem nat_of {v : Int} (h : U64 v) : ∃ V : Nat, v = V ∧ V < 18446744073709551616 := ⟨v.toNat, by have := h.1; omega, by have := h.1; have := h.2; omega⟩
theorem bitB_nat (V k : Nat) : bitB (V : Int) k = V.testBit k := by
  unfold bitB
  rw [Nat.testBit_eq_decide_div_mod_eq]
  have e : ((V : Int) / 2 ^ k % 2) = ((V / 2 ^ k % 2 : Nat) : Int) := by simp
  rw [e]
  apply Bool.eq_iff_iff.2
  simp
  omega
theorem and_bit {v : Int} (h : U64 v) (k : Nat) (hk : k < 64) : (bits .and .u64 v ((2 ^ k : Nat) : Int) != 0) = bitB v k := by
  obtain ⟨V, rfl, hV⟩ := nat_of h
  have hp : 2 ^ k < 2 ^ 64 := Nat.pow_lt_pow_right (by decide) hk
  rw [and64 V _ hV hp, bitB_nat]
  have e : ∀ i, (V &&& 2 ^ k).testBit i = (V.testBit i && decide (k = i)) := fun i => by rw [Nat.testBit_and, Nat.testBit_two_pow]
  cases hb : V.testBit k
  · have : V &&& 2 ^ k = 0 := Nat.eq_of_testBit_eq fun i => by
      rw [e i, Nat.zero_testBit]
      by_cases hi : k = i
      · subst hi; simp [hb]
      · simp [hi]
    rw [this]; rfl
  · have : V &&& 2 ^ k ≠ 0 := fun h0 => by
      have := e k
      rw [h0, Nat.zero_testBit, hb] at this
      simp at this
    simp; omega
theorem and_31 {v : Int} (h : U64 v) : (bits .and .u64 v 2147483648 != 0) = bitB v 31 := and_bit h 31 (by decide)
theorem and_30 {v : Int} (h : U64 v) : (bits .and .u64 v 1073741824 != 0) = bitB v 30 := and_bit h 30 (by decide)
theorem and_29 {v : Int} (h : U64 v) : (bits .and .u64 v 536870912 != 0) = bitB v 29 := and_bit h 29 (by decide)
theorem and_28 {v : Int} (h : U64 v) : (bits .and .u64 v 268435456 != 0) = bitB v 28 := and_bit h 28 (by decide)
theorem and_7 {v : Int} (h : U64 v) : (bits .and .u64 v 128 != 0) = bitB v 7 := and_bit h 7 (by decide)
theorem and_word {v : Int} (h : U64 v) : bits .and .u64 v 4294967295 = v % 4294967296 := by
  obtain ⟨V, rfl, hV⟩ := nat_of h
  have := and64 V 4294967295 hV (by decide)
  rw [show ((4294967295 : Nat) : Int) = 4294967295 from rfl] at this
  rw [this, show (4294967295 : Nat) = 2 ^ 32 - 1 from rfl, Nat.and_two_pow_sub_one_eq_mod]
  omega
theorem andNot_vbar {v : Int} (h : U64 v) : bits .andNot .u64 v 2047 = v - v % 2048 := by
  obtain ⟨V, rfl, hV⟩ := nat_of h
  have := andNot64 V 2047 hV (by decide)
  rw [show ((2047 : Nat) : Int) = 2047 from rfl] at this
  rw [this]
  have e : V &&& (18446744073709551616 - (2047 + 1)) = V / 2048 * 2048 := by
    apply Nat.eq_of_testBit_eq
    intro i
    rw [Nat.testBit_and, show (18446744073709551616 - (2047 + 1) : Nat) = (2 ^ 53 - 1) * 2 ^ 11 by decide, show V / 2048 * 2048 = V / 2 ^ 11 * 2 ^ 11 by rfl, Nat.testBit_mul_two_pow, Nat.testBit_mul_two_pow, Nat.testBit_two_pow_sub_one, Nat.testBit_div_two_pow]
    by_cases hi : 11 ≤ i
    · by_cases h2 : i - 11 < 53
      · simp [hi, h2, show i - 11 + 11 = i by omega]
      · have : V.testBit i = false := Nat.testBit_lt_two_pow (Nat.lt_of_lt_of_le (show V < 2 ^ 64 from hV) (Nat.pow_le_pow_right (Nat.zero_lt_two) (by omega : 64 ≤ i)))
        simp [this, hi, show i - 11 + 11 = i by omega]
    · simp [hi]
  rw [e]
  omega
/-- A number whose bits are all bits of another. -/
theorem and_sub {x v : Int} (hx : U64 x) (hv : U64 v) (h : ∀ i, x.toNat.testBit i = true → v.toNat.testBit i = true) : bits .and .u64 x v = x := by
  obtain ⟨X, rfl, hX⟩ := nat_of hx
  obtain ⟨V, rfl, hV⟩ := nat_of hv
  rw [and64 X V hX hV]
  congr 1
  apply Nat.eq_of_testBit_eq
  intro i
  have := h i
  simp only [Int.toNat_natCast] at this
  rw [Nat.testBit_and]
  cases e : X.testBit i
  · rfl
  · simp [this e]
end Go.Proofs.Ytdlnmjlgfjlmkaa
