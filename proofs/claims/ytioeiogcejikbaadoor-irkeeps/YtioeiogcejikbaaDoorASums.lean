/- From stage 5: Sums. -/
import Derived.Test.YtioeiogcejikbaaDoorAAlu
namespace Go.Proofs.YtioeiogcejikbaaDoor.Alu
open Go.RowKit
set_option linter.unusedVariables false
set_option linter.unusedSimpArgs false
set_option maxRecDepth 8000

def sumV (a b : Int) (c : Bool) : Int := (a + b + oneI c) % 18446744073709551616
theorem xor_ne (x y : Bool) : (x ^^ y) = (x != y) := by cases x <;> cases y <;> rfl
theorem oneI_le (c : Bool) : 0 ≤ oneI c ∧ oneI c ≤ 1 := by cases c <;> decide
theorem sum_in (a b : Int) (c : Bool) : U64 (sumV a b c) := by
  unfold sumV
  constructor <;> omega
theorem neg64 (x : Int) (h : U64 x) : decide (wrap64 x < 0) = decide (9223372036854775808 ≤ x) := by
  rw [decide_eq_decide]
  have h1 := h.1
  have h2 := h.2
  unfold wrap64
  omega
theorem top_bit (X : Nat) (h : X < 18446744073709551616) : X.testBit 63 = decide (9223372036854775808 ≤ X) := by
  rw [Nat.testBit_eq_decide_div_mod_eq, decide_eq_decide]
  have : (2 : Nat) ^ 63 = 9223372036854775808 := by decide
  rw [this]
  omega
theorem xor_lt64 {a b : Nat} (ha : a < 18446744073709551616) (hb : b < 18446744073709551616) : a ^^^ b < 18446744073709551616 := Nat.xor_lt_two_pow (n := 64) ha hb
theorem and_lt64 {a b : Nat} (hb : b < 18446744073709551616) : a &&& b < 18446744073709551616 := Nat.and_lt_two_pow (n := 64) _ hb
theorem or_lt64 {a b : Nat} (ha : a < 18446744073709551616) (hb : b < 18446744073709551616) : a ||| b < 18446744073709551616 := Nat.or_lt_two_pow (n := 64) ha hb
theorem top_int (x : Int) (h : U64 x) : decide (9223372036854775808 ≤ x) = x.toNat.testBit 63 := by
  rw [top_bit _ (by have := h.2; omega), decide_eq_decide]
  have := h.1
  omega
def addN (a b : Int) (c : Bool) (k : Nat) : Int := a % 2 ^ k + b % 2 ^ k + oneI c
def lowS (a b : Int) (c : Bool) (k : Nat) : Int := addN a b c k % 2 ^ k
def carS (a b : Int) (c : Bool) (k : Nat) : Int := addN a b c k / 2 ^ k
def lastS (a b : Int) (c : Bool) : Nat → Int
  | 0 => 0
  | k + 1 => carS a b c k
theorem pow_pos (k : Nat) : (0 : Int) < 2 ^ k := Int.pow_pos (by decide)
theorem emod_two (a p : Int) (hp : 0 < p) : a % (p * 2) = a % p + (a / p % 2) * p := by
  have h0 : 0 ≤ a % p := Int.emod_nonneg _ (by omega)
  have h1 : a % p < p := Int.emod_lt_of_pos _ hp
  have e1 := Int.mul_ediv_add_emod a p
  have e2 := Int.mul_ediv_add_emod (a / p) 2
  generalize a / p % 2 = r at *
  have hr : r = a / p - 2 * (a / p / 2) := by omega
  have hr' : r = 0 ∨ r = 1 := by omega
  generalize a / p / 2 = q at *
  have e3 : a = (a % p + r * p) + (p * 2) * q := by
    have : p * (a / p) = r * p + (p * 2) * q := by
      rw [show a / p = r + 2 * q by omega, Int.mul_add, Int.mul_comm p r, Int.mul_assoc]
    omega
  have h2 : a % (p * 2) = (a % p + r * p) % (p * 2) := by
    conv => lhs; rw [e3]
    rw [Int.add_mul_emod_self_left]
  rw [h2]
  rcases hr' with h | h <;> rw [h] <;> apply Int.emod_eq_of_lt <;> omega
theorem mod_step (a : Int) (k : Nat) : a % 2 ^ (k + 1) = a % 2 ^ k + (a / 2 ^ k % 2) * 2 ^ k := by
  have h := pow_pos k
  rw [Int.pow_succ, emod_two _ _ h]
theorem add_step (a b : Int) (c : Bool) (k : Nat) : addN a b c (k + 1) = lowS a b c k + (a / 2 ^ k % 2 + b / 2 ^ k % 2 + carS a b c k) * 2 ^ k := by
  have h : addN a b c k = lowS a b c k + carS a b c k * 2 ^ k := by
    unfold lowS carS
    have := Int.mul_ediv_add_emod (addN a b c k) (2 ^ k)
    rw [Int.mul_comm] at this
    omega
  have e : addN a b c (k + 1) = addN a b c k + (a / 2 ^ k % 2) * 2 ^ k + (b / 2 ^ k % 2) * 2 ^ k := by
    unfold addN
    rw [mod_step, mod_step]
    omega
  rw [e, h, Int.add_mul, Int.add_mul]
  omega
theorem low_step (a b : Int) (c : Bool) (k : Nat) : lowS a b c (k + 1) = lowS a b c k + (a / 2 ^ k % 2 + b / 2 ^ k % 2 + carS a b c k) % 2 * 2 ^ k := by
  have hp := pow_pos k
  have h0 : 0 ≤ lowS a b c k := Int.emod_nonneg _ (by omega)
  have h1 : lowS a b c k < 2 ^ k := Int.emod_lt_of_pos _ hp
  rw [lowS, add_step, Int.pow_succ, emod_two _ _ hp]
  rw [Int.add_mul_emod_self_right, Int.add_mul_ediv_right _ _ (by omega), Int.ediv_eq_zero_of_lt h0 h1, Int.zero_add, Int.emod_eq_of_lt h0 h1]
theorem car_step (a b : Int) (c : Bool) (k : Nat) : carS a b c (k + 1) = (a / 2 ^ k % 2 + b / 2 ^ k % 2 + carS a b c k) / 2 := by
  have hp := pow_pos k
  have h0 : 0 ≤ lowS a b c k := Int.emod_nonneg _ (by omega)
  have h1 : lowS a b c k < 2 ^ k := Int.emod_lt_of_pos _ hp
  rw [carS, add_step, Int.pow_succ, ← Int.ediv_ediv_of_nonneg (by omega), Int.add_mul_ediv_right _ _ (by omega), Int.ediv_eq_zero_of_lt h0 h1, Int.zero_add]
theorem lowS_lt (a b : Int) (c : Bool) (k : Nat) : 0 ≤ lowS a b c k ∧ lowS a b c k < 2 ^ k := ⟨Int.emod_nonneg _ (by have := pow_pos k; omega), Int.emod_lt_of_pos _ (pow_pos k)⟩
theorem carS_le (a b : Int) (c : Bool) (k : Nat) : 0 ≤ carS a b c k ∧ carS a b c k ≤ 1 := by
  have hp := pow_pos k
  have hc := oneI_le c
  have a0 : 0 ≤ a % 2 ^ k := Int.emod_nonneg _ (by omega)
  have a1 : a % 2 ^ k < 2 ^ k := Int.emod_lt_of_pos _ hp
  have b0 : 0 ≤ b % 2 ^ k := Int.emod_nonneg _ (by omega)
  have b1 : b % 2 ^ k < 2 ^ k := Int.emod_lt_of_pos _ hp
  unfold carS addN
  constructor
  · exact Int.ediv_nonneg (by omega) (by omega)
  · have : (a % 2 ^ k + b % 2 ^ k + oneI c) / 2 ^ k < 2 := Int.ediv_lt_of_lt_mul hp (by omega)
    omega
theorem pow_le63 {k : Nat} (hk : k < 64) : (2 : Int) ^ k ≤ 9223372036854775808 := by
  have h : 2 ^ k ≤ 2 ^ 63 := Nat.pow_le_pow_right (by decide) (by omega)
  have e : ((2 ^ k : Nat) : Int) = (2 : Int) ^ k := by simp
  have h2 : (2 : Nat) ^ 63 = 9223372036854775808 := by decide
  omega
theorem or_low {L r : Int} {k : Nat} (hk : k < 64) (h0 : 0 ≤ L) (h1 : L < 2 ^ k) (hr : r = 0 ∨ r = 1) : bits .or .u64 L (IntKind.u64.wrap (r * 2 ^ k)) = L + r * 2 ^ k := by
  have hp := pow_le63 hk
  have e1 : IntKind.u64.wrap (r * 2 ^ k) = r * 2 ^ k := by
    rw [wrapU]
    have := pow_pos k
    rcases hr with rfl | rfl <;> omega
  rw [e1]
  obtain ⟨l, rfl⟩ := Int.eq_ofNat_of_zero_le h0
  have e : ((2 ^ k : Nat) : Int) = (2 : Int) ^ k := by simp
  have hl : l < 2 ^ k := by omega
  rcases hr with rfl | rfl
  · rw [Int.zero_mul, show (0 : Int) = ((0 : Nat) : Int) from rfl, bits_or_u64_nat _ _ (by omega) (by decide)]
    simp
  · rw [Int.one_mul, ← e, bits_or_u64_nat _ _ (by omega) (by omega), Nat.or_comm]
    have := Nat.two_pow_add_eq_or_of_lt hl 1
    rw [Nat.mul_one] at this
    rw [← this]
    omega
theorem start_s (a b : Int) (c : Bool) : lowS a b c 0 = 0 ∧ carS a b c 0 = oneI c := by
  simp [lowS, carS, addN]
theorem n_walk {a b : Int} (c : Bool) (k : Nat) (ha : 0 ≤ a) (hb : 0 ≤ b) :
    IntKind.u64.wrap (IntKind.u64.wrap ((a / 2 ^ k).tmod 2 + (b / 2 ^ k).tmod 2) + carS a b c k) = a / 2 ^ k % 2 + b / 2 ^ k % 2 + carS a b c k ∧ 0 ≤ a / 2 ^ k % 2 + b / 2 ^ k % 2 + carS a b c k ∧ a / 2 ^ k % 2 + b / 2 ^ k % 2 + carS a b c k ≤ 3 := by
  have hp := pow_pos k
  have h1 : 0 ≤ a / 2 ^ k := Int.ediv_nonneg ha (by omega)
  have h2 : 0 ≤ b / 2 ^ k := Int.ediv_nonneg hb (by omega)
  have h3 := carS_le a b c k
  rw [Int.tmod_eq_emod_of_nonneg h1, Int.tmod_eq_emod_of_nonneg h2, wrapU, wrapU]
  omega
theorem out_walk {a b : Int} (c : Bool) {k : Nat} (hk : k < 64) (ha : 0 ≤ a) (hb : 0 ≤ b) :
    bits .or .u64 (lowS a b c k) (IntKind.u64.wrap ((IntKind.u64.wrap (IntKind.u64.wrap ((a / 2 ^ k).tmod 2 + (b / 2 ^ k).tmod 2) + carS a b c k)).tmod 2 * 2 ^ k)) = lowS a b c (k + 1) := by
  obtain ⟨e, h0, h3⟩ := n_walk c k ha hb
  rw [e, Int.tmod_eq_emod_of_nonneg h0, or_low hk (lowS_lt a b c k).1 (lowS_lt a b c k).2 (by omega), low_step]
theorem car_walk {a b : Int} (c : Bool) {k : Nat} (ha : 0 ≤ a) (hb : 0 ≤ b) :
    IntKind.u64.wrap ((IntKind.u64.wrap (IntKind.u64.wrap ((a / 2 ^ k).tmod 2 + (b / 2 ^ k).tmod 2) + carS a b c k)).tdiv 2) = carS a b c (k + 1) := by
  obtain ⟨e, h0, h3⟩ := n_walk c k ha hb
  rw [e, Int.tdiv_eq_ediv_of_nonneg h0, car_step, wrapU]
  omega
theorem low_end {a b : Int} {c : Bool} : lowS a b c 64 = (a % 18446744073709551616 + b % 18446744073709551616 + oneI c) % 18446744073709551616 := by
  unfold lowS addN
  simp only [show (2 : Int) ^ 64 = 18446744073709551616 by decide]
end Go.Proofs.YtioeiogcejikbaaDoor.Alu
