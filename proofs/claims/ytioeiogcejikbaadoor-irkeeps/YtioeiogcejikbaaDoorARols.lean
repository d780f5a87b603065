/- From stage 5: Rols. -/
import Derived.Test.YtioeiogcejikbaaDoorASums
namespace Go.Proofs.YtioeiogcejikbaaDoor.Alu
open Go.RowKit
set_option linter.unusedVariables false
set_option linter.unusedSimpArgs false
set_option maxRecDepth 8000

theorem pow_nat (k : Nat) : ((2 ^ k : Nat) : Int) = (2 : Int) ^ k := by simp
theorem pow_split {j k : Nat} (h : j + k = 64) : (2 : Int) ^ j * 2 ^ k = 18446744073709551616 := by
  rw [← Int.pow_add, h]; decide
theorem div_div (a : Int) (k : Nat) : a / 2 ^ k / 2 = a / 2 ^ (k + 1) := by
  rw [Int.pow_succ, Int.ediv_ediv_of_nonneg (by have := pow_pos k; omega)]
theorem div_lt {a : Int} {k : Nat} (ha : U64 a) : 0 ≤ a / 2 ^ k ∧ a / 2 ^ k < 18446744073709551616 := by
  have hp := pow_pos k
  have h1 : a / 2 ^ k ≤ a := Int.ediv_le_self _ ha.1
  exact ⟨Int.ediv_nonneg ha.1 (by omega), by have := ha.2; omega⟩
theorem div_lt' {a : Int} {j k : Nat} (ha : U64 a) (h : j + k = 64) : a / 2 ^ k < 2 ^ j := by
  have hp := pow_pos k
  refine Int.ediv_lt_of_lt_mul hp ?_
  rw [pow_split h]
  exact ha.2
/-! ### Turned to the right -/
def rolV (a : Int) (k : Nat) : Int := a / 2 ^ k + a % 2 ^ k * 2 ^ (64 - k)
theorem rol_in {a : Int} {k : Nat} (ha : U64 a) (hk : k ≤ 64) : U64 (rolV a k) := by
  have hp := pow_pos k
  have hq := pow_pos (64 - k)
  have h1 := div_lt' (j := 64 - k) (k := k) ha (by omega)
  have h2 := (div_lt (k := k) ha).1
  have h3 : 0 ≤ a % 2 ^ k := Int.emod_nonneg _ (by omega)
  have h4 : a % 2 ^ k < 2 ^ k := Int.emod_lt_of_pos _ hp
  have h5 := pow_split (j := k) (k := 64 - k) (by omega)
  have h6 : (a % 2 ^ k + 1) * 2 ^ (64 - k) ≤ 2 ^ k * 2 ^ (64 - k) := Int.mul_le_mul_of_nonneg_right (by omega) (by omega)
  rw [Int.add_mul, Int.one_mul] at h6
  have h7 : 0 ≤ a % 2 ^ k * 2 ^ (64 - k) := Int.mul_nonneg h3 (by omega)
  unfold rolV
  constructor <;> omega
theorem ror_num {a : Int} {k : Nat} (ha : U64 a) (hk : k < 64) : rorV a (k : Int) 64 = rolV a k := by
  have hf : fits64 a 64 = true := fits64_all ha
  rw [← ror_walk (show inNumB 64 = true by decide) (by omega) hf]
  obtain ⟨A, rfl⟩ := Int.eq_ofNat_of_zero_le ha.1
  have hA : A < 2 ^ 64 := by have := ha.2; have : (2 : Nat) ^ 64 = 18446744073709551616 := by decide
                             omega
  unfold turnF turnN rolV
  rw [Int.toNat_natCast, Int.toNat_natCast, show (64 : Int).toNat = 64 from rfl, Nat.mod_eq_of_lt hk]
  have e : (2 : Nat) ^ 64 = 2 ^ k * 2 ^ (64 - k) := by rw [← Nat.pow_add]; congr 1; omega
  have h1 : A / 2 ^ k < 2 ^ (64 - k) := by
    rw [Nat.div_lt_iff_lt_mul (Nat.two_pow_pos k), Nat.mul_comm, ← e]; exact hA
  have h2 : A * 2 ^ (64 - k) % 2 ^ 64 = A % 2 ^ k * 2 ^ (64 - k) := by
    rw [e, Nat.mul_mod_mul_right]
  have h3 : A / 2 ^ k ||| A % 2 ^ k * 2 ^ (64 - k) = A / 2 ^ k + A % 2 ^ k * 2 ^ (64 - k) := by
    rw [Nat.or_comm, Nat.mul_comm, ← Nat.two_pow_add_eq_or_of_lt h1, Nat.add_comm]
  have h4 : A / 2 ^ k + A % 2 ^ k * 2 ^ (64 - k) < 2 ^ 64 := by
    have := (rol_in ha (by omega : k ≤ 64)).2
    unfold rolV at this
    have e1 : ((A / 2 ^ k + A % 2 ^ k * 2 ^ (64 - k) : Nat) : Int) = (A : Int) / 2 ^ k + (A : Int) % 2 ^ k * 2 ^ (64 - k) := by simp
    have : (2 : Nat) ^ 64 = 18446744073709551616 := by decide
    omega
  rw [h2, h3, Nat.and_two_pow_sub_one_eq_mod, Nat.mod_eq_of_lt h4]
  simp
theorem rol_zero {a : Int} : rolV a 0 = a := by
  unfold rolV
  simp
theorem rol_step {a : Int} {k : Nat} (ha : U64 a) (hk : k < 63) : IntKind.u64.wrap (IntKind.u64.wrap ((rolV a k).tdiv 2) + rolV a k % 2 * 9223372036854775808) = rolV a (k + 1) := by
  have h0 := rol_in (k := k) ha (by omega)
  have h1 := rol_in (k := k + 1) ha (by omega)
  have e : rolV a (k + 1) = rolV a k / 2 + rolV a k % 2 * 9223372036854775808 := by
    unfold rolV
    have e1 : (2 : Int) ^ (64 - k) = 2 ^ (63 - k) * 2 := by rw [← Int.pow_succ]; congr 1; omega
    have e2 : 64 - (k + 1) = 63 - k := by omega
    have e3 : (2 : Int) ^ k * 2 ^ (63 - k) = 9223372036854775808 := by
      rw [← Int.pow_add, show k + (63 - k) = 63 by omega]; decide
    rw [mod_step, ← div_div, e1, e2, Int.add_mul, Int.mul_assoc, e3, ← Int.mul_assoc]
    generalize a % 2 ^ k * 2 ^ (63 - k) = y
    generalize a / 2 ^ k = x
    omega
  rw [wrapU, wrapU, Int.tdiv_eq_ediv_of_nonneg h0.1, e]
  have := h0.1; have := h0.2; have := h1.1; have := h1.2
  rw [e] at this
  omega
/-! ### Shifted -/
theorem shr_step {a : Int} {k : Nat} (ha : U64 a) : IntKind.u64.wrap (IntKind.u64.wrap ((a / 2 ^ k).tdiv 2)) = a / 2 ^ (k + 1) := by
  have h0 := div_lt (k := k) ha
  have h1 := div_lt (k := k + 1) ha
  rw [Int.tdiv_eq_ediv_of_nonneg h0.1, div_div, wrapU, wrapU]
  omega
def sarV (a : Int) (k : Nat) : Int := wrap64 a / 2 ^ k % 18446744073709551616
theorem sar_pos {a : Int} {k : Nat} (ha : U64 a) (h : a < 9223372036854775808) : sarV a k = a / 2 ^ k := by
  have e : wrap64 a = a := by have := ha.1; unfold wrap64; omega
  have h0 := div_lt (k := k) ha
  unfold sarV
  rw [e]
  omega
theorem sar_neg {a : Int} {k : Nat} (ha : U64 a) (h : 9223372036854775808 ≤ a) : sarV a k = wrap64 a / 2 ^ k + 18446744073709551616 ∧ -9223372036854775808 ≤ wrap64 a / 2 ^ k ∧ wrap64 a / 2 ^ k < 0 := by
  have hp := pow_pos k
  have h1 : wrap64 a < 0 := by have := ha.2; unfold wrap64; omega
  have h2 : -9223372036854775808 ≤ wrap64 a := by have := ha.2; unfold wrap64; omega
  have h3 : wrap64 a / 2 ^ k < 0 := Int.ediv_neg_of_neg_of_pos h1 hp
  have h4 : -9223372036854775808 ≤ wrap64 a / 2 ^ k := by
    apply Int.le_ediv_of_mul_le hp
    have : (-9223372036854775808) * (2 : Int) ^ k ≤ -9223372036854775808 := by omega
    omega
  refine ⟨?_, h4, h3⟩
  unfold sarV
  omega
theorem sar_zero {a : Int} (ha : U64 a) : sarV a 0 = a := by
  unfold sarV
  simp only [Int.pow_zero, Int.ediv_one]
  have := ha.1; have := ha.2
  unfold wrap64; omega
theorem sar_step {a : Int} {k : Nat} (ha : U64 a) (h : 9223372036854775808 ≤ a) : IntKind.u64.wrap (IntKind.u64.wrap ((sarV a k).tdiv 2) + 9223372036854775808) = sarV a (k + 1) := by
  obtain ⟨e1, h1, h2⟩ := sar_neg (k := k) ha h
  obtain ⟨e2, h3, h4⟩ := sar_neg (k := k + 1) ha h
  rw [e1, e2, ← div_div, Int.tdiv_eq_ediv_of_nonneg (by omega), wrapU, wrapU]
  rw [← div_div] at h3 h4
  omega
theorem sar_in {a : Int} {k : Nat} : U64 (sarV a k) := by
  unfold sarV
  constructor <;> omega
def shlV (a : Int) (k : Nat) : Int := a * 2 ^ k % 18446744073709551616
theorem shl_zero {a : Int} (ha : U64 a) : shlV a 0 = a := by
  unfold shlV
  simp only [Int.pow_zero, Int.mul_one]
  have := ha.1; have := ha.2
  omega
theorem shl_step {a : Int} {k : Nat} : IntKind.u64.wrap (shlV a k + shlV a k) = shlV a (k + 1) := by
  unfold shlV
  rw [wrapU, Int.pow_succ, ← Int.mul_assoc]
  omega
/-! ### Divided, with signs -/
theorem sdiv_pp {a b : Int} (ha : U64 a) (hb : U64 b) (h1 : a < 9223372036854775808) (h2 : b < 9223372036854775808) (h0 : b ≠ 0) :
    IntKind.u64.wrap (a.tdiv b) = reckonV 8 a b := by
  have e1 : wrap64 a = a := by have := ha.1; unfold wrap64; omega
  have e2 : wrap64 b = b := by have := hb.1; unfold wrap64; omega
  simp only [reckonV, reduceIte, Int.reduceEq, if_neg h0, e1, e2, wrapU]
theorem sdiv_np {a b : Int} (ha : U64 a) (hb : U64 b) (h1 : 9223372036854775808 ≤ a) (h2 : b < 9223372036854775808) (h0 : b ≠ 0) :
    IntKind.u64.wrap (-(IntKind.u64.wrap ((IntKind.u64.wrap (-a)).tdiv b))) = reckonV 8 a b := by
  have e1 : wrap64 a = -(18446744073709551616 - a) := by have := ha.2; unfold wrap64; omega
  have e2 : wrap64 b = b := by have := hb.1; unfold wrap64; omega
  have e3 : IntKind.u64.wrap (-a) = 18446744073709551616 - a := by rw [wrapU]; have := ha.2; omega
  simp only [reckonV, reduceIte, Int.reduceEq, if_neg h0, e1, e2, e3, Int.neg_tdiv]
  generalize (18446744073709551616 - a).tdiv b = q
  rw [wrapU, wrapU]
  omega
theorem sdiv_pn {a b : Int} (ha : U64 a) (hb : U64 b) (h1 : a < 9223372036854775808) (h2 : 9223372036854775808 ≤ b) (h0 : b ≠ 0) :
    IntKind.u64.wrap (-(IntKind.u64.wrap (a.tdiv (IntKind.u64.wrap (-b))))) = reckonV 8 a b := by
  have e1 : wrap64 a = a := by have := ha.1; unfold wrap64; omega
  have e2 : wrap64 b = -(18446744073709551616 - b) := by have := hb.2; unfold wrap64; omega
  have e3 : IntKind.u64.wrap (-b) = 18446744073709551616 - b := by rw [wrapU]; have := hb.2; omega
  simp only [reckonV, reduceIte, Int.reduceEq, if_neg h0, e1, e2, e3, Int.tdiv_neg]
  generalize a.tdiv (18446744073709551616 - b) = q
  rw [wrapU, wrapU]
  omega
theorem sdiv_nn {a b : Int} (ha : U64 a) (hb : U64 b) (h1 : 9223372036854775808 ≤ a) (h2 : 9223372036854775808 ≤ b) (h0 : b ≠ 0) :
    IntKind.u64.wrap ((IntKind.u64.wrap (-a)).tdiv (IntKind.u64.wrap (-b))) = reckonV 8 a b := by
  have e1 : wrap64 a = -(18446744073709551616 - a) := by have := ha.2; unfold wrap64; omega
  have e2 : wrap64 b = -(18446744073709551616 - b) := by have := hb.2; unfold wrap64; omega
  have e3 : IntKind.u64.wrap (-a) = 18446744073709551616 - a := by rw [wrapU]; have := ha.2; omega
  have e4 : IntKind.u64.wrap (-b) = 18446744073709551616 - b := by rw [wrapU]; have := hb.2; omega
  simp only [reckonV, reduceIte, Int.reduceEq, if_neg h0, e1, e2, e3, e4, Int.tdiv_neg, Int.neg_tdiv, Int.neg_neg]
  rw [wrapU]
/-! ### The highest bit turned; all bits turned -/
theorem xor_top {a : Int} (ha : U64 a) : bits .xor .u64 a 9223372036854775808 = if a < 9223372036854775808 then a + 9223372036854775808 else a - 9223372036854775808 := by
  obtain ⟨A, rfl⟩ := Int.eq_ofNat_of_zero_le ha.1
  have hA : A < 18446744073709551616 := by have := ha.2; omega
  rw [show (9223372036854775808 : Int) = ((2 ^ 63 : Nat) : Int) from rfl, bits_xor_u64_nat _ _ hA (by decide)]
  have h1 : (A ^^^ 2 ^ 63) / 2 ^ 63 = A / 2 ^ 63 ^^^ 1 := by
    have := Nat.shiftRight_xor_distrib (a := A) (b := 2 ^ 63) (i := 63)
    simp only [Nat.shiftRight_eq_div_pow] at this
    rw [this, Nat.div_self (Nat.two_pow_pos 63)]
  have h2 : (A ^^^ 2 ^ 63) % 2 ^ 63 = A % 2 ^ 63 := by
    rw [Nat.xor_mod_two_pow, Nat.mod_self, Nat.xor_zero]
  have e : (2 : Nat) ^ 63 = 9223372036854775808 := by decide
  rw [e] at h1 h2 ⊢
  generalize A ^^^ 9223372036854775808 = Y at *
  rcases (by omega : A / 9223372036854775808 = 0 ∨ A / 9223372036854775808 = 1) with h | h
  · rw [h] at h1
    have h1 : Y / 9223372036854775808 = 1 := h1
    split <;> omega
  · rw [h] at h1
    have h1 : Y / 9223372036854775808 = 0 := h1
    split <;> omega
theorem below_walk {a b : Int} (ha : U64 a) (hb : U64 b) : decide (bits .xor .u64 a 9223372036854775808 < bits .xor .u64 b 9223372036854775808) = decide (wrap64 a < wrap64 b) := by
  rw [xor_top ha, xor_top hb, decide_eq_decide]
  have := ha.1; have := ha.2; have := hb.1; have := hb.2
  unfold wrap64
  split <;> split <;> omega
theorem xor_all {a : Int} (ha : U64 a) : bits .xor .u64 a 18446744073709551615 = 18446744073709551615 - a := by
  obtain ⟨A, rfl⟩ := Int.eq_ofNat_of_zero_le ha.1
  have hA : A < 18446744073709551616 := by have := ha.2; omega
  rw [show (18446744073709551615 : Int) = ((18446744073709551615 : Nat) : Int) from rfl, bits_xor_u64_nat _ _ hA (by decide)]
  have h := congrArg BitVec.toNat (BitVec.xor_allOnes (x := BitVec.ofNat 64 A))
  rw [BitVec.toNat_xor, BitVec.toNat_not, BitVec.toNat_allOnes, BitVec.toNat_ofNat, Nat.mod_eq_of_lt hA] at h
  have e : (2 : Nat) ^ 64 - 1 = 18446744073709551615 := by decide
  rw [e] at h
  rw [h]
  omega
end Go.Proofs.YtioeiogcejikbaaDoor.Alu
