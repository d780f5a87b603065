/- From stage 5: PlainB. -/
import Derived.Test.YtioeiogcejikbaaDoorAPlain
namespace Go.Proofs.YtioeiogcejikbaaDoor.Alu
open Go.RowKit
set_option linter.unusedVariables false
set_option linter.unusedSimpArgs false
set_option maxRecDepth 8000

theorem inNum_of {m : Int} (hb : inNumB m = true) : 1 ≤ m ∧ m ≤ 64 := by
  unfold inNumB at hb
  simpa only [decide_eq_true_eq] using hb

/-! ### Signed -/
def signBit (value m : Int) (i : Nat) : Bool := value.toNat.testBit (min i (m.toNat - 1))
def signedV (value m : Int) : Int := if inNumB m = true then ((orBits (signBit value m) 64 : Nat) : Int) else 0

theorem signed_walk (value m : Int) (h : Hid (0 ≤ value ∧ value < 18446744073709551616)) (hb : inNumB m = true) :
    IntKind.u64.wrap (wrap64 (IntKind.u64.wrap (value * 2 ^ (64 - m).toNat)) / 2 ^ (64 - m).toNat) = signedV value m := by
  have hb' := inNum_of hb
  unfold signedV
  rw [if_pos hb]
  obtain ⟨V, rfl⟩ := Int.eq_ofNat_of_zero_le h.out.1
  obtain ⟨M, rfl⟩ := Int.eq_ofNat_of_zero_le (show 0 ≤ m by omega)
  have hv := h.out.2
  have hA : (64 - (M : Int)).toNat = 64 - M := by omega
  rw [hA]
  generalize hAA : 64 - M = A
  let X : BitVec 64 := BitVec.ofNat 64 V
  have hX : X.toNat = V := by
    show (BitVec.ofNat 64 V).toNat = V
    rw [BitVec.toNat_ofNat]; exact Nat.mod_eq_of_lt (by omega)
  have e1 : IntKind.u64.wrap ((V : Int) * 2 ^ A) = (((X <<< A).toNat : Nat) : Int) := by
    rw [IntKind.wrap_u64, BitVec.toNat_shiftLeft, hX, Nat.shiftLeft_eq]
    have : ((V : Int) * 2 ^ A) = ((V * 2 ^ A : Nat) : Int) := by simp
    rw [this]
    omega
  have e2 : ∀ Y : BitVec 64, wrap64 ((Y.toNat : Nat) : Int) = Y.toInt := by
    intro Y
    unfold wrap64
    rw [BitVec.toInt_eq_toNat_cond]
    have := Y.isLt
    split <;> omega
  have e3 : ∀ Y : BitVec 64, IntKind.u64.wrap Y.toInt = ((Y.toNat : Nat) : Int) := by
    intro Y
    rw [IntKind.wrap_u64, BitVec.toInt_eq_toNat_cond]
    have := Y.isLt
    split <;> omega
  have e4 : (X <<< A).toInt / 2 ^ A = ((X <<< A).sshiftRight A).toInt := by
    rw [BitVec.toInt_sshiftRight, Int.shiftRight_eq_div_pow]
    simp
  rw [e1, e2, e4, e3]
  congr 1
  apply eq_orBits
  intro i
  show ((X <<< A).sshiftRight A).getLsbD i = _
  rw [BitVec.getLsbD_sshiftRight]
  unfold signBit
  simp only [Int.toNat_natCast]
  by_cases hi : i < 64
  · have hi' : ¬ 64 ≤ i := by omega
    simp only [hi, hi', decide_true, decide_false, Bool.not_false, Bool.true_and]
    by_cases c : A + i < 64
    · rw [if_pos c, BitVec.getLsbD_shiftLeft]
      have c1 : ¬ A + i < A := by omega
      have c2 : A + i - A = i := by omega
      have c3 : min i (M - 1) = i := by omega
      simp only [c, c1, c2, c3, decide_true, decide_false, Bool.not_false, Bool.true_and]
      show X.toNat.testBit i = _
      rw [hX]
    · rw [if_neg c, BitVec.msb_eq_getLsbD_last, BitVec.getLsbD_shiftLeft]
      have c0 : 64 - 1 < 64 := by omega
      have c1 : ¬ 64 - 1 < A := by omega
      have c3 : min i (M - 1) = 64 - 1 - A := by omega
      simp only [c0, c1, c3, decide_true, decide_false, Bool.not_false, Bool.true_and]
      show X.toNat.testBit (64 - 1 - A) = _
      rw [hX]
  · have hi' : 64 ≤ i := by omega
    simp [hi, hi']

/-! ### Turning -/
def turnN (v b m : Nat) : Nat := (v / 2 ^ (b % m) ||| v * 2 ^ (m - b % m) % 2 ^ 64) &&& (2 ^ m - 1)
def turnF (v b m : Int) : Int := ((turnN v.toNat b.toNat m.toNat : Nat) : Int)
def rorBit (v b m : Nat) (i : Nat) : Bool := v.testBit ((i + b % m) % m)

theorem turnN_eq {v b m : Nat} (hm : 1 ≤ m) (hm2 : m ≤ 64) (hv : v < 2 ^ m) : turnN v b m = orBits (rorBit v b m) m := by
  apply eq_orBits
  intro i
  unfold turnN rorBit
  rw [Nat.testBit_and, Nat.testBit_or, Nat.testBit_div_two_pow, Nat.testBit_mod_two_pow, Nat.testBit_mul_two_pow, Nat.testBit_two_pow_sub_one]
  have hb : b % m < m := Nat.mod_lt _ (by omega)
  generalize b % m = c at *
  by_cases hi : i < m
  · have hi' : i < 64 := by omega
    by_cases h1 : i + c < m
    · have h2 : ¬ m - c ≤ i := by omega
      rw [Nat.mod_eq_of_lt h1]
      simp [hi, h2]
    · have h2 : m - c ≤ i := by omega
      have h3 : (i + c) % m = i - (m - c) := by
        rw [Nat.mod_eq_sub_mod (by omega), Nat.mod_eq_of_lt (by omega)]
        omega
      have h4 : v.testBit (i + c) = false := Nat.testBit_lt_two_pow (Nat.lt_of_lt_of_le hv (Nat.pow_le_pow_right (by decide) (by omega)))
      rw [h3, h4]
      simp [hi, hi', h2]
  · simp [hi]

theorem turnN_lt (v b m : Nat) : turnN v b m < 2 ^ m := by
  unfold turnN
  have : 2 ^ m - 1 < 2 ^ m := by have := Nat.two_pow_pos m; omega
  exact Nat.and_lt_two_pow _ this

theorem pow_le64 {m : Nat} (hm : m ≤ 64) : 2 ^ m ≤ 18446744073709551616 :=
  Nat.pow_le_pow_right (n := 2) (by decide) hm

theorem turn_walk (v b m : Int) (h : Hid (0 ≤ v ∧ v < 18446744073709551616)) (hb : 0 ≤ b) (hm : 1 ≤ m) (hm2 : m ≤ 64) :
    bits .and .u64 (bits .or .u64 (v / 2 ^ (b % m).toNat) (IntKind.u64.wrap (v * 2 ^ (m - b % m).toNat))) (lowF m) = turnF v b m := by
  obtain ⟨V, rfl⟩ := Int.eq_ofNat_of_zero_le h.out.1
  obtain ⟨B, rfl⟩ := Int.eq_ofNat_of_zero_le hb
  obtain ⟨M, rfl⟩ := Int.eq_ofNat_of_zero_le (show 0 ≤ m by omega)
  have hv := h.out.2
  have hlt : B % M < M := Nat.mod_lt _ (by omega)
  have r1 : ((B : Int) % (M : Int)) = ((B % M : Nat) : Int) := by simp
  have r2 : ((M : Int) - ((B % M : Nat) : Int)).toNat = M - B % M := by omega
  rw [r1, r2]
  unfold turnF turnN lowF
  simp only [Int.toNat_natCast]
  generalize B % M = C at *
  have e0 : ((V : Int) / 2 ^ C) = ((V / 2 ^ C : Nat) : Int) := by simp
  have e1 : IntKind.u64.wrap ((V : Int) * 2 ^ (M - C)) = ((V * 2 ^ (M - C) % 2 ^ 64 : Nat) : Int) := by
    rw [IntKind.wrap_u64]
    have : ((V : Int) * 2 ^ (M - C)) = ((V * 2 ^ (M - C) : Nat) : Int) := by simp
    rw [this]
    omega
  have q0 : V / 2 ^ C < 18446744073709551616 := Nat.lt_of_le_of_lt (Nat.div_le_self _ _) (by omega)
  have q1 : V * 2 ^ (M - C) % 2 ^ 64 < 18446744073709551616 := Nat.mod_lt _ (by decide)
  have q2 : V / 2 ^ C ||| V * 2 ^ (M - C) % 2 ^ 64 < 18446744073709551616 := Nat.or_lt_two_pow (n := 64) q0 q1
  have q3 : 2 ^ min M 64 - 1 < 18446744073709551616 := by
    have := pow_le64 (m := min M 64) (by omega)
    have := Nat.two_pow_pos (min M 64)
    omega
  rw [e0, e1, bits_or_u64_nat _ _ q0 q1, bits_and_u64_nat _ _ q2 q3, show min M 64 = M by omega]

/-! ### Ror -/
def fits64 (value m : Int) : Bool := decide (value.toNat < 2 ^ m.toNat)
def rorV (value b m : Int) : Int := if (inNumB m && decide (0 ≤ b) && fits64 value m) = true then ((orBits (rorBit value.toNat b.toNat m.toNat) m.toNat : Nat) : Int) else 0
def rorE (value b m : Int) : Int := if (inNumB m && decide (0 ≤ b)) = true then (if fits64 value m = true then 0 else 2) else 1

theorem fits64_low {value m : Int} (h0 : 0 ≤ value) (hm : m ≤ 64) : fits64 value m = true ↔ value ≤ lowF m := by
  unfold fits64 lowF
  rw [decide_eq_true_eq, show min m.toNat 64 = m.toNat by omega]
  have : 1 ≤ 2 ^ m.toNat := Nat.one_le_two_pow
  omega

theorem ror_walk {value b m : Int} (hb : inNumB m = true) (h0 : 0 ≤ b) (hf : fits64 value m = true) : turnF value b m = rorV value b m := by
  have h1 := inNum_of hb
  unfold turnF rorV
  rw [hb, hf, decide_eq_true h0, if_pos (by rfl)]
  unfold fits64 at hf
  rw [decide_eq_true_eq] at hf
  rw [turnN_eq (by omega) (by omega) hf]

theorem ror_yes {value b m : Int} (hb : inNumB m = true) (h0 : 0 ≤ b) (hf : fits64 value m = true) : ((orBits (rorBit value.toNat b.toNat m.toNat) m.toNat : Nat) : Int) = rorV value b m ∧ rorE value b m = 0 := by
  unfold rorV rorE
  rw [hb, hf, decide_eq_true h0, if_pos (by rfl), if_pos (by rfl), if_pos (by rfl)]
  exact ⟨rfl, rfl⟩

theorem ror_no {value b m : Int} (hb : inNumB m = true) (h0 : 0 ≤ b) (hf : fits64 value m = false) : rorV value b m = 0 ∧ rorE value b m = 2 := by
  unfold rorV rorE
  rw [hb, hf, decide_eq_true h0]
  exact ⟨rfl, rfl⟩

theorem ror_arg {value b m : Int} (h : ¬ (1 ≤ m ∧ m ≤ 64 ∧ 0 ≤ b)) : rorV value b m = 0 ∧ rorE value b m = 1 := by
  have : (inNumB m && decide (0 ≤ b)) = false := by
    unfold inNumB
    rw [← Bool.decide_and, decide_eq_false_iff_not]
    omega
  unfold rorV rorE
  rw [this]
  exact ⟨rfl, rfl⟩

theorem fits64_shr {value m : Int} (h : Hid (0 ≤ value ∧ value < 18446744073709551616)) : (value / 2 ^ m.toNat != 0) = !(fits64 value m) := by
  have h1 := h.out.1
  obtain ⟨V, rfl⟩ := Int.eq_ofNat_of_zero_le h1
  unfold fits64
  have e : ((V : Int) / 2 ^ m.toNat) = ((V / 2 ^ m.toNat : Nat) : Int) := by simp
  rw [e]
  have p : 0 < 2 ^ m.toNat := Nat.two_pow_pos _
  by_cases c : V < 2 ^ m.toNat
  · rw [Nat.div_eq_of_lt c]; simp [c]
  · have : 0 < V / 2 ^ m.toNat := Nat.div_pos (by omega) p
    have c' : decide ((V : Int).toNat < 2 ^ m.toNat) = false := by simpa using c
    rw [c']
    simp
    omega

theorem fits64_all {value : Int} (h : Hid (0 ≤ value ∧ value < 18446744073709551616)) : fits64 value 64 = true := by
  have h1 := h.out
  unfold fits64
  rw [decide_eq_true_eq]
  have : (2 : Nat) ^ (64 : Int).toNat = 18446744073709551616 := by decide
  omega
end Go.Proofs.YtioeiogcejikbaaDoor.Alu
