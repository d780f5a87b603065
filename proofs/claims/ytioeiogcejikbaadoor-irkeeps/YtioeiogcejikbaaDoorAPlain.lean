/- From stage 5: Plain. -/
import Derived.Test.YtioeiogcejikbaaDoorCa
namespace Go.Proofs.YtioeiogcejikbaaDoor.Alu
open Go.RowKit
set_option linter.unusedVariables false
set_option linter.unusedSimpArgs false
set_option maxRecDepth 8000

/-- The number whose bits below k are those of f. -/
def orBits (f : Nat → Bool) : Nat → Nat
  | 0 => 0
  | k + 1 => orBits f k ||| (f k).toNat * 2 ^ k

theorem testBit_bool (b : Bool) (j : Nat) : b.toNat.testBit j = (decide (j = 0) && b) := by
  cases b
  · simp
  · cases j with
    | zero => decide
    | succ n => simp [Nat.testBit_succ]

theorem testBit_orBits (f : Nat → Bool) (k i : Nat) : (orBits f k).testBit i = (decide (i < k) && f i) := by
  induction k with
  | zero => simp [orBits]
  | succ k ih =>
    rw [orBits, Nat.testBit_or, ih, Nat.testBit_mul_two_pow, testBit_bool]
    by_cases h1 : i < k
    · have : ¬ k ≤ i := by omega
      have h2 : i < k + 1 := by omega
      simp [h1, this, h2]
    · by_cases h2 : i = k
      · subst h2; simp
      · have h3 : ¬ i < k + 1 := by omega
        have h4 : ¬ i - k = 0 := by omega
        simp [h1, h3, h4]

theorem orBits_lt (f : Nat → Bool) (k : Nat) : orBits f k < 2 ^ k := by
  apply Nat.lt_pow_two_of_testBit
  intro i hi
  rw [testBit_orBits]
  have : ¬ i < k := by omega
  simp [this]

theorem orBits_lt64 (f : Nat → Bool) (k : Nat) (hk : k ≤ 64) : orBits f k < 18446744073709551616 :=
  Nat.lt_of_lt_of_le (orBits_lt f k) (Nat.pow_le_pow_right (by decide) hk)

theorem eq_orBits {x k : Nat} {f : Nat → Bool} (h : ∀ i, x.testBit i = (decide (i < k) && f i)) : x = orBits f k := by
  apply Nat.eq_of_testBit_eq
  intro i
  rw [h, testBit_orBits]

theorem orBits_congr {f g : Nat → Bool} {k : Nat} (h : ∀ i, i < k → f i = g i) : orBits f k = orBits g k := by
  apply eq_orBits
  intro i
  rw [testBit_orBits]
  by_cases hi : i < k
  · simp [hi, h i hi]
  · simp [hi]

/-- One bit of a number, as the document's own 'bit' tells it. -/
def bitF (v n : Int) : Int := v / 2 ^ n.toNat % 2

theorem and_one (x : Nat) : x &&& 1 = x % 2 := by
  simp

theorem bitF_walk (v n : Int) : bits .and .u64 (v / 2 ^ n.toNat) 1 = bitF v n := by
  unfold bitF
  generalize v / 2 ^ n.toNat = x
  show IntKind.u64.wrap ((BitVec.ofInt 64 x &&& BitVec.ofInt 64 1).toNat : Int) = _
  rw [BitVec.toNat_and, show (BitVec.ofInt 64 1).toNat = 1 from rfl, and_one, BitVec.toNat_ofInt, IntKind.wrap_u64]
  omega

theorem bitF_nat (V M : Nat) : bitF (V : Int) (M : Int) = ((V.testBit M).toNat : Nat) := by
  unfold bitF
  rw [Nat.toNat_testBit]
  simp

theorem bitF_of {v n : Int} (hv : 0 ≤ v) (hn : 0 ≤ n) : bitF v n = ((v.toNat.testBit n.toNat).toNat : Nat) := by
  obtain ⟨V, rfl⟩ := Int.eq_ofNat_of_zero_le hv
  obtain ⟨M, rfl⟩ := Int.eq_ofNat_of_zero_le hn
  simp only [Int.toNat_natCast]
  exact bitF_nat V M

theorem wrap_u64_in {x : Int} (h0 : 0 ≤ x) (h1 : x < 18446744073709551616) : IntKind.u64.wrap x = x := by
  rw [IntKind.wrap_u64]; omega

/-- One bit more is laid, as the walk spells it. -/
theorem or_step (f : Nat → Bool) (k : Nat) (hk : k < 64) (b : Int) (hb : b = ((f k).toNat : Nat)) :
    bits .or .u64 ((orBits f k : Nat) : Int) (IntKind.u64.wrap (b * 2 ^ k)) = ((orBits f (k + 1) : Nat) : Int) := by
  subst hb
  have h1 : (f k).toNat * 2 ^ k < 18446744073709551616 := by
    have hp : 2 ^ k ≤ 2 ^ 63 := Nat.pow_le_pow_right (by decide) (by omega)
    have : (f k).toNat ≤ 1 := Bool.toNat_le _
    have h3 : (f k).toNat * 2 ^ k ≤ 1 * 2 ^ 63 := Nat.mul_le_mul this hp
    have : (2 : Nat) ^ 63 < 18446744073709551616 := by decide
    omega
  have e : IntKind.u64.wrap ((((f k).toNat : Nat) : Int) * 2 ^ k) = (((f k).toNat * 2 ^ k : Nat) : Int) := by
    rw [IntKind.wrap_u64]
    have : (((f k).toNat : Nat) : Int) * 2 ^ k = (((f k).toNat * 2 ^ k : Nat) : Int) := by simp
    rw [this]
    omega
  rw [e, bits_or_u64_nat _ _ (orBits_lt64 f k (by omega)) h1]
  rfl

/-! ### The numbers that the calls tell -/
def inWordB (a m : Int) : Bool := decide (0 ≤ a ∧ 1 ≤ m ∧ m ≤ 32 ∧ a ≤ 32 - m)
def inNumB (m : Int) : Bool := decide (1 ≤ m ∧ m ≤ 64)
def sixB (m : Int) : Bool := decide (0 ≤ m ∧ m ≤ 63)
def lowWordF (k : Int) : Int := ((2 ^ k.toNat - 1 : Nat) : Int)
def lowF (k : Int) : Int := ((2 ^ min k.toNat 64 - 1 : Nat) : Int)

theorem lowWord_walk (k : Int) (h2 : k ≤ 32) : ((2 : Int) ^ k.toNat % 4294967296 - 1) % 4294967296 = lowWordF k := by
  unfold lowWordF
  have hk : k.toNat ≤ 32 := by omega
  have e : ((2 : Int) ^ k.toNat) = ((2 ^ k.toNat : Nat) : Int) := by simp
  rw [e]
  have h3 : 2 ^ k.toNat ≤ 2 ^ 32 := Nat.pow_le_pow_right (by decide) hk
  have h4 : 1 ≤ 2 ^ k.toNat := Nat.one_le_two_pow
  have h5 : (2 : Nat) ^ 32 = 4294967296 := by decide
  omega

theorem low_walk (k : Int) : IntKind.u64.wrap (IntKind.u64.wrap ((2 : Int) ^ min k.toNat 64) - 1) = lowF k := by
  unfold lowF
  rw [IntKind.wrap_u64, IntKind.wrap_u64]
  have e : ((2 : Int) ^ min k.toNat 64) = ((2 ^ min k.toNat 64 : Nat) : Int) := by simp
  rw [e]
  have h3 : 2 ^ min k.toNat 64 ≤ 2 ^ 64 := Nat.pow_le_pow_right (by decide) (by omega)
  have h4 : 1 ≤ 2 ^ min k.toNat 64 := Nat.one_le_two_pow
  have h5 : (2 : Nat) ^ 64 = 18446744073709551616 := by decide
  omega

/-! ### Field, Put -/
def inE (b : Bool) : Int := if b = true then 0 else 1
def fieldV (word a m : Int) : Int := if inWordB a m = true then ((word.toNat / 2 ^ a.toNat % 2 ^ m.toNat : Nat) : Int) else 0
def putBit (word a m value : Int) (i : Nat) : Bool := if a.toNat ≤ i ∧ i < a.toNat + m.toNat then value.toNat.testBit (i - a.toNat) else word.toNat.testBit i
def fitsB (value m : Int) : Bool := decide (value.toNat < 2 ^ m.toNat)
def putV (word a m value : Int) : Int := if (inWordB a m && fitsB value m) = true then ((orBits (putBit word a m value) 32 : Nat) : Int) else 0
def putE (a m value : Int) : Int := if inWordB a m = true then (if fitsB value m = true then 0 else 2) else 1

theorem and32 (a b : Nat) (ha : a < 4294967296) (hb : b < 4294967296) : bits .and .u32 (a : Int) (b : Int) = ((a &&& b : Nat) : Int) := by
  have hx : a &&& b < 2 ^ 32 := Nat.and_lt_two_pow _ (by omega)
  have h1 : (BitVec.ofInt 32 (a : Int)).toNat = a := by
    rw [BitVec.ofInt_natCast, BitVec.toNat_ofNat]; exact Nat.mod_eq_of_lt (by omega)
  have h2 : (BitVec.ofInt 32 (b : Int)).toNat = b := by
    rw [BitVec.ofInt_natCast, BitVec.toNat_ofNat]; exact Nat.mod_eq_of_lt (by omega)
  show IntKind.u32.wrap ((BitVec.ofInt 32 (a : Int) &&& BitVec.ofInt 32 (b : Int)).toNat : Int) = _
  rw [BitVec.toNat_and, h1, h2, IntKind.wrap_u32]
  omega

theorem or32 (a b : Nat) (ha : a < 4294967296) (hb : b < 4294967296) : bits .or .u32 (a : Int) (b : Int) = ((a ||| b : Nat) : Int) := by
  have hx : a ||| b < 2 ^ 32 := Nat.or_lt_two_pow (by omega) (by omega)
  have h1 : (BitVec.ofInt 32 (a : Int)).toNat = a := by
    rw [BitVec.ofInt_natCast, BitVec.toNat_ofNat]; exact Nat.mod_eq_of_lt (by omega)
  have h2 : (BitVec.ofInt 32 (b : Int)).toNat = b := by
    rw [BitVec.ofInt_natCast, BitVec.toNat_ofNat]; exact Nat.mod_eq_of_lt (by omega)
  show IntKind.u32.wrap ((BitVec.ofInt 32 (a : Int) ||| BitVec.ofInt 32 (b : Int)).toNat : Int) = _
  rw [BitVec.toNat_or, h1, h2, IntKind.wrap_u32]
  omega

theorem andNot32 (a b : Nat) (ha : a < 4294967296) (hb : b < 4294967296) : bits .andNot .u32 (a : Int) (b : Int) = ((a &&& (4294967296 - (b + 1)) : Nat) : Int) := by
  have hx : a &&& (4294967296 - (b + 1)) < 2 ^ 32 := Nat.and_lt_two_pow _ (by omega)
  have h1 : (BitVec.ofInt 32 (a : Int)).toNat = a := by
    rw [BitVec.ofInt_natCast, BitVec.toNat_ofNat]; exact Nat.mod_eq_of_lt (by omega)
  have h2 : (BitVec.ofInt 32 (b : Int)).toNat = b := by
    rw [BitVec.ofInt_natCast, BitVec.toNat_ofNat]; exact Nat.mod_eq_of_lt (by omega)
  have h3 : (2 : Nat) ^ 32 - 1 - b = 4294967296 - (b + 1) := by omega
  show IntKind.u32.wrap ((BitVec.ofInt 32 (a : Int) &&& ~~~ BitVec.ofInt 32 (b : Int)).toNat : Int) = _
  rw [BitVec.toNat_and, BitVec.toNat_not, h1, h2, h3, IntKind.wrap_u32]
  omega

theorem lowW_lt (m : Int) (h : m ≤ 32) : 2 ^ m.toNat - 1 < 4294967296 := by
  have h3 : 2 ^ m.toNat ≤ 2 ^ 32 := Nat.pow_le_pow_right (by decide) (by omega)
  have h5 : (2 : Nat) ^ 32 = 4294967296 := by decide
  omega

theorem field_walk (word a m : Int) (h : Hid (0 ≤ word ∧ word < 4294967296)) (hb : inWordB a m = true) :
    bits .and .u32 (word / 2 ^ a.toNat) (lowWordF m) = fieldV word a m := by
  have hb' := hb
  unfold inWordB at hb'
  simp only [decide_eq_true_eq] at hb'
  unfold fieldV
  rw [if_pos hb]
  obtain ⟨W, rfl⟩ := Int.eq_ofNat_of_zero_le h.out.1
  have h2 := h.out.2
  have e : ((W : Int) / 2 ^ a.toNat) = ((W / 2 ^ a.toNat : Nat) : Int) := by simp
  unfold lowWordF
  rw [e, and32 _ _ (Nat.lt_of_le_of_lt (Nat.div_le_self _ _) (by omega)) (lowW_lt m (by omega)), Nat.and_two_pow_sub_one_eq_mod]
  simp

theorem field_ref (word a m : Int) (hb : inWordB a m = true) :
    ((orBits (fun j => word.toNat.testBit (a.toNat + j)) m.toNat : Nat) : Int) % 4294967296 = fieldV word a m := by
  have hb' := hb
  unfold inWordB at hb'
  simp only [decide_eq_true_eq] at hb'
  unfold fieldV
  rw [if_pos hb]
  have e : word.toNat / 2 ^ a.toNat % 2 ^ m.toNat = orBits (fun j => word.toNat.testBit (a.toNat + j)) m.toNat := by
    apply eq_orBits
    intro i
    rw [Nat.testBit_mod_two_pow, Nat.testBit_div_two_pow, Nat.add_comm]
  rw [e]
  have h1 := orBits_lt (fun j => word.toNat.testBit (a.toNat + j)) m.toNat
  have h3 : 2 ^ m.toNat ≤ 2 ^ 32 := Nat.pow_le_pow_right (by decide) (by omega)
  have h5 : (2 : Nat) ^ 32 = 4294967296 := by decide
  omega

theorem inWord_of {a m : Int} (hb : inWordB a m = true) : 0 ≤ a ∧ 1 ≤ m ∧ m ≤ 32 ∧ a ≤ 32 - m := by
  unfold inWordB at hb
  simpa only [decide_eq_true_eq] using hb

theorem fits_low {value m : Int} (h0 : 0 ≤ value) : fitsB value m = true ↔ value ≤ lowWordF m := by
  unfold fitsB lowWordF
  rw [decide_eq_true_eq]
  have : 1 ≤ 2 ^ m.toNat := Nat.one_le_two_pow
  omega

theorem put_walk (word a m value : Int) (h : Hid (0 ≤ word ∧ word < 4294967296)) (hv : Hid (0 ≤ value ∧ value < 4294967296)) (hb : inWordB a m = true) (hf : fitsB value m = true) :
    bits .or .u32 (bits .andNot .u32 word (lowWordF m * 2 ^ a.toNat % 4294967296)) (value * 2 ^ a.toNat % 4294967296) = putV word a m value := by
  have hb' := inWord_of hb
  unfold putV
  rw [hb, hf, if_pos (by rfl)]
  obtain ⟨W, rfl⟩ := Int.eq_ofNat_of_zero_le h.out.1
  obtain ⟨V, rfl⟩ := Int.eq_ofNat_of_zero_le hv.out.1
  obtain ⟨A, rfl⟩ := Int.eq_ofNat_of_zero_le hb'.1
  obtain ⟨M, rfl⟩ := Int.eq_ofNat_of_zero_le (show 0 ≤ m by omega)
  have h2 := h.out.2
  have h3 := hv.out.2
  unfold fitsB at hf
  rw [decide_eq_true_eq] at hf
  simp only [Int.toNat_natCast] at hf
  have hA : A ≤ 32 - M := by omega
  have hM : M ≤ 32 := by omega
  have p1 : 2 ^ M * 2 ^ A ≤ 2 ^ 32 := by
    rw [← Nat.pow_add]; exact Nat.pow_le_pow_right (by decide) (by omega)
  have p2 : (2 : Nat) ^ 32 = 4294967296 := by decide
  have p3 : 1 ≤ 2 ^ M := Nat.one_le_two_pow
  have p4 : 1 ≤ 2 ^ A := Nat.one_le_two_pow
  have q1 : (2 ^ M - 1) * 2 ^ A < 4294967296 := by
    rw [Nat.sub_mul]; omega
  have q2 : V * 2 ^ A < 4294967296 := by
    have : V * 2 ^ A < 2 ^ M * 2 ^ A := Nat.mul_lt_mul_of_pos_right hf (by omega)
    omega
  unfold lowWordF
  simp only [Int.toNat_natCast]
  have e1 : (((2 ^ M - 1 : Nat) : Int) * 2 ^ A) % 4294967296 = (((2 ^ M - 1) * 2 ^ A : Nat) : Int) := by
    have : (((2 ^ M - 1 : Nat) : Int) * 2 ^ A) = (((2 ^ M - 1) * 2 ^ A : Nat) : Int) := by simp
    rw [this]; omega
  have e2 : ((V : Int) * 2 ^ A) % 4294967296 = ((V * 2 ^ A : Nat) : Int) := by
    have : ((V : Int) * 2 ^ A) = ((V * 2 ^ A : Nat) : Int) := by simp
    rw [this]; omega
  have q3 : W &&& (4294967296 - ((2 ^ M - 1) * 2 ^ A + 1)) < 4294967296 :=
    Nat.and_lt_two_pow (n := 32) _ (by omega)
  rw [e1, e2, andNot32 _ _ (by omega) q1, or32 _ _ q3 q2]
  congr 1
  apply eq_orBits
  intro i
  unfold putBit
  simp only [Int.toNat_natCast]
  rw [Nat.testBit_or, Nat.testBit_and, ← p2, Nat.testBit_two_pow_sub_succ (by omega), Nat.testBit_mul_two_pow, Nat.testBit_mul_two_pow, Nat.testBit_two_pow_sub_one]
  by_cases h32 : i < 32
  · by_cases c1 : A ≤ i
    · by_cases c2 : i < A + M
      · have c3 : i - A < M := by omega
        simp [h32, c1, c2, c3]
      · have c3 : ¬ i - A < M := by omega
        have c4 : V.testBit (i - A) = false := Nat.testBit_lt_two_pow (Nat.lt_of_lt_of_le hf (Nat.pow_le_pow_right (by decide) (by omega)))
        simp [h32, c2, c3, c4]
    · simp [h32, c1]
  · have c4 : V.testBit (i - A) = false := Nat.testBit_lt_two_pow (Nat.lt_of_lt_of_le hf (Nat.pow_le_pow_right (by decide) (by omega)))
    simp [h32, c4]

theorem put_ref (word a m value : Int) (hb : inWordB a m = true) (hf : fitsB value m = true) :
    ((orBits (putBit word a m value) 32 : Nat) : Int) % 4294967296 = putV word a m value := by
  unfold putV
  rw [hb, hf, if_pos (by rfl)]
  have h1 := orBits_lt (putBit word a m value) 32
  have h5 : (2 : Nat) ^ 32 = 4294967296 := by decide
  omega

theorem fits_shr {value m : Int} (h : Hid (0 ≤ value ∧ value < 4294967296)) : (IntKind.u64.wrap value / 2 ^ m.toNat != 0) = !(fitsB value m) := by
  have h1 := h.out.1
  have h2 := h.out.2
  rw [wrap_u64_in h1 (by omega)]
  obtain ⟨V, rfl⟩ := Int.eq_ofNat_of_zero_le h1
  unfold fitsB
  have e : ((V : Int) / 2 ^ m.toNat) = ((V / 2 ^ m.toNat : Nat) : Int) := by simp
  rw [e]
  have p : 0 < 2 ^ m.toNat := Nat.two_pow_pos _
  by_cases c : V < 2 ^ m.toNat
  · rw [Nat.div_eq_of_lt c]; simp [c]
  · have : 0 < V / 2 ^ m.toNat := Nat.div_pos (by omega) p
    have c' : decide ((V : Int).toNat < 2 ^ m.toNat) = false := by simpa using c
    rw [c']
    simp
    omega
end Go.Proofs.YtioeiogcejikbaaDoor.Alu
