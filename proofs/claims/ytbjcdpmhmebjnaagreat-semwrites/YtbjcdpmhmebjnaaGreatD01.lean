/- Plain facts on numbers and their bits, on which the proofs of this seat stand: no Go text is named here. -/
import Derived.Laws.Bits64b
import Derived.Laws.BitsLemmas
import Derived.Below
import Derived.Test.YtbjcdpmhmebjnaaGreatRows
import Derived.WalkKit
import Derived.WalkSpells
import Derived.WalkLawsBesides
import Derived.Deep.QuietTactic
import Derived.BigQuiet
import GoSem.Claim
namespace Go.Proofs.YtbjcdpmhmebjnaaGreat
open Go.RowKit

/-- The number whose bits below k are those of f. -/
def orBits (f : Nat → Bool) : Nat → Nat
  | 0 => 0
  | k + 1 => orBits f k ||| (f k).toNat * 2 ^ k

theorem testBit_bool (b : Bool) (j : Nat) : b.toNat.testBit j = (decide (j = 0) && b) := by
  cases b
  · simp
  · cases j with
    | zero => decide
    | succ n => simp [Nat.testBit_succ]

theorem testBit_orBits (f : Nat → Bool) (k i : Nat) : (orBits f k).testBit i = (decide (i < k) && f i) := by
  induction k with
  | zero => simp [orBits]
  | succ k ih =>
    rw [orBits, Nat.testBit_or, ih, Nat.testBit_mul_two_pow, testBit_bool]
    by_cases h1 : i < k
    · have : ¬ k ≤ i := by omega
      have h2 : i < k + 1 := by omega
      simp [h1, this, h2]
    · by_cases h2 : i = k
      · subst h2; simp
      · have h3 : ¬ i < k + 1 := by omega
        have h4 : ¬ i - k = 0 := by omega
        simp [h1, h3, h4]

theorem orBits_lt (f : Nat → Bool) (k : Nat) : orBits f k < 2 ^ k := by
  apply Nat.lt_pow_two_of_testBit
  intro i hi
  rw [testBit_orBits]
  have : ¬ i < k := by omega
  simp [this]

theorem orBits_lt64 (f : Nat → Bool) (k : Nat) (hk : k ≤ 64) : orBits f k < 18446744073709551616 :=
  Nat.lt_of_lt_of_le (orBits_lt f k) (Nat.pow_le_pow_right (by decide) hk)

theorem eq_orBits {x k : Nat} {f : Nat → Bool} (h : ∀ i, x.testBit i = (decide (i < k) && f i)) : x = orBits f k := by
  apply Nat.eq_of_testBit_eq
  intro i
  rw [h, testBit_orBits]

theorem orBits_congr {f g : Nat → Bool} {k : Nat} (h : ∀ i, i < k → f i = g i) : orBits f k = orBits g k := by
  apply eq_orBits
  intro i
  rw [testBit_orBits]
  by_cases hi : i < k
  · simp [hi, h i hi]
  · simp [hi]

/-- One bit of a number, as the document's own 'bit' tells it. -/
def bitF (v n : Int) : Int := v / 2 ^ n.toNat % 2

theorem and_one (x : Nat) : x &&& 1 = x % 2 := by
  simp

theorem bitF_walk (v n : Int) : bits .and .u64 (v / 2 ^ n.toNat) 1 = bitF v n := by
  unfold bitF
  generalize v / 2 ^ n.toNat = x
  show IntKind.u64.wrap ((BitVec.ofInt 64 x &&& BitVec.ofInt 64 1).toNat : Int) = _
  rw [BitVec.toNat_and, show (BitVec.ofInt 64 1).toNat = 1 from rfl, and_one, BitVec.toNat_ofInt, IntKind.wrap_u64]
  omega

theorem bitF_nat (V M : Nat) : bitF (V : Int) (M : Int) = ((V.testBit M).toNat : Nat) := by
  unfold bitF
  rw [Nat.toNat_testBit]
  simp

theorem bitF_of {v n : Int} (hv : 0 ≤ v) (hn : 0 ≤ n) : bitF v n = ((v.toNat.testBit n.toNat).toNat : Nat) := by
  obtain ⟨V, rfl⟩ := Int.eq_ofNat_of_zero_le hv
  obtain ⟨M, rfl⟩ := Int.eq_ofNat_of_zero_le hn
  simp only [Int.toNat_natCast]
  exact bitF_nat V M

theorem wrap_u64_in {x : Int} (h0 : 0 ≤ x) (h1 : x < 18446744073709551616) : IntKind.u64.wrap x = x := by
  rw [IntKind.wrap_u64]; omega

/-- One bit more is laid, as the walk spells it. -/
theorem or_step (f : Nat → Bool) (k : Nat) (hk : k < 64) (b : Int) (hb : b = ((f k).toNat : Nat)) :
    bits .or .u64 ((orBits f k : Nat) : Int) (IntKind.u64.wrap (b * 2 ^ k)) = ((orBits f (k + 1) : Nat) : Int) := by
  subst hb
  have h1 : (f k).toNat * 2 ^ k < 18446744073709551616 := by
    have hp : 2 ^ k ≤ 2 ^ 63 := Nat.pow_le_pow_right (by decide) (by omega)
    have : (f k).toNat ≤ 1 := Bool.toNat_le _
    have h3 : (f k).toNat * 2 ^ k ≤ 1 * 2 ^ 63 := Nat.mul_le_mul this hp
    have : (2 : Nat) ^ 63 < 18446744073709551616 := by decide
    omega
  have e : IntKind.u64.wrap ((((f k).toNat : Nat) : Int) * 2 ^ k) = (((f k).toNat * 2 ^ k : Nat) : Int) := by
    rw [IntKind.wrap_u64]
    have : (((f k).toNat : Nat) : Int) * 2 ^ k = (((f k).toNat * 2 ^ k : Nat) : Int) := by simp
    rw [this]
    omega
  rw [e, bits_or_u64_nat _ _ (orBits_lt64 f k (by omega)) h1]
  rfl

/-! ### The numbers that the calls tell -/
def inWordB (a m : Int) : Bool := decide (0 ≤ a ∧ 1 ≤ m ∧ m ≤ 32 ∧ a ≤ 32 - m)
def inNumB (m : Int) : Bool := decide (1 ≤ m ∧ m ≤ 64)
def sixB (m : Int) : Bool := decide (0 ≤ m ∧ m ≤ 63)
def lowWordF (k : Int) : Int := ((2 ^ k.toNat - 1 : Nat) : Int)
def lowF (k : Int) : Int := ((2 ^ min k.toNat 64 - 1 : Nat) : Int)

theorem lowWord_walk (k : Int) (h2 : k ≤ 32) : ((2 : Int) ^ k.toNat % 4294967296 - 1) % 4294967296 = lowWordF k := by
  unfold lowWordF
  have hk : k.toNat ≤ 32 := by omega
  have e : ((2 : Int) ^ k.toNat) = ((2 ^ k.toNat : Nat) : Int) := by simp
  rw [e]
  have h3 : 2 ^ k.toNat ≤ 2 ^ 32 := Nat.pow_le_pow_right (by decide) hk
  have h4 : 1 ≤ 2 ^ k.toNat := Nat.one_le_two_pow
  have h5 : (2 : Nat) ^ 32 = 4294967296 := by decide
  omega

theorem low_walk (k : Int) : IntKind.u64.wrap (IntKind.u64.wrap ((2 : Int) ^ min k.toNat 64) - 1) = lowF k := by
  unfold lowF
  rw [IntKind.wrap_u64, IntKind.wrap_u64]
  have e : ((2 : Int) ^ min k.toNat 64) = ((2 ^ min k.toNat 64 : Nat) : Int) := by simp
  rw [e]
  have h3 : 2 ^ min k.toNat 64 ≤ 2 ^ 64 := Nat.pow_le_pow_right (by decide) (by omega)
  have h4 : 1 ≤ 2 ^ min k.toNat 64 := Nat.one_le_two_pow
  have h5 : (2 : Nat) ^ 64 = 18446744073709551616 := by decide
  omega

/-! ### Field, Put -/
def inE (b : Bool) : Int := if b = true then 0 else 1
def fieldV (word a m : Int) : Int := if inWordB a m = true then ((word.toNat / 2 ^ a.toNat % 2 ^ m.toNat : Nat) : Int) else 0
def putBit (word a m value : Int) (i : Nat) : Bool := if a.toNat ≤ i ∧ i < a.toNat + m.toNat then value.toNat.testBit (i - a.toNat) else word.toNat.testBit i
def fitsB (value m : Int) : Bool := decide (value.toNat < 2 ^ m.toNat)
def putV (word a m value : Int) : Int := if (inWordB a m && fitsB value m) = true then ((orBits (putBit word a m value) 32 : Nat) : Int) else 0
def putE (a m value : Int) : Int := if inWordB a m = true then (if fitsB value m = true then 0 else 2) else 1

theorem and32 (a b : Nat) (ha : a < 4294967296) (hb : b < 4294967296) : bits .and .u32 (a : Int) (b : Int) = ((a &&& b : Nat) : Int) := by
  have hx : a &&& b < 2 ^ 32 := Nat.and_lt_two_pow _ (by omega)
  have h1 : (BitVec.ofInt 32 (a : Int)).toNat = a := by
    rw [BitVec.ofInt_natCast, BitVec.toNat_ofNat]; exact Nat.mod_eq_of_lt (by omega)
  have h2 : (BitVec.ofInt 32 (b : Int)).toNat = b := by
    rw [BitVec.ofInt_natCast, BitVec.toNat_ofNat]; exact Nat.mod_eq_of_lt (by omega)
  show IntKind.u32.wrap ((BitVec.ofInt 32 (a : Int) &&& BitVec.ofInt 32 (b : Int)).toNat : Int) = _
  rw [BitVec.toNat_and, h1, h2, IntKind.wrap_u32]
  omega

theorem or32 (a b : Nat) (ha : a < 4294967296) (hb : b < 4294967296) : bits .or .u32 (a : Int) (b : Int) = ((a ||| b : Nat) : Int) := by
  have hx : a ||| b < 2 ^ 32 := Nat.or_lt_two_pow (by omega) (by omega)
  have h1 : (BitVec.ofInt 32 (a : Int)).toNat = a := by
    rw [BitVec.ofInt_natCast, BitVec.toNat_ofNat]; exact Nat.mod_eq_of_lt (by omega)
  have h2 : (BitVec.ofInt 32 (b : Int)).toNat = b := by
    rw [BitVec.ofInt_natCast, BitVec.toNat_ofNat]; exact Nat.mod_eq_of_lt (by omega)
  show IntKind.u32.wrap ((BitVec.ofInt 32 (a : Int) ||| BitVec.ofInt 32 (b : Int)).toNat : Int) = _
  rw [BitVec.toNat_or, h1, h2, IntKind.wrap_u32]
  omega

theorem andNot32 (a b : Nat) (ha : a < 4294967296) (hb : b < 4294967296) : bits .andNot .u32 (a : Int) (b : Int) = ((a &&& (4294967296 - (b + 1)) : Nat) : Int) := by
  have hx : a &&& (4294967296 - (b + 1)) < 2 ^ 32 := Nat.and_lt_two_pow _ (by omega)
  have h1 : (BitVec.ofInt 32 (a : Int)).toNat = a := by
    rw [BitVec.ofInt_natCast, BitVec.toNat_ofNat]; exact Nat.mod_eq_of_lt (by omega)
  have h2 : (BitVec.ofInt 32 (b : Int)).toNat = b := by
    rw [BitVec.ofInt_natCast, BitVec.toNat_ofNat]; exact Nat.mod_eq_of_lt (by omega)
  have h3 : (2 : Nat) ^ 32 - 1 - b = 4294967296 - (b + 1) := by omega
  show IntKind.u32.wrap ((BitVec.ofInt 32 (a : Int) &&& ~~~ BitVec.ofInt 32 (b : Int)).toNat : Int) = _
  rw [BitVec.toNat_and, BitVec.toNat_not, h1, h2, h3, IntKind.wrap_u32]
  omega

theorem lowW_lt (m : Int) (h : m ≤ 32) : 2 ^ m.toNat - 1 < 4294967296 := by
  have h3 : 2 ^ m.toNat ≤ 2 ^ 32 := Nat.pow_le_pow_right (by decide) (by omega)
  have h5 : (2 : Nat) ^ 32 = 4294967296 := by decide
  omega

theorem field_walk (word a m : Int) (h : Hid (0 ≤ word ∧ word < 4294967296)) (hb : inWordB a m = true) :
    bits .and .u32 (word / 2 ^ a.toNat) (lowWordF m) = fieldV word a m := by
  have hb' := hb
  unfold inWordB at hb'
  simp only [decide_eq_true_eq] at hb'
  unfold fieldV
  rw [if_pos hb]
  obtain ⟨W, rfl⟩ := Int.eq_ofNat_of_zero_le h.out.1
  have h2 := h.out.2
  have e : ((W : Int) / 2 ^ a.toNat) = ((W / 2 ^ a.toNat : Nat) : Int) := by simp
  unfold lowWordF
  rw [e, and32 _ _ (Nat.lt_of_le_of_lt (Nat.div_le_self _ _) (by omega)) (lowW_lt m (by omega)), Nat.and_two_pow_sub_one_eq_mod]
  simp

theorem field_ref (word a m : Int) (hb : inWordB a m = true) :
    ((orBits (fun j => word.toNat.testBit (a.toNat + j)) m.toNat : Nat) : Int) % 4294967296 = fieldV word a m := by
  have hb' := hb
  unfold inWordB at hb'
  simp only [decide_eq_true_eq] at hb'
  unfold fieldV
  rw [if_pos hb]
  have e : word.toNat / 2 ^ a.toNat % 2 ^ m.toNat = orBits (fun j => word.toNat.testBit (a.toNat + j)) m.toNat := by
    apply eq_orBits
    intro i
    rw [Nat.testBit_mod_two_pow, Nat.testBit_div_two_pow, Nat.add_comm]
  rw [e]
  have h1 := orBits_lt (fun j => word.toNat.testBit (a.toNat + j)) m.toNat
  have h3 : 2 ^ m.toNat ≤ 2 ^ 32 := Nat.pow_le_pow_right (by decide) (by omega)
  have h5 : (2 : Nat) ^ 32 = 4294967296 := by decide
  omega

theorem inWord_of {a m : Int} (hb : inWordB a m = true) : 0 ≤ a ∧ 1 ≤ m ∧ m ≤ 32 ∧ a ≤ 32 - m := by
  unfold inWordB at hb
  simpa only [decide_eq_true_eq] using hb

theorem fits_low {value m : Int} (h0 : 0 ≤ value) : fitsB value m = true ↔ value ≤ lowWordF m := by
  unfold fitsB lowWordF
  rw [decide_eq_true_eq]
  have : 1 ≤ 2 ^ m.toNat := Nat.one_le_two_pow
  omega

theorem put_walk (word a m value : Int) (h : Hid (0 ≤ word ∧ word < 4294967296)) (hv : Hid (0 ≤ value ∧ value < 4294967296)) (hb : inWordB a m = true) (hf : fitsB value m = true) :
    bits .or .u32 (bits .andNot .u32 word (lowWordF m * 2 ^ a.toNat % 4294967296)) (value * 2 ^ a.toNat % 4294967296) = putV word a m value := by
  have hb' := inWord_of hb
  unfold putV
  rw [hb, hf, if_pos (by rfl)]
  obtain ⟨W, rfl⟩ := Int.eq_ofNat_of_zero_le h.out.1
  obtain ⟨V, rfl⟩ := Int.eq_ofNat_of_zero_le hv.out.1
  obtain ⟨A, rfl⟩ := Int.eq_ofNat_of_zero_le hb'.1
  obtain ⟨M, rfl⟩ := Int.eq_ofNat_of_zero_le (show 0 ≤ m by omega)
  have h2 := h.out.2
  have h3 := hv.out.2
  unfold fitsB at hf
  rw [decide_eq_true_eq] at hf
  simp only [Int.toNat_natCast] at hf
  have hA : A ≤ 32 - M := by omega
  have hM : M ≤ 32 := by omega
  have p1 : 2 ^ M * 2 ^ A ≤ 2 ^ 32 := by
    rw [← Nat.pow_add]; exact Nat.pow_le_pow_right (by decide) (by omega)
  have p2 : (2 : Nat) ^ 32 = 4294967296 := by decide
  have p3 : 1 ≤ 2 ^ M := Nat.one_le_two_pow
  have p4 : 1 ≤ 2 ^ A := Nat.one_le_two_pow
  have q1 : (2 ^ M - 1) * 2 ^ A < 4294967296 := by
    rw [Nat.sub_mul]; omega
  have q2 : V * 2 ^ A < 4294967296 := by
    have : V * 2 ^ A < 2 ^ M * 2 ^ A := Nat.mul_lt_mul_of_pos_right hf (by omega)
    omega
  unfold lowWordF
  simp only [Int.toNat_natCast]
  have e1 : (((2 ^ M - 1 : Nat) : Int) * 2 ^ A) % 4294967296 = (((2 ^ M - 1) * 2 ^ A : Nat) : Int) := by
    have : (((2 ^ M - 1 : Nat) : Int) * 2 ^ A) = (((2 ^ M - 1) * 2 ^ A : Nat) : Int) := by simp
    rw [this]; omega
  have e2 : ((V : Int) * 2 ^ A) % 4294967296 = ((V * 2 ^ A : Nat) : Int) := by
    have : ((V : Int) * 2 ^ A) = ((V * 2 ^ A : Nat) : Int) := by simp
    rw [this]; omega
  have q3 : W &&& (4294967296 - ((2 ^ M - 1) * 2 ^ A + 1)) < 4294967296 :=
    Nat.and_lt_two_pow (n := 32) _ (by omega)
  rw [e1, e2, andNot32 _ _ (by omega) q1, or32 _ _ q3 q2]
  congr 1
  apply eq_orBits
  intro i
  unfold putBit
  simp only [Int.toNat_natCast]
  rw [Nat.testBit_or, Nat.testBit_and, ← p2, Nat.testBit_two_pow_sub_succ (by omega), Nat.testBit_mul_two_pow, Nat.testBit_mul_two_pow, Nat.testBit_two_pow_sub_one]
  by_cases h32 : i < 32
  · by_cases c1 : A ≤ i
    · by_cases c2 : i < A + M
      · have c3 : i - A < M := by omega
        simp [h32, c1, c2, c3]
      · have c3 : ¬ i - A < M := by omega
        have c4 : V.testBit (i - A) = false := Nat.testBit_lt_two_pow (Nat.lt_of_lt_of_le hf (Nat.pow_le_pow_right (by decide) (by omega)))
        simp [h32, c2, c3, c4]
    · simp [h32, c1]
  · have c4 : V.testBit (i - A) = false := Nat.testBit_lt_two_pow (Nat.lt_of_lt_of_le hf (Nat.pow_le_pow_right (by decide) (by omega)))
    simp [h32, c4]

theorem put_ref (word a m value : Int) (hb : inWordB a m = true) (hf : fitsB value m = true) :
    ((orBits (putBit word a m value) 32 : Nat) : Int) % 4294967296 = putV word a m value := by
  unfold putV
  rw [hb, hf, if_pos (by rfl)]
  have h1 := orBits_lt (putBit word a m value) 32
  have h5 : (2 : Nat) ^ 32 = 4294967296 := by decide
  omega

theorem fits_shr {value m : Int} (h : Hid (0 ≤ value ∧ value < 4294967296)) : (IntKind.u64.wrap value / 2 ^ m.toNat != 0) = !(fitsB value m) := by
  have h1 := h.out.1
  have h2 := h.out.2
  rw [wrap_u64_in h1 (by omega)]
  obtain ⟨V, rfl⟩ := Int.eq_ofNat_of_zero_le h1
  unfold fitsB
  have e : ((V : Int) / 2 ^ m.toNat) = ((V / 2 ^ m.toNat : Nat) : Int) := by simp
  rw [e]
  have p : 0 < 2 ^ m.toNat := Nat.two_pow_pos _
  by_cases c : V < 2 ^ m.toNat
  · rw [Nat.div_eq_of_lt c]; simp [c]
  · have : 0 < V / 2 ^ m.toNat := Nat.div_pos (by omega) p
    have c' : decide ((V : Int).toNat < 2 ^ m.toNat) = false := by simpa using c
    rw [c']
    simp
    omega

end Go.Proofs.YtbjcdpmhmebjnaaGreat
/- What the small functions of package bits and of the document's own answer give back, each for all numbers that it is called with: contracts, on which the statements' proofs stand. -/
namespace Go.Proofs.YtbjcdpmhmebjnaaGreat
open Go.RowKit

theorem ret_bool {a b : Bool} (h : a = b) : Ending.returned (.bool a) = .returned (.bool b) := by rw [h]
theorem ret_two {k l : IntKind} {a b c d : Int} (h : a = b) (h' : c = d) : Ending.returned (.tuple #[.int k a, .int l c]) = .returned (.tuple #[.int k b, .int l d]) := by rw [h, h']
theorem ret_int {k : IntKind} {a b : Int} (h : a = b) : Ending.returned (.int k a) = .returned (.int k b) := by rw [h]

set_option maxHeartbeats 400000 in
theorem six_c (m : Int) (w : World) :
    Calls Tryz.prog 231 #[.int .i64 m] w fun e w' => e = .returned (.bool (sixB m)) ∧ w' = w := by
  go_enter Tryz.func231, Tryz.ntmps231
  go_wp2
  all_goals (go_ret; refine ⟨ret_bool ?_, rfl⟩; unfold sixB; first | (rw [eq_comm, decide_eq_false_iff_not]; omega) | (rw [decide_eq_decide]; omega))

set_option maxHeartbeats 400000 in
theorem low_c (k : Int) (hk : 0 ≤ k) (w : World) :
    Calls Tryz.prog 233 #[.int .i64 k] w fun e w' => e = .returned (.int .u64 (lowF k)) ∧ w' = w := by
  go_enter Tryz.func233, Tryz.ntmps233
  go_wp2
  go_ret
  exact ⟨ret_int (low_walk k), rfl⟩

end Go.Proofs.YtbjcdpmhmebjnaaGreat
/- Plain facts on numbers that are read with a sign or turned: no Go text is named here. -/
namespace Go.Proofs.YtbjcdpmhmebjnaaGreat
open Go.RowKit

theorem inNum_of {m : Int} (hb : inNumB m = true) : 1 ≤ m ∧ m ≤ 64 := by
  unfold inNumB at hb
  simpa only [decide_eq_true_eq] using hb

/-! ### Signed -/
def signBit (value m : Int) (i : Nat) : Bool := value.toNat.testBit (min i (m.toNat - 1))
def signedV (value m : Int) : Int := if inNumB m = true then ((orBits (signBit value m) 64 : Nat) : Int) else 0

theorem signed_walk (value m : Int) (h : Hid (0 ≤ value ∧ value < 18446744073709551616)) (hb : inNumB m = true) :
    IntKind.u64.wrap (wrap64 (IntKind.u64.wrap (value * 2 ^ (64 - m).toNat)) / 2 ^ (64 - m).toNat) = signedV value m := by
  have hb' := inNum_of hb
  unfold signedV
  rw [if_pos hb]
  obtain ⟨V, rfl⟩ := Int.eq_ofNat_of_zero_le h.out.1
  obtain ⟨M, rfl⟩ := Int.eq_ofNat_of_zero_le (show 0 ≤ m by omega)
  have hv := h.out.2
  have hA : (64 - (M : Int)).toNat = 64 - M := by omega
  rw [hA]
  generalize hAA : 64 - M = A
  let X : BitVec 64 := BitVec.ofNat 64 V
  have hX : X.toNat = V := by
    show (BitVec.ofNat 64 V).toNat = V
    rw [BitVec.toNat_ofNat]; exact Nat.mod_eq_of_lt (by omega)
  have e1 : IntKind.u64.wrap ((V : Int) * 2 ^ A) = (((X <<< A).toNat : Nat) : Int) := by
    rw [IntKind.wrap_u64, BitVec.toNat_shiftLeft, hX, Nat.shiftLeft_eq]
    have : ((V : Int) * 2 ^ A) = ((V * 2 ^ A : Nat) : Int) := by simp
    rw [this]
    omega
  have e2 : ∀ Y : BitVec 64, wrap64 ((Y.toNat : Nat) : Int) = Y.toInt := by
    intro Y
    unfold wrap64
    rw [BitVec.toInt_eq_toNat_cond]
    have := Y.isLt
    split <;> omega
  have e3 : ∀ Y : BitVec 64, IntKind.u64.wrap Y.toInt = ((Y.toNat : Nat) : Int) := by
    intro Y
    rw [IntKind.wrap_u64, BitVec.toInt_eq_toNat_cond]
    have := Y.isLt
    split <;> omega
  have e4 : (X <<< A).toInt / 2 ^ A = ((X <<< A).sshiftRight A).toInt := by
    rw [BitVec.toInt_sshiftRight, Int.shiftRight_eq_div_pow]
    simp
  rw [e1, e2, e4, e3]
  congr 1
  apply eq_orBits
  intro i
  show ((X <<< A).sshiftRight A).getLsbD i = _
  rw [BitVec.getLsbD_sshiftRight]
  unfold signBit
  simp only [Int.toNat_natCast]
  by_cases hi : i < 64
  · have hi' : ¬ 64 ≤ i := by omega
    simp only [hi, hi', decide_true, decide_false, Bool.not_false, Bool.true_and]
    by_cases c : A + i < 64
    · rw [if_pos c, BitVec.getLsbD_shiftLeft]
      have c1 : ¬ A + i < A := by omega
      have c2 : A + i - A = i := by omega
      have c3 : min i (M - 1) = i := by omega
      simp only [c, c1, c2, c3, decide_true, decide_false, Bool.not_false, Bool.true_and]
      show X.toNat.testBit i = _
      rw [hX]
    · rw [if_neg c, BitVec.msb_eq_getLsbD_last, BitVec.getLsbD_shiftLeft]
      have c0 : 64 - 1 < 64 := by omega
      have c1 : ¬ 64 - 1 < A := by omega
      have c3 : min i (M - 1) = 64 - 1 - A := by omega
      simp only [c0, c1, c3, decide_true, decide_false, Bool.not_false, Bool.true_and]
      show X.toNat.testBit (64 - 1 - A) = _
      rw [hX]
  · have hi' : 64 ≤ i := by omega
    simp [hi, hi']

/-! ### Turning -/
def turnN (v b m : Nat) : Nat := (v / 2 ^ (b % m) ||| v * 2 ^ (m - b % m) % 2 ^ 64) &&& (2 ^ m - 1)
def turnF (v b m : Int) : Int := ((turnN v.toNat b.toNat m.toNat : Nat) : Int)
def rorBit (v b m : Nat) (i : Nat) : Bool := v.testBit ((i + b % m) % m)

theorem turnN_eq {v b m : Nat} (hm : 1 ≤ m) (hm2 : m ≤ 64) (hv : v < 2 ^ m) : turnN v b m = orBits (rorBit v b m) m := by
  apply eq_orBits
  intro i
  unfold turnN rorBit
  rw [Nat.testBit_and, Nat.testBit_or, Nat.testBit_div_two_pow, Nat.testBit_mod_two_pow, Nat.testBit_mul_two_pow, Nat.testBit_two_pow_sub_one]
  have hb : b % m < m := Nat.mod_lt _ (by omega)
  generalize b % m = c at *
  by_cases hi : i < m
  · have hi' : i < 64 := by omega
    by_cases h1 : i + c < m
    · have h2 : ¬ m - c ≤ i := by omega
      rw [Nat.mod_eq_of_lt h1]
      simp [hi, h2]
    · have h2 : m - c ≤ i := by omega
      have h3 : (i + c) % m = i - (m - c) := by
        rw [Nat.mod_eq_sub_mod (by omega), Nat.mod_eq_of_lt (by omega)]
        omega
      have h4 : v.testBit (i + c) = false := Nat.testBit_lt_two_pow (Nat.lt_of_lt_of_le hv (Nat.pow_le_pow_right (by decide) (by omega)))
      rw [h3, h4]
      simp [hi, hi', h2]
  · simp [hi]

theorem turnN_lt (v b m : Nat) : turnN v b m < 2 ^ m := by
  unfold turnN
  have : 2 ^ m - 1 < 2 ^ m := by have := Nat.two_pow_pos m; omega
  exact Nat.and_lt_two_pow _ this

theorem pow_le64 {m : Nat} (hm : m ≤ 64) : 2 ^ m ≤ 18446744073709551616 :=
  Nat.pow_le_pow_right (n := 2) (by decide) hm

theorem turn_walk (v b m : Int) (h : Hid (0 ≤ v ∧ v < 18446744073709551616)) (hb : 0 ≤ b) (hm : 1 ≤ m) (hm2 : m ≤ 64) :
    bits .and .u64 (bits .or .u64 (v / 2 ^ (b % m).toNat) (IntKind.u64.wrap (v * 2 ^ (m - b % m).toNat))) (lowF m) = turnF v b m := by
  obtain ⟨V, rfl⟩ := Int.eq_ofNat_of_zero_le h.out.1
  obtain ⟨B, rfl⟩ := Int.eq_ofNat_of_zero_le hb
  obtain ⟨M, rfl⟩ := Int.eq_ofNat_of_zero_le (show 0 ≤ m by omega)
  have hv := h.out.2
  have hlt : B % M < M := Nat.mod_lt _ (by omega)
  have r1 : ((B : Int) % (M : Int)) = ((B % M : Nat) : Int) := by simp
  have r2 : ((M : Int) - ((B % M : Nat) : Int)).toNat = M - B % M := by omega
  rw [r1, r2]
  unfold turnF turnN lowF
  simp only [Int.toNat_natCast]
  generalize B % M = C at *
  have e0 : ((V : Int) / 2 ^ C) = ((V / 2 ^ C : Nat) : Int) := by simp
  have e1 : IntKind.u64.wrap ((V : Int) * 2 ^ (M - C)) = ((V * 2 ^ (M - C) % 2 ^ 64 : Nat) : Int) := by
    rw [IntKind.wrap_u64]
    have : ((V : Int) * 2 ^ (M - C)) = ((V * 2 ^ (M - C) : Nat) : Int) := by simp
    rw [this]
    omega
  have q0 : V / 2 ^ C < 18446744073709551616 := Nat.lt_of_le_of_lt (Nat.div_le_self _ _) (by omega)
  have q1 : V * 2 ^ (M - C) % 2 ^ 64 < 18446744073709551616 := Nat.mod_lt _ (by decide)
  have q2 : V / 2 ^ C ||| V * 2 ^ (M - C) % 2 ^ 64 < 18446744073709551616 := Nat.or_lt_two_pow (n := 64) q0 q1
  have q3 : 2 ^ min M 64 - 1 < 18446744073709551616 := by
    have := pow_le64 (m := min M 64) (by omega)
    have := Nat.two_pow_pos (min M 64)
    omega
  rw [e0, e1, bits_or_u64_nat _ _ q0 q1, bits_and_u64_nat _ _ q2 q3, show min M 64 = M by omega]

/-! ### Ror -/
def fits64 (value m : Int) : Bool := decide (value.toNat < 2 ^ m.toNat)
def rorV (value b m : Int) : Int := if (inNumB m && decide (0 ≤ b) && fits64 value m) = true then ((orBits (rorBit value.toNat b.toNat m.toNat) m.toNat : Nat) : Int) else 0
def rorE (value b m : Int) : Int := if (inNumB m && decide (0 ≤ b)) = true then (if fits64 value m = true then 0 else 2) else 1

theorem fits64_low {value m : Int} (h0 : 0 ≤ value) (hm : m ≤ 64) : fits64 value m = true ↔ value ≤ lowF m := by
  unfold fits64 lowF
  rw [decide_eq_true_eq, show min m.toNat 64 = m.toNat by omega]
  have : 1 ≤ 2 ^ m.toNat := Nat.one_le_two_pow
  omega

theorem ror_walk {value b m : Int} (hb : inNumB m = true) (h0 : 0 ≤ b) (hf : fits64 value m = true) : turnF value b m = rorV value b m := by
  have h1 := inNum_of hb
  unfold turnF rorV
  rw [hb, hf, decide_eq_true h0, if_pos (by rfl)]
  unfold fits64 at hf
  rw [decide_eq_true_eq] at hf
  rw [turnN_eq (by omega) (by omega) hf]

theorem ror_yes {value b m : Int} (hb : inNumB m = true) (h0 : 0 ≤ b) (hf : fits64 value m = true) : ((orBits (rorBit value.toNat b.toNat m.toNat) m.toNat : Nat) : Int) = rorV value b m ∧ rorE value b m = 0 := by
  unfold rorV rorE
  rw [hb, hf, decide_eq_true h0, if_pos (by rfl), if_pos (by rfl), if_pos (by rfl)]
  exact ⟨rfl, rfl⟩

theorem ror_no {value b m : Int} (hb : inNumB m = true) (h0 : 0 ≤ b) (hf : fits64 value m = false) : rorV value b m = 0 ∧ rorE value b m = 2 := by
  unfold rorV rorE
  rw [hb, hf, decide_eq_true h0]
  exact ⟨rfl, rfl⟩

theorem ror_arg {value b m : Int} (h : ¬ (1 ≤ m ∧ m ≤ 64 ∧ 0 ≤ b)) : rorV value b m = 0 ∧ rorE value b m = 1 := by
  have : (inNumB m && decide (0 ≤ b)) = false := by
    unfold inNumB
    rw [← Bool.decide_and, decide_eq_false_iff_not]
    omega
  unfold rorV rorE
  rw [this]
  exact ⟨rfl, rfl⟩

theorem fits64_shr {value m : Int} (h : Hid (0 ≤ value ∧ value < 18446744073709551616)) : (value / 2 ^ m.toNat != 0) = !(fits64 value m) := by
  have h1 := h.out.1
  obtain ⟨V, rfl⟩ := Int.eq_ofNat_of_zero_le h1
  unfold fits64
  have e : ((V : Int) / 2 ^ m.toNat) = ((V / 2 ^ m.toNat : Nat) : Int) := by simp
  rw [e]
  have p : 0 < 2 ^ m.toNat := Nat.two_pow_pos _
  by_cases c : V < 2 ^ m.toNat
  · rw [Nat.div_eq_of_lt c]; simp [c]
  · have : 0 < V / 2 ^ m.toNat := Nat.div_pos (by omega) p
    have c' : decide ((V : Int).toNat < 2 ^ m.toNat) = false := by simpa using c
    rw [c']
    simp
    omega

theorem fits64_all {value : Int} (h : Hid (0 ≤ value ∧ value < 18446744073709551616)) : fits64 value 64 = true := by
  have h1 := h.out
  unfold fits64
  rw [decide_eq_true_eq]
  have : (2 : Nat) ^ (64 : Int).toNat = 18446744073709551616 := by decide
  omega

end Go.Proofs.YtbjcdpmhmebjnaaGreat
/- What Signed and Ror of package bits, and of the document's own answer, give back, for all numbers: contracts. -/
namespace Go.Proofs.YtbjcdpmhmebjnaaGreat
open Go.RowKit

set_option maxHeartbeats 400000 in
theorem turn_c (v b m : Int) (hv : Hid (0 ≤ v ∧ v < 18446744073709551616)) (hb : 0 ≤ b) (hm : 1 ≤ m) (hm2 : m ≤ 64) (w : World) :
    Calls Tryz.prog 235 #[.int .u64 v, .int .i64 b, .int .i64 m] w fun e w' => e = .returned (.int .u64 (turnF v b m)) ∧ ∃ n, w' = w.drewN n := by
  have hE := turn_walk v b m hv hb hm hm2
  replace hE := show Hid _ from hE
  have r1 : 0 ≤ b % m := Int.emod_nonneg _ (by omega)
  have r2 : b % m < m := Int.emod_lt_of_pos _ (by omega)
  go_enter Tryz.func235, Tryz.ntmps235
  go_wp2
  go_quiet ((go_at_call 233; exact Calls.quiet_of_same (low_c _ (by omega) _)))
  go_wp2
  go_ret
  exact ⟨ret_int hE.out, _, rfl⟩

theorem ror_place {k : Nat} {b m : Int} (h0 : 0 ≤ b) (h1 : 1 ≤ m) : (((k : Int) + b) % m).toNat = (k + b.toNat % m.toNat) % m.toNat := by
  obtain ⟨B, rfl⟩ := Int.eq_ofNat_of_zero_le h0
  obtain ⟨M, rfl⟩ := Int.eq_ofNat_of_zero_le (show 0 ≤ m by omega)
  have e : (((k : Int) + (B : Int)) % (M : Int)) = (((k + B % M) % M : Nat) : Int) := by simp
  rw [e]
  simp only [Int.toNat_natCast]

end Go.Proofs.YtbjcdpmhmebjnaaGreat
/- Plain facts on masks: the size, the ones, how they are turned and laid again and again: no Go text is named here. -/
namespace Go.Proofs.YtbjcdpmhmebjnaaGreat
open Go.RowKit

/-- The size that imms tells. -/
def sizeI (n s : Int) : Int :=
  if n = 1 then 64 else if s ≤ 31 then 32 else if s ≤ 47 then 16 else if s ≤ 55 then 8 else if s ≤ 59 then 4 else if s ≤ 61 then 2 else if s ≤ 62 then 1 else 0

def isSize (m : Int) : Prop := m = 2 ∨ m = 4 ∨ m = 8 ∨ m = 16 ∨ m = 32 ∨ m = 64

theorem sizeI_cases (n s : Int) : (sizeI n s < 2 ∨ isSize (sizeI n s)) ∧ sizeI n s ≤ 64 ∧ 0 ≤ sizeI n s := by
  unfold sizeI isSize
  split
  · omega
  · split
    · omega
    · split
      · omega
      · split
        · omega
        · split
          · omega
          · split
            · omega
            · split <;> omega

/-- What stands at the size loop's head. -/
def sizeHead (s z : Int) : Prop := z = 32 ∨ ((z = 16 ∨ z = 8 ∨ z = 4 ∨ z = 2 ∨ z = 1) ∧ 63 - s < 2 * z) ∨ (z = 0 ∧ s = 63)

theorem sizeHead_next {s z : Int} (hs : 0 ≤ s) (hs2 : s ≤ 63) (h : sizeHead s z) (hlt : 63 - s < z) : sizeHead s (z / 2) ∧ 0 < z ∧ z ≤ 32 := by
  unfold sizeHead at *
  omega

theorem sizeHead_end {n s z : Int} (hn : n ≠ 1) (hs2 : s ≤ 63) (h : sizeHead s z) (hge : z ≤ 63 - s) : z = sizeI n s := by
  unfold sizeHead at h
  unfold sizeI
  rw [if_neg hn]
  split
  · omega
  · split
    · omega
    · split
      · omega
      · split
        · omega
        · split
          · omega
          · split <;> omega

theorem sizeHead_bounds {s z : Int} (h : sizeHead s z) : 0 ≤ z ∧ z ≤ 32 := by
  unfold sizeHead at h
  omega

/-! ### The piece, laid again and again -/
def repBit (p m : Int) (i : Nat) : Bool := p.toNat.testBit (i % m.toNat)
def repF (p m : Int) : Int := ((orBits (repBit p m) 64 : Nat) : Int)

theorem rep_start (p m : Int) (h0 : 0 ≤ p) (hp : p.toNat < 2 ^ m.toNat) : p = ((orBits (repBit p m) m.toNat : Nat) : Int) := by
  have e : p.toNat = orBits (repBit p m) m.toNat := by
    apply eq_orBits
    intro i
    unfold repBit
    by_cases h : i < m.toNat
    · rw [Nat.mod_eq_of_lt h]; simp [h]
    · have : p.toNat.testBit i = false := Nat.testBit_lt_two_pow (Nat.lt_of_lt_of_le hp (Nat.pow_le_pow_right (by decide) (by omega)))
      simp [h, this]
  omega

theorem rep_step (p m : Int) (s : Nat) (hd : m.toNat ∣ s) (hs : s + s ≤ 64) :
    bits .or .u64 ((orBits (repBit p m) s : Nat) : Int) (IntKind.u64.wrap (((orBits (repBit p m) s : Nat) : Int) * 2 ^ s)) = ((orBits (repBit p m) (s + s) : Nat) : Int) := by
  have h1 := orBits_lt (repBit p m) s
  have h2 : orBits (repBit p m) s * 2 ^ s < 18446744073709551616 := by
    have a : orBits (repBit p m) s * 2 ^ s < 2 ^ s * 2 ^ s := Nat.mul_lt_mul_of_pos_right h1 (Nat.two_pow_pos _)
    rw [← Nat.pow_add] at a
    exact Nat.lt_of_lt_of_le a (pow_le64 hs)
  have e : IntKind.u64.wrap (((orBits (repBit p m) s : Nat) : Int) * 2 ^ s) = ((orBits (repBit p m) s * 2 ^ s : Nat) : Int) := by
    rw [IntKind.wrap_u64]
    have : ((orBits (repBit p m) s : Nat) : Int) * 2 ^ s = ((orBits (repBit p m) s * 2 ^ s : Nat) : Int) := by simp
    rw [this]
    omega
  rw [e, bits_or_u64_nat _ _ (orBits_lt64 _ s (by omega)) h2]
  congr 1
  apply eq_orBits
  intro i
  rw [Nat.testBit_or, Nat.testBit_mul_two_pow, testBit_orBits, testBit_orBits]
  by_cases c1 : i < s
  · have c2 : i < s + s := by omega
    have c3 : ¬ s ≤ i := by omega
    simp [c1, c2, c3]
  · by_cases c2 : i < s + s
    · have c3 : s ≤ i := by omega
      have c4 : i - s < s := by omega
      have c5 : repBit p m (i - s) = repBit p m i := by
        unfold repBit
        congr 1
        obtain ⟨c, hc⟩ := hd
        have : i = (i - s) + m.toNat * c := by omega
        conv => rhs; rw [this]
        rw [Nat.add_mul_mod_self_left]
      simp [c1, c2, c3, c4, c5]
    · have c4 : ¬ i - s < s := by omega
      simp [c1, c2, c4]

/-! ### The mask of a size, a number of ones and a turn -/
def maskN (z s r : Nat) : Nat := orBits (fun i => (turnN (2 ^ (s + 1) - 1) r z).testBit (i % z)) 64

def argB (n r s : Int) : Bool := decide ((0 ≤ n ∧ n ≤ 1) ∧ (0 ≤ r ∧ r ≤ 63) ∧ (0 ≤ s ∧ s ≤ 63))
def badB (n s : Int) : Bool := decide (sizeI n s < 2 ∨ s % sizeI n s = sizeI n s - 1)
def maskV (n r s : Int) : Int := if (argB n r s && !badB n s) = true then ((maskN (sizeI n s).toNat (s % sizeI n s).toNat (r % sizeI n s).toNat : Nat) : Int) else 0
def maskE (n r s : Int) : Int := if argB n r s = true then (if badB n s = true then 2 else 0) else 1

theorem arg_of {n r s : Int} (h : argB n r s = true) : (0 ≤ n ∧ n ≤ 1) ∧ (0 ≤ r ∧ r ≤ 63) ∧ (0 ≤ s ∧ s ≤ 63) := by
  unfold argB at h
  rwa [decide_eq_true_eq] at h

theorem notarg_of {n r s : Int} (h : argB n r s = false) : ¬ ((0 ≤ n ∧ n ≤ 1) ∧ (0 ≤ r ∧ r ≤ 63) ∧ (0 ≤ s ∧ s ≤ 63)) := by
  unfold argB at h
  rwa [decide_eq_false_iff_not] at h

theorem mask_arg {n r s : Int} (h : argB n r s = false) : maskV n r s = 0 ∧ maskE n r s = 1 := by
  unfold maskV maskE
  rw [h]
  exact ⟨rfl, rfl⟩

theorem mask_bad {n r s : Int} (h : argB n r s = true) (hb : badB n s = true) : maskV n r s = 0 ∧ maskE n r s = 2 := by
  unfold maskV maskE
  rw [h, hb]
  exact ⟨rfl, rfl⟩

theorem mask_yes {n r s : Int} (h : argB n r s = true) (hb : badB n s = false) : maskV n r s = ((maskN (sizeI n s).toNat (s % sizeI n s).toNat (r % sizeI n s).toNat : Nat) : Int) ∧ maskE n r s = 0 := by
  unfold maskV maskE
  rw [h, hb]
  exact ⟨rfl, rfl⟩

theorem size_pos {m : Int} (h : isSize m) : 2 ≤ m ∧ m ≤ 64 := by unfold isSize at h; omega

theorem lowF_bounds (k : Int) : 0 ≤ lowF k ∧ lowF k < 18446744073709551616 := by
  unfold lowF
  have := pow_le64 (m := min k.toNat 64) (by omega)
  have := Nat.two_pow_pos (min k.toNat 64)
  omega

theorem turnF_bounds (v b m : Int) (hm : m ≤ 64) : 0 ≤ turnF v b m ∧ turnF v b m < 18446744073709551616 := by
  unfold turnF
  have := turnN_lt v.toNat b.toNat m.toNat
  have := pow_le64 (m := m.toNat) (by omega)
  omega

theorem turnF_fits (v b m : Int) : (turnF v b m).toNat < 2 ^ m.toNat := by
  unfold turnF
  rw [Int.toNat_natCast]
  exact turnN_lt _ _ _

/-- What package bits makes of them is the mask. -/
theorem mask_code {z s r : Int} (hz : 2 ≤ z) (hz2 : z ≤ 64) : repF (turnF (lowF (s % z + 1)) (r % z) z) z = ((maskN z.toNat (s % z).toNat (r % z).toNat : Nat) : Int) := by
  have q1 : 0 ≤ s % z := Int.emod_nonneg _ (by omega)
  have q2 : s % z < z := Int.emod_lt_of_pos _ (by omega)
  have e : (s % z + 1).toNat = (s % z).toNat + 1 := by omega
  have e2 : min ((s % z).toNat + 1) 64 = (s % z).toNat + 1 := by omega
  unfold repF maskN repBit turnF lowF
  rw [e, e2]
  simp only [Int.toNat_natCast]

theorem ones_low (k : Nat) (hk : k ≤ 64) : ((orBits (fun _ => true) k : Nat) : Int) = lowF (k : Int) := by
  unfold lowF
  have : 2 ^ k - 1 = orBits (fun _ => true) k := by
    apply eq_orBits
    intro i
    rw [Nat.testBit_two_pow_sub_one]
    simp
  rw [Int.toNat_natCast, show min k 64 = k by omega, this]

theorem one_step (k : Nat) (hk : k < 64) : bits .or .u64 ((orBits (fun _ => true) k : Nat) : Int) (IntKind.u64.wrap (2 ^ k)) = ((orBits (fun _ => true) (k + 1) : Nat) : Int) := by
  have := or_step (fun _ => true) k hk 1 rfl
  rwa [Int.one_mul] at this

theorem low_fits {k z : Int} (h1 : k ≤ z) (hz : z ≤ 64) : fits64 (lowF k) z = true := by
  unfold fits64 lowF
  rw [decide_eq_true_eq, Int.toNat_natCast]
  have : 2 ^ min k.toNat 64 ≤ 2 ^ z.toNat := Nat.pow_le_pow_right (by decide) (by omega)
  have := Nat.two_pow_pos (min k.toNat 64)
  omega

end Go.Proofs.YtbjcdpmhmebjnaaGreat
/- What Mask of package bits, and of the document's own answer, gives back, for all numbers: contracts. -/
namespace Go.Proofs.YtbjcdpmhmebjnaaGreat
open Go.RowKit

set_option maxHeartbeats 400000 in
theorem sizeOf_c (n s : Int) (hs : 0 ≤ s) (hs2 : s ≤ 63) (w : World) :
    Calls Tryz.prog 232 #[.int .i64 n, .int .i64 s] w fun e w' => e = .returned (.int .i64 (sizeI n s)) ∧ w' = w := by
  by_cases hn : n = 1
  · have hE : Hid (sizeI n s = 64) := by show _ = _; unfold sizeI; rw [if_pos hn]
    have hn : (n == 1) = true := by simpa using hn
    go_enter Tryz.func232, Tryz.ntmps232
    go_wp2
    go_ret
    exact ⟨ret_int hE.out.symm, rfl⟩
  · have hN : Hid (n ≠ 1) := hn
    have hn : (n == 1) = false := by simpa using hn
    go_enter Tryz.func232, Tryz.ntmps232
    go_wp2
    go_loop [5] (fun z => ∃ k : Int, Hid (sizeHead s k) ∧ z = .int .i64 k) (fun z => (intOf z).toNat)
    case atStart => exact ⟨32, Or.inl rfl, rfl⟩
    case round =>
      obtain ⟨k, hk, rfl⟩ := hrel
      obtain ⟨b1, b2⟩ := sizeHead_bounds hk.out
      by_cases hlt : 63 - s < k
      · obtain ⟨g1, g2, g3⟩ := sizeHead_next hs hs2 hk.out hlt
        have G : Hid (sizeHead s (k / 2)) := g1
        clear g1
        go_wp2
        go_round
        case rel => exact ⟨k / 2, G, rfl⟩
        case measure => simp [intOf]; omega
      · go_wp2
        go_ret
        exact ⟨ret_int (sizeHead_end hN.out hs2 hk.out (by omega)), rfl⟩

set_option maxHeartbeats 400000 in
theorem again_c (p m : Int) (hp : Hid (0 ≤ p ∧ p.toNat < 2 ^ m.toNat)) (hm : Hid (isSize m)) (w : World) :
    Calls Tryz.prog 234 #[.int .u64 p, .int .i64 m] w fun e w' => e = .returned (.int .u64 (repF p m)) ∧ w' = w := by
  obtain ⟨h1, h2⟩ := size_pos hm.out
  go_enter Tryz.func234, Tryz.ntmps234
  go_wp2
  go_loop [0, 1] (fun q z => ∃ k : Nat, Hid (isSize k) ∧ Hid (m.toNat ∣ k) ∧ z = .int .i64 k ∧ q = .int .u64 ((orBits (repBit p m) k : Nat) : Int)) (fun _ z => 64 - (intOf z).toNat)
  case atStart =>
    refine ⟨m.toNat, ?_, Nat.dvd_refl _, ?_, ?_⟩
    · rw [Int.toNat_of_nonneg (by omega)]; exact hm
    · rw [Int.toNat_of_nonneg (by omega)]
    · rw [← rep_start p m hp.out.1 hp.out.2]
  case round =>
    obtain ⟨k, hk, hd, rfl, rfl⟩ := hrel
    obtain ⟨b1, b2⟩ := size_pos hk.out
    by_cases hlt : (k : Int) < 64
    · have hk2 : Hid (isSize ((k + k : Nat) : Int)) ∧ k + k ≤ 64 := by
        have := hk.out; unfold isSize at this; refine ⟨?_, by omega⟩; show isSize _; unfold isSize; omega
      obtain ⟨hk2, hk3⟩ := hk2
      go_wp2
      go_round
      case rel =>
        refine ⟨k + k, hk2, Nat.dvd_add hd.out hd.out, ?_, ?_⟩
        · rw [show ((k + k : Nat) : Int) = (k : Int) * 2 by omega]
        · rw [rep_step p m k hd.out hk3]
      case measure => simp [intOf]; omega
    · obtain rfl : k = 64 := by omega
      go_wp2
      go_ret
      exact ⟨ret_int rfl, rfl⟩

set_option maxHeartbeats 800000 in
theorem mask_c (n r s : Int) (w : World) :
    Calls Tryz.prog 199 #[.int .i64 n, .int .i64 r, .int .i64 s] w fun e w' => e = .returned (.tuple #[.int .u64 (maskV n r s), .int .i64 (maskE n r s)]) ∧ ∃ m, w' = w.drewN m := by
  by_cases ha : argB n r s = true
  · obtain ⟨⟨a1, a2⟩, ⟨a3, a4⟩, a5, a6⟩ := arg_of ha
    have s1 : sixB r = true := by unfold sixB; rw [decide_eq_true_eq]; omega
    have s2 : sixB s = true := by unfold sixB; rw [decide_eq_true_eq]; omega
    obtain ⟨z1, z2, z3⟩ := sizeI_cases n s
    by_cases hb : badB n s = true
    · have hE := mask_bad ha hb
      replace hE := show Hid _ from hE
      have hb' : Hid (sizeI n s < 2 ∨ s % sizeI n s = sizeI n s - 1) := by unfold badB at hb; rwa [decide_eq_true_eq] at hb
      clear z1 ha hb
      generalize hZ : sizeI n s = z at *
      replace hZ := show Hid _ from hZ
      by_cases hz : z < 2
      · go_enter Tryz.func199, Tryz.ntmps199
        go_wp2_with (first | (go_at_call 231; refine (six_c _ _).mono ?_; rintro e w' ⟨rfl, rfl⟩) | (go_at_call 232; refine (sizeOf_c _ _ (by omega) (by omega) _).mono ?_; rw [hZ.out]; rintro e w' ⟨rfl, rfl⟩))
        go_ret2
        exact ⟨ret_two hE.out.1.symm hE.out.2.symm, 0, rfl⟩
      · have hz2 : (s % z == z - 1) = true := by have := hb'.out; rw [beq_iff_eq]; omega
        go_enter Tryz.func199, Tryz.ntmps199
        go_wp2_with (first | (go_at_call 231; refine (six_c _ _).mono ?_; rintro e w' ⟨rfl, rfl⟩) | (go_at_call 232; refine (sizeOf_c _ _ (by omega) (by omega) _).mono ?_; rw [hZ.out]; rintro e w' ⟨rfl, rfl⟩))
        go_ret2
        exact ⟨ret_two hE.out.1.symm hE.out.2.symm, 0, rfl⟩
    · have hbf : badB n s = false := by simpa using hb
      have hE := mask_yes ha hbf
      replace hE := show Hid _ from hE
      have hb' : Hid (¬ (sizeI n s < 2 ∨ s % sizeI n s = sizeI n s - 1)) := by unfold badB at hbf; rwa [decide_eq_false_iff_not] at hbf
      clear ha hb hbf
      generalize hZ : sizeI n s = z at *
      replace hZ := show Hid _ from hZ
      have hz : 2 ≤ z := by have := hb'.out; omega
      have hZs : Hid (isSize z) := by rcases z1 with h | h; exact absurd h (by omega); exact h
      clear z1
      have hz2 : (s % z == z - 1) = false := by have := hb'.out; rw [beq_eq_false_iff_ne]; omega
      have q1 : 0 ≤ s % z := Int.emod_nonneg _ (by omega)
      have q2 : s % z < z := Int.emod_lt_of_pos _ (by omega)
      have q3 : 0 ≤ r % z := Int.emod_nonneg _ (by omega)
      have q4 : r % z < z := Int.emod_lt_of_pos _ (by omega)
      have hM := mask_code (s := s) (r := r) hz z2
      replace hM := show Hid _ from hM
      go_enter Tryz.func199, Tryz.ntmps199
      go_wp2_with (first | (go_at_call 231; refine (six_c _ _).mono ?_; rintro e w' ⟨rfl, rfl⟩) | (go_at_call 232; refine (sizeOf_c _ _ (by omega) (by omega) _).mono ?_; rw [hZ.out]; rintro e w' ⟨rfl, rfl⟩) | (go_at_call 233; refine (low_c _ (by omega) _).mono ?_; rintro e w' ⟨rfl, rfl⟩) | (go_at_call 235; refine (turn_c _ _ _ (lowF_bounds _) (by omega) (by omega) (by omega) _).mono ?_; rintro e w' ⟨rfl, nn, rfl⟩) | (go_at_call 234; refine (again_c _ _ ⟨(turnF_bounds _ _ _ (by omega)).1, turnF_fits _ _ _⟩ hZs _).mono ?_; rintro e w' ⟨rfl, rfl⟩))
      go_ret2
      exact ⟨ret_two (by rw [hE.out.1]; exact hM.out) hE.out.2.symm, _, rfl⟩
  · have ha : argB n r s = false := by simpa using ha
    have hE := mask_arg ha
    replace hE := show Hid _ from hE
    have hn : Hid (¬ ((0 ≤ n ∧ n ≤ 1) ∧ (0 ≤ r ∧ r ≤ 63) ∧ (0 ≤ s ∧ s ≤ 63))) := notarg_of ha
    clear ha
    by_cases g1 : n < 0
    · go_enter Tryz.func199, Tryz.ntmps199
      go_wp2_with (go_at_call 231; refine (six_c _ _).mono ?_; rintro e w' ⟨rfl, rfl⟩)
      go_ret2
      exact ⟨ret_two hE.out.1.symm hE.out.2.symm, 0, rfl⟩
    · by_cases g2 : 1 < n
      · go_enter Tryz.func199, Tryz.ntmps199
        go_wp2_with (go_at_call 231; refine (six_c _ _).mono ?_; rintro e w' ⟨rfl, rfl⟩)
        go_ret2
        exact ⟨ret_two hE.out.1.symm hE.out.2.symm, 0, rfl⟩
      · by_cases g3 : sixB r = true
        · have g4 : sixB s = false := by
            unfold sixB at *
            rw [decide_eq_true_eq] at g3
            rw [decide_eq_false_iff_not]
            have := hn.out
            omega
          go_enter Tryz.func199, Tryz.ntmps199
          go_wp2_with (go_at_call 231; refine (six_c _ _).mono ?_; rintro e w' ⟨rfl, rfl⟩)
          go_ret2
          exact ⟨ret_two hE.out.1.symm hE.out.2.symm, 0, rfl⟩
        · have g3 : sixB r = false := by simpa using g3
          go_enter Tryz.func199, Tryz.ntmps199
          go_wp2_with (go_at_call 231; refine (six_c _ _).mono ?_; rintro e w' ⟨rfl, rfl⟩)
          go_ret2
          exact ⟨ret_two hE.out.1.symm hE.out.2.symm, 0, rfl⟩

theorem mod_place {k : Nat} {z : Int} (hz : 0 ≤ z) : ((k : Int) % z).toNat = k % z.toNat := by
  obtain ⟨Z, rfl⟩ := Int.eq_ofNat_of_zero_le hz
  have e : ((k : Int) % (Z : Int)) = ((k % Z : Nat) : Int) := by simp
  rw [e]
  simp only [Int.toNat_natCast]

end Go.Proofs.YtbjcdpmhmebjnaaGreat
/- Instructions as records, and what an instruction leaves to its fields: plain definitions, as the chapter has them. No function of the program is named. -/
namespace Go.Proofs.YtbjcdpmhmebjnaaGreat
open Go.RowKit

structure Ins where
  op : Int
  sub : Int
  rd : Int
  rn : Int
  rm : Int
  ra : Int
  imm : Int
  imm2 : Int
  amount : Int
  shift : Int
  cond : Int
  sys : Int
  flags : Bool
  minus : Bool
  not : Bool
  link : Bool

structure Span where
  lo : Int
  hi : Int
  st : Int

def upToS (n : Int) : Span := ⟨0, n, 1⟩
def zeroS : Span := ⟨0, 0, 0⟩

def hasRa (op : Int) : Bool := op == 8
def hasRm (op : Int) : Bool := op == 8 || op == 2 || op == 3 || op == 7 || op == 9 || op == 10 || op == 19 || op == 20 || op == 24
def hasRn2 (op : Int) : Bool := hasRm op || op == 1 || op == 4 || op == 6 || op == 17 || op == 18 || op == 21 || op == 22 || op == 23
def hasRd (op : Int) : Bool := hasRn2 op || op == 5 || op == 11 || op == 14 || op == 15 || op == 28 || op == 30 || op == 31 || op == 32
def hasRn (op : Int) : Bool := hasRn2 op || op == 16
def h31 (b : Bool) : Int := bif b then 31 else 0
def h1 (b : Bool) : Int := bif b then 1 else 0
def regS (b : Bool) : Span := ⟨0, h31 b, h1 b⟩

def subS (op : Int) : Span :=
  bif op == 3 || op == 4 || op == 16 then upToS 2 else bif op == 10 || op == 7 || op == 5 then upToS 3 else bif op == 6 then ⟨0, 2, 2⟩
  else bif op == 9 || op == 11 || op == 21 || op == 23 || op == 24 || op == 26 || op == 33 then upToS 1 else zeroS
def shiftS (op : Int) : Span := bif op == 2 then upToS 2 else bif op == 3 then upToS 3 else zeroS
def condS (op : Int) : Span := bif op == 10 || op == 13 then upToS 15 else zeroS
def imm2S (op : Int) : Span := bif op == 4 || op == 6 then upToS 63 else zeroS
def brS (m : Int) : Span := bif m == 26 then ⟨-134217728, 134217724, 4⟩ else bif m == 19 then ⟨-1048576, 1048572, 4⟩ else ⟨-32768, 32764, 4⟩
def immS (op sub : Int) : Span :=
  bif op == 1 then upToS 4095 else bif op == 4 || op == 6 then upToS 63 else bif op == 5 || op == 34 || op == 35 then upToS 65535
  else bif op == 11 then (bif sub == 1 then ⟨-4294967296, 4294963200, 4096⟩ else ⟨-1048576, 1048575, 1⟩)
  else bif op == 12 then brS 26 else bif op == 13 || op == 14 then brS 19 else bif op == 15 then brS 14
  else bif op == 17 || op == 18 then ⟨0, 32760, 8⟩ else bif op == 26 then ⟨1, 3, 1⟩ else bif op == 33 then upToS 15 else bif op == 37 then upToS 5 else zeroS
def amountS (op : Int) : Span :=
  bif op == 1 then ⟨0, 12, 12⟩ else bif op == 2 || op == 3 || op == 15 then upToS 63 else bif op == 4 then upToS 1 else bif op == 5 then ⟨0, 48, 16⟩
  else bif op == 19 || op == 20 then ⟨0, 3, 3⟩ else zeroS
def flagsR (op sub : Int) : Bool := op == 2 || op == 1 || ((op == 3 || op == 4) && sub == 0)
def minusR (op : Int) : Bool := op == 2 || op == 1 || op == 8
def notR (op : Int) : Bool := op == 3 || op == 14 || op == 15
def linkR (op : Int) : Bool := op == 12

def holdsB (s : Span) (n : Int) : Bool := decide (s.lo ≤ n) && decide (n ≤ s.hi) && (n == 0 || n.tmod s.st == 0)

/-- The values, as the machine has them. -/
abbrev vI (n : Int) : Value := .int .i64 n
abbrev Ins.cells (i : Ins) : Array Value := #[vI i.op, vI i.sub, vI i.rd, vI i.rn, vI i.rm, vI i.ra, vI i.imm, vI i.imm2, vI i.amount, vI i.shift, vI i.cond, vI i.sys, .bool i.flags, .bool i.minus, .bool i.not, .bool i.link]
abbrev Ins.val (i : Ins) : Value := .agg #[vI i.op, vI i.sub, vI i.rd, vI i.rn, vI i.rm, vI i.ra, vI i.imm, vI i.imm2, vI i.amount, vI i.shift, vI i.cond, vI i.sys, .bool i.flags, .bool i.minus, .bool i.not, .bool i.link]
abbrev Span.val (s : Span) : Value := .agg #[vI s.lo, vI s.hi, vI s.st]
abbrev Span.cells (s : Span) : Array Value := #[vI s.lo, vI s.hi, vI s.st]

end Go.Proofs.YtbjcdpmhmebjnaaGreat
