/- Plain facts on numbers and their bits, on which the proofs of this seat stand: no Go text is named here. -/
import Derived.Laws.Bits64b
import Derived.Laws.BitsLemmas
import Derived.Below
import Derived.Test.YtjmdgfimmjodjaaGreatDoorRows
import Derived.WalkKit
import Derived.WalkSpells
import Derived.WalkLawsBesides
import Derived.Deep.QuietTactic
import Derived.BigQuiet
namespace Go.Proofs.YtjmdgfimmjodjaaGreatDoor
open Go.RowKit

/-- The number whose bits below k are those of f. -/
def orBits (f : Nat → Bool) : Nat → Nat
  | 0 => 0
  | k + 1 => orBits f k ||| (f k).toNat * 2 ^ k

theorem testBit_bool (b : Bool) (j : Nat) : b.toNat.testBit j = (decide (j = 0) && b) := by
  cases b
  · simp
  · cases j with
    | zero => decide
    | succ n => simp [Nat.testBit_succ]

theorem testBit_orBits (f : Nat → Bool) (k i : Nat) : (orBits f k).testBit i = (decide (i < k) && f i) := by
  induction k with
  | zero => simp [orBits]
  | succ k ih =>
    rw [orBits, Nat.testBit_or, ih, Nat.testBit_mul_two_pow, testBit_bool]
    by_cases h1 : i < k
    · have : ¬ k ≤ i := by omega
      have h2 : i < k + 1 := by omega
      simp [h1, this, h2]
    · by_cases h2 : i = k
      · subst h2; simp
      · have h3 : ¬ i < k + 1 := by omega
        have h4 : ¬ i - k = 0 := by omega
        simp [h1, h3, h4]

theorem orBits_lt (f : Nat → Bool) (k : Nat) : orBits f k < 2 ^ k := by
  apply Nat.lt_pow_two_of_testBit
  intro i hi
  rw [testBit_orBits]
  have : ¬ i < k := by omega
  simp [this]

theorem orBits_lt64 (f : Nat → Bool) (k : Nat) (hk : k ≤ 64) : orBits f k < 18446744073709551616 :=
  Nat.lt_of_lt_of_le (orBits_lt f k) (Nat.pow_le_pow_right (by decide) hk)

theorem eq_orBits {x k : Nat} {f : Nat → Bool} (h : ∀ i, x.testBit i = (decide (i < k) && f i)) : x = orBits f k := by
  apply Nat.eq_of_testBit_eq
  intro i
  rw [h, testBit_orBits]

theorem orBits_congr {f g : Nat → Bool} {k : Nat} (h : ∀ i, i < k → f i = g i) : orBits f k = orBits g k := by
  apply eq_orBits
  intro i
  rw [testBit_orBits]
  by_cases hi : i < k
  · simp [hi, h i hi]
  · simp [hi]

/-- One bit of a number, as the document's own 'bit' tells it. -/
def bitF (v n : Int) : Int := v / 2 ^ n.toNat % 2

theorem and_one (x : Nat) : x &&& 1 = x % 2 := by
  simp

theorem bitF_walk (v n : Int) : bits .and .u64 (v / 2 ^ n.toNat) 1 = bitF v n := by
  unfold bitF
  generalize v / 2 ^ n.toNat = x
  show IntKind.u64.wrap ((BitVec.ofInt 64 x &&& BitVec.ofInt 64 1).toNat : Int) = _
  rw [BitVec.toNat_and, show (BitVec.ofInt 64 1).toNat = 1 from rfl, and_one, BitVec.toNat_ofInt, IntKind.wrap_u64]
  omega

theorem bitF_nat (V M : Nat) : bitF (V : Int) (M : Int) = ((V.testBit M).toNat : Nat) := by
  unfold bitF
  rw [Nat.toNat_testBit]
  simp

theorem bitF_of {v n : Int} (hv : 0 ≤ v) (hn : 0 ≤ n) : bitF v n = ((v.toNat.testBit n.toNat).toNat : Nat) := by
  obtain ⟨V, rfl⟩ := Int.eq_ofNat_of_zero_le hv
  obtain ⟨M, rfl⟩ := Int.eq_ofNat_of_zero_le hn
  simp only [Int.toNat_natCast]
  exact bitF_nat V M

theorem wrap_u64_in {x : Int} (h0 : 0 ≤ x) (h1 : x < 18446744073709551616) : IntKind.u64.wrap x = x := by
  rw [IntKind.wrap_u64]; omega

/-- One bit more is laid, as the walk spells it. -/
theorem or_step (f : Nat → Bool) (k : Nat) (hk : k < 64) (b : Int) (hb : b = ((f k).toNat : Nat)) :
    bits .or .u64 ((orBits f k : Nat) : Int) (IntKind.u64.wrap (b * 2 ^ k)) = ((orBits f (k + 1) : Nat) : Int) := by
  subst hb
  have h1 : (f k).toNat * 2 ^ k < 18446744073709551616 := by
    have hp : 2 ^ k ≤ 2 ^ 63 := Nat.pow_le_pow_right (by decide) (by omega)
    have : (f k).toNat ≤ 1 := Bool.toNat_le _
    have h3 : (f k).toNat * 2 ^ k ≤ 1 * 2 ^ 63 := Nat.mul_le_mul this hp
    have : (2 : Nat) ^ 63 < 18446744073709551616 := by decide
    omega
  have e : IntKind.u64.wrap ((((f k).toNat : Nat) : Int) * 2 ^ k) = (((f k).toNat * 2 ^ k : Nat) : Int) := by
    rw [IntKind.wrap_u64]
    have : (((f k).toNat : Nat) : Int) * 2 ^ k = (((f k).toNat * 2 ^ k : Nat) : Int) := by simp
    rw [this]
    omega
  rw [e, bits_or_u64_nat _ _ (orBits_lt64 f k (by omega)) h1]
  rfl

/-! ### The numbers that the calls tell -/
def inWordB (a m : Int) : Bool := decide (0 ≤ a ∧ 1 ≤ m ∧ m ≤ 32 ∧ a ≤ 32 - m)
def inNumB (m : Int) : Bool := decide (1 ≤ m ∧ m ≤ 64)
def sixB (m : Int) : Bool := decide (0 ≤ m ∧ m ≤ 63)
def lowWordF (k : Int) : Int := ((2 ^ k.toNat - 1 : Nat) : Int)
def lowF (k : Int) : Int := ((2 ^ min k.toNat 64 - 1 : Nat) : Int)

theorem lowWord_walk (k : Int) (h2 : k ≤ 32) : ((2 : Int) ^ k.toNat % 4294967296 - 1) % 4294967296 = lowWordF k := by
  unfold lowWordF
  have hk : k.toNat ≤ 32 := by omega
  have e : ((2 : Int) ^ k.toNat) = ((2 ^ k.toNat : Nat) : Int) := by simp
  rw [e]
  have h3 : 2 ^ k.toNat ≤ 2 ^ 32 := Nat.pow_le_pow_right (by decide) hk
  have h4 : 1 ≤ 2 ^ k.toNat := Nat.one_le_two_pow
  have h5 : (2 : Nat) ^ 32 = 4294967296 := by decide
  omega

theorem low_walk (k : Int) : IntKind.u64.wrap (IntKind.u64.wrap ((2 : Int) ^ min k.toNat 64) - 1) = lowF k := by
  unfold lowF
  rw [IntKind.wrap_u64, IntKind.wrap_u64]
  have e : ((2 : Int) ^ min k.toNat 64) = ((2 ^ min k.toNat 64 : Nat) : Int) := by simp
  rw [e]
  have h3 : 2 ^ min k.toNat 64 ≤ 2 ^ 64 := Nat.pow_le_pow_right (by decide) (by omega)
  have h4 : 1 ≤ 2 ^ min k.toNat 64 := Nat.one_le_two_pow
  have h5 : (2 : Nat) ^ 64 = 18446744073709551616 := by decide
  omega

/-! ### Field, Put -/
def inE (b : Bool) : Int := if b = true then 0 else 1
def fieldV (word a m : Int) : Int := if inWordB a m = true then ((word.toNat / 2 ^ a.toNat % 2 ^ m.toNat : Nat) : Int) else 0
def putBit (word a m value : Int) (i : Nat) : Bool := if a.toNat ≤ i ∧ i < a.toNat + m.toNat then value.toNat.testBit (i - a.toNat) else word.toNat.testBit i
def fitsB (value m : Int) : Bool := decide (value.toNat < 2 ^ m.toNat)
def putV (word a m value : Int) : Int := if (inWordB a m && fitsB value m) = true then ((orBits (putBit word a m value) 32 : Nat) : Int) else 0
def putE (a m value : Int) : Int := if inWordB a m = true then (if fitsB value m = true then 0 else 2) else 1

theorem and32 (a b : Nat) (ha : a < 4294967296) (hb : b < 4294967296) : bits .and .u32 (a : Int) (b : Int) = ((a &&& b : Nat) : Int) := by
  have hx : a &&& b < 2 ^ 32 := Nat.and_lt_two_pow _ (by omega)
  have h1 : (BitVec.ofInt 32 (a : Int)).toNat = a := by
    rw [BitVec.ofInt_natCast, BitVec.toNat_ofNat]; exact Nat.mod_eq_of_lt (by omega)
  have h2 : (BitVec.ofInt 32 (b : Int)).toNat = b := by
    rw [BitVec.ofInt_natCast, BitVec.toNat_ofNat]; exact Nat.mod_eq_of_lt (by omega)
  show IntKind.u32.wrap ((BitVec.ofInt 32 (a : Int) &&& BitVec.ofInt 32 (b : Int)).toNat : Int) = _
  rw [BitVec.toNat_and, h1, h2, IntKind.wrap_u32]
  omega

theorem or32 (a b : Nat) (ha : a < 4294967296) (hb : b < 4294967296) : bits .or .u32 (a : Int) (b : Int) = ((a ||| b : Nat) : Int) := by
  have hx : a ||| b < 2 ^ 32 := Nat.or_lt_two_pow (by omega) (by omega)
  have h1 : (BitVec.ofInt 32 (a : Int)).toNat = a := by
    rw [BitVec.ofInt_natCast, BitVec.toNat_ofNat]; exact Nat.mod_eq_of_lt (by omega)
  have h2 : (BitVec.ofInt 32 (b : Int)).toNat = b := by
    rw [BitVec.ofInt_natCast, BitVec.toNat_ofNat]; exact Nat.mod_eq_of_lt (by omega)
  show IntKind.u32.wrap ((BitVec.ofInt 32 (a : Int) ||| BitVec.ofInt 32 (b : Int)).toNat : Int) = _
  rw [BitVec.toNat_or, h1, h2, IntKind.wrap_u32]
  omega

theorem andNot32 (a b : Nat) (ha : a < 4294967296) (hb : b < 4294967296) : bits .andNot .u32 (a : Int) (b : Int) = ((a &&& (4294967296 - (b + 1)) : Nat) : Int) := by
  have hx : a &&& (4294967296 - (b + 1)) < 2 ^ 32 := Nat.and_lt_two_pow _ (by omega)
  have h1 : (BitVec.ofInt 32 (a : Int)).toNat = a := by
    rw [BitVec.ofInt_natCast, BitVec.toNat_ofNat]; exact Nat.mod_eq_of_lt (by omega)
  have h2 : (BitVec.ofInt 32 (b : Int)).toNat = b := by
    rw [BitVec.ofInt_natCast, BitVec.toNat_ofNat]; exact Nat.mod_eq_of_lt (by omega)
  have h3 : (2 : Nat) ^ 32 - 1 - b = 4294967296 - (b + 1) := by omega
  show IntKind.u32.wrap ((BitVec.ofInt 32 (a : Int) &&& ~~~ BitVec.ofInt 32 (b : Int)).toNat : Int) = _
  rw [BitVec.toNat_and, BitVec.toNat_not, h1, h2, h3, IntKind.wrap_u32]
  omega

theorem lowW_lt (m : Int) (h : m ≤ 32) : 2 ^ m.toNat - 1 < 4294967296 := by
  have h3 : 2 ^ m.toNat ≤ 2 ^ 32 := Nat.pow_le_pow_right (by decide) (by omega)
  have h5 : (2 : Nat) ^ 32 = 4294967296 := by decide
  omega

theorem field_walk (word a m : Int) (h : Hid (0 ≤ word ∧ word < 4294967296)) (hb : inWordB a m = true) :
    bits .and .u32 (word / 2 ^ a.toNat) (lowWordF m) = fieldV word a m := by
  have hb' := hb
  unfold inWordB at hb'
  simp only [decide_eq_true_eq] at hb'
  unfold fieldV
  rw [if_pos hb]
  obtain ⟨W, rfl⟩ := Int.eq_ofNat_of_zero_le h.out.1
  have h2 := h.out.2
  have e : ((W : Int) / 2 ^ a.toNat) = ((W / 2 ^ a.toNat : Nat) : Int) := by simp
  unfold lowWordF
  rw [e, and32 _ _ (Nat.lt_of_le_of_lt (Nat.div_le_self _ _) (by omega)) (lowW_lt m (by omega)), Nat.and_two_pow_sub_one_eq_mod]
  simp

theorem field_ref (word a m : Int) (hb : inWordB a m = true) :
    ((orBits (fun j => word.toNat.testBit (a.toNat + j)) m.toNat : Nat) : Int) % 4294967296 = fieldV word a m := by
  have hb' := hb
  unfold inWordB at hb'
  simp only [decide_eq_true_eq] at hb'
  unfold fieldV
  rw [if_pos hb]
  have e : word.toNat / 2 ^ a.toNat % 2 ^ m.toNat = orBits (fun j => word.toNat.testBit (a.toNat + j)) m.toNat := by
    apply eq_orBits
    intro i
    rw [Nat.testBit_mod_two_pow, Nat.testBit_div_two_pow, Nat.add_comm]
  rw [e]
  have h1 := orBits_lt (fun j => word.toNat.testBit (a.toNat + j)) m.toNat
  have h3 : 2 ^ m.toNat ≤ 2 ^ 32 := Nat.pow_le_pow_right (by decide) (by omega)
  have h5 : (2 : Nat) ^ 32 = 4294967296 := by decide
  omega

theorem inWord_of {a m : Int} (hb : inWordB a m = true) : 0 ≤ a ∧ 1 ≤ m ∧ m ≤ 32 ∧ a ≤ 32 - m := by
  unfold inWordB at hb
  simpa only [decide_eq_true_eq] using hb

theorem fits_low {value m : Int} (h0 : 0 ≤ value) : fitsB value m = true ↔ value ≤ lowWordF m := by
  unfold fitsB lowWordF
  rw [decide_eq_true_eq]
  have : 1 ≤ 2 ^ m.toNat := Nat.one_le_two_pow
  omega

theorem put_walk (word a m value : Int) (h : Hid (0 ≤ word ∧ word < 4294967296)) (hv : Hid (0 ≤ value ∧ value < 4294967296)) (hb : inWordB a m = true) (hf : fitsB value m = true) :
    bits .or .u32 (bits .andNot .u32 word (lowWordF m * 2 ^ a.toNat % 4294967296)) (value * 2 ^ a.toNat % 4294967296) = putV word a m value := by
  have hb' := inWord_of hb
  unfold putV
  rw [hb, hf, if_pos (by rfl)]
  obtain ⟨W, rfl⟩ := Int.eq_ofNat_of_zero_le h.out.1
  obtain ⟨V, rfl⟩ := Int.eq_ofNat_of_zero_le hv.out.1
  obtain ⟨A, rfl⟩ := Int.eq_ofNat_of_zero_le hb'.1
  obtain ⟨M, rfl⟩ := Int.eq_ofNat_of_zero_le (show 0 ≤ m by omega)
  have h2 := h.out.2
  have h3 := hv.out.2
  unfold fitsB at hf
  rw [decide_eq_true_eq] at hf
  simp only [Int.toNat_natCast] at hf
  have hA : A ≤ 32 - M := by omega
  have hM : M ≤ 32 := by omega
  have p1 : 2 ^ M * 2 ^ A ≤ 2 ^ 32 := by
    rw [← Nat.pow_add]; exact Nat.pow_le_pow_right (by decide) (by omega)
  have p2 : (2 : Nat) ^ 32 = 4294967296 := by decide
  have p3 : 1 ≤ 2 ^ M := Nat.one_le_two_pow
  have p4 : 1 ≤ 2 ^ A := Nat.one_le_two_pow
  have q1 : (2 ^ M - 1) * 2 ^ A < 4294967296 := by
    rw [Nat.sub_mul]; omega
  have q2 : V * 2 ^ A < 4294967296 := by
    have : V * 2 ^ A < 2 ^ M * 2 ^ A := Nat.mul_lt_mul_of_pos_right hf (by omega)
    omega
  unfold lowWordF
  simp only [Int.toNat_natCast]
  have e1 : (((2 ^ M - 1 : Nat) : Int) * 2 ^ A) % 4294967296 = (((2 ^ M - 1) * 2 ^ A : Nat) : Int) := by
    have : (((2 ^ M - 1 : Nat) : Int) * 2 ^ A) = (((2 ^ M - 1) * 2 ^ A : Nat) : Int) := by simp
    rw [this]; omega
  have e2 : ((V : Int) * 2 ^ A) % 4294967296 = ((V * 2 ^ A : Nat) : Int) := by
    have : ((V : Int) * 2 ^ A) = ((V * 2 ^ A : Nat) : Int) := by simp
    rw [this]; omega
  have q3 : W &&& (4294967296 - ((2 ^ M - 1) * 2 ^ A + 1)) < 4294967296 :=
    Nat.and_lt_two_pow (n := 32) _ (by omega)
  rw [e1, e2, andNot32 _ _ (by omega) q1, or32 _ _ q3 q2]
  congr 1
  apply eq_orBits
  intro i
  unfold putBit
  simp only [Int.toNat_natCast]
  rw [Nat.testBit_or, Nat.testBit_and, ← p2, Nat.testBit_two_pow_sub_succ (by omega), Nat.testBit_mul_two_pow, Nat.testBit_mul_two_pow, Nat.testBit_two_pow_sub_one]
  by_cases h32 : i < 32
  · by_cases c1 : A ≤ i
    · by_cases c2 : i < A + M
      · have c3 : i - A < M := by omega
        simp [h32, c1, c2, c3]
      · have c3 : ¬ i - A < M := by omega
        have c4 : V.testBit (i - A) = false := Nat.testBit_lt_two_pow (Nat.lt_of_lt_of_le hf (Nat.pow_le_pow_right (by decide) (by omega)))
        simp [h32, c2, c3, c4]
    · simp [h32, c1]
  · have c4 : V.testBit (i - A) = false := Nat.testBit_lt_two_pow (Nat.lt_of_lt_of_le hf (Nat.pow_le_pow_right (by decide) (by omega)))
    simp [h32, c4]

theorem put_ref (word a m value : Int) (hb : inWordB a m = true) (hf : fitsB value m = true) :
    ((orBits (putBit word a m value) 32 : Nat) : Int) % 4294967296 = putV word a m value := by
  unfold putV
  rw [hb, hf, if_pos (by rfl)]
  have h1 := orBits_lt (putBit word a m value) 32
  have h5 : (2 : Nat) ^ 32 = 4294967296 := by decide
  omega

theorem fits_shr {value m : Int} (h : Hid (0 ≤ value ∧ value < 4294967296)) : (IntKind.u64.wrap value / 2 ^ m.toNat != 0) = !(fitsB value m) := by
  have h1 := h.out.1
  have h2 := h.out.2
  rw [wrap_u64_in h1 (by omega)]
  obtain ⟨V, rfl⟩ := Int.eq_ofNat_of_zero_le h1
  unfold fitsB
  have e : ((V : Int) / 2 ^ m.toNat) = ((V / 2 ^ m.toNat : Nat) : Int) := by simp
  rw [e]
  have p : 0 < 2 ^ m.toNat := Nat.two_pow_pos _
  by_cases c : V < 2 ^ m.toNat
  · rw [Nat.div_eq_of_lt c]; simp [c]
  · have : 0 < V / 2 ^ m.toNat := Nat.div_pos (by omega) p
    have c' : decide ((V : Int).toNat < 2 ^ m.toNat) = false := by simpa using c
    rw [c']
    simp
    omega

end Go.Proofs.YtjmdgfimmjodjaaGreatDoor
/- What the small functions of package bits and of the document's own answer give back, each for all numbers that it is called with: contracts, on which the statements' proofs stand. -/
namespace Go.Proofs.YtjmdgfimmjodjaaGreatDoor
open Go.RowKit

theorem ret_bool {a b : Bool} (h : a = b) : Ending.returned (.bool a) = .returned (.bool b) := by rw [h]
theorem ret_two {k l : IntKind} {a b c d : Int} (h : a = b) (h' : c = d) : Ending.returned (.tuple #[.int k a, .int l c]) = .returned (.tuple #[.int k b, .int l d]) := by rw [h, h']
theorem ret_int {k : IntKind} {a b : Int} (h : a = b) : Ending.returned (.int k a) = .returned (.int k b) := by rw [h]

set_option maxHeartbeats 400000 in
theorem six_c (m : Int) (w : World) :
    Calls Tryz.prog 90 #[.int .i64 m] w fun e w' => e = .returned (.bool (sixB m)) ∧ w' = w := by
  go_enter Tryz.func90, Tryz.ntmps90
  go_wp2
  all_goals (go_ret; refine ⟨ret_bool ?_, rfl⟩; unfold sixB; first | (rw [eq_comm, decide_eq_false_iff_not]; omega) | (rw [decide_eq_decide]; omega))

set_option maxHeartbeats 400000 in
theorem low_c (k : Int) (hk : 0 ≤ k) (w : World) :
    Calls Tryz.prog 92 #[.int .i64 k] w fun e w' => e = .returned (.int .u64 (lowF k)) ∧ w' = w := by
  go_enter Tryz.func92, Tryz.ntmps92
  go_wp2
  go_ret
  exact ⟨ret_int (low_walk k), rfl⟩

end Go.Proofs.YtjmdgfimmjodjaaGreatDoor
/- Plain facts on numbers that are read with a sign or turned: no Go text is named here. -/
namespace Go.Proofs.YtjmdgfimmjodjaaGreatDoor
open Go.RowKit

theorem inNum_of {m : Int} (hb : inNumB m = true) : 1 ≤ m ∧ m ≤ 64 := by
  unfold inNumB at hb
  simpa only [decide_eq_true_eq] using hb

/-! ### Signed -/
def signBit (value m : Int) (i : Nat) : Bool := value.toNat.testBit (min i (m.toNat - 1))
def signedV (value m : Int) : Int := if inNumB m = true then ((orBits (signBit value m) 64 : Nat) : Int) else 0

theorem signed_walk (value m : Int) (h : Hid (0 ≤ value ∧ value < 18446744073709551616)) (hb : inNumB m = true) :
    IntKind.u64.wrap (wrap64 (IntKind.u64.wrap (value * 2 ^ (64 - m).toNat)) / 2 ^ (64 - m).toNat) = signedV value m := by
  have hb' := inNum_of hb
  unfold signedV
  rw [if_pos hb]
  obtain ⟨V, rfl⟩ := Int.eq_ofNat_of_zero_le h.out.1
  obtain ⟨M, rfl⟩ := Int.eq_ofNat_of_zero_le (show 0 ≤ m by omega)
  have hv := h.out.2
  have hA : (64 - (M : Int)).toNat = 64 - M := by omega
  rw [hA]
  generalize hAA : 64 - M = A
  let X : BitVec 64 := BitVec.ofNat 64 V
  have hX : X.toNat = V := by
    show (BitVec.ofNat 64 V).toNat = V
    rw [BitVec.toNat_ofNat]; exact Nat.mod_eq_of_lt (by omega)
  have e1 : IntKind.u64.wrap ((V : Int) * 2 ^ A) = (((X <<< A).toNat : Nat) : Int) := by
    rw [IntKind.wrap_u64, BitVec.toNat_shiftLeft, hX, Nat.shiftLeft_eq]
    have : ((V : Int) * 2 ^ A) = ((V * 2 ^ A : Nat) : Int) := by simp
    rw [this]
    omega
  have e2 : ∀ Y : BitVec 64, wrap64 ((Y.toNat : Nat) : Int) = Y.toInt := by
    intro Y
    unfold wrap64
    rw [BitVec.toInt_eq_toNat_cond]
    have := Y.isLt
    split <;> omega
  have e3 : ∀ Y : BitVec 64, IntKind.u64.wrap Y.toInt = ((Y.toNat : Nat) : Int) := by
    intro Y
    rw [IntKind.wrap_u64, BitVec.toInt_eq_toNat_cond]
    have := Y.isLt
    split <;> omega
  have e4 : (X <<< A).toInt / 2 ^ A = ((X <<< A).sshiftRight A).toInt := by
    rw [BitVec.toInt_sshiftRight, Int.shiftRight_eq_div_pow]
    simp
  rw [e1, e2, e4, e3]
  congr 1
  apply eq_orBits
  intro i
  show ((X <<< A).sshiftRight A).getLsbD i = _
  rw [BitVec.getLsbD_sshiftRight]
  unfold signBit
  simp only [Int.toNat_natCast]
  by_cases hi : i < 64
  · have hi' : ¬ 64 ≤ i := by omega
    simp only [hi, hi', decide_true, decide_false, Bool.not_false, Bool.true_and]
    by_cases c : A + i < 64
    · rw [if_pos c, BitVec.getLsbD_shiftLeft]
      have c1 : ¬ A + i < A := by omega
      have c2 : A + i - A = i := by omega
      have c3 : min i (M - 1) = i := by omega
      simp only [c, c1, c2, c3, decide_true, decide_false, Bool.not_false, Bool.true_and]
      show X.toNat.testBit i = _
      rw [hX]
    · rw [if_neg c, BitVec.msb_eq_getLsbD_last, BitVec.getLsbD_shiftLeft]
      have c0 : 64 - 1 < 64 := by omega
      have c1 : ¬ 64 - 1 < A := by omega
      have c3 : min i (M - 1) = 64 - 1 - A := by omega
      simp only [c0, c1, c3, decide_true, decide_false, Bool.not_false, Bool.true_and]
      show X.toNat.testBit (64 - 1 - A) = _
      rw [hX]
  · have hi' : 64 ≤ i := by omega
    simp [hi, hi']

/-! ### Turning -/
def turnN (v b m : Nat) : Nat := (v / 2 ^ (b % m) ||| v * 2 ^ (m - b % m) % 2 ^ 64) &&& (2 ^ m - 1)
def turnF (v b m : Int) : Int := ((turnN v.toNat b.toNat m.toNat : Nat) : Int)
def rorBit (v b m : Nat) (i : Nat) : Bool := v.testBit ((i + b % m) % m)

theorem turnN_eq {v b m : Nat} (hm : 1 ≤ m) (hm2 : m ≤ 64) (hv : v < 2 ^ m) : turnN v b m = orBits (rorBit v b m) m := by
  apply eq_orBits
  intro i
  unfold turnN rorBit
  rw [Nat.testBit_and, Nat.testBit_or, Nat.testBit_div_two_pow, Nat.testBit_mod_two_pow, Nat.testBit_mul_two_pow, Nat.testBit_two_pow_sub_one]
  have hb : b % m < m := Nat.mod_lt _ (by omega)
  generalize b % m = c at *
  by_cases hi : i < m
  · have hi' : i < 64 := by omega
    by_cases h1 : i + c < m
    · have h2 : ¬ m - c ≤ i := by omega
      rw [Nat.mod_eq_of_lt h1]
      simp [hi, h2]
    · have h2 : m - c ≤ i := by omega
      have h3 : (i + c) % m = i - (m - c) := by
        rw [Nat.mod_eq_sub_mod (by omega), Nat.mod_eq_of_lt (by omega)]
        omega
      have h4 : v.testBit (i + c) = false := Nat.testBit_lt_two_pow (Nat.lt_of_lt_of_le hv (Nat.pow_le_pow_right (by decide) (by omega)))
      rw [h3, h4]
      simp [hi, hi', h2]
  · simp [hi]

theorem turnN_lt (v b m : Nat) : turnN v b m < 2 ^ m := by
  unfold turnN
  have : 2 ^ m - 1 < 2 ^ m := by have := Nat.two_pow_pos m; omega
  exact Nat.and_lt_two_pow _ this

theorem pow_le64 {m : Nat} (hm : m ≤ 64) : 2 ^ m ≤ 18446744073709551616 :=
  Nat.pow_le_pow_right (n := 2) (by decide) hm

theorem turn_walk (v b m : Int) (h : Hid (0 ≤ v ∧ v < 18446744073709551616)) (hb : 0 ≤ b) (hm : 1 ≤ m) (hm2 : m ≤ 64) :
    bits .and .u64 (bits .or .u64 (v / 2 ^ (b % m).toNat) (IntKind.u64.wrap (v * 2 ^ (m - b % m).toNat))) (lowF m) = turnF v b m := by
  obtain ⟨V, rfl⟩ := Int.eq_ofNat_of_zero_le h.out.1
  obtain ⟨B, rfl⟩ := Int.eq_ofNat_of_zero_le hb
  obtain ⟨M, rfl⟩ := Int.eq_ofNat_of_zero_le (show 0 ≤ m by omega)
  have hv := h.out.2
  have hlt : B % M < M := Nat.mod_lt _ (by omega)
  have r1 : ((B : Int) % (M : Int)) = ((B % M : Nat) : Int) := by simp
  have r2 : ((M : Int) - ((B % M : Nat) : Int)).toNat = M - B % M := by omega
  rw [r1, r2]
  unfold turnF turnN lowF
  simp only [Int.toNat_natCast]
  generalize B % M = C at *
  have e0 : ((V : Int) / 2 ^ C) = ((V / 2 ^ C : Nat) : Int) := by simp
  have e1 : IntKind.u64.wrap ((V : Int) * 2 ^ (M - C)) = ((V * 2 ^ (M - C) % 2 ^ 64 : Nat) : Int) := by
    rw [IntKind.wrap_u64]
    have : ((V : Int) * 2 ^ (M - C)) = ((V * 2 ^ (M - C) : Nat) : Int) := by simp
    rw [this]
    omega
  have q0 : V / 2 ^ C < 18446744073709551616 := Nat.lt_of_le_of_lt (Nat.div_le_self _ _) (by omega)
  have q1 : V * 2 ^ (M - C) % 2 ^ 64 < 18446744073709551616 := Nat.mod_lt _ (by decide)
  have q2 : V / 2 ^ C ||| V * 2 ^ (M - C) % 2 ^ 64 < 18446744073709551616 := Nat.or_lt_two_pow (n := 64) q0 q1
  have q3 : 2 ^ min M 64 - 1 < 18446744073709551616 := by
    have := pow_le64 (m := min M 64) (by omega)
    have := Nat.two_pow_pos (min M 64)
    omega
  rw [e0, e1, bits_or_u64_nat _ _ q0 q1, bits_and_u64_nat _ _ q2 q3, show min M 64 = M by omega]

/-! ### Ror -/
def fits64 (value m : Int) : Bool := decide (value.toNat < 2 ^ m.toNat)
def rorV (value b m : Int) : Int := if (inNumB m && decide (0 ≤ b) && fits64 value m) = true then ((orBits (rorBit value.toNat b.toNat m.toNat) m.toNat : Nat) : Int) else 0
def rorE (value b m : Int) : Int := if (inNumB m && decide (0 ≤ b)) = true then (if fits64 value m = true then 0 else 2) else 1

theorem fits64_low {value m : Int} (h0 : 0 ≤ value) (hm : m ≤ 64) : fits64 value m = true ↔ value ≤ lowF m := by
  unfold fits64 lowF
  rw [decide_eq_true_eq, show min m.toNat 64 = m.toNat by omega]
  have : 1 ≤ 2 ^ m.toNat := Nat.one_le_two_pow
  omega

theorem ror_walk {value b m : Int} (hb : inNumB m = true) (h0 : 0 ≤ b) (hf : fits64 value m = true) : turnF value b m = rorV value b m := by
  have h1 := inNum_of hb
  unfold turnF rorV
  rw [hb, hf, decide_eq_true h0, if_pos (by rfl)]
  unfold fits64 at hf
  rw [decide_eq_true_eq] at hf
  rw [turnN_eq (by omega) (by omega) hf]

theorem ror_yes {value b m : Int} (hb : inNumB m = true) (h0 : 0 ≤ b) (hf : fits64 value m = true) : ((orBits (rorBit value.toNat b.toNat m.toNat) m.toNat : Nat) : Int) = rorV value b m ∧ rorE value b m = 0 := by
  unfold rorV rorE
  rw [hb, hf, decide_eq_true h0, if_pos (by rfl), if_pos (by rfl), if_pos (by rfl)]
  exact ⟨rfl, rfl⟩

theorem ror_no {value b m : Int} (hb : inNumB m = true) (h0 : 0 ≤ b) (hf : fits64 value m = false) : rorV value b m = 0 ∧ rorE value b m = 2 := by
  unfold rorV rorE
  rw [hb, hf, decide_eq_true h0]
  exact ⟨rfl, rfl⟩

theorem ror_arg {value b m : Int} (h : ¬ (1 ≤ m ∧ m ≤ 64 ∧ 0 ≤ b)) : rorV value b m = 0 ∧ rorE value b m = 1 := by
  have : (inNumB m && decide (0 ≤ b)) = false := by
    unfold inNumB
    rw [← Bool.decide_and, decide_eq_false_iff_not]
    omega
  unfold rorV rorE
  rw [this]
  exact ⟨rfl, rfl⟩

theorem fits64_shr {value m : Int} (h : Hid (0 ≤ value ∧ value < 18446744073709551616)) : (value / 2 ^ m.toNat != 0) = !(fits64 value m) := by
  have h1 := h.out.1
  obtain ⟨V, rfl⟩ := Int.eq_ofNat_of_zero_le h1
  unfold fits64
  have e : ((V : Int) / 2 ^ m.toNat) = ((V / 2 ^ m.toNat : Nat) : Int) := by simp
  rw [e]
  have p : 0 < 2 ^ m.toNat := Nat.two_pow_pos _
  by_cases c : V < 2 ^ m.toNat
  · rw [Nat.div_eq_of_lt c]; simp [c]
  · have : 0 < V / 2 ^ m.toNat := Nat.div_pos (by omega) p
    have c' : decide ((V : Int).toNat < 2 ^ m.toNat) = false := by simpa using c
    rw [c']
    simp
    omega

theorem fits64_all {value : Int} (h : Hid (0 ≤ value ∧ value < 18446744073709551616)) : fits64 value 64 = true := by
  have h1 := h.out
  unfold fits64
  rw [decide_eq_true_eq]
  have : (2 : Nat) ^ (64 : Int).toNat = 18446744073709551616 := by decide
  omega

end Go.Proofs.YtjmdgfimmjodjaaGreatDoor
/- What Signed and Ror of package bits, and of the document's own answer, give back, for all numbers: contracts. -/
namespace Go.Proofs.YtjmdgfimmjodjaaGreatDoor
open Go.RowKit

set_option maxHeartbeats 400000 in
theorem turn_c (v b m : Int) (hv : Hid (0 ≤ v ∧ v < 18446744073709551616)) (hb : 0 ≤ b) (hm : 1 ≤ m) (hm2 : m ≤ 64) (w : World) :
    Calls Tryz.prog 94 #[.int .u64 v, .int .i64 b, .int .i64 m] w fun e w' => e = .returned (.int .u64 (turnF v b m)) ∧ ∃ n, w' = w.drewN n := by
  have hE := turn_walk v b m hv hb hm hm2
  replace hE := show Hid _ from hE
  have r1 : 0 ≤ b % m := Int.emod_nonneg _ (by omega)
  have r2 : b % m < m := Int.emod_lt_of_pos _ (by omega)
  go_enter Tryz.func94, Tryz.ntmps94
  go_wp2
  go_quiet ((go_at_call 92; exact Calls.quiet_of_same (low_c _ (by omega) _)))
  go_wp2
  go_ret
  exact ⟨ret_int hE.out, _, rfl⟩

theorem ror_place {k : Nat} {b m : Int} (h0 : 0 ≤ b) (h1 : 1 ≤ m) : (((k : Int) + b) % m).toNat = (k + b.toNat % m.toNat) % m.toNat := by
  obtain ⟨B, rfl⟩ := Int.eq_ofNat_of_zero_le h0
  obtain ⟨M, rfl⟩ := Int.eq_ofNat_of_zero_le (show 0 ≤ m by omega)
  have e : (((k : Int) + (B : Int)) % (M : Int)) = (((k + B % M) % M : Nat) : Int) := by simp
  rw [e]
  simp only [Int.toNat_natCast]

end Go.Proofs.YtjmdgfimmjodjaaGreatDoor
