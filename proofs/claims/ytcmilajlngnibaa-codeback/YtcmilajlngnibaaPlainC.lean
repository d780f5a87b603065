/- Plain facts on masks: the size, the ones, how they are turned and laid again and again: no Go text is named here. -/
import Derived.Test.YtcmilajlngnibaaPlainB
namespace Go.Proofs.Ytcmilajlngnibaa
open Go.RowKit

/-- The size that imms tells. -/
def sizeI (n s : Int) : Int :=
  if n = 1 then 64 else if s ≤ 31 then 32 else if s ≤ 47 then 16 else if s ≤ 55 then 8 else if s ≤ 59 then 4 else if s ≤ 61 then 2 else if s ≤ 62 then 1 else 0

def isSize (m : Int) : Prop := m = 2 ∨ m = 4 ∨ m = 8 ∨ m = 16 ∨ m = 32 ∨ m = 64

theorem sizeI_cases (n s : Int) : (sizeI n s < 2 ∨ isSize (sizeI n s)) ∧ sizeI n s ≤ 64 ∧ 0 ≤ sizeI n s := by
  unfold sizeI isSize
  split
  · omega
  · split
    · omega
    · split
      · omega
      · split
        · omega
        · split
          · omega
          · split
            · omega
            · split <;> omega

/-- What stands at the size loop's head. -/
def sizeHead (s z : Int) : Prop := z = 32 ∨ ((z = 16 ∨ z = 8 ∨ z = 4 ∨ z = 2 ∨ z = 1) ∧ 63 - s < 2 * z) ∨ (z = 0 ∧ s = 63)

theorem sizeHead_next {s z : Int} (hs : 0 ≤ s) (hs2 : s ≤ 63) (h : sizeHead s z) (hlt : 63 - s < z) : sizeHead s (z / 2) ∧ 0 < z ∧ z ≤ 32 := by
  unfold sizeHead at *
  omega

theorem sizeHead_end {n s z : Int} (hn : n ≠ 1) (hs2 : s ≤ 63) (h : sizeHead s z) (hge : z ≤ 63 - s) : z = sizeI n s := by
  unfold sizeHead at h
  unfold sizeI
  rw [if_neg hn]
  split
  · omega
  · split
    · omega
    · split
      · omega
      · split
        · omega
        · split
          · omega
          · split <;> omega

theorem sizeHead_bounds {s z : Int} (h : sizeHead s z) : 0 ≤ z ∧ z ≤ 32 := by
  unfold sizeHead at h
  omega

/-! ### The piece, laid again and again -/
def repBit (p m : Int) (i : Nat) : Bool := p.toNat.testBit (i % m.toNat)
def repF (p m : Int) : Int := ((orBits (repBit p m) 64 : Nat) : Int)

theorem rep_start (p m : Int) (h0 : 0 ≤ p) (hp : p.toNat < 2 ^ m.toNat) : p = ((orBits (repBit p m) m.toNat : Nat) : Int) := by
  have e : p.toNat = orBits (repBit p m) m.toNat := by
    apply eq_orBits
    intro i
    unfold repBit
    by_cases h : i < m.toNat
    · rw [Nat.mod_eq_of_lt h]; simp [h]
    · have : p.toNat.testBit i = false := Nat.testBit_lt_two_pow (Nat.lt_of_lt_of_le hp (Nat.pow_le_pow_right (by decide) (by omega)))
      simp [h, this]
  omega

theorem rep_step (p m : Int) (s : Nat) (hd : m.toNat ∣ s) (hs : s + s ≤ 64) :
    bits .or .u64 ((orBits (repBit p m) s : Nat) : Int) (IntKind.u64.wrap (((orBits (repBit p m) s : Nat) : Int) * 2 ^ s)) = ((orBits (repBit p m) (s + s) : Nat) : Int) := by
  have h1 := orBits_lt (repBit p m) s
  have h2 : orBits (repBit p m) s * 2 ^ s < 18446744073709551616 := by
    have a : orBits (repBit p m) s * 2 ^ s < 2 ^ s * 2 ^ s := Nat.mul_lt_mul_of_pos_right h1 (Nat.two_pow_pos _)
    rw [← Nat.pow_add] at a
    exact Nat.lt_of_lt_of_le a (pow_le64 hs)
  have e : IntKind.u64.wrap (((orBits (repBit p m) s : Nat) : Int) * 2 ^ s) = ((orBits (repBit p m) s * 2 ^ s : Nat) : Int) := by
    rw [IntKind.wrap_u64]
    have : ((orBits (repBit p m) s : Nat) : Int) * 2 ^ s = ((orBits (repBit p m) s * 2 ^ s : Nat) : Int) := by simp
    rw [this]
    omega
  rw [e, bits_or_u64_nat _ _ (orBits_lt64 _ s (by omega)) h2]
  congr 1
  apply eq_orBits
  intro i
  rw [Nat.testBit_or, Nat.testBit_mul_two_pow, testBit_orBits, testBit_orBits]
  by_cases c1 : i < s
  · have c2 : i < s + s := by omega
    have c3 : ¬ s ≤ i := by omega
    simp [c1, c2, c3]
  · by_cases c2 : i < s + s
    · have c3 : s ≤ i := by omega
      have c4 : i - s < s := by omega
      have c5 : repBit p m (i - s) = repBit p m i := by
        unfold repBit
        congr 1
        obtain ⟨c, hc⟩ := hd
        have : i = (i - s) + m.toNat * c := by omega
        conv => rhs; rw [this]
        rw [Nat.add_mul_mod_self_left]
      simp [c1, c2, c3, c4, c5]
    · have c4 : ¬ i - s < s := by omega
      simp [c1, c2, c4]

/-! ### The mask of a size, a number of ones and a turn -/
def maskN (z s r : Nat) : Nat := orBits (fun i => (turnN (2 ^ (s + 1) - 1) r z).testBit (i % z)) 64

def argB (n r s : Int) : Bool := decide ((0 ≤ n ∧ n ≤ 1) ∧ (0 ≤ r ∧ r ≤ 63) ∧ (0 ≤ s ∧ s ≤ 63))
def badB (n s : Int) : Bool := decide (sizeI n s < 2 ∨ s % sizeI n s = sizeI n s - 1)
def maskV (n r s : Int) : Int := if (argB n r s && !badB n s) = true then ((maskN (sizeI n s).toNat (s % sizeI n s).toNat (r % sizeI n s).toNat : Nat) : Int) else 0
def maskE (n r s : Int) : Int := if argB n r s = true then (if badB n s = true then 2 else 0) else 1

theorem arg_of {n r s : Int} (h : argB n r s = true) : (0 ≤ n ∧ n ≤ 1) ∧ (0 ≤ r ∧ r ≤ 63) ∧ (0 ≤ s ∧ s ≤ 63) := by
  unfold argB at h
  rwa [decide_eq_true_eq] at h

theorem notarg_of {n r s : Int} (h : argB n r s = false) : ¬ ((0 ≤ n ∧ n ≤ 1) ∧ (0 ≤ r ∧ r ≤ 63) ∧ (0 ≤ s ∧ s ≤ 63)) := by
  unfold argB at h
  rwa [decide_eq_false_iff_not] at h

theorem mask_arg {n r s : Int} (h : argB n r s = false) : maskV n r s = 0 ∧ maskE n r s = 1 := by
  unfold maskV maskE
  rw [h]
  exact ⟨rfl, rfl⟩

theorem mask_bad {n r s : Int} (h : argB n r s = true) (hb : badB n s = true) : maskV n r s = 0 ∧ maskE n r s = 2 := by
  unfold maskV maskE
  rw [h, hb]
  exact ⟨rfl, rfl⟩

theorem mask_yes {n r s : Int} (h : argB n r s = true) (hb : badB n s = false) : maskV n r s = ((maskN (sizeI n s).toNat (s % sizeI n s).toNat (r % sizeI n s).toNat : Nat) : Int) ∧ maskE n r s = 0 := by
  unfold maskV maskE
  rw [h, hb]
  exact ⟨rfl, rfl⟩

theorem size_pos {m : Int} (h : isSize m) : 2 ≤ m ∧ m ≤ 64 := by unfold isSize at h; omega

theorem lowF_bounds (k : Int) : 0 ≤ lowF k ∧ lowF k < 18446744073709551616 := by
  unfold lowF
  have := pow_le64 (m := min k.toNat 64) (by omega)
  have := Nat.two_pow_pos (min k.toNat 64)
  omega

theorem turnF_bounds (v b m : Int) (hm : m ≤ 64) : 0 ≤ turnF v b m ∧ turnF v b m < 18446744073709551616 := by
  unfold turnF
  have := turnN_lt v.toNat b.toNat m.toNat
  have := pow_le64 (m := m.toNat) (by omega)
  omega

theorem turnF_fits (v b m : Int) : (turnF v b m).toNat < 2 ^ m.toNat := by
  unfold turnF
  rw [Int.toNat_natCast]
  exact turnN_lt _ _ _

/-- What package bits makes of them is the mask. -/
theorem mask_code {z s r : Int} (hz : 2 ≤ z) (hz2 : z ≤ 64) : repF (turnF (lowF (s % z + 1)) (r % z) z) z = ((maskN z.toNat (s % z).toNat (r % z).toNat : Nat) : Int) := by
  have q1 : 0 ≤ s % z := Int.emod_nonneg _ (by omega)
  have q2 : s % z < z := Int.emod_lt_of_pos _ (by omega)
  have e : (s % z + 1).toNat = (s % z).toNat + 1 := by omega
  have e2 : min ((s % z).toNat + 1) 64 = (s % z).toNat + 1 := by omega
  unfold repF maskN repBit turnF lowF
  rw [e, e2]
  simp only [Int.toNat_natCast]

theorem ones_low (k : Nat) (hk : k ≤ 64) : ((orBits (fun _ => true) k : Nat) : Int) = lowF (k : Int) := by
  unfold lowF
  have : 2 ^ k - 1 = orBits (fun _ => true) k := by
    apply eq_orBits
    intro i
    rw [Nat.testBit_two_pow_sub_one]
    simp
  rw [Int.toNat_natCast, show min k 64 = k by omega, this]

theorem one_step (k : Nat) (hk : k < 64) : bits .or .u64 ((orBits (fun _ => true) k : Nat) : Int) (IntKind.u64.wrap (2 ^ k)) = ((orBits (fun _ => true) (k + 1) : Nat) : Int) := by
  have := or_step (fun _ => true) k hk 1 rfl
  rwa [Int.one_mul] at this

theorem low_fits {k z : Int} (h1 : k ≤ z) (hz : z ≤ 64) : fits64 (lowF k) z = true := by
  unfold fits64 lowF
  rw [decide_eq_true_eq, Int.toNat_natCast]
  have : 2 ^ min k.toNat 64 ≤ 2 ^ z.toNat := Nat.pow_le_pow_right (by decide) (by omega)
  have := Nat.two_pow_pos (min k.toNat 64)
  omega

end Go.Proofs.Ytcmilajlngnibaa
