/- Plain facts on what is laid into a word and taken out of it, and on masks and their parts: no Go text is named here. -/
import Derived.Test.YtpoaapncfojhoaaPlainD
namespace Go.Proofs.Ytpoaapncfojhoaa
open Go.RowKit

theorem fits_of {value m : Int} (h : fitsB value m = true) : value.toNat < 2 ^ m.toNat := by
  unfold fitsB at h
  rwa [decide_eq_true_eq] at h

theorem put_of {word a m value : Int} (h : putE a m value = 0) : inWordB a m = true ∧ fitsB value m = true ∧ putV word a m value = ((orBits (putBit word a m value) 32 : Nat) : Int) := by
  unfold putE at h
  by_cases hb : inWordB a m = true
  · by_cases hf : fitsB value m = true
    · refine ⟨hb, hf, ?_⟩
      unfold putV
      rw [hb, hf]
      rfl
    · rw [if_pos hb, if_neg hf] at h
      exact absurd h (by decide)
  · rw [if_neg hb] at h
    exact absurd h (by decide)

theorem put_not {word a m value : Int} (h : putE a m value ≠ 0) : putV word a m value = 0 := by
  unfold putV
  rw [if_neg]
  intro hh
  rw [Bool.and_eq_true] at hh
  apply h
  unfold putE
  rw [if_pos hh.1, if_pos hh.2]

theorem put_bounds (word a m value : Int) : Hid (0 ≤ putV word a m value ∧ putV word a m value < 4294967296) := by
  show _ ∧ _
  have h1 := orBits_lt (putBit word a m value) 32
  have h5 : (2 : Nat) ^ 32 = 4294967296 := by decide
  unfold putV
  split <;> omega

theorem field_bounds (word a m : Int) (h : Hid (0 ≤ word ∧ word < 4294967296)) : Hid (0 ≤ fieldV word a m ∧ fieldV word a m < 4294967296) := by
  show _ ∧ _
  have h1 := h.out
  have h2 : word.toNat / 2 ^ a.toNat ≤ word.toNat := Nat.div_le_self _ _
  have h3 : word.toNat / 2 ^ a.toNat % 2 ^ m.toNat ≤ word.toNat / 2 ^ a.toNat := Nat.mod_le _ _
  unfold fieldV
  split <;> omega

theorem field_put {word a m value : Int} (hv : Hid (0 ≤ value ∧ value < 4294967296)) (h : putE a m value = 0) : fieldV (putV word a m value) a m = value := by
  obtain ⟨hb, hf, e⟩ := put_of (word := word) h
  have hb' := inWord_of hb
  have hf' := fits_of hf
  unfold fieldV
  rw [if_pos hb, e, Int.toNat_natCast]
  have : orBits (putBit word a m value) 32 / 2 ^ a.toNat % 2 ^ m.toNat = value.toNat := by
    apply Nat.eq_of_testBit_eq
    intro i
    rw [Nat.testBit_mod_two_pow, Nat.testBit_div_two_pow, testBit_orBits]
    by_cases hi : i < m.toNat
    · unfold putBit
      have c1 : i + a.toNat < 32 := by omega
      have c2 : a.toNat ≤ i + a.toNat ∧ i + a.toNat < a.toNat + m.toNat := by omega
      rw [if_pos c2, show i + a.toNat - a.toNat = i by omega]
      simp [hi, c1]
    · have : value.toNat.testBit i = false := Nat.testBit_lt_two_pow (Nat.lt_of_lt_of_le hf' (Nat.pow_le_pow_right (by decide) (by omega)))
      simp [hi, this]
  rw [this]
  have := hv.out
  omega

theorem putE_field {word a m : Int} (hb : inWordB a m = true) : putE a m (fieldV word a m) = 0 := by
  have hf : fitsB (fieldV word a m) m = true := by
    unfold fitsB fieldV
    rw [if_pos hb, decide_eq_true_eq, Int.toNat_natCast]
    exact Nat.mod_lt _ (Nat.two_pow_pos _)
  unfold putE
  rw [if_pos hb, if_pos hf]

theorem put_field {word a m value : Int} (hw : Hid (0 ≤ word ∧ word < 4294967296)) (h : putE a m value = 0) : putV (putV word a m value) a m (fieldV word a m) = word := by
  obtain ⟨hb, hf, e⟩ := put_of (word := word) h
  have hb' := inWord_of hb
  obtain ⟨_, _, e2⟩ := put_of (word := putV word a m value) (putE_field (word := word) hb)
  rw [e2]
  have hw' := hw.out
  have : orBits (putBit (putV word a m value) a m (fieldV word a m)) 32 = word.toNat := by
    apply Nat.eq_of_testBit_eq
    intro i
    rw [testBit_orBits]
    unfold putBit
    by_cases hi : i < 32
    · by_cases c : a.toNat ≤ i ∧ i < a.toNat + m.toNat
      · rw [if_pos c]
        unfold fieldV
        rw [if_pos hb, Int.toNat_natCast, Nat.testBit_mod_two_pow, Nat.testBit_div_two_pow, show i - a.toNat + a.toNat = i by omega]
        have c2 : i - a.toNat < m.toNat := by omega
        simp [hi, c2]
      · rw [if_neg c, e, Int.toNat_natCast, testBit_orBits]
        unfold putBit
        rw [if_neg c]
        simp [hi]
    · have : word.toNat.testBit i = false := Nat.testBit_lt_two_pow (Nat.lt_of_lt_of_le (show word.toNat < 2 ^ 32 by omega) (Nat.pow_le_pow_right (by decide) (by omega)))
      simp [hi, this]
  rw [this]
  omega

/-! ### The parts of a mask make it again -/
theorem maskN_lt (z s r : Nat) : maskN z s r < 18446744073709551616 := orBits_lt64 _ 64 (by omega)

theorem mask_bounds (n r s : Int) : Hid (0 ≤ maskV n r s ∧ maskV n r s < 18446744073709551616) := by
  show _ ∧ _
  have := maskN_lt (sizeI n s).toNat (s % sizeI n s).toNat (r % sizeI n s).toNat
  unfold maskV
  split <;> omega

theorem maskE_of {n r s : Int} (h : maskE n r s = 0) : argB n r s = true ∧ badB n s = false := by
  unfold maskE at h
  by_cases ha : argB n r s = true
  · by_cases hb : badB n s = true
    · rw [if_pos ha, if_pos hb] at h
      exact absurd h (by decide)
    · exact ⟨ha, by simpa using hb⟩
  · rw [if_neg ha] at h
    exact absurd h (by decide)

theorem size_pow {z : Int} (h : isSize z) : ∃ t : Nat, 1 ≤ t ∧ t ≤ 6 ∧ z = ((2 ^ t : Nat) : Int) := by
  rcases h with h | h | h | h | h | h
  · exact ⟨1, by omega, by omega, h⟩
  · exact ⟨2, by omega, by omega, h⟩
  · exact ⟨3, by omega, by omega, h⟩
  · exact ⟨4, by omega, by omega, h⟩
  · exact ⟨5, by omega, by omega, h⟩
  · exact ⟨6, by omega, by omega, h⟩

/-- A mask that was made is made by some size, ones and turn. -/
theorem mask_hit {n r s : Int} (h : maskE n r s = 0) : ∃ t s' r', hit (maskV n r s).toNat t s' r' := by
  obtain ⟨ha, hb⟩ := maskE_of h
  have hy := (mask_yes ha hb).1
  obtain ⟨z1, z2, z3⟩ := sizeI_cases n s
  unfold badB at hb
  rw [decide_eq_false_iff_not] at hb
  have hz : isSize (sizeI n s) := by
    rcases z1 with c | c
    · omega
    · exact c
  obtain ⟨t, t1, t2, tz⟩ := size_pow hz
  have hp := size_pos hz
  have q1 : 0 ≤ s % sizeI n s := Int.emod_nonneg _ (by omega)
  have q2 : s % sizeI n s < sizeI n s := Int.emod_lt_of_pos _ (by omega)
  have q3 : 0 ≤ r % sizeI n s := Int.emod_nonneg _ (by omega)
  have q4 : r % sizeI n s < sizeI n s := Int.emod_lt_of_pos _ (by omega)
  refine ⟨t, (s % sizeI n s).toNat, (r % sizeI n s).toNat, t1, t2, by omega, by omega, ?_⟩
  rw [hy, Int.toNat_natCast, show (sizeI n s).toNat = 2 ^ t by omega]

/-- None and all are no masks. -/
theorem hit_mid {M t s r : Nat} (h : hit M t s r) : M ≠ 0 ∧ M ≠ 18446744073709551615 := by
  obtain ⟨h1, h2, h3, h4, h5⟩ := h
  have hp := mask_piece (s := s) (r := r) h2
  have ho := ones_turn h1 h2 h3 h4
  rw [← hp, h5] at ho
  have h6 := pow_six h2
  constructor
  · intro h0
    subst h0
    rw [Nat.zero_mod, show onesN 0 = 0 by decide +kernel] at ho
    omega
  · intro h0
    rw [h0] at ho
    rcases six_of t h1 h2 with rfl | rfl | rfl | rfl | rfl | rfl
    · rw [show onesN (18446744073709551615 % 2 ^ 2 ^ 1) = 2 by decide +kernel] at ho; omega
    · rw [show onesN (18446744073709551615 % 2 ^ 2 ^ 2) = 4 by decide +kernel] at ho; omega
    · rw [show onesN (18446744073709551615 % 2 ^ 2 ^ 3) = 8 by decide +kernel] at ho; omega
    · rw [show onesN (18446744073709551615 % 2 ^ 2 ^ 4) = 16 by decide +kernel] at ho; omega
    · rw [show onesN (18446744073709551615 % 2 ^ 2 ^ 5) = 32 by decide +kernel] at ho; omega
    · rw [show onesN (18446744073709551615 % 2 ^ 2 ^ 6) = 64 by decide +kernel] at ho; omega

end Go.Proofs.Ytpoaapncfojhoaa
