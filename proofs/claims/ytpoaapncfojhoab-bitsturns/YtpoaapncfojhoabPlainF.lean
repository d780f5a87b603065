/- Plain facts on bits that are turned twice, and all the way round: no Go text is named here. -/
import Derived.Test.YtpoaapncfojhoabPlainB
namespace Go.Proofs.Ytpoaapncfojhoab
open Go.RowKit

theorem rorE_of {v b m : Int} (h : rorE v b m = 0) : inNumB m = true ∧ 0 ≤ b ∧ fits64 v m = true := by
  unfold rorE at h
  by_cases ha : (inNumB m && decide (0 ≤ b)) = true
  · by_cases hf : fits64 v m = true
    · rw [Bool.and_eq_true, decide_eq_true_eq] at ha
      exact ⟨ha.1, ha.2, hf⟩
    · rw [if_pos ha, if_neg hf] at h
      exact absurd h (by decide)
  · rw [if_neg ha] at h
    exact absurd h (by decide)

theorem ror_not {v b m : Int} (h : rorE v b m ≠ 0) : rorV v b m = 0 := by
  unfold rorV
  rw [if_neg]
  intro hh
  rw [Bool.and_eq_true] at hh
  apply h
  unfold rorE
  rw [if_pos hh.1, if_pos hh.2]

theorem ror_bounds (v b m : Int) : Hid (0 ≤ rorV v b m ∧ rorV v b m < 18446744073709551616) := by
  show _ ∧ _
  unfold rorV
  split
  · rename_i h
    rw [Bool.and_eq_true, Bool.and_eq_true] at h
    have hm := inNum_of h.1.1
    have := orBits_lt64 (rorBit v.toNat b.toNat m.toNat) m.toNat (by omega)
    omega
  · omega

theorem ror_fits {v b m : Int} (h : rorE v b m = 0) : fits64 (rorV v b m) m = true := by
  obtain ⟨h1, h2, h3⟩ := rorE_of h
  have e := (ror_yes h1 h2 h3).1
  rw [← e]
  unfold fits64
  rw [decide_eq_true_eq, Int.toNat_natCast]
  exact orBits_lt _ _

theorem rorE_twice {v a b m : Int} (h : rorE v a m = 0) (hb : 0 ≤ b) : rorE (rorV v a m) b m = 0 :=
  (ror_yes (rorE_of h).1 hb (ror_fits h)).2

theorem rorE_other {v a b m : Int} (h : rorE v a m = 0) (hb : 0 ≤ b) : rorE v b m = 0 :=
  (ror_yes (rorE_of h).1 hb (rorE_of h).2.2).2

theorem ror_twice {v a b m : Int} (h : rorE v a m = 0) (hb : 0 ≤ b) : rorV (rorV v a m) b m = rorV v (a + b) m := by
  obtain ⟨h1, h2, h3⟩ := rorE_of h
  have hm := inNum_of h1
  rw [← (ror_yes h1 hb (ror_fits h)).1, ← (ror_yes (b := a + b) h1 (by omega) h3).1, ← (ror_yes h1 h2 h3).1, Int.toNat_natCast]
  congr 1
  apply orBits_congr
  intro i hi
  unfold rorBit
  rw [testBit_orBits]
  have hM : 0 < m.toNat := by omega
  have hlt : (i + b.toNat % m.toNat) % m.toNat < m.toNat := Nat.mod_lt _ hM
  rw [decide_eq_true hlt, Bool.true_and]
  congr 1
  rw [show (a + b).toNat = a.toNat + b.toNat by omega]
  rw [Nat.mod_add_mod, Nat.add_mod_mod, Nat.add_mod_mod]
  have e : i + b.toNat % m.toNat + a.toNat = (i + a.toNat) + b.toNat % m.toNat := by omega
  rw [e, Nat.add_mod_mod]
  congr 1
  omega

theorem ror_round {v a m : Int} (hv : Hid (0 ≤ v ∧ v < 18446744073709551616)) (h : rorE v a m = 0) : rorV v m m = v := by
  obtain ⟨h1, h2, h3⟩ := rorE_of h
  have hm := inNum_of h1
  rw [← (ror_yes (b := m) h1 (by omega) h3).1]
  have h4 : v.toNat < 2 ^ m.toNat := by unfold fits64 at h3; rwa [decide_eq_true_eq] at h3
  have : v.toNat = orBits (rorBit v.toNat m.toNat m.toNat) m.toNat := by
    apply eq_orBits
    intro i
    unfold rorBit
    rw [Nat.mod_self, Nat.add_zero]
    by_cases hi : i < m.toNat
    · rw [Nat.mod_eq_of_lt hi]; simp [hi]
    · have : v.toNat.testBit i = false := Nat.testBit_lt_two_pow (Nat.lt_of_lt_of_le h4 (Nat.pow_le_pow_right (by decide) (by omega)))
      simp [hi, this]
  have := hv.out
  omega

end Go.Proofs.Ytpoaapncfojhoab
