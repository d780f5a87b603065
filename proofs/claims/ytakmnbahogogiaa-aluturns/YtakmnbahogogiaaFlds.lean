/- Plain facts on bits that are moved: no Go text is named here. -/
import Derived.Test.YtakmnbahogogiaaRols
namespace Go.Proofs.Ytakmnbahogogiaa
open Go.RowKit

theorem lowest_walk {v : Int} {m : Nat} (hm : m ≤ 64) : IntKind.u64.wrap (v * 2 ^ (64 - m)) / 2 ^ (64 - m) = v % 2 ^ m := by
  have hp := pow_pos (64 - m)
  have e := pow_split (j := 64 - m) (k := m) (by omega)
  rw [wrapU, ← e, Int.mul_comm v, Int.mul_emod_mul_of_pos _ _ hp, Int.mul_ediv_cancel_left _ (by omega)]
def movedN (v : Int) (r s : Nat) : Int := if s < r then v % 2 ^ (s + 1) * 2 ^ (64 - r) else v / 2 ^ r % 2 ^ (s - r + 1)
def endN (r s : Nat) : Nat := if s < r then 64 - r + (s + 1) else s - r + 1
def moveW (v : Int) (g : Bool) (r s : Nat) : Int := movedN v r s + (bif g then v / 2 ^ s % 2 * (18446744073709551616 - 2 ^ endN r s) else 0)
def moveB (immr imms : Int) : Bool := placeB immr && placeB imms
def moveV (v : Int) (g : Bool) (immr imms : Int) : Int := if moveB immr imms = true then moveW v g immr.toNat imms.toNat else 0
def moveE (immr imms : Int) : Int := if moveB immr imms = true then 0 else 1
theorem div_add (v : Int) (f j : Nat) : v / 2 ^ (f + j) = v / 2 ^ f / 2 ^ j := by
  rw [Int.pow_add, Int.ediv_ediv_of_nonneg (by have := pow_pos f; omega)]
theorem end_in {r s : Nat} (hr : r ≤ 63) (hs : s ≤ 63) : 1 ≤ endN r s ∧ endN r s ≤ 64 := by
  unfold endN
  split <;> omega
theorem mod_in (x : Int) (j : Nat) : 0 ≤ x % 2 ^ j ∧ x % 2 ^ j < 2 ^ j := ⟨Int.emod_nonneg _ (by have := pow_pos j; omega), Int.emod_lt_of_pos _ (pow_pos j)⟩
theorem scaled {x : Int} {j t : Nat} (h0 : 0 ≤ x) (h1 : x < 2 ^ j) : 0 ≤ x * 2 ^ t ∧ x * 2 ^ t < 2 ^ (t + j) := by
  have hp := pow_pos t
  refine ⟨Int.mul_nonneg h0 (by omega), ?_⟩
  rw [Int.pow_add, Int.mul_comm]
  exact Int.mul_lt_mul_of_pos_left h1 hp
theorem moved_in {v : Int} {r s : Nat} : 0 ≤ movedN v r s ∧ movedN v r s < 2 ^ endN r s := by
  unfold movedN endN
  split
  · exact scaled (mod_in _ _).1 (mod_in _ _).2
  · exact mod_in _ _
theorem mod_top (x : Int) (j : Nat) : x % 2 ^ (j + 1) / 2 ^ j = x / 2 ^ j % 2 := by
  have hp := pow_pos j
  rw [mod_step, Int.add_mul_ediv_right _ _ (by omega), Int.ediv_eq_zero_of_lt (mod_in x j).1 (mod_in x j).2, Int.zero_add]
theorem moved_top {v : Int} {r s : Nat} : movedN v r s / 2 ^ (endN r s - 1) % 2 = v / 2 ^ s % 2 := by
  unfold movedN endN
  split
  · have hp := pow_pos (64 - r)
    rw [show 64 - r + (s + 1) - 1 = (64 - r) + s by omega, div_add, Int.mul_ediv_cancel _ (by omega), mod_top]
    omega
  · rw [show s - r + 1 - 1 = s - r by omega, mod_top, ← div_add, show r + (s - r) = s by omega]
    omega
theorem signed_num {v : Int} {m : Nat} (h0 : 0 ≤ v) (h1 : v < 2 ^ m) (hm : 1 ≤ m) (hm2 : m ≤ 64) : signedV v (m : Int) = v + v / 2 ^ (m - 1) % 2 * (18446744073709551616 - 2 ^ m) := by
  have hp := pow_pos (64 - m)
  have hq := pow_pos (m - 1)
  have e1 : (2 : Int) ^ m = 2 ^ (m - 1) * 2 := by rw [← Int.pow_succ]; congr 1; omega
  have e2 := pow_split (j := m) (k := 64 - m) (by omega)
  have e3 : (2 : Int) ^ (m - 1) * 2 ^ (64 - m) = 9223372036854775808 := by
    rw [← Int.pow_add, show m - 1 + (64 - m) = 63 by omega]; decide
  have hM : (2 : Int) ^ m ≤ 18446744073709551616 := by
    have h : 2 ^ m ≤ 2 ^ 64 := Nat.pow_le_pow_right (by decide) hm2
    have e := pow_nat m
    have h2 : (2 : Nat) ^ 64 = 18446744073709551616 := by decide
    omega
  have hv : Hid (0 ≤ v ∧ v < 18446744073709551616) := ⟨h0, by omega⟩
  rw [← signed_walk v m hv (by unfold inNumB; rw [decide_eq_true_eq]; omega), show (64 - (m : Int)).toNat = 64 - m by omega]
  have k1 : v * 2 ^ (64 - m) < 18446744073709551616 := by
    rw [← e2]; exact Int.mul_lt_mul_of_pos_right h1 hp
  have k0 : 0 ≤ v * 2 ^ (64 - m) := Int.mul_nonneg h0 (by omega)
  have e4 : IntKind.u64.wrap (v * 2 ^ (64 - m)) = v * 2 ^ (64 - m) := by rw [wrapU]; omega
  rw [e4]
  by_cases c : v < 2 ^ (m - 1)
  · have k2 : v * 2 ^ (64 - m) < 9223372036854775808 := by
      rw [← e3]; exact Int.mul_lt_mul_of_pos_right c hp
    have e5 : wrap64 (v * 2 ^ (64 - m)) = v * 2 ^ (64 - m) := by unfold wrap64; omega
    rw [e5, Int.mul_ediv_cancel _ (by omega), Int.ediv_eq_zero_of_lt h0 c, wrapU]
    omega
  · have k2 : 9223372036854775808 ≤ v * 2 ^ (64 - m) := by
      rw [← e3]; exact Int.mul_le_mul_of_nonneg_right (by omega) (by omega)
    have e5 : wrap64 (v * 2 ^ (64 - m)) = (v - 2 ^ m) * 2 ^ (64 - m) := by
      rw [Int.sub_mul, e2]; unfold wrap64; omega
    have e6 : v / 2 ^ (m - 1) = 1 := by
      have a1 : 1 ≤ v / 2 ^ (m - 1) := Int.le_ediv_of_mul_le hq (by omega)
      have a2 : v / 2 ^ (m - 1) < 2 := Int.ediv_lt_of_lt_mul hq (by omega)
      omega
    rw [e5, Int.mul_ediv_cancel _ (by omega), e6, wrapU]
    omega
theorem field_signed {v : Int} {r s : Nat} (hr : r ≤ 63) (hs : s ≤ 63) : signedV (movedN v r s) (endN r s : Int) = moveW v true r s := by
  have h := moved_in (v := v) (r := r) (s := s)
  have e := end_in hr hs
  rw [signed_num h.1 h.2 e.1 e.2, moved_top]
  rfl
/-! ### Bit by bit -/
theorem or_bit {v : Int} {f j t : Nat} (hv : 0 ≤ v) (h : t + j < 64) :
    bits .or .u64 (v / 2 ^ f % 2 ^ j * 2 ^ t) (IntKind.u64.wrap ((v / 2 ^ (f + j)).tmod 2 * 2 ^ (t + j))) = v / 2 ^ f % 2 ^ (j + 1) * 2 ^ t := by
  have h1 := scaled (t := t) (mod_in (v / 2 ^ f) j).1 (mod_in (v / 2 ^ f) j).2
  have h2 : 0 ≤ v / 2 ^ (f + j) := Int.ediv_nonneg hv (by have := pow_pos (f + j); omega)
  rw [Int.tmod_eq_emod_of_nonneg h2, or_low h h1.1 h1.2 (by omega), mod_step, div_add, Int.add_mul, Int.mul_assoc, ← Int.pow_add, Nat.add_comm j t]
theorem or_sign {v b : Int} {e k : Nat} (h0 : 0 ≤ v) (h1 : v < 2 ^ e) (he : e ≤ k) (hk : k < 64) (hb : b = 0 ∨ b = 1) :
    bits .or .u64 (v + b * (2 ^ k - 2 ^ e)) (IntKind.u64.wrap (b * 2 ^ k)) = v + b * (2 ^ (k + 1) - 2 ^ e) := by
  have hp : (2 : Int) ^ e ≤ 2 ^ k := by
    have h : 2 ^ e ≤ 2 ^ k := Nat.pow_le_pow_right (by decide) he
    have a := pow_nat e
    have b := pow_nat k
    omega
  rw [or_low hk (by rcases hb with rfl | rfl <;> omega) (by rcases hb with rfl | rfl <;> omega) hb, Int.pow_succ]
  rcases hb with rfl | rfl <;> omega
end Go.Proofs.Ytakmnbahogogiaa
