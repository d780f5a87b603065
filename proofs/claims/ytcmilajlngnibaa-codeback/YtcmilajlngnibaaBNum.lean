/- What Signed and Ror of package bits, and of the document's own answer, give back, for all numbers: contracts. -/
import Derived.Test.YtcmilajlngnibaaBLeaf
import Derived.Test.YtcmilajlngnibaaPlainB
namespace Go.Proofs.Ytcmilajlngnibaa
open Go.RowKit

set_option maxHeartbeats 400000 in
theorem turn_c (v b m : Int) (hv : Hid (0 ≤ v ∧ v < 18446744073709551616)) (hb : 0 ≤ b) (hm : 1 ≤ m) (hm2 : m ≤ 64) (w : World) :
    Calls Try.prog 96 #[.int .u64 v, .int .i64 b, .int .i64 m] w fun e w' => e = .returned (.int .u64 (turnF v b m)) ∧ ∃ n, w' = w.drewN n := by
  have hE := turn_walk v b m hv hb hm hm2
  replace hE := show Hid _ from hE
  have r1 : 0 ≤ b % m := Int.emod_nonneg _ (by omega)
  have r2 : b % m < m := Int.emod_lt_of_pos _ (by omega)
  go_enter Try.func96, Try.ntmps96
  go_wp2
  go_quiet ((go_at_call 94; exact Calls.quiet_of_same (low_c _ (by omega) _)))
  go_wp2
  go_ret
  exact ⟨ret_int hE.out, _, rfl⟩

theorem ror_place {k : Nat} {b m : Int} (h0 : 0 ≤ b) (h1 : 1 ≤ m) : (((k : Int) + b) % m).toNat = (k + b.toNat % m.toNat) % m.toNat := by
  obtain ⟨B, rfl⟩ := Int.eq_ofNat_of_zero_le h0
  obtain ⟨M, rfl⟩ := Int.eq_ofNat_of_zero_le (show 0 ≤ m by omega)
  have e : (((k : Int) + (B : Int)) % (M : Int)) = (((k + B % M) % M : Nat) : Int) := by simp
  rw [e]
  simp only [Int.toNat_natCast]

end Go.Proofs.Ytcmilajlngnibaa
