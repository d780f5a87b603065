/- What Signed and Ror of package bits, and of the document's own answer, give back, for all numbers: contracts. -/
import Derived.Test.YtakmnbahogogiaaLeaf
import Derived.Test.YtakmnbahogogiaaPlainB
namespace Go.Proofs.Ytakmnbahogogiaa
open Go.RowKit

set_option maxHeartbeats 400000 in
theorem signed_c (value m : Int) (hv : Hid (0 ≤ value ∧ value < 18446744073709551616)) (w : World) :
    Calls Try.prog 29 #[.int .u64 value, .int .i64 m] w fun e w' => e = .returned (.tuple #[.int .u64 (signedV value m), .int .i64 (inE (inNumB m))]) ∧ w' = w := by
  by_cases hb : inNumB m = true
  · obtain ⟨h1, h2⟩ := inNum_of hb
    have hE := signed_walk value m hv hb
    replace hE := show Hid _ from hE
    go_enter Try.func29, Try.ntmps29
    go_wp2_with (go_at_call 46; refine (inNum_c _ _).mono ?_; rintro e w' ⟨rfl, rfl⟩)
    go_ret2
    exact ⟨ret_two hE.out (by rw [hb]; rfl), rfl⟩
  · have hb : inNumB m = false := by simpa using hb
    go_enter Try.func29, Try.ntmps29
    go_wp2_with (go_at_call 46; refine (inNum_c _ _).mono ?_; rintro e w' ⟨rfl, rfl⟩)
    go_ret2
    exact ⟨ret_two (by simp [signedV, hb]) (by rw [hb]; rfl), rfl⟩

set_option maxHeartbeats 400000 in
theorem turn_c (v b m : Int) (hv : Hid (0 ≤ v ∧ v < 18446744073709551616)) (hb : 0 ≤ b) (hm : 1 ≤ m) (hm2 : m ≤ 64) (w : World) :
    Calls Try.prog 49 #[.int .u64 v, .int .i64 b, .int .i64 m] w fun e w' => e = .returned (.int .u64 (turnF v b m)) ∧ ∃ n, w' = w.drewN n := by
  have hE := turn_walk v b m hv hb hm hm2
  replace hE := show Hid _ from hE
  have r1 : 0 ≤ b % m := Int.emod_nonneg _ (by omega)
  have r2 : b % m < m := Int.emod_lt_of_pos _ (by omega)
  go_enter Try.func49, Try.ntmps49
  go_wp2
  go_quiet ((go_at_call 48; exact Calls.quiet_of_same (low_c _ (by omega) _)))
  go_wp2
  go_ret
  exact ⟨ret_int hE.out, _, rfl⟩

set_option maxHeartbeats 400000 in
theorem ror_c (v b m : Int) (hv : Hid (0 ≤ v ∧ v < 18446744073709551616)) (w : World) :
    Calls Try.prog 47 #[.int .u64 v, .int .i64 b, .int .i64 m] w fun e w' => e = .returned (.tuple #[.int .u64 (rorV v b m), .int .i64 (rorE v b m)]) ∧ ∃ n, w' = w.drewN n := by
  by_cases hb : inNumB m = true
  · obtain ⟨h1, h2⟩ := inNum_of hb
    by_cases h0 : 0 ≤ b
    · by_cases hf : fits64 v m = true
      · have hl : v ≤ lowF m := (fits64_low hv.out.1 h2).1 hf
        have hE := ror_walk hb h0 hf
        have hE2 := (ror_yes hb h0 hf).2
        replace hE := show Hid _ from hE
        replace hE2 := show Hid _ from hE2
        go_enter Try.func47, Try.ntmps47
        go_wp2_with (first | (go_at_call 46; refine (inNum_c _ _).mono ?_; rintro e w' ⟨rfl, rfl⟩) | (go_at_call 48; refine (low_c _ (by omega) _).mono ?_; rintro e w' ⟨rfl, rfl⟩) | (go_at_call 49; refine (turn_c _ _ _ hv h0 h1 h2 _).mono ?_; rintro e w' ⟨rfl, n, rfl⟩))
        go_ret2
        exact ⟨ret_two hE.out hE2.out.symm, _, rfl⟩
      · have hl : lowF m < v := Int.not_le.mp fun h => hf ((fits64_low hv.out.1 h2).2 h)
        have hE := ror_no hb h0 (by simpa using hf)
        replace hE := show Hid _ from hE
        go_enter Try.func47, Try.ntmps47
        go_wp2_with (first | (go_at_call 46; refine (inNum_c _ _).mono ?_; rintro e w' ⟨rfl, rfl⟩) | (go_at_call 48; refine (low_c _ (by omega) _).mono ?_; rintro e w' ⟨rfl, rfl⟩))
        go_ret2
        exact ⟨ret_two hE.out.1.symm hE.out.2.symm, 0, rfl⟩
    · have hE := ror_arg (value := v) (b := b) (m := m) (by omega)
      replace hE := show Hid _ from hE
      go_enter Try.func47, Try.ntmps47
      go_wp2_with (first | (go_at_call 46; refine (inNum_c _ _).mono ?_; rintro e w' ⟨rfl, rfl⟩))
      go_ret2
      exact ⟨ret_two hE.out.1.symm hE.out.2.symm, 0, rfl⟩
  · have hE := ror_arg (value := v) (b := b) (m := m) (by unfold inNumB at hb; rw [decide_eq_true_eq] at hb; omega)
    replace hE := show Hid _ from hE
    have hb : inNumB m = false := by simpa using hb
    go_enter Try.func47, Try.ntmps47
    go_wp2_with (first | (go_at_call 46; refine (inNum_c _ _).mono ?_; rintro e w' ⟨rfl, rfl⟩))
    all_goals (go_ret2; exact ⟨ret_two hE.out.1.symm hE.out.2.symm, 0, rfl⟩)

theorem ror_place {k : Nat} {b m : Int} (h0 : 0 ≤ b) (h1 : 1 ≤ m) : (((k : Int) + b) % m).toNat = (k + b.toNat % m.toNat) % m.toNat := by
  obtain ⟨B, rfl⟩ := Int.eq_ofNat_of_zero_le h0
  obtain ⟨M, rfl⟩ := Int.eq_ofNat_of_zero_le (show 0 ≤ m by omega)
  have e : (((k : Int) + (B : Int)) % (M : Int)) = (((k + B % M) % M : Nat) : Int) := by simp
  rw [e]
  simp only [Int.toNat_natCast]

end Go.Proofs.Ytakmnbahogogiaa
