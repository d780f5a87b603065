/- From stage 5: Numbers. -/
import Derived.Test.YtioeiogcejikbaaDoorALeaf
import Derived.Test.YtioeiogcejikbaaDoorAPlainB
namespace Go.Proofs.YtioeiogcejikbaaDoor.Alu
open Go.RowKit
set_option linter.unusedVariables false
set_option linter.unusedSimpArgs false
set_option maxRecDepth 8000

set_option maxHeartbeats 400000 in
theorem turn_c (v b m : Int) (hv : Hid (0 ≤ v ∧ v < 18446744073709551616)) (hb : 0 ≤ b) (hm : 1 ≤ m) (hm2 : m ≤ 64) (w : World) :
    Calls Tryd.prog 88 #[.int .u64 v, .int .i64 b, .int .i64 m] w fun e w' => e = .returned (.int .u64 (turnF v b m)) ∧ ∃ n, w' = w.drewN n := by
  have hE := turn_walk v b m hv hb hm hm2
  replace hE := show Hid _ from hE
  have r1 : 0 ≤ b % m := Int.emod_nonneg _ (by omega)
  have r2 : b % m < m := Int.emod_lt_of_pos _ (by omega)
  go_enter Tryd.func88, Tryd.ntmps88
  go_wp2
  go_quiet ((go_at_call 87; exact Calls.quiet_of_same (low_c _ (by omega) _)))
  go_wp2
  go_ret
  exact ⟨ret_int hE.out, _, rfl⟩

set_option maxHeartbeats 400000 in
theorem ror_c (v b m : Int) (hv : Hid (0 ≤ v ∧ v < 18446744073709551616)) (w : World) :
    Calls Tryd.prog 79 #[.int .u64 v, .int .i64 b, .int .i64 m] w fun e w' => e = .returned (.tuple #[.int .u64 (rorV v b m), .int .i64 (rorE v b m)]) ∧ ∃ n, w' = w.drewN n := by
  by_cases hb : inNumB m = true
  · obtain ⟨h1, h2⟩ := inNum_of hb
    by_cases h0 : 0 ≤ b
    · by_cases hf : fits64 v m = true
      · have hl : v ≤ lowF m := (fits64_low hv.out.1 h2).1 hf
        have hE := ror_walk hb h0 hf
        have hE2 := (ror_yes hb h0 hf).2
        replace hE := show Hid _ from hE
        replace hE2 := show Hid _ from hE2
        go_enter Tryd.func79, Tryd.ntmps79
        go_wp2_with (first | (go_at_call 86; refine (inNum_c _ _).mono ?_; rintro e w' ⟨rfl, rfl⟩) | (go_at_call 87; refine (low_c _ (by omega) _).mono ?_; rintro e w' ⟨rfl, rfl⟩) | (go_at_call 88; refine (turn_c _ _ _ hv h0 h1 h2 _).mono ?_; rintro e w' ⟨rfl, n, rfl⟩))
        go_ret2
        exact ⟨ret_two hE.out hE2.out.symm, _, rfl⟩
      · have hl : lowF m < v := Int.not_le.mp fun h => hf ((fits64_low hv.out.1 h2).2 h)
        have hE := ror_no hb h0 (by simpa using hf)
        replace hE := show Hid _ from hE
        go_enter Tryd.func79, Tryd.ntmps79
        go_wp2_with (first | (go_at_call 86; refine (inNum_c _ _).mono ?_; rintro e w' ⟨rfl, rfl⟩) | (go_at_call 87; refine (low_c _ (by omega) _).mono ?_; rintro e w' ⟨rfl, rfl⟩))
        go_ret2
        exact ⟨ret_two hE.out.1.symm hE.out.2.symm, 0, rfl⟩
    · have hE := ror_arg (value := v) (b := b) (m := m) (by omega)
      replace hE := show Hid _ from hE
      go_enter Tryd.func79, Tryd.ntmps79
      go_wp2_with (first | (go_at_call 86; refine (inNum_c _ _).mono ?_; rintro e w' ⟨rfl, rfl⟩))
      go_ret2
      exact ⟨ret_two hE.out.1.symm hE.out.2.symm, 0, rfl⟩
  · have hE := ror_arg (value := v) (b := b) (m := m) (by unfold inNumB at hb; rw [decide_eq_true_eq] at hb; omega)
    replace hE := show Hid _ from hE
    have hb : inNumB m = false := by simpa using hb
    go_enter Tryd.func79, Tryd.ntmps79
    go_wp2_with (first | (go_at_call 86; refine (inNum_c _ _).mono ?_; rintro e w' ⟨rfl, rfl⟩))
    all_goals (go_ret2; exact ⟨ret_two hE.out.1.symm hE.out.2.symm, 0, rfl⟩)

theorem ror_place {k : Nat} {b m : Int} (h0 : 0 ≤ b) (h1 : 1 ≤ m) : (((k : Int) + b) % m).toNat = (k + b.toNat % m.toNat) % m.toNat := by
  obtain ⟨B, rfl⟩ := Int.eq_ofNat_of_zero_le h0
  obtain ⟨M, rfl⟩ := Int.eq_ofNat_of_zero_le (show 0 ≤ m by omega)
  have e : (((k : Int) + (B : Int)) % (M : Int)) = (((k + B % M) % M : Nat) : Int) := by simp
  rw [e]
  simp only [Int.toNat_natCast]
end Go.Proofs.YtioeiogcejikbaaDoor.Alu
