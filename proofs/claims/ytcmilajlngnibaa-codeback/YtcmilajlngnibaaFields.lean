/- What Field and Put of package bits, and of the document's own answer, give back, for all words and numbers: contracts. -/
import Derived.Test.YtcmilajlngnibaaFLeaf
namespace Go.Proofs.Ytcmilajlngnibaa
open Go.RowKit

set_option maxHeartbeats 400000 in
theorem field_c (word a m : Int) (hw : Hid (0 ≤ word ∧ word < 4294967296)) (w : World) :
    Calls Try.prog 84 #[.int .u32 word, .int .i64 a, .int .i64 m] w fun e w' => e = .returned (.tuple #[.int .u32 (fieldV word a m), .int .i64 (inE (inWordB a m))]) ∧ ∃ n, w' = w.drewN n := by
  by_cases hb : inWordB a m = true
  · obtain ⟨h1, h2, h3, h4⟩ := inWord_of hb
    have hE : Hid (bits .and .u32 (word / 2 ^ a.toNat) (lowWordF m) = fieldV word a m) := field_walk word a m hw hb
    go_enter Try.func84, Try.ntmps84
    go_wp2_with (go_at_call 89; refine (inWord_c _ _ _).mono ?_; rintro e w' ⟨rfl, rfl⟩)
    go_quiet ((go_at_call 90; exact Calls.quiet_of_same (lowWord_c _ (by omega) (by omega) _)))
    go_wp2
    go_ret2
    exact ⟨ret_two hE.out (by rw [hb]; rfl), _, rfl⟩
  · have hb : inWordB a m = false := by simpa using hb
    go_enter Try.func84, Try.ntmps84
    go_wp2_with (go_at_call 89; refine (inWord_c _ _ _).mono ?_; rintro e w' ⟨rfl, rfl⟩)
    go_ret2
    exact ⟨ret_two (by simp [fieldV, hb]) (by rw [hb]; rfl), 0, rfl⟩

set_option maxHeartbeats 400000 in
theorem put_c (word a m value : Int) (hw : Hid (0 ≤ word ∧ word < 4294967296)) (hv : Hid (0 ≤ value ∧ value < 4294967296)) (w : World) :
    Calls Try.prog 85 #[.int .u32 word, .int .i64 a, .int .i64 m, .int .u32 value] w fun e w' => e = .returned (.tuple #[.int .u32 (putV word a m value), .int .i64 (putE a m value)]) ∧ ∃ n, w' = w.drewN n := by
  by_cases hb : inWordB a m = true
  · obtain ⟨h1, h2, h3, h4⟩ := inWord_of hb
    by_cases hf : fitsB value m = true
    · have hE : Hid (bits .or .u32 (bits .andNot .u32 word (lowWordF m * 2 ^ a.toNat % 4294967296)) (value * 2 ^ a.toNat % 4294967296) = putV word a m value) := put_walk word a m value hw hv hb hf
      have hl : value ≤ lowWordF m := (fits_low hv.out.1).1 hf
      go_enter Try.func85, Try.ntmps85
      go_wp2_with (first | (go_at_call 89; refine (inWord_c _ _ _).mono ?_; rintro e w' ⟨rfl, rfl⟩) | (go_at_call 90; refine (lowWord_c _ (by omega) (by omega) _).mono ?_; rintro e w' ⟨rfl, rfl⟩))
      go_quiet ((go_at_call 90; exact Calls.quiet_of_same (lowWord_c _ (by omega) (by omega) _)))
      go_wp2
      go_ret2
      exact ⟨ret_two hE.out (by simp [putE, hb, hf]), _, rfl⟩
    · have hl : lowWordF m < value := Int.not_le.mp fun h => hf ((fits_low hv.out.1).2 h)
      go_enter Try.func85, Try.ntmps85
      go_wp2_with (first | (go_at_call 89; refine (inWord_c _ _ _).mono ?_; rintro e w' ⟨rfl, rfl⟩) | (go_at_call 90; refine (lowWord_c _ (by omega) (by omega) _).mono ?_; rintro e w' ⟨rfl, rfl⟩))
      go_ret2
      exact ⟨ret_two (by simp [putV, hf]) (by simp [putE, hb, hf]), 0, rfl⟩
  · have hb : inWordB a m = false := by simpa using hb
    go_enter Try.func85, Try.ntmps85
    go_wp2_with (go_at_call 89; refine (inWord_c _ _ _).mono ?_; rintro e w' ⟨rfl, rfl⟩)
    go_ret2
    exact ⟨ret_two (by simp [putV, hb]) (by simp [putE, hb]), 0, rfl⟩

end Go.Proofs.Ytcmilajlngnibaa
