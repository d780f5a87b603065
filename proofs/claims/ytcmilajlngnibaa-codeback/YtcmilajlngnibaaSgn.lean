/- Numbers with a sign: the contract of Signed of package bits. -/
import Derived.Test.YtcmilajlngnibaaFLeaf
import Derived.Test.YtcmilajlngnibaaPlainB
namespace Go.Proofs.Ytcmilajlngnibaa
open Go.RowKit

set_option maxHeartbeats 400000 in
theorem signed_c (value m : Int) (hv : Hid (0 ≤ value ∧ value < 18446744073709551616)) (w : World) :
    Calls Try.prog 86 #[.int .u64 value, .int .i64 m] w fun e w' => e = .returned (.tuple #[.int .u64 (signedV value m), .int .i64 (inE (inNumB m))]) ∧ w' = w := by
  by_cases hb : inNumB m = true
  · obtain ⟨h1, h2⟩ := inNum_of hb
    have hE := signed_walk value m hv hb
    replace hE := show Hid _ from hE
    go_enter Try.func86, Try.ntmps86
    go_wp2_with (go_at_call 91; refine (inNum_c _ _).mono ?_; rintro e w' ⟨rfl, rfl⟩)
    go_ret2
    exact ⟨ret_two hE.out (by rw [hb]; rfl), rfl⟩
  · have hb : inNumB m = false := by simpa using hb
    go_enter Try.func86, Try.ntmps86
    go_wp2_with (go_at_call 91; refine (inNum_c _ _).mono ?_; rintro e w' ⟨rfl, rfl⟩)
    go_ret2
    exact ⟨ret_two (by simp [signedV, hb]) (by rw [hb]; rfl), rfl⟩

end Go.Proofs.Ytcmilajlngnibaa
