/- The chapter's examples, which each statement asks first, come out as they should: the function 'examples' gives back true, whatever the order that Go leaves open. -/
import Derived.Test.YtpoaapncfojhoaaFields
import Derived.Test.YtpoaapncfojhoaaNumbers
import Derived.Test.YtpoaapncfojhoaaMasks
import Derived.Test.YtpoaapncfojhoaaParts
namespace Go.Proofs.Ytpoaapncfojhoaa
open Go.RowKit

theorem ex_field (w : World) : Calls Try.prog 10 #[.int .u32 2432697376, .int .i64 10, .int .i64 12] w fun e w' => e = .returned (.tuple #[.int .u32 1, .int .i64 0]) ∧ ∃ n, w' = w.drewN n := by
  have h := field_c 2432697376 10 12 ⟨by decide, by decide⟩ w
  rwa [show fieldV 2432697376 10 12 = 1 by decide +kernel, show inE (inWordB 10 12) = 0 by decide +kernel] at h

theorem ex_put (w : World) : Calls Try.prog 12 #[.int .u32 0, .int .i64 5, .int .i64 5, .int .u32 31] w fun e w' => e = .returned (.tuple #[.int .u32 992, .int .i64 0]) ∧ ∃ n, w' = w.drewN n := by
  have h := put_c 0 5 5 31 ⟨by decide, by decide⟩ ⟨by decide, by decide⟩ w
  rwa [show putV 0 5 5 31 = 992 by decide +kernel, show putE 5 5 31 = 0 by decide +kernel] at h

theorem ex_signed (w : World) : Calls Try.prog 14 #[.int .u64 511, .int .i64 9] w fun e w' => e = .returned (.tuple #[.int .u64 18446744073709551615, .int .i64 0]) ∧ w' = w := by
  have h := signed_c 511 9 ⟨by decide, by decide⟩ w
  rwa [show signedV 511 9 = 18446744073709551615 by decide +kernel, show inE (inNumB 9) = 0 by decide +kernel] at h

theorem ex_ror (w : World) : Calls Try.prog 16 #[.int .u64 2, .int .i64 1, .int .i64 4] w fun e w' => e = .returned (.tuple #[.int .u64 1, .int .i64 0]) ∧ ∃ n, w' = w.drewN n := by
  have h := ror_c 2 1 4 ⟨by decide, by decide⟩ w
  rwa [show rorV 2 1 4 = 1 by decide +kernel, show rorE 2 1 4 = 0 by decide +kernel] at h

theorem ex_mask (w : World) : Calls Try.prog 18 #[.int .i64 0, .int .i64 0, .int .i64 60] w fun e w' => e = .returned (.tuple #[.int .u64 6148914691236517205, .int .i64 0]) ∧ ∃ n, w' = w.drewN n := by
  have h := mask_c 0 0 60 w
  rwa [show maskV 0 0 60 = 6148914691236517205 by decide +kernel, show maskE 0 0 60 = 0 by decide +kernel] at h

theorem ex_none (w : World) : Calls Try.prog 18 #[.int .i64 1, .int .i64 0, .int .i64 63] w fun e w' => e = .returned (.tuple #[.int .u64 0, .int .i64 2]) ∧ ∃ n, w' = w.drewN n := by
  have h := mask_c 1 0 63 w
  rwa [show maskV 1 0 63 = 0 by decide +kernel, show maskE 1 0 63 = 2 by decide +kernel] at h

theorem parts255 : PartsAre 255 1 0 7 0 := by
  have hb : Hid ((0 : Int) ≤ 255 ∧ (255 : Int) < 18446744073709551616) := ⟨by decide, by decide⟩
  have n1 := none_start 255
  have n2 := none_next n1 (skip_end (mask := 255) hb (Or.inl (by decide +kernel)))
  have n3 := none_next n2 (skip_end (mask := 255) hb (Or.inl (by decide +kernel)))
  have n4 := none_next n3 (skip_end (mask := 255) hb (Or.inl (by decide +kernel)))
  have n5 := none_next n4 (skip_end (mask := 255) hb (Or.inl (by decide +kernel)))
  have n6 := none_next n5 (skip_end (mask := 255) hb (Or.inl (by decide +kernel)))
  obtain ⟨s, h1, h2, _⟩ := found_code (mask := 255) (t := 6) (r := 0) hb (by omega) (by omega) (by decide) n6 (fun r hr => absurd hr (by omega))
    (by decide +kernel) (by decide +kernel) (by decide +kernel) (by decide +kernel)
  rw [show onesP 255 6 = 8 by decide +kernel] at h2
  obtain rfl : s = 7 := by omega
  exact h1

theorem ex_parts (w : World) : Calls Try.prog 20 #[.int .u64 255] w fun e w' => e = .returned (.tuple #[.int .i64 1, .int .i64 0, .int .i64 7, .int .i64 0]) ∧ ∃ n, w' = w.drewN n := by
  refine (parts_c 255 ⟨by decide, by decide⟩ w).mono ?_
  rintro e w' ⟨⟨a, b, c, d, rfl, h⟩, hn⟩
  obtain ⟨rfl, rfl, rfl, rfl⟩ := parts_one h parts255
  exact ⟨rfl, hn⟩

set_option maxHeartbeats 800000 in
theorem examples_c (w : World) : Calls Try.prog 9 #[] w fun e w' => e = .returned (.bool true) ∧ ∃ n, w' = w.drewN n := by
  go_enter Try.func9, Try.ntmps9
  go_wp2_with fail
  refine (ex_field _).mono ?_
  rintro e w1 ⟨rfl, m1, rfl⟩
  go_wp2_with fail
  refine (ex_put _).mono ?_
  rintro e w1 ⟨rfl, m2, rfl⟩
  go_wp2_with fail
  refine (ex_signed _).mono ?_
  rintro e w1 ⟨rfl, rfl⟩
  go_wp2_with fail
  refine (ex_ror _).mono ?_
  rintro e w1 ⟨rfl, m3, rfl⟩
  go_wp2_with fail
  refine (ex_mask _).mono ?_
  rintro e w1 ⟨rfl, m4, rfl⟩
  go_wp2_with fail
  refine (ex_none _).mono ?_
  rintro e w1 ⟨rfl, m5, rfl⟩
  go_wp2_with fail
  refine (ex_parts _).mono ?_
  rintro e w1 ⟨rfl, m6, rfl⟩
  go_wp2
  go_ret
  exact ⟨rfl, _, rfl⟩

end Go.Proofs.Ytpoaapncfojhoaa
