/- Small numbers as digits. -/
import Derived.Test.YtioeiogcejikbaaDoorHg
namespace Go.Proofs.YtioeiogcejikbaaDoor
open Go.RowKit
set_option linter.unusedVariables false
set_option linter.unusedSimpArgs false
set_option maxRecDepth 8000

theorem nd (w : World) : Below w.heap.size w w := Below.refl _ _
set_option maxHeartbeats 1000000 in
theorem small_0 (w : World) : Calls Tryd.prog 75 #[vI 0] w fun e w' => e = .returned (.string ⟨#[48]⟩) ∧ w' = w := by
  go_enter Tryd.func75, Tryd.ntmps75
  go_wp2
  go_ret
  exact ⟨by kernel_rfl, rfl⟩
set_option maxHeartbeats 1000000 in
theorem itoa_0 (w : World) : Calls Tryd.prog 22 #[vI 0] w fun e w' => e = .returned (.string ⟨#[48]⟩) ∧ w' = w := by
  have k3 := small_0 w
  have k2 : Calls Tryd.prog 56 #[vI 0, vI 10] w fun e w' => e = .returned (.string ⟨#[48]⟩) ∧ w' = w := by
    go_enter Tryd.func56, Tryd.ntmps56
    go_wp2_with (first | (go_at_call 75; (with_reducible refine k3.mono ?_); rintro e w ⟨rfl, rfl⟩; dsimp only))
    go_ret
    exact ⟨rfl, rfl⟩
  have k1 : Calls Tryd.prog 37 #[vI 0] w fun e w' => e = .returned (.string ⟨#[48]⟩) ∧ w' = w := by
    go_enter Tryd.func37, Tryd.ntmps37
    go_wp2_with (first | (go_at_call 56; (with_reducible refine k2.mono ?_); rintro e w ⟨rfl, rfl⟩; dsimp only))
    go_ret
    exact ⟨rfl, rfl⟩
  go_enter Tryd.func22, Tryd.ntmps22
  go_wp2_with (first | (go_at_call 37; (with_reducible refine k1.mono ?_); rintro e w ⟨rfl, rfl⟩; dsimp only))
  go_ret
  exact ⟨rfl, rfl⟩
set_option maxHeartbeats 1000000 in
theorem uint_0 (w : World) : Calls Tryd.prog 40 #[vU 0, vI 10] w fun e w' => e = .returned (.string ⟨#[48]⟩) ∧ w' = w := by
  have k3 := small_0 w
  have k2 : Calls Tryd.prog 57 #[vU 0, vI 10] w fun e w' => e = .returned (.string ⟨#[48]⟩) ∧ w' = w := by
    go_enter Tryd.func57, Tryd.ntmps57
    go_wp2_with (first | (go_at_call 75; (with_reducible refine k3.mono ?_); rintro e w ⟨rfl, rfl⟩; dsimp only))
    go_ret
    exact ⟨rfl, rfl⟩
  go_enter Tryd.func40, Tryd.ntmps40
  go_wp2_with (first | (go_at_call 57; (with_reducible refine k2.mono ?_); rintro e w ⟨rfl, rfl⟩; dsimp only))
  go_ret
  exact ⟨rfl, rfl⟩
set_option maxHeartbeats 1000000 in
theorem small_1 (w : World) : Calls Tryd.prog 75 #[vI 1] w fun e w' => e = .returned (.string ⟨#[49]⟩) ∧ w' = w := by
  go_enter Tryd.func75, Tryd.ntmps75
  go_wp2
  go_ret
  exact ⟨by kernel_rfl, rfl⟩
set_option maxHeartbeats 1000000 in
theorem itoa_1 (w : World) : Calls Tryd.prog 22 #[vI 1] w fun e w' => e = .returned (.string ⟨#[49]⟩) ∧ w' = w := by
  have k3 := small_1 w
  have k2 : Calls Tryd.prog 56 #[vI 1, vI 10] w fun e w' => e = .returned (.string ⟨#[49]⟩) ∧ w' = w := by
    go_enter Tryd.func56, Tryd.ntmps56
    go_wp2_with (first | (go_at_call 75; (with_reducible refine k3.mono ?_); rintro e w ⟨rfl, rfl⟩; dsimp only))
    go_ret
    exact ⟨rfl, rfl⟩
  have k1 : Calls Tryd.prog 37 #[vI 1] w fun e w' => e = .returned (.string ⟨#[49]⟩) ∧ w' = w := by
    go_enter Tryd.func37, Tryd.ntmps37
    go_wp2_with (first | (go_at_call 56; (with_reducible refine k2.mono ?_); rintro e w ⟨rfl, rfl⟩; dsimp only))
    go_ret
    exact ⟨rfl, rfl⟩
  go_enter Tryd.func22, Tryd.ntmps22
  go_wp2_with (first | (go_at_call 37; (with_reducible refine k1.mono ?_); rintro e w ⟨rfl, rfl⟩; dsimp only))
  go_ret
  exact ⟨rfl, rfl⟩
set_option maxHeartbeats 1000000 in
theorem small_2 (w : World) : Calls Tryd.prog 75 #[vI 2] w fun e w' => e = .returned (.string ⟨#[50]⟩) ∧ w' = w := by
  go_enter Tryd.func75, Tryd.ntmps75
  go_wp2
  go_ret
  exact ⟨by kernel_rfl, rfl⟩
set_option maxHeartbeats 1000000 in
theorem itoa_2 (w : World) : Calls Tryd.prog 22 #[vI 2] w fun e w' => e = .returned (.string ⟨#[50]⟩) ∧ w' = w := by
  have k3 := small_2 w
  have k2 : Calls Tryd.prog 56 #[vI 2, vI 10] w fun e w' => e = .returned (.string ⟨#[50]⟩) ∧ w' = w := by
    go_enter Tryd.func56, Tryd.ntmps56
    go_wp2_with (first | (go_at_call 75; (with_reducible refine k3.mono ?_); rintro e w ⟨rfl, rfl⟩; dsimp only))
    go_ret
    exact ⟨rfl, rfl⟩
  have k1 : Calls Tryd.prog 37 #[vI 2] w fun e w' => e = .returned (.string ⟨#[50]⟩) ∧ w' = w := by
    go_enter Tryd.func37, Tryd.ntmps37
    go_wp2_with (first | (go_at_call 56; (with_reducible refine k2.mono ?_); rintro e w ⟨rfl, rfl⟩; dsimp only))
    go_ret
    exact ⟨rfl, rfl⟩
  go_enter Tryd.func22, Tryd.ntmps22
  go_wp2_with (first | (go_at_call 37; (with_reducible refine k1.mono ?_); rintro e w ⟨rfl, rfl⟩; dsimp only))
  go_ret
  exact ⟨rfl, rfl⟩
set_option maxHeartbeats 1000000 in
theorem small_3 (w : World) : Calls Tryd.prog 75 #[vI 3] w fun e w' => e = .returned (.string ⟨#[51]⟩) ∧ w' = w := by
  go_enter Tryd.func75, Tryd.ntmps75
  go_wp2
  go_ret
  exact ⟨by kernel_rfl, rfl⟩
set_option maxHeartbeats 1000000 in
theorem itoa_3 (w : World) : Calls Tryd.prog 22 #[vI 3] w fun e w' => e = .returned (.string ⟨#[51]⟩) ∧ w' = w := by
  have k3 := small_3 w
  have k2 : Calls Tryd.prog 56 #[vI 3, vI 10] w fun e w' => e = .returned (.string ⟨#[51]⟩) ∧ w' = w := by
    go_enter Tryd.func56, Tryd.ntmps56
    go_wp2_with (first | (go_at_call 75; (with_reducible refine k3.mono ?_); rintro e w ⟨rfl, rfl⟩; dsimp only))
    go_ret
    exact ⟨rfl, rfl⟩
  have k1 : Calls Tryd.prog 37 #[vI 3] w fun e w' => e = .returned (.string ⟨#[51]⟩) ∧ w' = w := by
    go_enter Tryd.func37, Tryd.ntmps37
    go_wp2_with (first | (go_at_call 56; (with_reducible refine k2.mono ?_); rintro e w ⟨rfl, rfl⟩; dsimp only))
    go_ret
    exact ⟨rfl, rfl⟩
  go_enter Tryd.func22, Tryd.ntmps22
  go_wp2_with (first | (go_at_call 37; (with_reducible refine k1.mono ?_); rintro e w ⟨rfl, rfl⟩; dsimp only))
  go_ret
  exact ⟨rfl, rfl⟩
set_option maxHeartbeats 1000000 in
theorem small_4 (w : World) : Calls Tryd.prog 75 #[vI 4] w fun e w' => e = .returned (.string ⟨#[52]⟩) ∧ w' = w := by
  go_enter Tryd.func75, Tryd.ntmps75
  go_wp2
  go_ret
  exact ⟨by kernel_rfl, rfl⟩
set_option maxHeartbeats 1000000 in
theorem itoa_4 (w : World) : Calls Tryd.prog 22 #[vI 4] w fun e w' => e = .returned (.string ⟨#[52]⟩) ∧ w' = w := by
  have k3 := small_4 w
  have k2 : Calls Tryd.prog 56 #[vI 4, vI 10] w fun e w' => e = .returned (.string ⟨#[52]⟩) ∧ w' = w := by
    go_enter Tryd.func56, Tryd.ntmps56
    go_wp2_with (first | (go_at_call 75; (with_reducible refine k3.mono ?_); rintro e w ⟨rfl, rfl⟩; dsimp only))
    go_ret
    exact ⟨rfl, rfl⟩
  have k1 : Calls Tryd.prog 37 #[vI 4] w fun e w' => e = .returned (.string ⟨#[52]⟩) ∧ w' = w := by
    go_enter Tryd.func37, Tryd.ntmps37
    go_wp2_with (first | (go_at_call 56; (with_reducible refine k2.mono ?_); rintro e w ⟨rfl, rfl⟩; dsimp only))
    go_ret
    exact ⟨rfl, rfl⟩
  go_enter Tryd.func22, Tryd.ntmps22
  go_wp2_with (first | (go_at_call 37; (with_reducible refine k1.mono ?_); rintro e w ⟨rfl, rfl⟩; dsimp only))
  go_ret
  exact ⟨rfl, rfl⟩
set_option maxHeartbeats 1000000 in
theorem small_5 (w : World) : Calls Tryd.prog 75 #[vI 5] w fun e w' => e = .returned (.string ⟨#[53]⟩) ∧ w' = w := by
  go_enter Tryd.func75, Tryd.ntmps75
  go_wp2
  go_ret
  exact ⟨by kernel_rfl, rfl⟩
set_option maxHeartbeats 1000000 in
theorem itoa_5 (w : World) : Calls Tryd.prog 22 #[vI 5] w fun e w' => e = .returned (.string ⟨#[53]⟩) ∧ w' = w := by
  have k3 := small_5 w
  have k2 : Calls Tryd.prog 56 #[vI 5, vI 10] w fun e w' => e = .returned (.string ⟨#[53]⟩) ∧ w' = w := by
    go_enter Tryd.func56, Tryd.ntmps56
    go_wp2_with (first | (go_at_call 75; (with_reducible refine k3.mono ?_); rintro e w ⟨rfl, rfl⟩; dsimp only))
    go_ret
    exact ⟨rfl, rfl⟩
  have k1 : Calls Tryd.prog 37 #[vI 5] w fun e w' => e = .returned (.string ⟨#[53]⟩) ∧ w' = w := by
    go_enter Tryd.func37, Tryd.ntmps37
    go_wp2_with (first | (go_at_call 56; (with_reducible refine k2.mono ?_); rintro e w ⟨rfl, rfl⟩; dsimp only))
    go_ret
    exact ⟨rfl, rfl⟩
  go_enter Tryd.func22, Tryd.ntmps22
  go_wp2_with (first | (go_at_call 37; (with_reducible refine k1.mono ?_); rintro e w ⟨rfl, rfl⟩; dsimp only))
  go_ret
  exact ⟨rfl, rfl⟩
set_option maxHeartbeats 1000000 in
theorem small_6 (w : World) : Calls Tryd.prog 75 #[vI 6] w fun e w' => e = .returned (.string ⟨#[54]⟩) ∧ w' = w := by
  go_enter Tryd.func75, Tryd.ntmps75
  go_wp2
  go_ret
  exact ⟨by kernel_rfl, rfl⟩
set_option maxHeartbeats 1000000 in
theorem itoa_6 (w : World) : Calls Tryd.prog 22 #[vI 6] w fun e w' => e = .returned (.string ⟨#[54]⟩) ∧ w' = w := by
  have k3 := small_6 w
  have k2 : Calls Tryd.prog 56 #[vI 6, vI 10] w fun e w' => e = .returned (.string ⟨#[54]⟩) ∧ w' = w := by
    go_enter Tryd.func56, Tryd.ntmps56
    go_wp2_with (first | (go_at_call 75; (with_reducible refine k3.mono ?_); rintro e w ⟨rfl, rfl⟩; dsimp only))
    go_ret
    exact ⟨rfl, rfl⟩
  have k1 : Calls Tryd.prog 37 #[vI 6] w fun e w' => e = .returned (.string ⟨#[54]⟩) ∧ w' = w := by
    go_enter Tryd.func37, Tryd.ntmps37
    go_wp2_with (first | (go_at_call 56; (with_reducible refine k2.mono ?_); rintro e w ⟨rfl, rfl⟩; dsimp only))
    go_ret
    exact ⟨rfl, rfl⟩
  go_enter Tryd.func22, Tryd.ntmps22
  go_wp2_with (first | (go_at_call 37; (with_reducible refine k1.mono ?_); rintro e w ⟨rfl, rfl⟩; dsimp only))
  go_ret
  exact ⟨rfl, rfl⟩
set_option maxHeartbeats 1000000 in
theorem small_64 (w : World) : Calls Tryd.prog 75 #[vI 64] w fun e w' => e = .returned (.string ⟨#[54, 52]⟩) ∧ w' = w := by
  go_enter Tryd.func75, Tryd.ntmps75
  go_wp2
  go_ret
  exact ⟨by kernel_rfl, rfl⟩
set_option maxHeartbeats 1000000 in
theorem uint_64 (w : World) : Calls Tryd.prog 40 #[vU 64, vI 10] w fun e w' => e = .returned (.string ⟨#[54, 52]⟩) ∧ w' = w := by
  have k3 := small_64 w
  have k2 : Calls Tryd.prog 57 #[vU 64, vI 10] w fun e w' => e = .returned (.string ⟨#[54, 52]⟩) ∧ w' = w := by
    go_enter Tryd.func57, Tryd.ntmps57
    go_wp2_with (first | (go_at_call 75; (with_reducible refine k3.mono ?_); rintro e w ⟨rfl, rfl⟩; dsimp only))
    go_ret
    exact ⟨rfl, rfl⟩
  go_enter Tryd.func40, Tryd.ntmps40
  go_wp2_with (first | (go_at_call 57; (with_reducible refine k2.mono ?_); rintro e w ⟨rfl, rfl⟩; dsimp only))
  go_ret
  exact ⟨rfl, rfl⟩
set_option maxHeartbeats 1000000 in
theorem small_68 (w : World) : Calls Tryd.prog 75 #[vI 68] w fun e w' => e = .returned (.string ⟨#[54, 56]⟩) ∧ w' = w := by
  go_enter Tryd.func75, Tryd.ntmps75
  go_wp2
  go_ret
  exact ⟨by kernel_rfl, rfl⟩
set_option maxHeartbeats 1000000 in
theorem uint_68 (w : World) : Calls Tryd.prog 40 #[vU 68, vI 10] w fun e w' => e = .returned (.string ⟨#[54, 56]⟩) ∧ w' = w := by
  have k3 := small_68 w
  have k2 : Calls Tryd.prog 57 #[vU 68, vI 10] w fun e w' => e = .returned (.string ⟨#[54, 56]⟩) ∧ w' = w := by
    go_enter Tryd.func57, Tryd.ntmps57
    go_wp2_with (first | (go_at_call 75; (with_reducible refine k3.mono ?_); rintro e w ⟨rfl, rfl⟩; dsimp only))
    go_ret
    exact ⟨rfl, rfl⟩
  go_enter Tryd.func40, Tryd.ntmps40
  go_wp2_with (first | (go_at_call 57; (with_reducible refine k2.mono ?_); rintro e w ⟨rfl, rfl⟩; dsimp only))
  go_ret
  exact ⟨rfl, rfl⟩
end Go.Proofs.YtioeiogcejikbaaDoor
