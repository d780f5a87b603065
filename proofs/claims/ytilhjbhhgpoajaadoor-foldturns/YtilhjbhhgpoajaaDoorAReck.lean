/- From stage 5: Reck. -/
import Derived.Test.YtilhjbhhgpoajaaDoorAWay
import Derived.Test.YtilhjbhhgpoajaaDoorXd
namespace Go.Proofs.YtilhjbhhgpoajaaDoor.Alu
open Go.RowKit
set_option linter.unusedVariables false
set_option linter.unusedSimpArgs false
set_option maxRecDepth 8000

set_option linter.unusedVariables false
theorem reckon_1 (a b : Int) (ha : Hid (U64 a)) (hb : Hid (U64 b)) (w : World) :
    Calls Tryd.prog 43 #[.int .i64 1, .int .u64 a, .int .u64 b] w fun e w' => e = .returned (.tuple #[.int .u64 (reckonV 1 a b), .int .i64 0]) ∧ Below w.heap.size w w' := by
  have H := has_none w
  go_enter Tryd.func43, Tryd.ntmps43
  go_wp2_with (first | (go_at_call 48; refine (way_c 1 (.func (.func 54) #[] #[]) (by decide) (by decide) rfl _).mono ?_; rintro e w1 ⟨rfl, hb⟩; replace H := H.grow hb; clear hb; dsimp only) | (go_at_call 54; refine (m1 _ _ _).mono ?_; rintro e w1 ⟨rfl, hb⟩; replace H := H.grow hb; clear hb; dsimp only))
  go_ret2
  exact ⟨rfl, H.below⟩
theorem reckon_2 (a b : Int) (ha : Hid (U64 a)) (hb : Hid (U64 b)) (w : World) :
    Calls Tryd.prog 43 #[.int .i64 2, .int .u64 a, .int .u64 b] w fun e w' => e = .returned (.tuple #[.int .u64 (reckonV 2 a b), .int .i64 0]) ∧ Below w.heap.size w w' := by
  have H := has_none w
  go_enter Tryd.func43, Tryd.ntmps43
  go_wp2_with (first | (go_at_call 48; refine (way_c 2 (.func (.func 55) #[] #[]) (by decide) (by decide) rfl _).mono ?_; rintro e w1 ⟨rfl, hb⟩; replace H := H.grow hb; clear hb; dsimp only) | (go_at_call 55; refine (m2 _ _ _).mono ?_; rintro e w1 ⟨rfl, hb⟩; replace H := H.grow hb; clear hb; dsimp only))
  go_ret2
  exact ⟨rfl, H.below⟩
theorem reckon_3 (a b : Int) (ha : Hid (U64 a)) (hb : Hid (U64 b)) (w : World) :
    Calls Tryd.prog 43 #[.int .i64 3, .int .u64 a, .int .u64 b] w fun e w' => e = .returned (.tuple #[.int .u64 (reckonV 3 a b), .int .i64 0]) ∧ Below w.heap.size w w' := by
  have H := has_none w
  go_enter Tryd.func43, Tryd.ntmps43
  go_wp2_with (first | (go_at_call 48; refine (way_c 3 (.func (.func 56) #[] #[]) (by decide) (by decide) rfl _).mono ?_; rintro e w1 ⟨rfl, hb⟩; replace H := H.grow hb; clear hb; dsimp only) | (go_at_call 56; refine (m3 _ _ _).mono ?_; rintro e w1 ⟨rfl, hb⟩; replace H := H.grow hb; clear hb; dsimp only))
  go_ret2
  exact ⟨rfl, H.below⟩
theorem reckon_4 (a b : Int) (ha : Hid (U64 a)) (hb : Hid (U64 b)) (w : World) :
    Calls Tryd.prog 43 #[.int .i64 4, .int .u64 a, .int .u64 b] w fun e w' => e = .returned (.tuple #[.int .u64 (reckonV 4 a b), .int .i64 0]) ∧ Below w.heap.size w w' := by
  have H := has_none w
  go_enter Tryd.func43, Tryd.ntmps43
  go_wp2_with (first | (go_at_call 48; refine (way_c 4 (.func (.func 57) #[] #[]) (by decide) (by decide) rfl _).mono ?_; rintro e w1 ⟨rfl, hb⟩; replace H := H.grow hb; clear hb; dsimp only) | (go_at_call 57; refine (m4 _ _ _).mono ?_; rintro e w1 ⟨rfl, hb⟩; replace H := H.grow hb; clear hb; dsimp only))
  go_ret2
  exact ⟨rfl, H.below⟩
theorem reckon_5 (a b : Int) (ha : Hid (U64 a)) (hb : Hid (U64 b)) (w : World) :
    Calls Tryd.prog 43 #[.int .i64 5, .int .u64 a, .int .u64 b] w fun e w' => e = .returned (.tuple #[.int .u64 (reckonV 5 a b), .int .i64 0]) ∧ Below w.heap.size w w' := by
  have H := has_none w
  go_enter Tryd.func43, Tryd.ntmps43
  go_wp2_with (first | (go_at_call 48; refine (way_c 5 (.func (.func 58) #[] #[]) (by decide) (by decide) rfl _).mono ?_; rintro e w1 ⟨rfl, hb⟩; replace H := H.grow hb; clear hb; dsimp only) | (go_at_call 58; refine (m5 _ _ _).mono ?_; rintro e w1 ⟨rfl, hb⟩; replace H := H.grow hb; clear hb; dsimp only))
  go_ret2
  exact ⟨rfl, H.below⟩
theorem reckon_6 (a b : Int) (ha : Hid (U64 a)) (hb : Hid (U64 b)) (w : World) :
    Calls Tryd.prog 43 #[.int .i64 6, .int .u64 a, .int .u64 b] w fun e w' => e = .returned (.tuple #[.int .u64 (reckonV 6 a b), .int .i64 0]) ∧ Below w.heap.size w w' := by
  have H := has_none w
  go_enter Tryd.func43, Tryd.ntmps43
  go_wp2_with (first | (go_at_call 48; refine (way_c 6 (.func (.func 59) #[] #[]) (by decide) (by decide) rfl _).mono ?_; rintro e w1 ⟨rfl, hb⟩; replace H := H.grow hb; clear hb; dsimp only) | (go_at_call 59; refine (m6 _ _ _).mono ?_; rintro e w1 ⟨rfl, hb⟩; replace H := H.grow hb; clear hb; dsimp only))
  go_ret2
  exact ⟨rfl, H.below⟩
theorem reckon_7 (a b : Int) (ha : Hid (U64 a)) (hb : Hid (U64 b)) (w : World) :
    Calls Tryd.prog 43 #[.int .i64 7, .int .u64 a, .int .u64 b] w fun e w' => e = .returned (.tuple #[.int .u64 (reckonV 7 a b), .int .i64 0]) ∧ Below w.heap.size w w' := by
  have H := has_none w
  go_enter Tryd.func43, Tryd.ntmps43
  go_wp2_with (first | (go_at_call 48; refine (way_c 7 (.func (.func 60) #[] #[]) (by decide) (by decide) rfl _).mono ?_; rintro e w1 ⟨rfl, hb⟩; replace H := H.grow hb; clear hb; dsimp only) | (go_at_call 60; refine (m7 _ _ ha.out hb.out _).mono ?_; rintro e w1 ⟨rfl, hb⟩; replace H := H.grow hb; clear hb; dsimp only))
  go_ret2
  exact ⟨rfl, H.below⟩
theorem reckon_8 (a b : Int) (ha : Hid (U64 a)) (hb : Hid (U64 b)) (w : World) :
    Calls Tryd.prog 43 #[.int .i64 8, .int .u64 a, .int .u64 b] w fun e w' => e = .returned (.tuple #[.int .u64 (reckonV 8 a b), .int .i64 0]) ∧ Below w.heap.size w w' := by
  have H := has_none w
  go_enter Tryd.func43, Tryd.ntmps43
  go_wp2_with (first | (go_at_call 48; refine (way_c 8 (.func (.func 61) #[] #[]) (by decide) (by decide) rfl _).mono ?_; rintro e w1 ⟨rfl, hb⟩; replace H := H.grow hb; clear hb; dsimp only) | (go_at_call 61; refine (m8 _ _ hb.out _).mono ?_; rintro e w1 ⟨rfl, hb⟩; replace H := H.grow hb; clear hb; dsimp only))
  go_ret2
  exact ⟨rfl, H.below⟩
theorem reckon_9 (a b : Int) (ha : Hid (U64 a)) (hb : Hid (U64 b)) (w : World) :
    Calls Tryd.prog 43 #[.int .i64 9, .int .u64 a, .int .u64 b] w fun e w' => e = .returned (.tuple #[.int .u64 (reckonV 9 a b), .int .i64 0]) ∧ Below w.heap.size w w' := by
  have H := has_none w
  go_enter Tryd.func43, Tryd.ntmps43
  go_wp2_with (first | (go_at_call 48; refine (way_c 9 (.func (.func 62) #[] #[]) (by decide) (by decide) rfl _).mono ?_; rintro e w1 ⟨rfl, hb⟩; replace H := H.grow hb; clear hb; dsimp only) | (go_at_call 62; refine (m9 _ _ hb.out _).mono ?_; rintro e w1 ⟨rfl, hb⟩; replace H := H.grow hb; clear hb; dsimp only))
  go_ret2
  exact ⟨rfl, H.below⟩
theorem reckon_10 (a b : Int) (ha : Hid (U64 a)) (hb : Hid (U64 b)) (w : World) :
    Calls Tryd.prog 43 #[.int .i64 10, .int .u64 a, .int .u64 b] w fun e w' => e = .returned (.tuple #[.int .u64 (reckonV 10 a b), .int .i64 0]) ∧ Below w.heap.size w w' := by
  have H := has_none w
  go_enter Tryd.func43, Tryd.ntmps43
  go_wp2_with (first | (go_at_call 48; refine (way_c 10 (.func (.func 63) #[] #[]) (by decide) (by decide) rfl _).mono ?_; rintro e w1 ⟨rfl, hb⟩; replace H := H.grow hb; clear hb; dsimp only) | (go_at_call 63; refine (m10 _ _ hb.out _).mono ?_; rintro e w1 ⟨rfl, hb⟩; replace H := H.grow hb; clear hb; dsimp only))
  go_ret2
  exact ⟨rfl, H.below⟩
theorem reckon_11 (a b : Int) (ha : Hid (U64 a)) (hb : Hid (U64 b)) (w : World) :
    Calls Tryd.prog 43 #[.int .i64 11, .int .u64 a, .int .u64 b] w fun e w' => e = .returned (.tuple #[.int .u64 (reckonV 11 a b), .int .i64 0]) ∧ Below w.heap.size w w' := by
  have H := has_none w
  go_enter Tryd.func43, Tryd.ntmps43
  go_wp2_with (first | (go_at_call 48; refine (way_c 11 (.func (.func 64) #[] #[]) (by decide) (by decide) rfl _).mono ?_; rintro e w1 ⟨rfl, hb⟩; replace H := H.grow hb; clear hb; dsimp only) | (go_at_call 64; refine (m11 _ _ hb.out _).mono ?_; rintro e w1 ⟨rfl, hb⟩; replace H := H.grow hb; clear hb; dsimp only))
  go_ret2
  exact ⟨rfl, H.below⟩
theorem reckon_12 (a b : Int) (ha : Hid (U64 a)) (hb : Hid (U64 b)) (w : World) :
    Calls Tryd.prog 43 #[.int .i64 12, .int .u64 a, .int .u64 b] w fun e w' => e = .returned (.tuple #[.int .u64 (reckonV 12 a b), .int .i64 0]) ∧ Below w.heap.size w w' := by
  have H := has_none w
  go_enter Tryd.func43, Tryd.ntmps43
  go_wp2_with (first | (go_at_call 48; refine (way_c 12 (.func (.func 65) #[] #[]) (by decide) (by decide) rfl _).mono ?_; rintro e w1 ⟨rfl, hb⟩; replace H := H.grow hb; clear hb; dsimp only) | (go_at_call 65; refine (m12 _ _ ha.out hb.out _).mono ?_; rintro e w1 ⟨rfl, hb⟩; replace H := H.grow hb; clear hb; dsimp only))
  go_ret2
  exact ⟨rfl, H.below⟩
theorem reckon_13 (a b : Int) (ha : Hid (U64 a)) (hb : Hid (U64 b)) (w : World) :
    Calls Tryd.prog 43 #[.int .i64 13, .int .u64 a, .int .u64 b] w fun e w' => e = .returned (.tuple #[.int .u64 (reckonV 13 a b), .int .i64 0]) ∧ Below w.heap.size w w' := by
  have H := has_none w
  go_enter Tryd.func43, Tryd.ntmps43
  go_wp2_with (first | (go_at_call 48; refine (way_c 13 (.func (.func 66) #[] #[]) (by decide) (by decide) rfl _).mono ?_; rintro e w1 ⟨rfl, hb⟩; replace H := H.grow hb; clear hb; dsimp only) | (go_at_call 66; refine (m13 _ _ _).mono ?_; rintro e w1 ⟨rfl, hb⟩; replace H := H.grow hb; clear hb; dsimp only))
  go_ret2
  exact ⟨rfl, H.below⟩
theorem reckon_14 (a b : Int) (ha : Hid (U64 a)) (hb : Hid (U64 b)) (w : World) :
    Calls Tryd.prog 43 #[.int .i64 14, .int .u64 a, .int .u64 b] w fun e w' => e = .returned (.tuple #[.int .u64 (reckonV 14 a b), .int .i64 0]) ∧ Below w.heap.size w w' := by
  have H := has_none w
  go_enter Tryd.func43, Tryd.ntmps43
  go_wp2_with (first | (go_at_call 48; refine (way_c 14 (.func (.func 67) #[] #[]) (by decide) (by decide) rfl _).mono ?_; rintro e w1 ⟨rfl, hb⟩; replace H := H.grow hb; clear hb; dsimp only) | (go_at_call 67; refine (m14 _ _ _).mono ?_; rintro e w1 ⟨rfl, hb⟩; replace H := H.grow hb; clear hb; dsimp only))
  go_ret2
  exact ⟨rfl, H.below⟩
theorem reckon_15 (a b : Int) (ha : Hid (U64 a)) (hb : Hid (U64 b)) (w : World) :
    Calls Tryd.prog 43 #[.int .i64 15, .int .u64 a, .int .u64 b] w fun e w' => e = .returned (.tuple #[.int .u64 (reckonV 15 a b), .int .i64 0]) ∧ Below w.heap.size w w' := by
  have H := has_none w
  go_enter Tryd.func43, Tryd.ntmps43
  go_wp2_with (first | (go_at_call 48; refine (way_c 15 (.func (.func 68) #[] #[]) (by decide) (by decide) rfl _).mono ?_; rintro e w1 ⟨rfl, hb⟩; replace H := H.grow hb; clear hb; dsimp only) | (go_at_call 68; refine (m15 _ _ _).mono ?_; rintro e w1 ⟨rfl, hb⟩; replace H := H.grow hb; clear hb; dsimp only))
  go_ret2
  exact ⟨rfl, H.below⟩
theorem reckon_none (k a b : Int) (hk : kindB k = false) (w : World) :
    Calls Tryd.prog 43 #[.int .i64 k, .int .u64 a, .int .u64 b] w fun e w' => e = .returned (.tuple #[.int .u64 0, .int .i64 1]) ∧ Below w.heap.size w w' := by
  have hn : ¬ (1 ≤ k ∧ k ≤ 15) := by simpa [kindB] using hk
  clear hk
  by_cases h : k < 1
  · go_enter Tryd.func43, Tryd.ntmps43
    go_wp2
    go_ret2
    exact ⟨rfl, Below.refl _ _⟩
  · have h1 : 15 < k := by omega
    clear hn
    go_enter Tryd.func43, Tryd.ntmps43
    go_wp2
    go_ret2
    exact ⟨rfl, Below.refl _ _⟩
theorem Reckon_c (k a b : Int) (ha : Hid (U64 a)) (hb : Hid (U64 b)) (w : World) :
    Calls Tryd.prog 43 #[.int .i64 k, .int .u64 a, .int .u64 b] w fun e w' => e = .returned (.tuple #[.int .u64 (reckonV k a b), .int .i64 (kindE k)]) ∧ Below w.heap.size w w' := by
  cases h : kindB k with
  | false =>
    rw [reckonV_none h, show kindE k = 1 by simp [kindE, h]]
    exact reckon_none k a b h w
  | true =>
    rw [show kindE k = 0 by simp [kindE, h]]
    rcases kind_cases h with rfl | rfl | rfl | rfl | rfl | rfl | rfl | rfl | rfl | rfl | rfl | rfl | rfl | rfl | rfl
    · exact reckon_1 a b ha hb w
    · exact reckon_2 a b ha hb w
    · exact reckon_3 a b ha hb w
    · exact reckon_4 a b ha hb w
    · exact reckon_5 a b ha hb w
    · exact reckon_6 a b ha hb w
    · exact reckon_7 a b ha hb w
    · exact reckon_8 a b ha hb w
    · exact reckon_9 a b ha hb w
    · exact reckon_10 a b ha hb w
    · exact reckon_11 a b ha hb w
    · exact reckon_12 a b ha hb w
    · exact reckon_13 a b ha hb w
    · exact reckon_14 a b ha hb w
    · exact reckon_15 a b ha hb w
end Go.Proofs.YtilhjbhhgpoajaaDoor.Alu
