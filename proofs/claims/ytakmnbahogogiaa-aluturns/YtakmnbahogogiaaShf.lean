/- What Shift of package alu and of the document's own answer give back: contracts, for all numbers. -/
import Derived.Test.YtakmnbahogogiaaReck
namespace Go.Proofs.Ytakmnbahogogiaa
open Go.RowKit
set_option linter.unusedVariables false
def shiftB (k y : Int) : Bool := decide (0 ≤ k ∧ k ≤ 3) && placeB y
def shiftV (v k y : Int) : Int := if shiftB k y = true then reckonV (9 + k) v y else 0
def shiftE (k y : Int) : Int := if shiftB k y = true then 0 else 1
def four : Array Value := #[.int .i64 9, .int .i64 10, .int .i64 11, .int .i64 12]
theorem four_info : (Try.prog.info? 59).map (·.size) = some four.size := by kernel_rfl
theorem four_one : four.all (·.oneCell') = true := by simp [four, Value.oneCell']
theorem kind_ok {k : Int} (h0 : 0 ≤ k) (h1 : k ≤ 3) : kindE (9 + k) = 0 ∧ kindB (9 + k) = true := by
  have : kindB (9 + k) = true := by unfold kindB; rw [decide_eq_true_eq]; omega
  exact ⟨by simp [kindE, this], this⟩
theorem shift_0 (v y : Int) (hv : Hid (U64 v)) (h0 : 0 ≤ y) (h1 : y ≤ 63) (w : World) :
    Calls Try.prog 14 #[.int .u64 v, .int .i64 0, .int .i64 y] w fun e w' => e = .returned (.tuple #[.int .u64 (reckonV (9 + 0) v y), .int .i64 0]) ∧ Below w.heap.size w w' := by
  have hp : placeB y = true := by simp [placeB]; omega
  have hy : Hid (U64 y) := ⟨h0, by omega⟩
  have H := has_none w
  have hE : Hid (kindE 9 = 0) := by show _ = _; decide
  go_enter Try.func14, Try.ntmps14
  go_wp2_with (first | (go_at_call 27; refine (isPlace_c _ _).mono ?_; rintro e w' ⟨rfl, rfl⟩) | ((with_reducible refine wpList_store_new H rfl 59 _ _ rfl four rfl rfl four_info ?_ four_one ?_); (focus rfl); intro w2 H; try simp only [Act.put]) | ((with_reducible refine wpList_load_cell rfl 3 _ rfl _ _ rfl (.int .i64 9) (H.at List.mem_cons_self _ _ rfl) (agg3 _) ?_); simp only [Act.put, List.setIfInBounds_toArray, List.set_cons_succ, List.set_cons_zero]) | (go_at_call 10; refine (Reckon_c 9 _ _ hv hy _).mono ?_; rintro e w' ⟨rfl, hb⟩; replace H := H.grow hb; clear hb; dsimp only))
  go_ret2
  exact ⟨ret_two rfl hE.out, H.below⟩
theorem shift_1 (v y : Int) (hv : Hid (U64 v)) (h0 : 0 ≤ y) (h1 : y ≤ 63) (w : World) :
    Calls Try.prog 14 #[.int .u64 v, .int .i64 1, .int .i64 y] w fun e w' => e = .returned (.tuple #[.int .u64 (reckonV (9 + 1) v y), .int .i64 0]) ∧ Below w.heap.size w w' := by
  have hp : placeB y = true := by simp [placeB]; omega
  have hy : Hid (U64 y) := ⟨h0, by omega⟩
  have H := has_none w
  have hE : Hid (kindE 10 = 0) := by show _ = _; decide
  go_enter Try.func14, Try.ntmps14
  go_wp2_with (first | (go_at_call 27; refine (isPlace_c _ _).mono ?_; rintro e w' ⟨rfl, rfl⟩) | ((with_reducible refine wpList_store_new H rfl 59 _ _ rfl four rfl rfl four_info ?_ four_one ?_); (focus rfl); intro w2 H; try simp only [Act.put]) | ((with_reducible refine wpList_load_cell rfl 3 _ rfl _ _ rfl (.int .i64 10) (H.at List.mem_cons_self _ _ rfl) (agg3 _) ?_); simp only [Act.put, List.setIfInBounds_toArray, List.set_cons_succ, List.set_cons_zero]) | (go_at_call 10; refine (Reckon_c 10 _ _ hv hy _).mono ?_; rintro e w' ⟨rfl, hb⟩; replace H := H.grow hb; clear hb; dsimp only))
  go_ret2
  exact ⟨ret_two rfl hE.out, H.below⟩
theorem shift_2 (v y : Int) (hv : Hid (U64 v)) (h0 : 0 ≤ y) (h1 : y ≤ 63) (w : World) :
    Calls Try.prog 14 #[.int .u64 v, .int .i64 2, .int .i64 y] w fun e w' => e = .returned (.tuple #[.int .u64 (reckonV (9 + 2) v y), .int .i64 0]) ∧ Below w.heap.size w w' := by
  have hp : placeB y = true := by simp [placeB]; omega
  have hy : Hid (U64 y) := ⟨h0, by omega⟩
  have H := has_none w
  have hE : Hid (kindE 11 = 0) := by show _ = _; decide
  go_enter Try.func14, Try.ntmps14
  go_wp2_with (first | (go_at_call 27; refine (isPlace_c _ _).mono ?_; rintro e w' ⟨rfl, rfl⟩) | ((with_reducible refine wpList_store_new H rfl 59 _ _ rfl four rfl rfl four_info ?_ four_one ?_); (focus rfl); intro w2 H; try simp only [Act.put]) | ((with_reducible refine wpList_load_cell rfl 3 _ rfl _ _ rfl (.int .i64 11) (H.at List.mem_cons_self _ _ rfl) (agg3 _) ?_); simp only [Act.put, List.setIfInBounds_toArray, List.set_cons_succ, List.set_cons_zero]) | (go_at_call 10; refine (Reckon_c 11 _ _ hv hy _).mono ?_; rintro e w' ⟨rfl, hb⟩; replace H := H.grow hb; clear hb; dsimp only))
  go_ret2
  exact ⟨ret_two rfl hE.out, H.below⟩
theorem shift_3 (v y : Int) (hv : Hid (U64 v)) (h0 : 0 ≤ y) (h1 : y ≤ 63) (w : World) :
    Calls Try.prog 14 #[.int .u64 v, .int .i64 3, .int .i64 y] w fun e w' => e = .returned (.tuple #[.int .u64 (reckonV (9 + 3) v y), .int .i64 0]) ∧ Below w.heap.size w w' := by
  have hp : placeB y = true := by simp [placeB]; omega
  have hy : Hid (U64 y) := ⟨h0, by omega⟩
  have H := has_none w
  have hE : Hid (kindE 12 = 0) := by show _ = _; decide
  go_enter Try.func14, Try.ntmps14
  go_wp2_with (first | (go_at_call 27; refine (isPlace_c _ _).mono ?_; rintro e w' ⟨rfl, rfl⟩) | ((with_reducible refine wpList_store_new H rfl 59 _ _ rfl four rfl rfl four_info ?_ four_one ?_); (focus rfl); intro w2 H; try simp only [Act.put]) | ((with_reducible refine wpList_load_cell rfl 3 _ rfl _ _ rfl (.int .i64 12) (H.at List.mem_cons_self _ _ rfl) (agg3 _) ?_); simp only [Act.put, List.setIfInBounds_toArray, List.set_cons_succ, List.set_cons_zero]) | (go_at_call 10; refine (Reckon_c 12 _ _ hv hy _).mono ?_; rintro e w' ⟨rfl, hb⟩; replace H := H.grow hb; clear hb; dsimp only))
  go_ret2
  exact ⟨ret_two rfl hE.out, H.below⟩
theorem Shift_c (v k y : Int) (hv : Hid (U64 v)) (w : World) :
    Calls Try.prog 14 #[.int .u64 v, .int .i64 k, .int .i64 y] w fun e w' => e = .returned (.tuple #[.int .u64 (shiftV v k y), .int .i64 (shiftE k y)]) ∧ Below w.heap.size w w' := by
  cases hb : shiftB k y with
  | false =>
    have hE : Hid (0 = shiftV v k y ∧ 1 = shiftE k y) := by
      show _ ∧ _
      simp [shiftV, shiftE, hb]
    by_cases h0 : k < 0
    · clear hb
      go_enter Try.func14, Try.ntmps14
      go_wp2
      go_ret2
      exact ⟨ret_two hE.out.1 hE.out.2, Below.refl _ _⟩
    · by_cases h3 : 3 < k
      · clear hb
        go_enter Try.func14, Try.ntmps14
        go_wp2
        go_ret2
        exact ⟨ret_two hE.out.1 hE.out.2, Below.refl _ _⟩
      · have hp : placeB y = false := by
          unfold shiftB at hb
          rw [decide_eq_true (by omega), Bool.true_and] at hb
          exact hb
        clear hb
        go_enter Try.func14, Try.ntmps14
        go_wp2_with (go_at_call 27; refine (isPlace_c _ _).mono ?_; rintro e w' ⟨rfl, rfl⟩)
        go_ret2
        exact ⟨ret_two hE.out.1 hE.out.2, Below.refl _ _⟩
  | true =>
    have e1 : shiftV v k y = reckonV (9 + k) v y := by simp [shiftV, hb]
    have e2 : shiftE k y = 0 := by simp [shiftE, hb]
    unfold shiftB at hb
    rw [Bool.and_eq_true, decide_eq_true_eq] at hb
    have hy : 0 ≤ y ∧ y ≤ 63 := by simpa [placeB] using hb.2
    rw [e1, e2]
    rcases (by omega : k = 0 ∨ k = 1 ∨ k = 2 ∨ k = 3) with rfl | rfl | rfl | rfl
    · exact shift_0 v y hv hy.1 hy.2 w
    · exact shift_1 v y hv hy.1 hy.2 w
    · exact shift_2 v y hv hy.1 hy.2 w
    · exact shift_3 v y hv hy.1 hy.2 w
theorem refShift_c (v k y : Int) (hv : Hid (U64 v)) (w : World) :
    Calls Try.prog 15 #[.int .u64 v, .int .i64 k, .int .i64 y] w fun e w' => e = .returned (.tuple #[.int .u64 (shiftV v k y), .bool (shiftB k y)]) ∧ w' = w := by
  cases hb : shiftB k y with
  | false =>
    have hE : Hid (0 = shiftV v k y) := by
      show _ = _
      simp [shiftV, hb]
    have hn : ¬ (0 ≤ k ∧ k ≤ 3 ∧ 0 ≤ y ∧ y ≤ 63) := by
      intro h
      unfold shiftB placeB at hb
      rw [decide_eq_true (by omega), decide_eq_true (by omega)] at hb
      cases hb
    clear hb
    replace hn : Hid (¬ (0 ≤ k ∧ k ≤ 3 ∧ 0 ≤ y ∧ y ≤ 63)) := hn
    by_cases h0 : k < 0
    · go_enter Try.func15, Try.ntmps15
      go_wp2
      go_ret2
      exact ⟨ret_ib hE.out rfl, rfl⟩
    · by_cases h3 : 3 < k
      · go_enter Try.func15, Try.ntmps15
        go_wp2
        go_ret2
        exact ⟨ret_ib hE.out rfl, rfl⟩
      · by_cases h4 : y < 0
        · go_enter Try.func15, Try.ntmps15
          go_wp2
          go_ret2
          exact ⟨ret_ib hE.out rfl, rfl⟩
        · have h5 : 63 < y := by have := hn.out; omega
          go_enter Try.func15, Try.ntmps15
          go_wp2
          go_ret2
          exact ⟨ret_ib hE.out rfl, rfl⟩
  | true =>
    have e1 : Hid (shiftV v k y = reckonV (9 + k) v y) := by show _ = _; simp [shiftV, hb]
    unfold shiftB at hb
    rw [Bool.and_eq_true, decide_eq_true_eq] at hb
    have hy : 0 ≤ y ∧ y ≤ 63 := by simpa [placeB] using hb.2
    obtain ⟨y0, y1⟩ := hy
    obtain ⟨⟨k0, k1⟩, -⟩ := hb
    have hyu : Hid (U64 y) := ⟨y0, by omega⟩
    have hk : Hid (kindB (9 + k) = true) := (kind_ok k0 k1).2
    go_enter Try.func15, Try.ntmps15
    go_wp2_with (go_at_call 11; refine (refReckon_c _ _ _ hv hyu _).mono ?_; rintro e w' ⟨rfl, rfl⟩)
    go_ret2
    exact ⟨ret_ib e1.out.symm hk.out, rfl⟩
end Go.Proofs.Ytakmnbahogogiaa
