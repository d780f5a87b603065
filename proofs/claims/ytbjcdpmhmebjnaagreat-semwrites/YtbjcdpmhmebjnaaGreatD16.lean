/- What Reckon of package alu gives back: a contract, for every kind and all numbers. -/
import Derived.Test.YtbjcdpmhmebjnaaGreatD15
namespace Go.Proofs.YtbjcdpmhmebjnaaGreat
open Go.RowKit
set_option linter.unusedVariables false
theorem reckon_1 (a b : Int) (ha : Hid (U64 a)) (hb : Hid (U64 b)) (w : World) :
    Calls Tryz.prog 238 #[.int .i64 1, .int .u64 a, .int .u64 b] w fun e w' => e = .returned (.tuple #[.int .u64 (reckonV 1 a b), .int .i64 0]) ∧ Below w.heap.size w w' := by
  have H := has_none w
  go_enter Tryz.func238, Tryz.ntmps238
  go_wp2_with (first | (go_at_call 253; refine (way_c 1 (.func (.func 254) #[] #[]) (by decide) (by decide) rfl _).mono ?_; rintro e w1 ⟨rfl, hb⟩; replace H := H.grow hb; clear hb; dsimp only) | (go_at_call 254; refine (m1 _ _ _).mono ?_; rintro e w1 ⟨rfl, hb⟩; replace H := H.grow hb; clear hb; dsimp only))
  go_ret2
  exact ⟨rfl, H.below⟩
theorem reckon_2 (a b : Int) (ha : Hid (U64 a)) (hb : Hid (U64 b)) (w : World) :
    Calls Tryz.prog 238 #[.int .i64 2, .int .u64 a, .int .u64 b] w fun e w' => e = .returned (.tuple #[.int .u64 (reckonV 2 a b), .int .i64 0]) ∧ Below w.heap.size w w' := by
  have H := has_none w
  go_enter Tryz.func238, Tryz.ntmps238
  go_wp2_with (first | (go_at_call 253; refine (way_c 2 (.func (.func 255) #[] #[]) (by decide) (by decide) rfl _).mono ?_; rintro e w1 ⟨rfl, hb⟩; replace H := H.grow hb; clear hb; dsimp only) | (go_at_call 255; refine (m2 _ _ _).mono ?_; rintro e w1 ⟨rfl, hb⟩; replace H := H.grow hb; clear hb; dsimp only))
  go_ret2
  exact ⟨rfl, H.below⟩
theorem reckon_3 (a b : Int) (ha : Hid (U64 a)) (hb : Hid (U64 b)) (w : World) :
    Calls Tryz.prog 238 #[.int .i64 3, .int .u64 a, .int .u64 b] w fun e w' => e = .returned (.tuple #[.int .u64 (reckonV 3 a b), .int .i64 0]) ∧ Below w.heap.size w w' := by
  have H := has_none w
  go_enter Tryz.func238, Tryz.ntmps238
  go_wp2_with (first | (go_at_call 253; refine (way_c 3 (.func (.func 256) #[] #[]) (by decide) (by decide) rfl _).mono ?_; rintro e w1 ⟨rfl, hb⟩; replace H := H.grow hb; clear hb; dsimp only) | (go_at_call 256; refine (m3 _ _ _).mono ?_; rintro e w1 ⟨rfl, hb⟩; replace H := H.grow hb; clear hb; dsimp only))
  go_ret2
  exact ⟨rfl, H.below⟩
theorem reckon_4 (a b : Int) (ha : Hid (U64 a)) (hb : Hid (U64 b)) (w : World) :
    Calls Tryz.prog 238 #[.int .i64 4, .int .u64 a, .int .u64 b] w fun e w' => e = .returned (.tuple #[.int .u64 (reckonV 4 a b), .int .i64 0]) ∧ Below w.heap.size w w' := by
  have H := has_none w
  go_enter Tryz.func238, Tryz.ntmps238
  go_wp2_with (first | (go_at_call 253; refine (way_c 4 (.func (.func 257) #[] #[]) (by decide) (by decide) rfl _).mono ?_; rintro e w1 ⟨rfl, hb⟩; replace H := H.grow hb; clear hb; dsimp only) | (go_at_call 257; refine (m4 _ _ _).mono ?_; rintro e w1 ⟨rfl, hb⟩; replace H := H.grow hb; clear hb; dsimp only))
  go_ret2
  exact ⟨rfl, H.below⟩
theorem reckon_5 (a b : Int) (ha : Hid (U64 a)) (hb : Hid (U64 b)) (w : World) :
    Calls Tryz.prog 238 #[.int .i64 5, .int .u64 a, .int .u64 b] w fun e w' => e = .returned (.tuple #[.int .u64 (reckonV 5 a b), .int .i64 0]) ∧ Below w.heap.size w w' := by
  have H := has_none w
  go_enter Tryz.func238, Tryz.ntmps238
  go_wp2_with (first | (go_at_call 253; refine (way_c 5 (.func (.func 258) #[] #[]) (by decide) (by decide) rfl _).mono ?_; rintro e w1 ⟨rfl, hb⟩; replace H := H.grow hb; clear hb; dsimp only) | (go_at_call 258; refine (m5 _ _ _).mono ?_; rintro e w1 ⟨rfl, hb⟩; replace H := H.grow hb; clear hb; dsimp only))
  go_ret2
  exact ⟨rfl, H.below⟩
theorem reckon_6 (a b : Int) (ha : Hid (U64 a)) (hb : Hid (U64 b)) (w : World) :
    Calls Tryz.prog 238 #[.int .i64 6, .int .u64 a, .int .u64 b] w fun e w' => e = .returned (.tuple #[.int .u64 (reckonV 6 a b), .int .i64 0]) ∧ Below w.heap.size w w' := by
  have H := has_none w
  go_enter Tryz.func238, Tryz.ntmps238
  go_wp2_with (first | (go_at_call 253; refine (way_c 6 (.func (.func 259) #[] #[]) (by decide) (by decide) rfl _).mono ?_; rintro e w1 ⟨rfl, hb⟩; replace H := H.grow hb; clear hb; dsimp only) | (go_at_call 259; refine (m6 _ _ _).mono ?_; rintro e w1 ⟨rfl, hb⟩; replace H := H.grow hb; clear hb; dsimp only))
  go_ret2
  exact ⟨rfl, H.below⟩
theorem reckon_7 (a b : Int) (ha : Hid (U64 a)) (hb : Hid (U64 b)) (w : World) :
    Calls Tryz.prog 238 #[.int .i64 7, .int .u64 a, .int .u64 b] w fun e w' => e = .returned (.tuple #[.int .u64 (reckonV 7 a b), .int .i64 0]) ∧ Below w.heap.size w w' := by
  have H := has_none w
  go_enter Tryz.func238, Tryz.ntmps238
  go_wp2_with (first | (go_at_call 253; refine (way_c 7 (.func (.func 260) #[] #[]) (by decide) (by decide) rfl _).mono ?_; rintro e w1 ⟨rfl, hb⟩; replace H := H.grow hb; clear hb; dsimp only) | (go_at_call 260; refine (m7 _ _ ha.out hb.out _).mono ?_; rintro e w1 ⟨rfl, hb⟩; replace H := H.grow hb; clear hb; dsimp only))
  go_ret2
  exact ⟨rfl, H.below⟩
theorem reckon_8 (a b : Int) (ha : Hid (U64 a)) (hb : Hid (U64 b)) (w : World) :
    Calls Tryz.prog 238 #[.int .i64 8, .int .u64 a, .int .u64 b] w fun e w' => e = .returned (.tuple #[.int .u64 (reckonV 8 a b), .int .i64 0]) ∧ Below w.heap.size w w' := by
  have H := has_none w
  go_enter Tryz.func238, Tryz.ntmps238
  go_wp2_with (first | (go_at_call 253; refine (way_c 8 (.func (.func 261) #[] #[]) (by decide) (by decide) rfl _).mono ?_; rintro e w1 ⟨rfl, hb⟩; replace H := H.grow hb; clear hb; dsimp only) | (go_at_call 261; refine (m8 _ _ hb.out _).mono ?_; rintro e w1 ⟨rfl, hb⟩; replace H := H.grow hb; clear hb; dsimp only))
  go_ret2
  exact ⟨rfl, H.below⟩
theorem reckon_9 (a b : Int) (ha : Hid (U64 a)) (hb : Hid (U64 b)) (w : World) :
    Calls Tryz.prog 238 #[.int .i64 9, .int .u64 a, .int .u64 b] w fun e w' => e = .returned (.tuple #[.int .u64 (reckonV 9 a b), .int .i64 0]) ∧ Below w.heap.size w w' := by
  have H := has_none w
  go_enter Tryz.func238, Tryz.ntmps238
  go_wp2_with (first | (go_at_call 253; refine (way_c 9 (.func (.func 262) #[] #[]) (by decide) (by decide) rfl _).mono ?_; rintro e w1 ⟨rfl, hb⟩; replace H := H.grow hb; clear hb; dsimp only) | (go_at_call 262; refine (m9 _ _ hb.out _).mono ?_; rintro e w1 ⟨rfl, hb⟩; replace H := H.grow hb; clear hb; dsimp only))
  go_ret2
  exact ⟨rfl, H.below⟩
theorem reckon_10 (a b : Int) (ha : Hid (U64 a)) (hb : Hid (U64 b)) (w : World) :
    Calls Tryz.prog 238 #[.int .i64 10, .int .u64 a, .int .u64 b] w fun e w' => e = .returned (.tuple #[.int .u64 (reckonV 10 a b), .int .i64 0]) ∧ Below w.heap.size w w' := by
  have H := has_none w
  go_enter Tryz.func238, Tryz.ntmps238
  go_wp2_with (first | (go_at_call 253; refine (way_c 10 (.func (.func 263) #[] #[]) (by decide) (by decide) rfl _).mono ?_; rintro e w1 ⟨rfl, hb⟩; replace H := H.grow hb; clear hb; dsimp only) | (go_at_call 263; refine (m10 _ _ hb.out _).mono ?_; rintro e w1 ⟨rfl, hb⟩; replace H := H.grow hb; clear hb; dsimp only))
  go_ret2
  exact ⟨rfl, H.below⟩
theorem reckon_11 (a b : Int) (ha : Hid (U64 a)) (hb : Hid (U64 b)) (w : World) :
    Calls Tryz.prog 238 #[.int .i64 11, .int .u64 a, .int .u64 b] w fun e w' => e = .returned (.tuple #[.int .u64 (reckonV 11 a b), .int .i64 0]) ∧ Below w.heap.size w w' := by
  have H := has_none w
  go_enter Tryz.func238, Tryz.ntmps238
  go_wp2_with (first | (go_at_call 253; refine (way_c 11 (.func (.func 264) #[] #[]) (by decide) (by decide) rfl _).mono ?_; rintro e w1 ⟨rfl, hb⟩; replace H := H.grow hb; clear hb; dsimp only) | (go_at_call 264; refine (m11 _ _ hb.out _).mono ?_; rintro e w1 ⟨rfl, hb⟩; replace H := H.grow hb; clear hb; dsimp only))
  go_ret2
  exact ⟨rfl, H.below⟩
theorem reckon_12 (a b : Int) (ha : Hid (U64 a)) (hb : Hid (U64 b)) (w : World) :
    Calls Tryz.prog 238 #[.int .i64 12, .int .u64 a, .int .u64 b] w fun e w' => e = .returned (.tuple #[.int .u64 (reckonV 12 a b), .int .i64 0]) ∧ Below w.heap.size w w' := by
  have H := has_none w
  go_enter Tryz.func238, Tryz.ntmps238
  go_wp2_with (first | (go_at_call 253; refine (way_c 12 (.func (.func 265) #[] #[]) (by decide) (by decide) rfl _).mono ?_; rintro e w1 ⟨rfl, hb⟩; replace H := H.grow hb; clear hb; dsimp only) | (go_at_call 265; refine (m12 _ _ ha.out hb.out _).mono ?_; rintro e w1 ⟨rfl, hb⟩; replace H := H.grow hb; clear hb; dsimp only))
  go_ret2
  exact ⟨rfl, H.below⟩
theorem reckon_13 (a b : Int) (ha : Hid (U64 a)) (hb : Hid (U64 b)) (w : World) :
    Calls Tryz.prog 238 #[.int .i64 13, .int .u64 a, .int .u64 b] w fun e w' => e = .returned (.tuple #[.int .u64 (reckonV 13 a b), .int .i64 0]) ∧ Below w.heap.size w w' := by
  have H := has_none w
  go_enter Tryz.func238, Tryz.ntmps238
  go_wp2_with (first | (go_at_call 253; refine (way_c 13 (.func (.func 266) #[] #[]) (by decide) (by decide) rfl _).mono ?_; rintro e w1 ⟨rfl, hb⟩; replace H := H.grow hb; clear hb; dsimp only) | (go_at_call 266; refine (m13 _ _ _).mono ?_; rintro e w1 ⟨rfl, hb⟩; replace H := H.grow hb; clear hb; dsimp only))
  go_ret2
  exact ⟨rfl, H.below⟩
theorem reckon_14 (a b : Int) (ha : Hid (U64 a)) (hb : Hid (U64 b)) (w : World) :
    Calls Tryz.prog 238 #[.int .i64 14, .int .u64 a, .int .u64 b] w fun e w' => e = .returned (.tuple #[.int .u64 (reckonV 14 a b), .int .i64 0]) ∧ Below w.heap.size w w' := by
  have H := has_none w
  go_enter Tryz.func238, Tryz.ntmps238
  go_wp2_with (first | (go_at_call 253; refine (way_c 14 (.func (.func 267) #[] #[]) (by decide) (by decide) rfl _).mono ?_; rintro e w1 ⟨rfl, hb⟩; replace H := H.grow hb; clear hb; dsimp only) | (go_at_call 267; refine (m14 _ _ _).mono ?_; rintro e w1 ⟨rfl, hb⟩; replace H := H.grow hb; clear hb; dsimp only))
  go_ret2
  exact ⟨rfl, H.below⟩
theorem reckon_15 (a b : Int) (ha : Hid (U64 a)) (hb : Hid (U64 b)) (w : World) :
    Calls Tryz.prog 238 #[.int .i64 15, .int .u64 a, .int .u64 b] w fun e w' => e = .returned (.tuple #[.int .u64 (reckonV 15 a b), .int .i64 0]) ∧ Below w.heap.size w w' := by
  have H := has_none w
  go_enter Tryz.func238, Tryz.ntmps238
  go_wp2_with (first | (go_at_call 253; refine (way_c 15 (.func (.func 268) #[] #[]) (by decide) (by decide) rfl _).mono ?_; rintro e w1 ⟨rfl, hb⟩; replace H := H.grow hb; clear hb; dsimp only) | (go_at_call 268; refine (m15 _ _ _).mono ?_; rintro e w1 ⟨rfl, hb⟩; replace H := H.grow hb; clear hb; dsimp only))
  go_ret2
  exact ⟨rfl, H.below⟩
theorem reckon_none (k a b : Int) (hk : kindB k = false) (w : World) :
    Calls Tryz.prog 238 #[.int .i64 k, .int .u64 a, .int .u64 b] w fun e w' => e = .returned (.tuple #[.int .u64 0, .int .i64 1]) ∧ Below w.heap.size w w' := by
  have hn : ¬ (1 ≤ k ∧ k ≤ 15) := by simpa [kindB] using hk
  clear hk
  by_cases h : k < 1
  · go_enter Tryz.func238, Tryz.ntmps238
    go_wp2
    go_ret2
    exact ⟨rfl, Below.refl _ _⟩
  · have h1 : 15 < k := by omega
    clear hn
    go_enter Tryz.func238, Tryz.ntmps238
    go_wp2
    go_ret2
    exact ⟨rfl, Below.refl _ _⟩
theorem Reckon_c (k a b : Int) (ha : Hid (U64 a)) (hb : Hid (U64 b)) (w : World) :
    Calls Tryz.prog 238 #[.int .i64 k, .int .u64 a, .int .u64 b] w fun e w' => e = .returned (.tuple #[.int .u64 (reckonV k a b), .int .i64 (kindE k)]) ∧ Below w.heap.size w w' := by
  cases h : kindB k with
  | false =>
    rw [reckonV_none h, show kindE k = 1 by simp [kindE, h]]
    exact reckon_none k a b h w
  | true =>
    rw [show kindE k = 0 by simp [kindE, h]]
    rcases kind_cases h with rfl | rfl | rfl | rfl | rfl | rfl | rfl | rfl | rfl | rfl | rfl | rfl | rfl | rfl | rfl
    · exact reckon_1 a b ha hb w
    · exact reckon_2 a b ha hb w
    · exact reckon_3 a b ha hb w
    · exact reckon_4 a b ha hb w
    · exact reckon_5 a b ha hb w
    · exact reckon_6 a b ha hb w
    · exact reckon_7 a b ha hb w
    · exact reckon_8 a b ha hb w
    · exact reckon_9 a b ha hb w
    · exact reckon_10 a b ha hb w
    · exact reckon_11 a b ha hb w
    · exact reckon_12 a b ha hb w
    · exact reckon_13 a b ha hb w
    · exact reckon_14 a b ha hb w
    · exact reckon_15 a b ha hb w
end Go.Proofs.YtbjcdpmhmebjnaaGreat
/- What Shift of package alu and of the document's own answer give back: contracts, for all numbers. -/
namespace Go.Proofs.YtbjcdpmhmebjnaaGreat
open Go.RowKit
set_option linter.unusedVariables false
def shiftB (k y : Int) : Bool := decide (0 ≤ k ∧ k ≤ 3) && placeB y
def shiftV (v k y : Int) : Int := if shiftB k y = true then reckonV (9 + k) v y else 0
def shiftE (k y : Int) : Int := if shiftB k y = true then 0 else 1
def four : Array Value := #[.int .i64 9, .int .i64 10, .int .i64 11, .int .i64 12]
theorem four_info : (Tryz.prog.info? 141).map (·.size) = some four.size := by kernel_rfl
theorem four_one : four.all (·.oneCell') = true := by simp [four, Value.oneCell']
theorem kind_ok {k : Int} (h0 : 0 ≤ k) (h1 : k ≤ 3) : kindE (9 + k) = 0 ∧ kindB (9 + k) = true := by
  have : kindB (9 + k) = true := by unfold kindB; rw [decide_eq_true_eq]; omega
  exact ⟨by simp [kindE, this], this⟩
theorem shift_0 (v y : Int) (hv : Hid (U64 v)) (h0 : 0 ≤ y) (h1 : y ≤ 63) (w : World) :
    Calls Tryz.prog 201 #[.int .u64 v, .int .i64 0, .int .i64 y] w fun e w' => e = .returned (.tuple #[.int .u64 (reckonV (9 + 0) v y), .int .i64 0]) ∧ Below w.heap.size w w' := by
  have hp : placeB y = true := by simp [placeB]; omega
  have hy : Hid (U64 y) := ⟨h0, by omega⟩
  have H := has_none w
  have hE : Hid (kindE 9 = 0) := by show _ = _; decide
  go_enter Tryz.func201, Tryz.ntmps201
  go_wp2_with (first | (go_at_call 236; refine (isPlace_c _ _).mono ?_; rintro e w' ⟨rfl, rfl⟩) | ((with_reducible refine wpList_store_new H rfl 141 _ _ rfl four rfl rfl four_info ?_ four_one ?_); (focus rfl); intro w2 H; try simp only [Act.put]) | ((with_reducible refine wpList_load_cell rfl 3 _ rfl _ _ rfl (.int .i64 9) (H.at List.mem_cons_self _ _ rfl) (agg3 _) ?_); simp only [Act.put, List.setIfInBounds_toArray, List.set_cons_succ, List.set_cons_zero]) | (go_at_call 238; refine (Reckon_c 9 _ _ hv hy _).mono ?_; rintro e w' ⟨rfl, hb⟩; replace H := H.grow hb; clear hb; dsimp only))
  go_ret2
  exact ⟨ret_two rfl hE.out, H.below⟩
theorem shift_1 (v y : Int) (hv : Hid (U64 v)) (h0 : 0 ≤ y) (h1 : y ≤ 63) (w : World) :
    Calls Tryz.prog 201 #[.int .u64 v, .int .i64 1, .int .i64 y] w fun e w' => e = .returned (.tuple #[.int .u64 (reckonV (9 + 1) v y), .int .i64 0]) ∧ Below w.heap.size w w' := by
  have hp : placeB y = true := by simp [placeB]; omega
  have hy : Hid (U64 y) := ⟨h0, by omega⟩
  have H := has_none w
  have hE : Hid (kindE 10 = 0) := by show _ = _; decide
  go_enter Tryz.func201, Tryz.ntmps201
  go_wp2_with (first | (go_at_call 236; refine (isPlace_c _ _).mono ?_; rintro e w' ⟨rfl, rfl⟩) | ((with_reducible refine wpList_store_new H rfl 141 _ _ rfl four rfl rfl four_info ?_ four_one ?_); (focus rfl); intro w2 H; try simp only [Act.put]) | ((with_reducible refine wpList_load_cell rfl 3 _ rfl _ _ rfl (.int .i64 10) (H.at List.mem_cons_self _ _ rfl) (agg3 _) ?_); simp only [Act.put, List.setIfInBounds_toArray, List.set_cons_succ, List.set_cons_zero]) | (go_at_call 238; refine (Reckon_c 10 _ _ hv hy _).mono ?_; rintro e w' ⟨rfl, hb⟩; replace H := H.grow hb; clear hb; dsimp only))
  go_ret2
  exact ⟨ret_two rfl hE.out, H.below⟩
theorem shift_2 (v y : Int) (hv : Hid (U64 v)) (h0 : 0 ≤ y) (h1 : y ≤ 63) (w : World) :
    Calls Tryz.prog 201 #[.int .u64 v, .int .i64 2, .int .i64 y] w fun e w' => e = .returned (.tuple #[.int .u64 (reckonV (9 + 2) v y), .int .i64 0]) ∧ Below w.heap.size w w' := by
  have hp : placeB y = true := by simp [placeB]; omega
  have hy : Hid (U64 y) := ⟨h0, by omega⟩
  have H := has_none w
  have hE : Hid (kindE 11 = 0) := by show _ = _; decide
  go_enter Tryz.func201, Tryz.ntmps201
  go_wp2_with (first | (go_at_call 236; refine (isPlace_c _ _).mono ?_; rintro e w' ⟨rfl, rfl⟩) | ((with_reducible refine wpList_store_new H rfl 141 _ _ rfl four rfl rfl four_info ?_ four_one ?_); (focus rfl); intro w2 H; try simp only [Act.put]) | ((with_reducible refine wpList_load_cell rfl 3 _ rfl _ _ rfl (.int .i64 11) (H.at List.mem_cons_self _ _ rfl) (agg3 _) ?_); simp only [Act.put, List.setIfInBounds_toArray, List.set_cons_succ, List.set_cons_zero]) | (go_at_call 238; refine (Reckon_c 11 _ _ hv hy _).mono ?_; rintro e w' ⟨rfl, hb⟩; replace H := H.grow hb; clear hb; dsimp only))
  go_ret2
  exact ⟨ret_two rfl hE.out, H.below⟩
theorem shift_3 (v y : Int) (hv : Hid (U64 v)) (h0 : 0 ≤ y) (h1 : y ≤ 63) (w : World) :
    Calls Tryz.prog 201 #[.int .u64 v, .int .i64 3, .int .i64 y] w fun e w' => e = .returned (.tuple #[.int .u64 (reckonV (9 + 3) v y), .int .i64 0]) ∧ Below w.heap.size w w' := by
  have hp : placeB y = true := by simp [placeB]; omega
  have hy : Hid (U64 y) := ⟨h0, by omega⟩
  have H := has_none w
  have hE : Hid (kindE 12 = 0) := by show _ = _; decide
  go_enter Tryz.func201, Tryz.ntmps201
  go_wp2_with (first | (go_at_call 236; refine (isPlace_c _ _).mono ?_; rintro e w' ⟨rfl, rfl⟩) | ((with_reducible refine wpList_store_new H rfl 141 _ _ rfl four rfl rfl four_info ?_ four_one ?_); (focus rfl); intro w2 H; try simp only [Act.put]) | ((with_reducible refine wpList_load_cell rfl 3 _ rfl _ _ rfl (.int .i64 12) (H.at List.mem_cons_self _ _ rfl) (agg3 _) ?_); simp only [Act.put, List.setIfInBounds_toArray, List.set_cons_succ, List.set_cons_zero]) | (go_at_call 238; refine (Reckon_c 12 _ _ hv hy _).mono ?_; rintro e w' ⟨rfl, hb⟩; replace H := H.grow hb; clear hb; dsimp only))
  go_ret2
  exact ⟨ret_two rfl hE.out, H.below⟩
theorem Shift_c (v k y : Int) (hv : Hid (U64 v)) (w : World) :
    Calls Tryz.prog 201 #[.int .u64 v, .int .i64 k, .int .i64 y] w fun e w' => e = .returned (.tuple #[.int .u64 (shiftV v k y), .int .i64 (shiftE k y)]) ∧ Below w.heap.size w w' := by
  cases hb : shiftB k y with
  | false =>
    have hE : Hid (0 = shiftV v k y ∧ 1 = shiftE k y) := by
      show _ ∧ _
      simp [shiftV, shiftE, hb]
    by_cases h0 : k < 0
    · clear hb
      go_enter Tryz.func201, Tryz.ntmps201
      go_wp2
      go_ret2
      exact ⟨ret_two hE.out.1 hE.out.2, Below.refl _ _⟩
    · by_cases h3 : 3 < k
      · clear hb
        go_enter Tryz.func201, Tryz.ntmps201
        go_wp2
        go_ret2
        exact ⟨ret_two hE.out.1 hE.out.2, Below.refl _ _⟩
      · have hp : placeB y = false := by
          unfold shiftB at hb
          rw [decide_eq_true (by omega), Bool.true_and] at hb
          exact hb
        clear hb
        go_enter Tryz.func201, Tryz.ntmps201
        go_wp2_with (go_at_call 236; refine (isPlace_c _ _).mono ?_; rintro e w' ⟨rfl, rfl⟩)
        go_ret2
        exact ⟨ret_two hE.out.1 hE.out.2, Below.refl _ _⟩
  | true =>
    have e1 : shiftV v k y = reckonV (9 + k) v y := by simp [shiftV, hb]
    have e2 : shiftE k y = 0 := by simp [shiftE, hb]
    unfold shiftB at hb
    rw [Bool.and_eq_true, decide_eq_true_eq] at hb
    have hy : 0 ≤ y ∧ y ≤ 63 := by simpa [placeB] using hb.2
    rw [e1, e2]
    rcases (by omega : k = 0 ∨ k = 1 ∨ k = 2 ∨ k = 3) with rfl | rfl | rfl | rfl
    · exact shift_0 v y hv hy.1 hy.2 w
    · exact shift_1 v y hv hy.1 hy.2 w
    · exact shift_2 v y hv hy.1 hy.2 w
    · exact shift_3 v y hv hy.1 hy.2 w
end Go.Proofs.YtbjcdpmhmebjnaaGreat
/- Plain facts on bits that are moved: no Go text is named here. -/
namespace Go.Proofs.YtbjcdpmhmebjnaaGreat
open Go.RowKit

theorem lowest_walk {v : Int} {m : Nat} (hm : m ≤ 64) : IntKind.u64.wrap (v * 2 ^ (64 - m)) / 2 ^ (64 - m) = v % 2 ^ m := by
  have hp := pow_pos (64 - m)
  have e := pow_split (j := 64 - m) (k := m) (by omega)
  rw [wrapU, ← e, Int.mul_comm v, Int.mul_emod_mul_of_pos _ _ hp, Int.mul_ediv_cancel_left _ (by omega)]
def movedN (v : Int) (r s : Nat) : Int := if s < r then v % 2 ^ (s + 1) * 2 ^ (64 - r) else v / 2 ^ r % 2 ^ (s - r + 1)
def endN (r s : Nat) : Nat := if s < r then 64 - r + (s + 1) else s - r + 1
def moveW (v : Int) (g : Bool) (r s : Nat) : Int := movedN v r s + (bif g then v / 2 ^ s % 2 * (18446744073709551616 - 2 ^ endN r s) else 0)
def moveB (immr imms : Int) : Bool := placeB immr && placeB imms
def moveV (v : Int) (g : Bool) (immr imms : Int) : Int := if moveB immr imms = true then moveW v g immr.toNat imms.toNat else 0
def moveE (immr imms : Int) : Int := if moveB immr imms = true then 0 else 1
theorem div_add (v : Int) (f j : Nat) : v / 2 ^ (f + j) = v / 2 ^ f / 2 ^ j := by
  rw [Int.pow_add, Int.ediv_ediv_of_nonneg (by have := pow_pos f; omega)]
theorem end_in {r s : Nat} (hr : r ≤ 63) (hs : s ≤ 63) : 1 ≤ endN r s ∧ endN r s ≤ 64 := by
  unfold endN
  split <;> omega
theorem mod_in (x : Int) (j : Nat) : 0 ≤ x % 2 ^ j ∧ x % 2 ^ j < 2 ^ j := ⟨Int.emod_nonneg _ (by have := pow_pos j; omega), Int.emod_lt_of_pos _ (pow_pos j)⟩
theorem scaled {x : Int} {j t : Nat} (h0 : 0 ≤ x) (h1 : x < 2 ^ j) : 0 ≤ x * 2 ^ t ∧ x * 2 ^ t < 2 ^ (t + j) := by
  have hp := pow_pos t
  refine ⟨Int.mul_nonneg h0 (by omega), ?_⟩
  rw [Int.pow_add, Int.mul_comm]
  exact Int.mul_lt_mul_of_pos_left h1 hp
theorem moved_in {v : Int} {r s : Nat} : 0 ≤ movedN v r s ∧ movedN v r s < 2 ^ endN r s := by
  unfold movedN endN
  split
  · exact scaled (mod_in _ _).1 (mod_in _ _).2
  · exact mod_in _ _
theorem mod_top (x : Int) (j : Nat) : x % 2 ^ (j + 1) / 2 ^ j = x / 2 ^ j % 2 := by
  have hp := pow_pos j
  rw [mod_step, Int.add_mul_ediv_right _ _ (by omega), Int.ediv_eq_zero_of_lt (mod_in x j).1 (mod_in x j).2, Int.zero_add]
theorem moved_top {v : Int} {r s : Nat} : movedN v r s / 2 ^ (endN r s - 1) % 2 = v / 2 ^ s % 2 := by
  unfold movedN endN
  split
  · have hp := pow_pos (64 - r)
    rw [show 64 - r + (s + 1) - 1 = (64 - r) + s by omega, div_add, Int.mul_ediv_cancel _ (by omega), mod_top]
    omega
  · rw [show s - r + 1 - 1 = s - r by omega, mod_top, ← div_add, show r + (s - r) = s by omega]
    omega
theorem signed_num {v : Int} {m : Nat} (h0 : 0 ≤ v) (h1 : v < 2 ^ m) (hm : 1 ≤ m) (hm2 : m ≤ 64) : signedV v (m : Int) = v + v / 2 ^ (m - 1) % 2 * (18446744073709551616 - 2 ^ m) := by
  have hp := pow_pos (64 - m)
  have hq := pow_pos (m - 1)
  have e1 : (2 : Int) ^ m = 2 ^ (m - 1) * 2 := by rw [← Int.pow_succ]; congr 1; omega
  have e2 := pow_split (j := m) (k := 64 - m) (by omega)
  have e3 : (2 : Int) ^ (m - 1) * 2 ^ (64 - m) = 9223372036854775808 := by
    rw [← Int.pow_add, show m - 1 + (64 - m) = 63 by omega]; decide
  have hM : (2 : Int) ^ m ≤ 18446744073709551616 := by
    have h : 2 ^ m ≤ 2 ^ 64 := Nat.pow_le_pow_right (by decide) hm2
    have e := pow_nat m
    have h2 : (2 : Nat) ^ 64 = 18446744073709551616 := by decide
    omega
  have hv : Hid (0 ≤ v ∧ v < 18446744073709551616) := ⟨h0, by omega⟩
  rw [← signed_walk v m hv (by unfold inNumB; rw [decide_eq_true_eq]; omega), show (64 - (m : Int)).toNat = 64 - m by omega]
  have k1 : v * 2 ^ (64 - m) < 18446744073709551616 := by
    rw [← e2]; exact Int.mul_lt_mul_of_pos_right h1 hp
  have k0 : 0 ≤ v * 2 ^ (64 - m) := Int.mul_nonneg h0 (by omega)
  have e4 : IntKind.u64.wrap (v * 2 ^ (64 - m)) = v * 2 ^ (64 - m) := by rw [wrapU]; omega
  rw [e4]
  by_cases c : v < 2 ^ (m - 1)
  · have k2 : v * 2 ^ (64 - m) < 9223372036854775808 := by
      rw [← e3]; exact Int.mul_lt_mul_of_pos_right c hp
    have e5 : wrap64 (v * 2 ^ (64 - m)) = v * 2 ^ (64 - m) := by unfold wrap64; omega
    rw [e5, Int.mul_ediv_cancel _ (by omega), Int.ediv_eq_zero_of_lt h0 c, wrapU]
    omega
  · have k2 : 9223372036854775808 ≤ v * 2 ^ (64 - m) := by
      rw [← e3]; exact Int.mul_le_mul_of_nonneg_right (by omega) (by omega)
    have e5 : wrap64 (v * 2 ^ (64 - m)) = (v - 2 ^ m) * 2 ^ (64 - m) := by
      rw [Int.sub_mul, e2]; unfold wrap64; omega
    have e6 : v / 2 ^ (m - 1) = 1 := by
      have a1 : 1 ≤ v / 2 ^ (m - 1) := Int.le_ediv_of_mul_le hq (by omega)
      have a2 : v / 2 ^ (m - 1) < 2 := Int.ediv_lt_of_lt_mul hq (by omega)
      omega
    rw [e5, Int.mul_ediv_cancel _ (by omega), e6, wrapU]
    omega
theorem field_signed {v : Int} {r s : Nat} (hr : r ≤ 63) (hs : s ≤ 63) : signedV (movedN v r s) (endN r s : Int) = moveW v true r s := by
  have h := moved_in (v := v) (r := r) (s := s)
  have e := end_in hr hs
  rw [signed_num h.1 h.2 e.1 e.2, moved_top]
  rfl
/-! ### Bit by bit -/
theorem or_bit {v : Int} {f j t : Nat} (hv : 0 ≤ v) (h : t + j < 64) :
    bits .or .u64 (v / 2 ^ f % 2 ^ j * 2 ^ t) (IntKind.u64.wrap ((v / 2 ^ (f + j)).tmod 2 * 2 ^ (t + j))) = v / 2 ^ f % 2 ^ (j + 1) * 2 ^ t := by
  have h1 := scaled (t := t) (mod_in (v / 2 ^ f) j).1 (mod_in (v / 2 ^ f) j).2
  have h2 : 0 ≤ v / 2 ^ (f + j) := Int.ediv_nonneg hv (by have := pow_pos (f + j); omega)
  rw [Int.tmod_eq_emod_of_nonneg h2, or_low h h1.1 h1.2 (by omega), mod_step, div_add, Int.add_mul, Int.mul_assoc, ← Int.pow_add, Nat.add_comm j t]
theorem or_sign {v b : Int} {e k : Nat} (h0 : 0 ≤ v) (h1 : v < 2 ^ e) (he : e ≤ k) (hk : k < 64) (hb : b = 0 ∨ b = 1) :
    bits .or .u64 (v + b * (2 ^ k - 2 ^ e)) (IntKind.u64.wrap (b * 2 ^ k)) = v + b * (2 ^ (k + 1) - 2 ^ e) := by
  have hp : (2 : Int) ^ e ≤ 2 ^ k := by
    have h : 2 ^ e ≤ 2 ^ k := Nat.pow_le_pow_right (by decide) he
    have a := pow_nat e
    have b := pow_nat k
    omega
  rw [or_low hk (by rcases hb with rfl | rfl <;> omega) (by rcases hb with rfl | rfl <;> omega) hb, Int.pow_succ]
  rcases hb with rfl | rfl <;> omega
end Go.Proofs.YtbjcdpmhmebjnaaGreat
/- What Shift and Field of package alu and of the document's own answer give back: contracts, for all numbers. -/
namespace Go.Proofs.YtbjcdpmhmebjnaaGreat
open Go.RowKit
set_option linter.unusedVariables false
theorem lowest_c (v : Int) (m : Int) (h1 : 1 ≤ m) (h2 : m ≤ 64) (w : World) :
    Calls Tryz.prog 252 #[.int .u64 v, .int .i64 m] w fun e w' => e = .returned (.int .u64 (v % 2 ^ m.toNat)) ∧ w' = w := by
  have hE : Hid (IntKind.u64.wrap (v * 2 ^ (64 - m).toNat) / 2 ^ (64 - m).toNat = v % 2 ^ m.toNat) := by
    show _ = _
    rw [show (64 - m).toNat = 64 - m.toNat by omega]
    exact lowest_walk (by omega)
  go_enter Tryz.func252, Tryz.ntmps252
  go_wp2
  go_ret
  exact ⟨ret_int hE.out, rfl⟩
theorem move_c (v : Int) (r s : Nat) (hr : r ≤ 63) (hs : s ≤ 63) (w : World) :
    Calls Tryz.prog 237 #[.int .u64 v, .int .i64 (r : Int), .int .i64 (s : Int)] w fun e w' => e = .returned (.tuple #[.int .u64 (movedN v r s), .int .i64 (endN r s : Int)]) ∧ w' = w := by
  by_cases h : s < r
  · have hE : Hid (IntKind.u64.wrap (v % 2 ^ (s + 1) * 2 ^ (64 - r)) = movedN v r s) := by
      show _ = _
      unfold movedN
      rw [if_pos h, wrapU]
      have h1 := scaled (t := 64 - r) (mod_in v (s + 1)).1 (mod_in v (s + 1)).2
      have h2 : (2 : Int) ^ (64 - r + (s + 1)) ≤ 18446744073709551616 := by
        have h : 2 ^ (64 - r + (s + 1)) ≤ 2 ^ 64 := Nat.pow_le_pow_right (by decide) (by omega)
        have e := pow_nat (64 - r + (s + 1))
        have h2 : (2 : Nat) ^ 64 = 18446744073709551616 := by decide
        omega
      omega
    have hF : Hid (64 - (r : Int) + ((s : Int) + 1) = (endN r s : Int)) := by
      show _ = _
      unfold endN
      rw [if_pos h]
      omega
    have h' : (s : Int) < r := by omega
    clear h
    go_enter Tryz.func237, Tryz.ntmps237
    go_wp2_with (go_at_call 252; refine (lowest_c _ _ (by omega) (by omega) _).mono ?_; rintro e w' ⟨rfl, rfl⟩)
    go_ret2
    exact ⟨ret_two hE.out hF.out, rfl⟩
  · have hE : Hid (v / 2 ^ r % 2 ^ ((s : Int) - (r : Int) + 1).toNat = movedN v r s) := by
      show _ = _
      unfold movedN
      rw [if_neg h, show ((s : Int) - (r : Int) + 1).toNat = s - r + 1 by omega]
    have hF : Hid ((s : Int) - (r : Int) + 1 = (endN r s : Int)) := by
      show _ = _
      unfold endN
      rw [if_neg h]
      omega
    have h' : (r : Int) ≤ s := by omega
    clear h
    go_enter Tryz.func237, Tryz.ntmps237
    go_wp2_with (go_at_call 252; refine (lowest_c _ _ (by omega) (by omega) _).mono ?_; rintro e w' ⟨rfl, rfl⟩)
    go_ret2
    exact ⟨ret_two hE.out hF.out, rfl⟩
theorem a_place_no {m : Int} (h : placeB m = false) : ¬ (0 ≤ m ∧ m ≤ 63) := by simpa [placeB] using h
theorem place_yes {m : Int} (h : placeB m = true) : 0 ≤ m ∧ m ≤ 63 := by simpa [placeB] using h
theorem Field_c (v : Int) (g : Bool) (immr imms : Int) (w : World) :
    Calls Tryz.prog 200 #[.int .u64 v, .bool g, .int .i64 immr, .int .i64 imms] w fun e w' => e = .returned (.tuple #[.int .u64 (moveV v g immr imms), .int .i64 (moveE immr imms)]) ∧ w' = w := by
  cases h1 : placeB immr with
  | false =>
    have hE : Hid (0 = moveV v g immr imms ∧ 1 = moveE immr imms) := by
      show _ ∧ _
      simp [moveV, moveE, moveB, h1]
    go_enter Tryz.func200, Tryz.ntmps200
    go_wp2_with (go_at_call 236; refine (isPlace_c _ _).mono ?_; rintro e w' ⟨rfl, rfl⟩)
    go_ret2
    exact ⟨ret_two hE.out.1 hE.out.2, rfl⟩
  | true =>
    cases h2 : placeB imms with
    | false =>
      have hE : Hid (0 = moveV v g immr imms ∧ 1 = moveE immr imms) := by
        show _ ∧ _
        simp [moveV, moveE, moveB, h1, h2]
      go_enter Tryz.func200, Tryz.ntmps200
      go_wp2_with (go_at_call 236; refine (isPlace_c _ _).mono ?_; rintro e w' ⟨rfl, rfl⟩)
      go_ret2
      exact ⟨ret_two hE.out.1 hE.out.2, rfl⟩
    | true =>
      have hE : Hid (moveW v g immr.toNat imms.toNat = moveV v g immr imms ∧ 0 = moveE immr imms) := by
        show _ ∧ _
        simp [moveV, moveE, moveB, h1, h2]
      obtain ⟨r0, r1⟩ := place_yes h1
      obtain ⟨s0, s1⟩ := place_yes h2
      obtain ⟨r, rfl⟩ := Int.eq_ofNat_of_zero_le r0
      obtain ⟨s, rfl⟩ := Int.eq_ofNat_of_zero_le s0
      simp only [Int.toNat_natCast] at hE
      cases g with
      | false =>
        go_enter Tryz.func200, Tryz.ntmps200
        go_wp2_with (first | (go_at_call 236; refine (isPlace_c _ _).mono ?_; rintro e w' ⟨rfl, rfl⟩) | (go_at_call 237; refine (move_c _ _ _ (by omega) (by omega) _).mono ?_; rintro e w' ⟨rfl, rfl⟩))
        go_ret2
        refine ⟨ret_two ?_ hE.out.2, rfl⟩
        rw [← hE.out.1]
        simp [moveW]
      | true =>
        have hr : r ≤ 63 := by omega
        have hs : s ≤ 63 := by omega
        have hv : Hid (0 ≤ movedN v r s ∧ movedN v r s < 18446744073709551616) := by
          have h := moved_in (v := v) (r := r) (s := s)
          have e := end_in hr hs
          have h2 : (2 : Int) ^ endN r s ≤ 18446744073709551616 := by
            have h : 2 ^ endN r s ≤ 2 ^ 64 := Nat.pow_le_pow_right (by decide) e.2
            have e := pow_nat (endN r s)
            have h2 : (2 : Nat) ^ 64 = 18446744073709551616 := by decide
            omega
          exact ⟨h.1, by omega⟩
        have hb : Hid (inE (inNumB (endN r s : Int)) = 0) := by
          have e := end_in hr hs
          show _ = _
          rw [show inNumB (endN r s : Int) = true by unfold inNumB; rw [decide_eq_true_eq]; omega]
          rfl
        go_enter Tryz.func200, Tryz.ntmps200
        go_wp2_with (first | (go_at_call 236; refine (isPlace_c _ _).mono ?_; rintro e w' ⟨rfl, rfl⟩) | (go_at_call 237; refine (move_c _ _ _ hr hs _).mono ?_; rintro e w' ⟨rfl, rfl⟩) | (go_at_call 216; refine (signed_c _ _ hv _).mono ?_; rintro e w' ⟨rfl, rfl⟩))
        go_ret2
        refine ⟨ret_two ?_ ?_, rfl⟩
        · rw [field_signed hr hs, ← hE.out.1]
        · rw [hb.out, ← hE.out.2]
theorem bit_or (v : Int) (k : Nat) (hv : 0 ≤ v) : (v / 2 ^ k).tmod 2 = 0 ∨ (v / 2 ^ k).tmod 2 = 1 := by
  have h2 : 0 ≤ v / 2 ^ k := Int.ediv_nonneg hv (by have := pow_pos k; omega)
  rw [Int.tmod_eq_emod_of_nonneg h2]
  omega
theorem bit_emod (v : Int) (k : Nat) (hv : 0 ≤ v) : (v / 2 ^ k).tmod 2 = v / 2 ^ k % 2 := 
  Int.tmod_eq_emod_of_nonneg (Int.ediv_nonneg hv (by have := pow_pos k; omega))
theorem or_bit0 {v : Int} {j t : Nat} (hv : 0 ≤ v) (h : t + j < 64) :
    bits .or .u64 (v % 2 ^ j * 2 ^ t) (IntKind.u64.wrap ((v / 2 ^ j).tmod 2 * 2 ^ (t + j))) = v % 2 ^ (j + 1) * 2 ^ t := by
  have := or_bit (f := 0) hv h
  simpa using this
theorem or_bitr {v : Int} {r k : Nat} (hv : 0 ≤ v) (h : r ≤ k) (hk : k - r < 64) :
    bits .or .u64 (v / 2 ^ r % 2 ^ (k - r)) (IntKind.u64.wrap ((v / 2 ^ k).tmod 2 * 2 ^ (k - r))) = v / 2 ^ r % 2 ^ (k + 1 - r) := by
  have := or_bit (f := r) (j := k - r) (t := 0) hv (by omega)
  rw [show r + (k - r) = k by omega, show k - r + 1 = k + 1 - r by omega] at this
  simpa using this
end Go.Proofs.YtbjcdpmhmebjnaaGreat
