/- Conditions: which hold: contracts, for every state. -/
import Derived.Test.YthohkemkiohicaaNz
namespace Go.Proofs.Ythohkemkiohicaa
open Go.RowKit

set_option maxHeartbeats 1000000 in
theorem Holds_0 (c : Cor) (w : World) : Calls Try.prog 19 #[c.val, vI 0] w fun e w' => e = .returned (.tuple #[.bool c.z, vI 0]) ∧ Below w.heap.size w w' := by
  go_enter Try.func19, Try.ntmps19
  go_wp2
  all_goals (go_ret2; refine ⟨ret_bi ?_ rfl, by repeat (first | exact Below.refl _ _ | apply below_more | apply below_drew | apply below_drewN)⟩; simp_all)
set_option maxHeartbeats 1000000 in
theorem Holds_1 (c : Cor) (w : World) : Calls Try.prog 19 #[c.val, vI 1] w fun e w' => e = .returned (.tuple #[.bool (!c.z), vI 0]) ∧ Below w.heap.size w w' := by
  go_enter Try.func19, Try.ntmps19
  go_wp2
  all_goals (go_ret2; refine ⟨ret_bi ?_ rfl, by repeat (first | exact Below.refl _ _ | apply below_more | apply below_drew | apply below_drewN)⟩; simp_all)
set_option maxHeartbeats 1000000 in
theorem Holds_2 (c : Cor) (w : World) : Calls Try.prog 19 #[c.val, vI 2] w fun e w' => e = .returned (.tuple #[.bool c.c, vI 0]) ∧ Below w.heap.size w w' := by
  go_enter Try.func19, Try.ntmps19
  go_wp2
  all_goals (go_ret2; refine ⟨ret_bi ?_ rfl, by repeat (first | exact Below.refl _ _ | apply below_more | apply below_drew | apply below_drewN)⟩; simp_all)
set_option maxHeartbeats 1000000 in
theorem Holds_3 (c : Cor) (w : World) : Calls Try.prog 19 #[c.val, vI 3] w fun e w' => e = .returned (.tuple #[.bool (!c.c), vI 0]) ∧ Below w.heap.size w w' := by
  go_enter Try.func19, Try.ntmps19
  go_wp2
  all_goals (go_ret2; refine ⟨ret_bi ?_ rfl, by repeat (first | exact Below.refl _ _ | apply below_more | apply below_drew | apply below_drewN)⟩; simp_all)
set_option maxHeartbeats 1000000 in
theorem Holds_4 (c : Cor) (w : World) : Calls Try.prog 19 #[c.val, vI 4] w fun e w' => e = .returned (.tuple #[.bool c.n, vI 0]) ∧ Below w.heap.size w w' := by
  go_enter Try.func19, Try.ntmps19
  go_wp2
  all_goals (go_ret2; refine ⟨ret_bi ?_ rfl, by repeat (first | exact Below.refl _ _ | apply below_more | apply below_drew | apply below_drewN)⟩; simp_all)
set_option maxHeartbeats 1000000 in
theorem Holds_5 (c : Cor) (w : World) : Calls Try.prog 19 #[c.val, vI 5] w fun e w' => e = .returned (.tuple #[.bool (!c.n), vI 0]) ∧ Below w.heap.size w w' := by
  go_enter Try.func19, Try.ntmps19
  go_wp2
  all_goals (go_ret2; refine ⟨ret_bi ?_ rfl, by repeat (first | exact Below.refl _ _ | apply below_more | apply below_drew | apply below_drewN)⟩; simp_all)
set_option maxHeartbeats 1000000 in
theorem Holds_6 (c : Cor) (w : World) : Calls Try.prog 19 #[c.val, vI 6] w fun e w' => e = .returned (.tuple #[.bool c.v, vI 0]) ∧ Below w.heap.size w w' := by
  go_enter Try.func19, Try.ntmps19
  go_wp2
  all_goals (go_ret2; refine ⟨ret_bi ?_ rfl, by repeat (first | exact Below.refl _ _ | apply below_more | apply below_drew | apply below_drewN)⟩; simp_all)
set_option maxHeartbeats 1000000 in
theorem Holds_7 (c : Cor) (w : World) : Calls Try.prog 19 #[c.val, vI 7] w fun e w' => e = .returned (.tuple #[.bool (!c.v), vI 0]) ∧ Below w.heap.size w w' := by
  go_enter Try.func19, Try.ntmps19
  go_wp2
  all_goals (go_ret2; refine ⟨ret_bi ?_ rfl, by repeat (first | exact Below.refl _ _ | apply below_more | apply below_drew | apply below_drewN)⟩; simp_all)
set_option maxHeartbeats 1000000 in
theorem Holds_8 (c : Cor) (w : World) : Calls Try.prog 19 #[c.val, vI 8] w fun e w' => e = .returned (.tuple #[.bool (c.c && !c.z), vI 0]) ∧ Below w.heap.size w w' := by
  go_enter Try.func19, Try.ntmps19
  go_wp2
  all_goals (go_ret2; refine ⟨ret_bi ?_ rfl, by repeat (first | exact Below.refl _ _ | apply below_more | apply below_drew | apply below_drewN)⟩; simp_all)
set_option maxHeartbeats 1000000 in
theorem Holds_9 (c : Cor) (w : World) : Calls Try.prog 19 #[c.val, vI 9] w fun e w' => e = .returned (.tuple #[.bool (!(c.c && !c.z)), vI 0]) ∧ Below w.heap.size w w' := by
  go_enter Try.func19, Try.ntmps19
  go_wp2
  all_goals (go_ret2; refine ⟨ret_bi ?_ rfl, by repeat (first | exact Below.refl _ _ | apply below_more | apply below_drew | apply below_drewN)⟩; simp_all)
set_option maxHeartbeats 1000000 in
theorem Holds_10 (c : Cor) (w : World) : Calls Try.prog 19 #[c.val, vI 10] w fun e w' => e = .returned (.tuple #[.bool (c.n == c.v), vI 0]) ∧ Below w.heap.size w w' := by
  go_enter Try.func19, Try.ntmps19
  go_wp2
  all_goals (go_ret2; refine ⟨ret_bi ?_ rfl, by repeat (first | exact Below.refl _ _ | apply below_more | apply below_drew | apply below_drewN)⟩; simp_all)
set_option maxHeartbeats 1000000 in
theorem Holds_11 (c : Cor) (w : World) : Calls Try.prog 19 #[c.val, vI 11] w fun e w' => e = .returned (.tuple #[.bool (!(c.n == c.v)), vI 0]) ∧ Below w.heap.size w w' := by
  go_enter Try.func19, Try.ntmps19
  go_wp2
  all_goals (go_ret2; refine ⟨ret_bi ?_ rfl, by repeat (first | exact Below.refl _ _ | apply below_more | apply below_drew | apply below_drewN)⟩; simp_all)
set_option maxHeartbeats 1000000 in
theorem Holds_12 (c : Cor) (w : World) : Calls Try.prog 19 #[c.val, vI 12] w fun e w' => e = .returned (.tuple #[.bool (!c.z && (c.n == c.v)), vI 0]) ∧ Below w.heap.size w w' := by
  go_enter Try.func19, Try.ntmps19
  go_wp2
  all_goals (go_ret2; refine ⟨ret_bi ?_ rfl, by repeat (first | exact Below.refl _ _ | apply below_more | apply below_drew | apply below_drewN)⟩; simp_all)
set_option maxHeartbeats 1000000 in
theorem Holds_13 (c : Cor) (w : World) : Calls Try.prog 19 #[c.val, vI 13] w fun e w' => e = .returned (.tuple #[.bool (!(!c.z && (c.n == c.v))), vI 0]) ∧ Below w.heap.size w w' := by
  go_enter Try.func19, Try.ntmps19
  go_wp2
  all_goals (go_ret2; refine ⟨ret_bi ?_ rfl, by repeat (first | exact Below.refl _ _ | apply below_more | apply below_drew | apply below_drewN)⟩; simp_all)
set_option maxHeartbeats 1000000 in
theorem Holds_14 (c : Cor) (w : World) : Calls Try.prog 19 #[c.val, vI 14] w fun e w' => e = .returned (.tuple #[.bool true, vI 0]) ∧ Below w.heap.size w w' := by
  go_enter Try.func19, Try.ntmps19
  go_wp2
  all_goals (go_ret2; refine ⟨ret_bi ?_ rfl, by repeat (first | exact Below.refl _ _ | apply below_more | apply below_drew | apply below_drewN)⟩; simp_all)
set_option maxHeartbeats 1000000 in
theorem Holds_15 (c : Cor) (w : World) : Calls Try.prog 19 #[c.val, vI 15] w fun e w' => e = .returned (.tuple #[.bool true, vI 0]) ∧ Below w.heap.size w w' := by
  go_enter Try.func19, Try.ntmps19
  go_wp2
  all_goals (go_ret2; refine ⟨ret_bi ?_ rfl, by repeat (first | exact Below.refl _ _ | apply below_more | apply below_drew | apply below_drewN)⟩; simp_all)
set_option maxHeartbeats 1000000 in
theorem Holds_c (c : Cor) (cond : Int) (w : World) : Calls Try.prog 19 #[c.val, vI cond] w fun e w' => e = .returned (.tuple #[.bool (holdsV c cond), vI (condE cond)]) ∧ Below w.heap.size w w' := by
  by_cases h0 : 0 ≤ cond
  · by_cases h1 : cond ≤ 15
    · rcases (by omega : cond = 0 ∨ cond = 1 ∨ cond = 2 ∨ cond = 3 ∨ cond = 4 ∨ cond = 5 ∨ cond = 6 ∨ cond = 7 ∨ cond = 8 ∨ cond = 9 ∨ cond = 10 ∨ cond = 11 ∨ cond = 12 ∨ cond = 13 ∨ cond = 14 ∨ cond = 15) with rfl | rfl | rfl | rfl | rfl | rfl | rfl | rfl | rfl | rfl | rfl | rfl | rfl | rfl | rfl | rfl
      · exact Holds_0 c w
      · exact Holds_1 c w
      · exact Holds_2 c w
      · exact Holds_3 c w
      · exact Holds_4 c w
      · exact Holds_5 c w
      · exact Holds_6 c w
      · exact Holds_7 c w
      · exact Holds_8 c w
      · exact Holds_9 c w
      · exact Holds_10 c w
      · exact Holds_11 c w
      · exact Holds_12 c w
      · exact Holds_13 c w
      · exact Holds_14 c w
      · exact Holds_15 c w
    · have hb : Hid (condB cond = false) := by show _ = _; simp [condB]; omega
      have hv : Hid (holdsV c cond = false) := by show _ = _; simp [holdsV, show (cond == 0) = false by simp; omega, show (cond == 1) = false by simp; omega, show (cond == 2) = false by simp; omega, show (cond == 3) = false by simp; omega, show (cond == 4) = false by simp; omega, show (cond == 5) = false by simp; omega, show (cond == 6) = false by simp; omega, show (cond == 7) = false by simp; omega, show (cond == 8) = false by simp; omega, show (cond == 9) = false by simp; omega, show (cond == 10) = false by simp; omega, show (cond == 11) = false by simp; omega, show (cond == 12) = false by simp; omega, show (cond == 13) = false by simp; omega, show (cond == 14) = false by simp; omega, show (cond == 15) = false by simp; omega]
      have h2 : 15 < cond := by omega
      go_enter Try.func19, Try.ntmps19
      go_wp2
      go_ret2
      exact ⟨ret_bi hv.out.symm (by simp [condE, hb.out]), by repeat (first | exact Below.refl _ _ | apply below_more | apply below_drew | apply below_drewN)⟩
  · have hb : Hid (condB cond = false) := by show _ = _; simp [condB]; omega
    have hv : Hid (holdsV c cond = false) := by show _ = _; simp [holdsV, show (cond == 0) = false by simp; omega, show (cond == 1) = false by simp; omega, show (cond == 2) = false by simp; omega, show (cond == 3) = false by simp; omega, show (cond == 4) = false by simp; omega, show (cond == 5) = false by simp; omega, show (cond == 6) = false by simp; omega, show (cond == 7) = false by simp; omega, show (cond == 8) = false by simp; omega, show (cond == 9) = false by simp; omega, show (cond == 10) = false by simp; omega, show (cond == 11) = false by simp; omega, show (cond == 12) = false by simp; omega, show (cond == 13) = false by simp; omega, show (cond == 14) = false by simp; omega, show (cond == 15) = false by simp; omega]
    have h2 : cond < 0 := by omega
    go_enter Try.func19, Try.ntmps19
    go_wp2
    go_ret2
    exact ⟨ret_bi hv.out.symm (by simp [condE, hb.out]), by repeat (first | exact Below.refl _ _ | apply below_more | apply below_drew | apply below_drewN)⟩
set_option maxHeartbeats 1000000 in
theorem refHolds_0 (c : Cor) (w : World) : Calls Try.prog 20 #[c.val, vI 0] w fun e w' => e = .returned (.tuple #[.bool c.z, .bool true]) ∧ Below w.heap.size w w' := by
  go_enter Try.func20, Try.ntmps20
  go_wp2
  all_goals (go_ret2; refine ⟨ret_bb ?_ rfl, by repeat (first | exact Below.refl _ _ | apply below_more | apply below_drew | apply below_drewN)⟩; simp_all)
set_option maxHeartbeats 1000000 in
theorem refHolds_1 (c : Cor) (w : World) : Calls Try.prog 20 #[c.val, vI 1] w fun e w' => e = .returned (.tuple #[.bool (!c.z), .bool true]) ∧ Below w.heap.size w w' := by
  go_enter Try.func20, Try.ntmps20
  go_wp2
  all_goals (go_ret2; refine ⟨ret_bb ?_ rfl, by repeat (first | exact Below.refl _ _ | apply below_more | apply below_drew | apply below_drewN)⟩; simp_all)
set_option maxHeartbeats 1000000 in
theorem refHolds_2 (c : Cor) (w : World) : Calls Try.prog 20 #[c.val, vI 2] w fun e w' => e = .returned (.tuple #[.bool c.c, .bool true]) ∧ Below w.heap.size w w' := by
  go_enter Try.func20, Try.ntmps20
  go_wp2
  all_goals (go_ret2; refine ⟨ret_bb ?_ rfl, by repeat (first | exact Below.refl _ _ | apply below_more | apply below_drew | apply below_drewN)⟩; simp_all)
set_option maxHeartbeats 1000000 in
theorem refHolds_3 (c : Cor) (w : World) : Calls Try.prog 20 #[c.val, vI 3] w fun e w' => e = .returned (.tuple #[.bool (!c.c), .bool true]) ∧ Below w.heap.size w w' := by
  go_enter Try.func20, Try.ntmps20
  go_wp2
  all_goals (go_ret2; refine ⟨ret_bb ?_ rfl, by repeat (first | exact Below.refl _ _ | apply below_more | apply below_drew | apply below_drewN)⟩; simp_all)
set_option maxHeartbeats 1000000 in
theorem refHolds_4 (c : Cor) (w : World) : Calls Try.prog 20 #[c.val, vI 4] w fun e w' => e = .returned (.tuple #[.bool c.n, .bool true]) ∧ Below w.heap.size w w' := by
  go_enter Try.func20, Try.ntmps20
  go_wp2
  all_goals (go_ret2; refine ⟨ret_bb ?_ rfl, by repeat (first | exact Below.refl _ _ | apply below_more | apply below_drew | apply below_drewN)⟩; simp_all)
set_option maxHeartbeats 1000000 in
theorem refHolds_5 (c : Cor) (w : World) : Calls Try.prog 20 #[c.val, vI 5] w fun e w' => e = .returned (.tuple #[.bool (!c.n), .bool true]) ∧ Below w.heap.size w w' := by
  go_enter Try.func20, Try.ntmps20
  go_wp2
  all_goals (go_ret2; refine ⟨ret_bb ?_ rfl, by repeat (first | exact Below.refl _ _ | apply below_more | apply below_drew | apply below_drewN)⟩; simp_all)
set_option maxHeartbeats 1000000 in
theorem refHolds_6 (c : Cor) (w : World) : Calls Try.prog 20 #[c.val, vI 6] w fun e w' => e = .returned (.tuple #[.bool c.v, .bool true]) ∧ Below w.heap.size w w' := by
  go_enter Try.func20, Try.ntmps20
  go_wp2
  all_goals (go_ret2; refine ⟨ret_bb ?_ rfl, by repeat (first | exact Below.refl _ _ | apply below_more | apply below_drew | apply below_drewN)⟩; simp_all)
set_option maxHeartbeats 1000000 in
theorem refHolds_7 (c : Cor) (w : World) : Calls Try.prog 20 #[c.val, vI 7] w fun e w' => e = .returned (.tuple #[.bool (!c.v), .bool true]) ∧ Below w.heap.size w w' := by
  go_enter Try.func20, Try.ntmps20
  go_wp2
  all_goals (go_ret2; refine ⟨ret_bb ?_ rfl, by repeat (first | exact Below.refl _ _ | apply below_more | apply below_drew | apply below_drewN)⟩; simp_all)
set_option maxHeartbeats 1000000 in
theorem refHolds_8 (c : Cor) (w : World) : Calls Try.prog 20 #[c.val, vI 8] w fun e w' => e = .returned (.tuple #[.bool (c.c && !c.z), .bool true]) ∧ Below w.heap.size w w' := by
  go_enter Try.func20, Try.ntmps20
  go_wp2
  all_goals (go_ret2; refine ⟨ret_bb ?_ rfl, by repeat (first | exact Below.refl _ _ | apply below_more | apply below_drew | apply below_drewN)⟩; simp_all)
set_option maxHeartbeats 1000000 in
theorem refHolds_9 (c : Cor) (w : World) : Calls Try.prog 20 #[c.val, vI 9] w fun e w' => e = .returned (.tuple #[.bool (!(c.c && !c.z)), .bool true]) ∧ Below w.heap.size w w' := by
  go_enter Try.func20, Try.ntmps20
  go_wp2
  all_goals (go_ret2; refine ⟨ret_bb ?_ rfl, by repeat (first | exact Below.refl _ _ | apply below_more | apply below_drew | apply below_drewN)⟩; simp_all)
set_option maxHeartbeats 1000000 in
theorem refHolds_10 (c : Cor) (w : World) : Calls Try.prog 20 #[c.val, vI 10] w fun e w' => e = .returned (.tuple #[.bool (c.n == c.v), .bool true]) ∧ Below w.heap.size w w' := by
  go_enter Try.func20, Try.ntmps20
  go_wp2
  all_goals (go_ret2; refine ⟨ret_bb ?_ rfl, by repeat (first | exact Below.refl _ _ | apply below_more | apply below_drew | apply below_drewN)⟩; simp_all)
set_option maxHeartbeats 1000000 in
theorem refHolds_11 (c : Cor) (w : World) : Calls Try.prog 20 #[c.val, vI 11] w fun e w' => e = .returned (.tuple #[.bool (!(c.n == c.v)), .bool true]) ∧ Below w.heap.size w w' := by
  go_enter Try.func20, Try.ntmps20
  go_wp2
  all_goals (go_ret2; refine ⟨ret_bb ?_ rfl, by repeat (first | exact Below.refl _ _ | apply below_more | apply below_drew | apply below_drewN)⟩; simp_all)
set_option maxHeartbeats 1000000 in
theorem refHolds_12 (c : Cor) (w : World) : Calls Try.prog 20 #[c.val, vI 12] w fun e w' => e = .returned (.tuple #[.bool (!c.z && (c.n == c.v)), .bool true]) ∧ Below w.heap.size w w' := by
  go_enter Try.func20, Try.ntmps20
  go_wp2
  all_goals (go_ret2; refine ⟨ret_bb ?_ rfl, by repeat (first | exact Below.refl _ _ | apply below_more | apply below_drew | apply below_drewN)⟩; simp_all)
set_option maxHeartbeats 1000000 in
theorem refHolds_13 (c : Cor) (w : World) : Calls Try.prog 20 #[c.val, vI 13] w fun e w' => e = .returned (.tuple #[.bool (!(!c.z && (c.n == c.v))), .bool true]) ∧ Below w.heap.size w w' := by
  go_enter Try.func20, Try.ntmps20
  go_wp2
  all_goals (go_ret2; refine ⟨ret_bb ?_ rfl, by repeat (first | exact Below.refl _ _ | apply below_more | apply below_drew | apply below_drewN)⟩; simp_all)
set_option maxHeartbeats 1000000 in
theorem refHolds_14 (c : Cor) (w : World) : Calls Try.prog 20 #[c.val, vI 14] w fun e w' => e = .returned (.tuple #[.bool true, .bool true]) ∧ Below w.heap.size w w' := by
  go_enter Try.func20, Try.ntmps20
  go_wp2
  all_goals (go_ret2; refine ⟨ret_bb ?_ rfl, by repeat (first | exact Below.refl _ _ | apply below_more | apply below_drew | apply below_drewN)⟩; simp_all)
set_option maxHeartbeats 1000000 in
theorem refHolds_15 (c : Cor) (w : World) : Calls Try.prog 20 #[c.val, vI 15] w fun e w' => e = .returned (.tuple #[.bool true, .bool true]) ∧ Below w.heap.size w w' := by
  go_enter Try.func20, Try.ntmps20
  go_wp2
  all_goals (go_ret2; refine ⟨ret_bb ?_ rfl, by repeat (first | exact Below.refl _ _ | apply below_more | apply below_drew | apply below_drewN)⟩; simp_all)
set_option maxHeartbeats 1000000 in
theorem refHolds_c (c : Cor) (cond : Int) (w : World) : Calls Try.prog 20 #[c.val, vI cond] w fun e w' => e = .returned (.tuple #[.bool (holdsV c cond), .bool (condB cond)]) ∧ Below w.heap.size w w' := by
  by_cases h0 : 0 ≤ cond
  · by_cases h1 : cond ≤ 15
    · rcases (by omega : cond = 0 ∨ cond = 1 ∨ cond = 2 ∨ cond = 3 ∨ cond = 4 ∨ cond = 5 ∨ cond = 6 ∨ cond = 7 ∨ cond = 8 ∨ cond = 9 ∨ cond = 10 ∨ cond = 11 ∨ cond = 12 ∨ cond = 13 ∨ cond = 14 ∨ cond = 15) with rfl | rfl | rfl | rfl | rfl | rfl | rfl | rfl | rfl | rfl | rfl | rfl | rfl | rfl | rfl | rfl
      · exact refHolds_0 c w
      · exact refHolds_1 c w
      · exact refHolds_2 c w
      · exact refHolds_3 c w
      · exact refHolds_4 c w
      · exact refHolds_5 c w
      · exact refHolds_6 c w
      · exact refHolds_7 c w
      · exact refHolds_8 c w
      · exact refHolds_9 c w
      · exact refHolds_10 c w
      · exact refHolds_11 c w
      · exact refHolds_12 c w
      · exact refHolds_13 c w
      · exact refHolds_14 c w
      · exact refHolds_15 c w
    · have hb : Hid (condB cond = false) := by show _ = _; simp [condB]; omega
      have hv : Hid (holdsV c cond = false) := by show _ = _; simp [holdsV, show (cond == 0) = false by simp; omega, show (cond == 1) = false by simp; omega, show (cond == 2) = false by simp; omega, show (cond == 3) = false by simp; omega, show (cond == 4) = false by simp; omega, show (cond == 5) = false by simp; omega, show (cond == 6) = false by simp; omega, show (cond == 7) = false by simp; omega, show (cond == 8) = false by simp; omega, show (cond == 9) = false by simp; omega, show (cond == 10) = false by simp; omega, show (cond == 11) = false by simp; omega, show (cond == 12) = false by simp; omega, show (cond == 13) = false by simp; omega, show (cond == 14) = false by simp; omega, show (cond == 15) = false by simp; omega]
      have h2 : 15 < cond := by omega
      go_enter Try.func20, Try.ntmps20
      go_wp2
      go_ret2
      exact ⟨ret_bb hv.out.symm (hb.out.symm), by repeat (first | exact Below.refl _ _ | apply below_more | apply below_drew | apply below_drewN)⟩
  · have hb : Hid (condB cond = false) := by show _ = _; simp [condB]; omega
    have hv : Hid (holdsV c cond = false) := by show _ = _; simp [holdsV, show (cond == 0) = false by simp; omega, show (cond == 1) = false by simp; omega, show (cond == 2) = false by simp; omega, show (cond == 3) = false by simp; omega, show (cond == 4) = false by simp; omega, show (cond == 5) = false by simp; omega, show (cond == 6) = false by simp; omega, show (cond == 7) = false by simp; omega, show (cond == 8) = false by simp; omega, show (cond == 9) = false by simp; omega, show (cond == 10) = false by simp; omega, show (cond == 11) = false by simp; omega, show (cond == 12) = false by simp; omega, show (cond == 13) = false by simp; omega, show (cond == 14) = false by simp; omega, show (cond == 15) = false by simp; omega]
    have h2 : cond < 0 := by omega
    go_enter Try.func20, Try.ntmps20
    go_wp2
    go_ret2
    exact ⟨ret_bb hv.out.symm (hb.out.symm), by repeat (first | exact Below.refl _ _ | apply below_more | apply below_drew | apply below_drewN)⟩
end Go.Proofs.Ythohkemkiohicaa
