/- Flags and conditions: what package regs, and the document's own answer, tell of them: contracts, for every state. -/
import Derived.Test.YtbjcdpmhmebjnaaGreatD04
namespace Go.Proofs.YtbjcdpmhmebjnaaGreat
open Go.RowKit

def condB (cond : Int) : Bool := decide (0 ≤ cond) && decide (cond ≤ 15)
def condE (cond : Int) : Int := bif condB cond then 0 else 1
def holdsV (c : Cor) (cond : Int) : Bool := bif cond == 0 then c.z else bif cond == 1 then (!c.z) else bif cond == 2 then c.c else bif cond == 3 then (!c.c) else bif cond == 4 then c.n else bif cond == 5 then (!c.n) else bif cond == 6 then c.v else bif cond == 7 then (!c.v) else bif cond == 8 then (c.c && !c.z) else bif cond == 9 then (!(c.c && !c.z)) else bif cond == 10 then (c.n == c.v) else bif cond == 11 then (!(c.n == c.v)) else bif cond == 12 then (!c.z && (c.n == c.v)) else bif cond == 13 then (!(!c.z && (c.n == c.v))) else bif cond == 14 then true else bif cond == 15 then true else false
set_option maxHeartbeats 1000000 in
theorem Nzcv_c (c : Cor) (w : World) : Calls Tryz.prog 192 #[c.val] w fun e w' => e = .returned (vU (nzcvV c)) ∧ Below w.heap.size w w' := by
  go_enter Tryz.func192, Tryz.ntmps192
  go_upto_region 1 with fail
  go_quiet ((go_at_call 225; exact Calls.quiet_of_same (bitIf_c _ _ _)))
  go_wp2
  go_ret
  refine ⟨r_ret_int ?_, by repeat (first | exact Below.refl _ _ | apply r_below_more | apply below_drew | apply r_below_drewN)⟩
  unfold nzcvV
  cases c.n <;> cases c.z <;> cases c.c <;> cases c.v <;> rfl
end Go.Proofs.YtbjcdpmhmebjnaaGreat
/- Conditions: which hold: contracts, for every state. -/
namespace Go.Proofs.YtbjcdpmhmebjnaaGreat
open Go.RowKit

set_option maxHeartbeats 1000000 in
theorem Holds_0 (c : Cor) (w : World) : Calls Tryz.prog 239 #[c.val, r_vI 0] w fun e w' => e = .returned (.tuple #[.bool c.z, r_vI 0]) ∧ Below w.heap.size w w' := by
  go_enter Tryz.func239, Tryz.ntmps239
  go_wp2
  all_goals (go_ret2; refine ⟨ret_bi ?_ rfl, by repeat (first | exact Below.refl _ _ | apply r_below_more | apply below_drew | apply r_below_drewN)⟩; simp_all)
set_option maxHeartbeats 1000000 in
theorem Holds_1 (c : Cor) (w : World) : Calls Tryz.prog 239 #[c.val, r_vI 1] w fun e w' => e = .returned (.tuple #[.bool (!c.z), r_vI 0]) ∧ Below w.heap.size w w' := by
  go_enter Tryz.func239, Tryz.ntmps239
  go_wp2
  all_goals (go_ret2; refine ⟨ret_bi ?_ rfl, by repeat (first | exact Below.refl _ _ | apply r_below_more | apply below_drew | apply r_below_drewN)⟩; simp_all)
set_option maxHeartbeats 1000000 in
theorem Holds_2 (c : Cor) (w : World) : Calls Tryz.prog 239 #[c.val, r_vI 2] w fun e w' => e = .returned (.tuple #[.bool c.c, r_vI 0]) ∧ Below w.heap.size w w' := by
  go_enter Tryz.func239, Tryz.ntmps239
  go_wp2
  all_goals (go_ret2; refine ⟨ret_bi ?_ rfl, by repeat (first | exact Below.refl _ _ | apply r_below_more | apply below_drew | apply r_below_drewN)⟩; simp_all)
set_option maxHeartbeats 1000000 in
theorem Holds_3 (c : Cor) (w : World) : Calls Tryz.prog 239 #[c.val, r_vI 3] w fun e w' => e = .returned (.tuple #[.bool (!c.c), r_vI 0]) ∧ Below w.heap.size w w' := by
  go_enter Tryz.func239, Tryz.ntmps239
  go_wp2
  all_goals (go_ret2; refine ⟨ret_bi ?_ rfl, by repeat (first | exact Below.refl _ _ | apply r_below_more | apply below_drew | apply r_below_drewN)⟩; simp_all)
set_option maxHeartbeats 1000000 in
theorem Holds_4 (c : Cor) (w : World) : Calls Tryz.prog 239 #[c.val, r_vI 4] w fun e w' => e = .returned (.tuple #[.bool c.n, r_vI 0]) ∧ Below w.heap.size w w' := by
  go_enter Tryz.func239, Tryz.ntmps239
  go_wp2
  all_goals (go_ret2; refine ⟨ret_bi ?_ rfl, by repeat (first | exact Below.refl _ _ | apply r_below_more | apply below_drew | apply r_below_drewN)⟩; simp_all)
set_option maxHeartbeats 1000000 in
theorem Holds_5 (c : Cor) (w : World) : Calls Tryz.prog 239 #[c.val, r_vI 5] w fun e w' => e = .returned (.tuple #[.bool (!c.n), r_vI 0]) ∧ Below w.heap.size w w' := by
  go_enter Tryz.func239, Tryz.ntmps239
  go_wp2
  all_goals (go_ret2; refine ⟨ret_bi ?_ rfl, by repeat (first | exact Below.refl _ _ | apply r_below_more | apply below_drew | apply r_below_drewN)⟩; simp_all)
set_option maxHeartbeats 1000000 in
theorem Holds_6 (c : Cor) (w : World) : Calls Tryz.prog 239 #[c.val, r_vI 6] w fun e w' => e = .returned (.tuple #[.bool c.v, r_vI 0]) ∧ Below w.heap.size w w' := by
  go_enter Tryz.func239, Tryz.ntmps239
  go_wp2
  all_goals (go_ret2; refine ⟨ret_bi ?_ rfl, by repeat (first | exact Below.refl _ _ | apply r_below_more | apply below_drew | apply r_below_drewN)⟩; simp_all)
set_option maxHeartbeats 1000000 in
theorem Holds_7 (c : Cor) (w : World) : Calls Tryz.prog 239 #[c.val, r_vI 7] w fun e w' => e = .returned (.tuple #[.bool (!c.v), r_vI 0]) ∧ Below w.heap.size w w' := by
  go_enter Tryz.func239, Tryz.ntmps239
  go_wp2
  all_goals (go_ret2; refine ⟨ret_bi ?_ rfl, by repeat (first | exact Below.refl _ _ | apply r_below_more | apply below_drew | apply r_below_drewN)⟩; simp_all)
set_option maxHeartbeats 1000000 in
theorem Holds_8 (c : Cor) (w : World) : Calls Tryz.prog 239 #[c.val, r_vI 8] w fun e w' => e = .returned (.tuple #[.bool (c.c && !c.z), r_vI 0]) ∧ Below w.heap.size w w' := by
  go_enter Tryz.func239, Tryz.ntmps239
  go_wp2
  all_goals (go_ret2; refine ⟨ret_bi ?_ rfl, by repeat (first | exact Below.refl _ _ | apply r_below_more | apply below_drew | apply r_below_drewN)⟩; simp_all)
set_option maxHeartbeats 1000000 in
theorem Holds_9 (c : Cor) (w : World) : Calls Tryz.prog 239 #[c.val, r_vI 9] w fun e w' => e = .returned (.tuple #[.bool (!(c.c && !c.z)), r_vI 0]) ∧ Below w.heap.size w w' := by
  go_enter Tryz.func239, Tryz.ntmps239
  go_wp2
  all_goals (go_ret2; refine ⟨ret_bi ?_ rfl, by repeat (first | exact Below.refl _ _ | apply r_below_more | apply below_drew | apply r_below_drewN)⟩; simp_all)
set_option maxHeartbeats 1000000 in
theorem Holds_10 (c : Cor) (w : World) : Calls Tryz.prog 239 #[c.val, r_vI 10] w fun e w' => e = .returned (.tuple #[.bool (c.n == c.v), r_vI 0]) ∧ Below w.heap.size w w' := by
  go_enter Tryz.func239, Tryz.ntmps239
  go_wp2
  all_goals (go_ret2; refine ⟨ret_bi ?_ rfl, by repeat (first | exact Below.refl _ _ | apply r_below_more | apply below_drew | apply r_below_drewN)⟩; simp_all)
set_option maxHeartbeats 1000000 in
theorem Holds_11 (c : Cor) (w : World) : Calls Tryz.prog 239 #[c.val, r_vI 11] w fun e w' => e = .returned (.tuple #[.bool (!(c.n == c.v)), r_vI 0]) ∧ Below w.heap.size w w' := by
  go_enter Tryz.func239, Tryz.ntmps239
  go_wp2
  all_goals (go_ret2; refine ⟨ret_bi ?_ rfl, by repeat (first | exact Below.refl _ _ | apply r_below_more | apply below_drew | apply r_below_drewN)⟩; simp_all)
set_option maxHeartbeats 1000000 in
theorem Holds_12 (c : Cor) (w : World) : Calls Tryz.prog 239 #[c.val, r_vI 12] w fun e w' => e = .returned (.tuple #[.bool (!c.z && (c.n == c.v)), r_vI 0]) ∧ Below w.heap.size w w' := by
  go_enter Tryz.func239, Tryz.ntmps239
  go_wp2
  all_goals (go_ret2; refine ⟨ret_bi ?_ rfl, by repeat (first | exact Below.refl _ _ | apply r_below_more | apply below_drew | apply r_below_drewN)⟩; simp_all)
set_option maxHeartbeats 1000000 in
theorem Holds_13 (c : Cor) (w : World) : Calls Tryz.prog 239 #[c.val, r_vI 13] w fun e w' => e = .returned (.tuple #[.bool (!(!c.z && (c.n == c.v))), r_vI 0]) ∧ Below w.heap.size w w' := by
  go_enter Tryz.func239, Tryz.ntmps239
  go_wp2
  all_goals (go_ret2; refine ⟨ret_bi ?_ rfl, by repeat (first | exact Below.refl _ _ | apply r_below_more | apply below_drew | apply r_below_drewN)⟩; simp_all)
set_option maxHeartbeats 1000000 in
theorem Holds_14 (c : Cor) (w : World) : Calls Tryz.prog 239 #[c.val, r_vI 14] w fun e w' => e = .returned (.tuple #[.bool true, r_vI 0]) ∧ Below w.heap.size w w' := by
  go_enter Tryz.func239, Tryz.ntmps239
  go_wp2
  all_goals (go_ret2; refine ⟨ret_bi ?_ rfl, by repeat (first | exact Below.refl _ _ | apply r_below_more | apply below_drew | apply r_below_drewN)⟩; simp_all)
set_option maxHeartbeats 1000000 in
theorem Holds_15 (c : Cor) (w : World) : Calls Tryz.prog 239 #[c.val, r_vI 15] w fun e w' => e = .returned (.tuple #[.bool true, r_vI 0]) ∧ Below w.heap.size w w' := by
  go_enter Tryz.func239, Tryz.ntmps239
  go_wp2
  all_goals (go_ret2; refine ⟨ret_bi ?_ rfl, by repeat (first | exact Below.refl _ _ | apply r_below_more | apply below_drew | apply r_below_drewN)⟩; simp_all)
set_option maxHeartbeats 1000000 in
theorem Holds_c (c : Cor) (cond : Int) (w : World) : Calls Tryz.prog 239 #[c.val, r_vI cond] w fun e w' => e = .returned (.tuple #[.bool (holdsV c cond), r_vI (condE cond)]) ∧ Below w.heap.size w w' := by
  by_cases h0 : 0 ≤ cond
  · by_cases h1 : cond ≤ 15
    · rcases (by omega : cond = 0 ∨ cond = 1 ∨ cond = 2 ∨ cond = 3 ∨ cond = 4 ∨ cond = 5 ∨ cond = 6 ∨ cond = 7 ∨ cond = 8 ∨ cond = 9 ∨ cond = 10 ∨ cond = 11 ∨ cond = 12 ∨ cond = 13 ∨ cond = 14 ∨ cond = 15) with rfl | rfl | rfl | rfl | rfl | rfl | rfl | rfl | rfl | rfl | rfl | rfl | rfl | rfl | rfl | rfl
      · exact Holds_0 c w
      · exact Holds_1 c w
      · exact Holds_2 c w
      · exact Holds_3 c w
      · exact Holds_4 c w
      · exact Holds_5 c w
      · exact Holds_6 c w
      · exact Holds_7 c w
      · exact Holds_8 c w
      · exact Holds_9 c w
      · exact Holds_10 c w
      · exact Holds_11 c w
      · exact Holds_12 c w
      · exact Holds_13 c w
      · exact Holds_14 c w
      · exact Holds_15 c w
    · have hb : Hid (condB cond = false) := by show _ = _; simp [condB]; omega
      have hv : Hid (holdsV c cond = false) := by show _ = _; simp [holdsV, show (cond == 0) = false by simp; omega, show (cond == 1) = false by simp; omega, show (cond == 2) = false by simp; omega, show (cond == 3) = false by simp; omega, show (cond == 4) = false by simp; omega, show (cond == 5) = false by simp; omega, show (cond == 6) = false by simp; omega, show (cond == 7) = false by simp; omega, show (cond == 8) = false by simp; omega, show (cond == 9) = false by simp; omega, show (cond == 10) = false by simp; omega, show (cond == 11) = false by simp; omega, show (cond == 12) = false by simp; omega, show (cond == 13) = false by simp; omega, show (cond == 14) = false by simp; omega, show (cond == 15) = false by simp; omega]
      have h2 : 15 < cond := by omega
      go_enter Tryz.func239, Tryz.ntmps239
      go_wp2
      go_ret2
      exact ⟨ret_bi hv.out.symm (by simp [condE, hb.out]), by repeat (first | exact Below.refl _ _ | apply r_below_more | apply below_drew | apply r_below_drewN)⟩
  · have hb : Hid (condB cond = false) := by show _ = _; simp [condB]; omega
    have hv : Hid (holdsV c cond = false) := by show _ = _; simp [holdsV, show (cond == 0) = false by simp; omega, show (cond == 1) = false by simp; omega, show (cond == 2) = false by simp; omega, show (cond == 3) = false by simp; omega, show (cond == 4) = false by simp; omega, show (cond == 5) = false by simp; omega, show (cond == 6) = false by simp; omega, show (cond == 7) = false by simp; omega, show (cond == 8) = false by simp; omega, show (cond == 9) = false by simp; omega, show (cond == 10) = false by simp; omega, show (cond == 11) = false by simp; omega, show (cond == 12) = false by simp; omega, show (cond == 13) = false by simp; omega, show (cond == 14) = false by simp; omega, show (cond == 15) = false by simp; omega]
    have h2 : cond < 0 := by omega
    go_enter Tryz.func239, Tryz.ntmps239
    go_wp2
    go_ret2
    exact ⟨ret_bi hv.out.symm (by simp [condE, hb.out]), by repeat (first | exact Below.refl _ _ | apply r_below_more | apply below_drew | apply r_below_drewN)⟩
end Go.Proofs.YtbjcdpmhmebjnaaGreat
