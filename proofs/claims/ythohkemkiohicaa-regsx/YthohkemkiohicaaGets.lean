/- What the functions of package regs, and the document's own, tell of a state: contracts, for every state. -/
import Derived.Test.YthohkemkiohicaaNum
import Derived.Test.YthohkemkiohicaaEqc
namespace Go.Proofs.Ythohkemkiohicaa
open Go.RowKit

theorem ret_ub {k : IntKind} {a b : Int} {c d : Bool} (h : a = b) (h' : c = d) : Ending.returned (.tuple #[.int k a, .bool c]) = .returned (.tuple #[.int k b, .bool d]) := by rw [h, h']
theorem ret_bi {k : IntKind} {a b : Int} {c d : Bool} (h : c = d) (h' : a = b) : Ending.returned (.tuple #[.bool c, .int k a]) = .returned (.tuple #[.bool d, .int k b]) := by rw [h, h']
theorem ret_bb {a b c d : Bool} (h : c = d) (h' : a = b) : Ending.returned (.tuple #[.bool c, .bool a]) = .returned (.tuple #[.bool d, .bool b]) := by rw [h, h']
def regB (r : Int) : Bool := decide (0 ≤ r) && decide (r ≤ 31)
def regE (r : Int) : Int := bif regB r then 0 else 1
def xV (c : Cor) (r : Int) : Int := if 0 ≤ r then c.x.toArray.getD r.toNat 0 else 0
def spV (c : Cor) : Int := if c.el = 0 then c.sp0 else if c.el = 1 then c.sp1 else 0
def spE (c : Cor) : Int := if c.el = 0 ∨ c.el = 1 then 0 else 1
def rightC (c : Cor) : Bool := (c.el == 0 || c.el == 1) && decide (0 ≤ c.wait) && decide (c.wait ≤ 2) && decide (0 ≤ c.id) && decide (c.id ≤ 7)
def nzcvV (c : Cor) : Int := (bif c.n then 2147483648 else 0) + (bif c.z then 1073741824 else 0) + (bif c.c then 536870912 else 0) + (bif c.v then 268435456 else 0)
set_option maxHeartbeats 400000 in
theorem isRegister_c (r : Int) (w : World) : Calls Try.prog 29 #[vI r] w fun e w' => e = .returned (.bool (regB r)) ∧ w' = w := by
  go_enter Try.func29, Try.ntmps29
  go_wp2
  all_goals (go_ret; refine ⟨ret_bool ?_, rfl⟩; unfold regB; first | (rw [eq_comm, decide_eq_false_iff_not]; omega) | (simp_all; try omega))
set_option maxHeartbeats 400000 in
theorem bitIf_c (b : Bool) (k : Int) (w : World) : Calls Try.prog 31 #[.bool b, vU k] w fun e w' => e = .returned (vU (bif b then k else 0)) ∧ w' = w := by
  cases b
  all_goals
    go_enter Try.func31, Try.ntmps31
    go_wp2
    go_ret
    exact ⟨rfl, rfl⟩
def pw (k : Int) : Int := bif k == 31 then 2147483648 else bif k == 30 then 1073741824 else bif k == 29 then 536870912 else bif k == 28 then 268435456 else 128
set_option maxHeartbeats 400000 in
theorem one_c (b : Bool) (k : Int) (h : k = 31 ∨ k = 30 ∨ k = 29 ∨ k = 28 ∨ k = 7) (w : World) : Calls Try.prog 32 #[.bool b, vI k] w fun e w' => e = .returned (vU (bif b then pw k else 0)) ∧ w' = w := by
  rcases h with rfl | rfl | rfl | rfl | rfl <;> cases b
  all_goals
    go_enter Try.func32, Try.ntmps32
    go_wp2
    go_ret
    exact ⟨rfl, rfl⟩
set_option maxHeartbeats 1000000 in
theorem X_c (c : Cor) (r : Int) (w : World) : Calls Try.prog 10 #[c.val, vI r] w fun e w' => e = .returned (.tuple #[vU (xV c r), vI (regE r)]) ∧ Below w.heap.size w w' := by
  by_cases h0 : 0 ≤ r
  · by_cases h1 : r < 31
    · have hc : (w.alloc (.cells c.cells 26)).cell? ⟨w.heap.size, r.toNat, none⟩ = some (vU (xV c r)) := by
        rw [World.cell?_alloc_new]
        rw [c.atX r.toNat (by omega)]
        simp [xV, h0, show r.toNat < 31 by omega]
      have hB : Hid (regB r = true) := by show _ = _; simp [regB, h0]; omega
      have hb : regB r = true := hB.out
      go_enter Try.func10, Try.ntmps10
      go_wp2_with (go_at_call 29; refine (isRegister_c _ _).mono ?_; rintro e w1 ⟨rfl, rfl⟩)
      go_ret2
      exact ⟨ret_two rfl (by simp [regE, hb]), by repeat (first | exact Below.refl _ _ | apply below_more | apply below_drew | apply below_drewN)⟩
    · by_cases h2 : r = 31
      · subst h2
        go_enter Try.func10, Try.ntmps10
        go_wp2_with (go_at_call 29; refine (isRegister_c _ _).mono ?_; rintro e w' ⟨rfl, rfl⟩)
        go_ret2
        exact ⟨ret_two (by simp [xV]) (by decide), by repeat (first | exact Below.refl _ _ | apply below_more | apply below_drew | apply below_drewN)⟩
      · have hb : regB r = false := by simp [regB]; omega
        have hx : Hid (xV c r = 0) := by show _ = _; simp [xV, show ¬ r.toNat < 31 by omega]
        have h3 : 31 < r := by omega
        go_enter Try.func10, Try.ntmps10
        go_wp2_with (go_at_call 29; refine (isRegister_c _ _).mono ?_; rintro e w' ⟨rfl, rfl⟩)
        go_ret2
        exact ⟨ret_two hx.out.symm (by simp [regE, hb]), by repeat (first | exact Below.refl _ _ | apply below_more | apply below_drew | apply below_drewN)⟩
  · have hb : regB r = false := by simp [regB]; omega
    have hx : Hid (xV c r = 0) := by show _ = _; simp [xV, h0]
    have h3 : r < 0 := by omega
    go_enter Try.func10, Try.ntmps10
    go_wp2_with (go_at_call 29; refine (isRegister_c _ _).mono ?_; rintro e w' ⟨rfl, rfl⟩)
    go_ret2
    exact ⟨ret_two hx.out.symm (by simp [regE, hb]), by repeat (first | exact Below.refl _ _ | apply below_more | apply below_drew | apply below_drewN)⟩
set_option maxHeartbeats 1000000 in
theorem refX_c (c : Cor) (r : Int) (w : World) : Calls Try.prog 11 #[c.val, vI r] w fun e w' => e = .returned (.tuple #[vU (xV c r), .bool (regB r)]) ∧ Below w.heap.size w w' := by
  by_cases h0 : 0 ≤ r
  · by_cases h1 : r < 31
    · have hc : (w.alloc (.cells c.cells 26)).cell? ⟨w.heap.size, r.toNat, none⟩ = some (vU (xV c r)) := by
        rw [World.cell?_alloc_new]
        rw [c.atX r.toNat (by omega)]
        simp [xV, h0, show r.toNat < 31 by omega]
      have hb : Hid (regB r = true) := by show _ = _; simp [regB, h0]; omega
      go_enter Try.func11, Try.ntmps11
      go_wp2
      go_ret2
      exact ⟨ret_ub rfl (by rw [hb.out]), by repeat (first | exact Below.refl _ _ | apply below_more | apply below_drew | apply below_drewN)⟩
    · by_cases h2 : r = 31
      · subst h2
        go_enter Try.func11, Try.ntmps11
        go_wp2
        go_ret2
        exact ⟨ret_ub (by simp [xV]) (by decide), by repeat (first | exact Below.refl _ _ | apply below_more | apply below_drew | apply below_drewN)⟩
      · have hb : Hid (regB r = false) := by show _ = _; simp [regB]; omega
        have hx : Hid (xV c r = 0) := by show _ = _; simp [xV, show ¬ r.toNat < 31 by omega]
        have h3 : 31 < r := by omega
        go_enter Try.func11, Try.ntmps11
        go_wp2
        go_ret2
        exact ⟨ret_ub hx.out.symm (by rw [hb.out]), by repeat (first | exact Below.refl _ _ | apply below_more | apply below_drew | apply below_drewN)⟩
  · have hb : Hid (regB r = false) := by show _ = _; simp [regB]; omega
    have hx : Hid (xV c r = 0) := by show _ = _; simp [xV, h0]
    have h3 : r < 0 := by omega
    go_enter Try.func11, Try.ntmps11
    go_wp2
    go_ret2
    exact ⟨ret_ub hx.out.symm (by rw [hb.out]), by repeat (first | exact Below.refl _ _ | apply below_more | apply below_drew | apply below_drewN)⟩
set_option maxHeartbeats 400000 in
theorem SP_c (c : Cor) (w : World) :
    Calls Try.prog 14 #[c.val] w fun e w' => e = .returned (.tuple #[vU (spV c), vI (spE c)]) ∧ Below w.heap.size w w' := by
  rcases (by omega : c.el = 0 ∨ c.el = 1 ∨ (c.el ≠ 0 ∧ c.el ≠ 1)) with h | h | ⟨h, h'⟩
  · go_enter Try.func14, Try.ntmps14
    go_wp2_with (go_at_call 30; refine (isLevel_c _ _).mono ?_; rintro e w' ⟨rfl, rfl⟩)
    go_ret2
    exact ⟨ret_two (by simp [spV, h]) (by simp [spE, h]), by repeat (first | exact Below.refl _ _ | apply below_more | apply below_drew | apply below_drewN)⟩
  · go_enter Try.func14, Try.ntmps14
    go_wp2_with (go_at_call 30; refine (isLevel_c _ _).mono ?_; rintro e w' ⟨rfl, rfl⟩)
    go_ret2
    exact ⟨ret_two (by simp [spV, h]) (by simp [spE, h]), by repeat (first | exact Below.refl _ _ | apply below_more | apply below_drew | apply below_drewN)⟩
  · have hb : (c.el == 0 || c.el == 1) = false := by simp [h, h']
    go_enter Try.func14, Try.ntmps14
    go_wp2_with (go_at_call 30; refine (isLevel_c _ _).mono ?_; rw [hb]; rintro e w' ⟨rfl, rfl⟩)
    go_ret2
    exact ⟨ret_two (by simp [spV, h, h']) (by simp [spE, h, h']), by repeat (first | exact Below.refl _ _ | apply below_more | apply below_drew | apply below_drewN)⟩
set_option maxHeartbeats 1000000 in
theorem Right_c (c : Cor) (w : World) : Calls Try.prog 17 #[c.val] w fun e w' => e = .returned (.bool (rightC c)) ∧ Below w.heap.size w w' := by
  go_enter Try.func17, Try.ntmps17
  go_wp2_with (go_at_call 30; refine (isLevel_c _ _).mono ?_; rintro e w' ⟨rfl, rfl⟩)
  all_goals (go_ret; refine ⟨ret_bool ?_, by repeat (first | exact Below.refl _ _ | apply below_more | apply below_drew | apply below_drewN)⟩; unfold rightC; first | (simp_all; done) | (simp_all; omega) | (simp_all; rw [show decide (c.id < 8) = decide (c.id ≤ 7) from decide_eq_decide.2 (by omega)]))
set_option maxHeartbeats 1000000 in
theorem refRight_c (c : Cor) (w : World) : Calls Try.prog 16 #[c.val] w fun e w' => e = .returned (.bool (rightC c)) ∧ Below w.heap.size w w' := by
  go_enter Try.func16, Try.ntmps16
  go_wp2
  all_goals (go_ret; refine ⟨ret_bool ?_, by repeat (first | exact Below.refl _ _ | apply below_more | apply below_drew | apply below_drewN)⟩; unfold rightC; first | (simp_all; done) | (simp_all; omega) | (simp_all; rw [show decide (c.id < 8) = decide (c.id ≤ 7) from decide_eq_decide.2 (by omega)]))
end Go.Proofs.Ythohkemkiohicaa
