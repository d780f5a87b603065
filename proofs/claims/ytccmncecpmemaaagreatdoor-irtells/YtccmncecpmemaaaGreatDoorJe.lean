/- Exits and accesses of a run. -/
import Derived.Test.YtccmncecpmemaaaGreatDoorJd
namespace Go.Proofs.YtccmncecpmemaaaGreatDoor
open Go.RowKit
set_option linter.unusedVariables false
set_option linter.unusedSimpArgs false
set_option maxRecDepth 8000

section
variable {l : List Opr} {g vb : Nat} {so : Value} {S : Rn} {w w' : World} {r a b order imm : Int}

set_option maxHeartbeats 2000000 in
theorem exit15 (H : RunAt l g vb so S w) (fit : OpFit l ⟨15, r, a, b, order, imm⟩) (h1 : 1 ≤ S.next) (h2 : S.next ≤ l.length) : Calls Tryz.prog 65 #[ptr g 0, opV ⟨15, r, a, b, order, imm⟩] w fun e w' => e = .returned (.tuple #[]) ∧ RT l g vb so (carryV l.length S ⟨15, r, a, b, order, imm⟩) w w' := by
  obtain ⟨i, rfl⟩ : ∃ i : Nat, a = i := ⟨a.toNat, by have := fit.a hp15_2; dsimp only at this; omega⟩
  have hi : i < l.length := by have := fit.a hp15_2; dsimp only at this; omega
  have hii : (i : Int) < l.length := by omega
  have hb := below_alloc w (.cells (opA ⟨15, r, i, b, order, imm⟩) 27)
  have L : LocO w.heap.size ⟨15, r, i, b, order, imm⟩ (w.alloc (.cells (opA ⟨15, r, i, b, order, imm⟩) 27)) := LocO.new w _
  have R : RT l g vb so S w (w.alloc (.cells (opA ⟨15, r, i, b, order, imm⟩) 27)) := RT.from hb (H.grow hb).here
  go_enter Tryz.func65, Tryz.ntmps65
  go_upto_region 3 with fail
  generalize w.alloc (.cells (opA ⟨15, r, i, b, order, imm⟩) 27) = w1 at *
  generalize w.heap.size = t at *
  have hst : Ph (fun x => RT l g vb so S w x ∧ LocO t ⟨15, r, i, b, order, imm⟩ x) (fun x => RT l g vb so S w x ∧ LocO t ⟨15, r, i, b, order, imm⟩ x) 0 _ := ⟨R.then R.1.draw, L.grow (below_dr _)⟩
  refine Chn.wp_region_chainL (Ph (fun x => RT l g vb so S w x ∧ LocO t ⟨15, r, i, b, order, imm⟩ x) (fun x => RT l g vb so S w x ∧ LocO t ⟨15, r, i, b, order, imm⟩ x)) [] [0, 0, 0, 0, 0, 0, 0, 0, 0] [ptr g 0, ptr g 0, ptr g 1, .slice (some ⟨vb, 0, none⟩) l.length l.length, ptr t 2, vI (i : Int), ptr vb i, vU (S.val i), .bool (S.val (i : Int) != 0)] (by kernel_rfl) (by kernel_rfl) (by kernel_rfl) (by kernel_rfl) (by kernel_rfl) hst ?_
  clear hst
  refine ⟨fun j w1 hj hC => by exact Chn.upon_pure hC (fun F hF => by (go_simp <;> exact hF)), ?_⟩
  simp only [Act.put, List.setIfInBounds_toArray, List.set_cons_succ, List.set_cons_zero]
  refine ⟨fun j w1 hj hC => by exact Chn.upon_pure hC (fun F hF => by (go_simp <;> exact hF)), ?_⟩
  simp only [Act.put, List.setIfInBounds_toArray, List.set_cons_succ, List.set_cons_zero]
  refine ⟨fun j w1 hj hC => by exact Chn.upon_pure hC (fun F hF => by (go_simp <;> exact hF)), ?_⟩
  simp only [Act.put, List.setIfInBounds_toArray, List.set_cons_succ, List.set_cons_zero]
  refine ⟨fun j w1 hj hC => by
    obtain rfl : j = 0 := Nat.le_zero.1 hj
    have hA : (fun x => RT l g vb so S w x ∧ LocO t ⟨15, r, i, b, order, imm⟩ x) w1 := hC
    have z := hA.1.1.c1
    exact Chn.upon_pure hC (fun F hF => by (go_simp <;> exact hF)), ?_⟩
  simp only [Act.put, List.setIfInBounds_toArray, List.set_cons_succ, List.set_cons_zero]
  refine ⟨fun j w1 hj hC => by exact Chn.upon_pure hC (fun F hF => by (go_simp <;> exact hF)), ?_⟩
  simp only [Act.put, List.setIfInBounds_toArray, List.set_cons_succ, List.set_cons_zero]
  refine ⟨fun j w1 hj hC => by
    obtain rfl : j = 0 := Nat.le_zero.1 hj
    have hA : (fun x => RT l g vb so S w x ∧ LocO t ⟨15, r, i, b, order, imm⟩ x) w1 := hC
    have z := hA.2.c2
    exact Chn.upon_pure hC (fun F hF => by (go_simp <;> exact hF)), ?_⟩
  simp only [Act.put, List.setIfInBounds_toArray, List.set_cons_succ, List.set_cons_zero]
  refine ⟨fun j w1 hj hC => by exact Chn.upon_pure hC (fun F hF => by (go_simp <;> exact hF)), ?_⟩
  simp only [Act.put, List.setIfInBounds_toArray, List.set_cons_succ, List.set_cons_zero]
  refine ⟨fun j w1 hj hC => by
    obtain rfl : j = 0 := Nat.le_zero.1 hj
    have hA : (fun x => RT l g vb so S w x ∧ LocO t ⟨15, r, i, b, order, imm⟩ x) w1 := hC
    have z := hA.1.1.valc hi
    exact Chn.upon_pure hC (fun F hF => by (go_simp <;> exact hF)), ?_⟩
  simp only [Act.put, List.setIfInBounds_toArray, List.set_cons_succ, List.set_cons_zero]
  refine ⟨fun j w1 hj hC => by exact Chn.upon_pure hC (fun F hF => by (go_simp <;> exact hF)), ?_⟩
  simp only [Act.put, List.setIfInBounds_toArray, List.set_cons_succ, List.set_cons_zero]
  intro w5 hC
  have hC : (fun x => RT l g vb so S w x ∧ LocO t ⟨15, r, i, b, order, imm⟩ x) w5 := hC
  cases hz : (S.val (i : Int) != 0) with
  | false =>
    go_wp2
    go_end0
    refine ⟨rfl, ?_⟩
    have e : carryV l.length S ⟨15, r, i, b, order, imm⟩ = S := by show (if (S.val (i : Int) != 0) = true then _ else _) = _; rw [hz]; rfl
    rw [e]; exact hC.1
  | true =>
    have z := hC.2.c5
    have k := leave_c hC.1.1 imm
    go_wp2_with (first | (go_at_call 82; (with_reducible refine k.mono ?_); rintro e w6 ⟨rfl, R6⟩; dsimp only))
    go_end0
    refine ⟨rfl, ?_⟩
    have e : carryV l.length S ⟨15, r, i, b, order, imm⟩ = S.leave l.length imm := by show (if (S.val (i : Int) != 0) = true then _ else _) = _; rw [hz]; rfl
    rw [e]; exact hC.1.then R6

set_option maxHeartbeats 2000000 in
theorem exit16 (H : RunAt l g vb so S w) (fit : OpFit l ⟨16, r, a, b, order, imm⟩) (h1 : 1 ≤ S.next) (h2 : S.next ≤ l.length) : Calls Tryz.prog 65 #[ptr g 0, opV ⟨16, r, a, b, order, imm⟩] w fun e w' => e = .returned (.tuple #[]) ∧ RT l g vb so (carryV l.length S ⟨16, r, a, b, order, imm⟩) w w' := by
  have hb := below_alloc w (.cells (opA ⟨16, r, a, b, order, imm⟩) 27)
  have L : LocO w.heap.size ⟨16, r, a, b, order, imm⟩ (w.alloc (.cells (opA ⟨16, r, a, b, order, imm⟩) 27)) := LocO.new w _
  have R : RT l g vb so S w (w.alloc (.cells (opA ⟨16, r, a, b, order, imm⟩) 27)) := RT.from hb (H.grow hb).here
  go_enter Tryz.func65, Tryz.ntmps65
  go_upto_region 6 with fail
  generalize w.alloc (.cells (opA ⟨16, r, a, b, order, imm⟩) 27) = w1 at *
  generalize w.heap.size = t at *
  have z := L.c5
  have k := leave_c R.1 imm
  go_wp2_with (first | (go_at_call 82; (with_reducible refine k.mono ?_); rintro e w6 ⟨rfl, R6⟩; dsimp only))
  go_end0
  exact ⟨rfl, R.then R6⟩

set_option maxHeartbeats 2000000 in
theorem exit17 (H : RunAt l g vb so S w) (fit : OpFit l ⟨17, r, a, b, order, imm⟩) (h1 : 1 ≤ S.next) (h2 : S.next ≤ l.length) : Calls Tryz.prog 65 #[ptr g 0, opV ⟨17, r, a, b, order, imm⟩] w fun e w' => e = .returned (.tuple #[]) ∧ RT l g vb so (carryV l.length S ⟨17, r, a, b, order, imm⟩) w w' := by
  obtain ⟨i, rfl⟩ : ∃ i : Nat, a = i := ⟨a.toNat, by have := fit.a hp17_2; dsimp only at this; omega⟩
  have hi : i < l.length := by have := fit.a hp17_2; dsimp only at this; omega
  have hii : (i : Int) < l.length := by omega
  have hb := below_alloc w (.cells (opA ⟨17, r, i, b, order, imm⟩) 27)
  have L : LocO w.heap.size ⟨17, r, i, b, order, imm⟩ (w.alloc (.cells (opA ⟨17, r, i, b, order, imm⟩) 27)) := LocO.new w _
  have R : RT l g vb so S w (w.alloc (.cells (opA ⟨17, r, i, b, order, imm⟩) 27)) := RT.from hb (H.grow hb).here
  go_enter Tryz.func65, Tryz.ntmps65
  go_upto_region 8 with fail
  generalize w.alloc (.cells (opA ⟨17, r, i, b, order, imm⟩) 27) = w1 at *
  generalize w.heap.size = t at *
  have hst : Ph (fun x => RT l g vb so S w x ∧ LocO t ⟨17, r, i, b, order, imm⟩ x) (fun x => RT l g vb so (S.leave l.length (S.val (i : Int))) w x ∧ LocO t ⟨17, r, i, b, order, imm⟩ x) 0 _ := ⟨R.then R.1.draw, L.grow (below_dr _)⟩
  refine Chn.wp_region_chainL (Ph (fun x => RT l g vb so S w x ∧ LocO t ⟨17, r, i, b, order, imm⟩ x) (fun x => RT l g vb so (S.leave l.length (S.val (i : Int))) w x ∧ LocO t ⟨17, r, i, b, order, imm⟩ x)) [9] [1, 1, 1, 1, 1, 1, 1, 1, 1, 1] [ptr g 0, ptr g 0, ptr g 0, ptr g 1, .slice (some ⟨vb, 0, none⟩) l.length l.length, ptr t 2, vI (i : Int), ptr vb i, vU (S.val i), .tuple #[]] (by kernel_rfl) (by kernel_rfl) (by kernel_rfl) (by kernel_rfl) (by kernel_rfl) hst ?_
  clear hst
  refine ⟨fun j w1 hj hC => by exact Chn.upon_pure hC (fun F hF => by (go_simp <;> exact hF)), ?_⟩
  simp only [Act.put, List.setIfInBounds_toArray, List.set_cons_succ, List.set_cons_zero]
  refine ⟨fun j w1 hj hC => by exact Chn.upon_pure hC (fun F hF => by (go_simp <;> exact hF)), ?_⟩
  simp only [Act.put, List.setIfInBounds_toArray, List.set_cons_succ, List.set_cons_zero]
  refine ⟨fun j w1 hj hC => by exact Chn.upon_pure hC (fun F hF => by (go_simp <;> exact hF)), ?_⟩
  simp only [Act.put, List.setIfInBounds_toArray, List.set_cons_succ, List.set_cons_zero]
  refine ⟨fun j w1 hj hC => by exact Chn.upon_pure hC (fun F hF => by (go_simp <;> exact hF)), ?_⟩
  simp only [Act.put, List.setIfInBounds_toArray, List.set_cons_succ, List.set_cons_zero]
  refine ⟨fun j w1 hj hC => by
    have z : w1.cell? ⟨g, 1, none⟩ = some (.slice (some ⟨vb, 0, none⟩) l.length l.length) := match j, hC with
      | 0, hC => hC.1.1.c1
      | _ + 1, hC => hC.1.1.c1
    exact Chn.upon_pure hC (fun F hF => by (go_simp <;> exact hF)), ?_⟩
  simp only [Act.put, List.setIfInBounds_toArray, List.set_cons_succ, List.set_cons_zero]
  refine ⟨fun j w1 hj hC => by exact Chn.upon_pure hC (fun F hF => by (go_simp <;> exact hF)), ?_⟩
  simp only [Act.put, List.setIfInBounds_toArray, List.set_cons_succ, List.set_cons_zero]
  refine ⟨fun j w1 hj hC => by
    have z : w1.cell? ⟨t, 2, none⟩ = some (vI (i : Int)) := match j, hC with
      | 0, hC => hC.2.c2
      | _ + 1, hC => hC.2.c2
    exact Chn.upon_pure hC (fun F hF => by (go_simp <;> exact hF)), ?_⟩
  simp only [Act.put, List.setIfInBounds_toArray, List.set_cons_succ, List.set_cons_zero]
  refine ⟨fun j w1 hj hC => by exact Chn.upon_pure hC (fun F hF => by (go_simp <;> exact hF)), ?_⟩
  simp only [Act.put, List.setIfInBounds_toArray, List.set_cons_succ, List.set_cons_zero]
  refine ⟨fun j w1 hj hC => by
    have z : w1.cell? ⟨vb, i, none⟩ = some (vU (S.val i)) := match j, hC with
      | 0, hC => hC.1.1.valc hi
      | _ + 1, hC => hC.1.1.valc hi
    exact Chn.upon_pure hC (fun F hF => by (go_simp <;> exact hF)), ?_⟩
  simp only [Act.put, List.setIfInBounds_toArray, List.set_cons_succ, List.set_cons_zero]
  refine ⟨fun w1 hC => by
    have hA : (fun x => RT l g vb so S w x ∧ LocO t ⟨17, r, i, b, order, imm⟩ x) w1 := hC
    exact Chn.upon_call (C := Ph _ _ 1) (leave_c hA.1.1 (S.val (i : Int))) (fun e2 w2 hh => ⟨hh.1, hA.1.then hh.2, locKept hA hh.2⟩) (fun F hF => by (go_simp <;> exact hF)), ?_⟩
  simp only [Act.put, List.setIfInBounds_toArray, List.set_cons_succ, List.set_cons_zero]
  intro w5 hC
  have hC : (fun x => RT l g vb so (S.leave l.length (S.val (i : Int))) w x ∧ LocO t ⟨17, r, i, b, order, imm⟩ x) w5 := hC
  go_wp2
  go_end0
  exact ⟨rfl, hC.1⟩

set_option maxHeartbeats 2000000 in
theorem exit18 (H : RunAt l g vb so S w) (fit : OpFit l ⟨18, r, a, b, order, imm⟩) (h1 : 1 ≤ S.next) (h2 : S.next ≤ l.length) : Calls Tryz.prog 65 #[ptr g 0, opV ⟨18, r, a, b, order, imm⟩] w fun e w' => e = .returned (.tuple #[]) ∧ RT l g vb so (carryV l.length S ⟨18, r, a, b, order, imm⟩) w w' := by
  have him : imm < 4294967296 := by
    have h := fit.rng
    simpa [rangeB] using h
  have hi0 : 0 ≤ imm := fit.imm.1
  have hwr : IntKind.u32.wrap imm = imm := by rw [IntKind.wrap_u32]; omega
  have hb := below_alloc w (.cells (opA ⟨18, r, a, b, order, imm⟩) 27)
  have L : LocO w.heap.size ⟨18, r, a, b, order, imm⟩ (w.alloc (.cells (opA ⟨18, r, a, b, order, imm⟩) 27)) := LocO.new w _
  have R : RT l g vb so S w (w.alloc (.cells (opA ⟨18, r, a, b, order, imm⟩) 27)) := RT.from hb (H.grow hb).here
  go_enter Tryz.func65, Tryz.ntmps65
  go_upto_region 10 with fail
  generalize w.alloc (.cells (opA ⟨18, r, a, b, order, imm⟩) 27) = w1 at *
  generalize w.heap.size = t at *
  have z := L.c5
  have k := guest_c R.1 imm
  go_wp2_with (first | (go_at_call 83; (try rw [hwr]); (with_reducible refine k.mono ?_); rintro e w6 ⟨rfl, R6⟩; dsimp only))
  go_end0
  exact ⟨rfl, R.then R6⟩

set_option maxHeartbeats 2000000 in
theorem acc9 (H : RunAt l g vb so S w) (fit : OpFit l ⟨9, r, a, b, order, imm⟩) (h1 : 1 ≤ S.next) (h2 : S.next ≤ l.length) : Calls Tryz.prog 63 #[ptr g 0, opV ⟨9, r, a, b, order, imm⟩, vU (S.val a)] w fun e w' => e = .returned (.tuple #[]) ∧ RT l g vb so (carryV l.length S ⟨9, r, a, b, order, imm⟩) w w' := by
  have hu := H.valu a
  have hu0 := hu.1
  have hb := below_alloc w (.cells (opA ⟨9, r, a, b, order, imm⟩) 27)
  have L : LocO w.heap.size ⟨9, r, a, b, order, imm⟩ (w.alloc (.cells (opA ⟨9, r, a, b, order, imm⟩) 27)) := LocO.new w _
  have R : RT l g vb so S w (w.alloc (.cells (opA ⟨9, r, a, b, order, imm⟩) 27)) := RT.from hb (H.grow hb).here
  generalize hU : S.val a = U at *
  have et : U.tmod 8 = U % 8 := Int.tmod_eq_emod_of_nonneg hu0
  by_cases h8 : U % 8 = 0
  · have e8 : (U % 8 != 0) = false := by simp [h8]
    go_enter Tryz.func63, Tryz.ntmps63
    go_upto_region 6 with fail
    generalize w.alloc (.cells (opA ⟨9, r, a, b, order, imm⟩) 27) = w1 at *
    generalize w.heap.size = t at *
    have z := L.c4
    have k0 := fun x => acquire_c order x
    have k := wait_c R.1 ⟨1, U, 0, acqV order, false, 0, false, 0, 0, 0⟩ 1
    rw [show goV g 1 = .func (.func 79) #[ptr g 0] #[] from rfl] at k
    have hmf : ∀ (fn : Fn) (first cap : Array Value) (w : World), (Instr.makeFunc fn first cap).run Tryz.prog w = .ok (.func fn first cap) w := fun _ _ _ _ => rfl
    go_wp2_with (first | (go_at_call 78; (with_reducible refine (k0 _).mono ?_); rintro e w' ⟨rfl, rfl⟩; dsimp only) | (go_at_call 50; (with_reducible refine k.mono ?_); rintro e w6 ⟨rfl, R6⟩; dsimp only))
    go_end0
    refine ⟨rfl, ?_⟩
    have e : carryV l.length S ⟨9, r, a, b, order, imm⟩ = S.wait ⟨1, U, 0, acqV order, false, 0, false, 0, 0, 0⟩ 1 := by show S.acc l.length (S.val a) _ _ = _; rw [hU]; unfold Rn.acc; rw [if_pos h8]; rfl
    rw [e]; exact R.then R6
  · have e8 : (U % 8 != 0) = true := by simp [h8]
    go_enter Tryz.func63, Tryz.ntmps63
    go_upto_region 1 with fail
    generalize w.alloc (.cells (opA ⟨9, r, a, b, order, imm⟩) 27) = w1 at *
    generalize w.heap.size = t at *
    have k := fault_c R.1
    go_wp2_with (first | (go_at_call 77; (with_reducible refine k.mono ?_); rintro e w6 ⟨rfl, R6⟩; dsimp only))
    refine bodyPost_ret (results_none rfl _ _ _) rfl ?_
    refine ⟨rfl, ?_⟩
    have e : carryV l.length S ⟨9, r, a, b, order, imm⟩ = S.fault l.length := by show S.acc l.length (S.val a) _ _ = _; rw [hU]; unfold Rn.acc; rw [if_neg h8]
    rw [e]; exact R.then R6

set_option maxHeartbeats 2000000 in
theorem acc11 (H : RunAt l g vb so S w) (fit : OpFit l ⟨11, r, a, b, order, imm⟩) (h1 : 1 ≤ S.next) (h2 : S.next ≤ l.length) : Calls Tryz.prog 63 #[ptr g 0, opV ⟨11, r, a, b, order, imm⟩, vU (S.val a)] w fun e w' => e = .returned (.tuple #[]) ∧ RT l g vb so (carryV l.length S ⟨11, r, a, b, order, imm⟩) w w' := by
  have hu := H.valu a
  have hu0 := hu.1
  have hb := below_alloc w (.cells (opA ⟨11, r, a, b, order, imm⟩) 27)
  have L : LocO w.heap.size ⟨11, r, a, b, order, imm⟩ (w.alloc (.cells (opA ⟨11, r, a, b, order, imm⟩) 27)) := LocO.new w _
  have R : RT l g vb so S w (w.alloc (.cells (opA ⟨11, r, a, b, order, imm⟩) 27)) := RT.from hb (H.grow hb).here
  generalize hU : S.val a = U at *
  have et : U.tmod 8 = U % 8 := Int.tmod_eq_emod_of_nonneg hu0
  by_cases h8 : U % 8 = 0
  · have e8 : (U % 8 != 0) = false := by simp [h8]
    go_enter Tryz.func63, Tryz.ntmps63
    go_upto_region 8 with fail
    generalize w.alloc (.cells (opA ⟨11, r, a, b, order, imm⟩) 27) = w1 at *
    generalize w.heap.size = t at *
    have z := L.c4
    have k0 := fun x => acquire_c order x
    have k := wait_c R.1 ⟨3, U, 0, acqV order, false, 0, false, 0, 0, 0⟩ 1
    rw [show goV g 1 = .func (.func 79) #[ptr g 0] #[] from rfl] at k
    have hmf : ∀ (fn : Fn) (first cap : Array Value) (w : World), (Instr.makeFunc fn first cap).run Tryz.prog w = .ok (.func fn first cap) w := fun _ _ _ _ => rfl
    go_wp2_with (first | (go_at_call 78; (with_reducible refine (k0 _).mono ?_); rintro e w' ⟨rfl, rfl⟩; dsimp only) | (go_at_call 50; (with_reducible refine k.mono ?_); rintro e w6 ⟨rfl, R6⟩; dsimp only))
    go_end0
    refine ⟨rfl, ?_⟩
    have e : carryV l.length S ⟨11, r, a, b, order, imm⟩ = S.wait ⟨3, U, 0, acqV order, false, 0, false, 0, 0, 0⟩ 1 := by show S.acc l.length (S.val a) _ _ = _; rw [hU]; unfold Rn.acc; rw [if_pos h8]; rfl
    rw [e]; exact R.then R6
  · have e8 : (U % 8 != 0) = true := by simp [h8]
    go_enter Tryz.func63, Tryz.ntmps63
    go_upto_region 1 with fail
    generalize w.alloc (.cells (opA ⟨11, r, a, b, order, imm⟩) 27) = w1 at *
    generalize w.heap.size = t at *
    have k := fault_c R.1
    go_wp2_with (first | (go_at_call 77; (with_reducible refine k.mono ?_); rintro e w6 ⟨rfl, R6⟩; dsimp only))
    refine bodyPost_ret (results_none rfl _ _ _) rfl ?_
    refine ⟨rfl, ?_⟩
    have e : carryV l.length S ⟨11, r, a, b, order, imm⟩ = S.fault l.length := by show S.acc l.length (S.val a) _ _ = _; rw [hU]; unfold Rn.acc; rw [if_neg h8]
    rw [e]; exact R.then R6

set_option maxHeartbeats 2000000 in
theorem acc10 (H : RunAt l g vb so S w) (fit : OpFit l ⟨10, r, a, b, order, imm⟩) (h1 : 1 ≤ S.next) (h2 : S.next ≤ l.length) : Calls Tryz.prog 63 #[ptr g 0, opV ⟨10, r, a, b, order, imm⟩, vU (S.val a)] w fun e w' => e = .returned (.tuple #[]) ∧ RT l g vb so (carryV l.length S ⟨10, r, a, b, order, imm⟩) w w' := by
  obtain ⟨i, rfl⟩ : ∃ i : Nat, b = i := ⟨b.toNat, by have := fit.b hp10_4; dsimp only at this; omega⟩
  have hi : i < l.length := by have := fit.b hp10_4; dsimp only at this; omega
  have hii : (i : Int) < l.length := by omega
  have hu := H.valu a
  have hu0 := hu.1
  have hb := below_alloc w (.cells (opA ⟨10, r, a, i, order, imm⟩) 27)
  have L : LocO w.heap.size ⟨10, r, a, i, order, imm⟩ (w.alloc (.cells (opA ⟨10, r, a, i, order, imm⟩) 27)) := LocO.new w _
  have R : RT l g vb so S w (w.alloc (.cells (opA ⟨10, r, a, i, order, imm⟩) 27)) := RT.from hb (H.grow hb).here
  generalize hU : S.val a = U at *
  have et : U.tmod 8 = U % 8 := Int.tmod_eq_emod_of_nonneg hu0
  by_cases h8 : U % 8 = 0
  · have e8 : (U % 8 != 0) = false := by simp [h8]
    go_enter Tryz.func63, Tryz.ntmps63
    go_upto_region 10 with fail
    generalize w.alloc (.cells (opA ⟨10, r, a, i, order, imm⟩) 27) = w1 at *
    generalize w.heap.size = t at *
    have hmf : ∀ (fn : Fn) (first cap : Array Value) (w : World), (Instr.makeFunc fn first cap).run Tryz.prog w = .ok (.func fn first cap) w := fun _ _ _ _ => rfl
    have kk := fun x (Hx : RunAt l g vb so S x) => wait_c Hx ⟨2, U, S.val (i : Int), 0, order == 4, 0, false, 0, 0, 0⟩ 2
    rw [show goV g 2 = .func (.func 80) #[ptr g 0] #[] from rfl] at kk
    have hst : Ph (fun x => RT l g vb so S w x ∧ LocO t ⟨10, r, a, i, order, imm⟩ x) (fun x => RT l g vb so (S.wait ⟨2, U, S.val (i : Int), 0, order == 4, 0, false, 0, 0, 0⟩ 2) w x ∧ LocO t ⟨10, r, a, i, order, imm⟩ x) 0 _ := ⟨R.then R.1.draw, L.grow (below_dr _)⟩
    refine Chn.wp_region_chainL (Ph (fun x => RT l g vb so S w x ∧ LocO t ⟨10, r, a, i, order, imm⟩ x) (fun x => RT l g vb so (S.wait ⟨2, U, S.val (i : Int), 0, order == 4, 0, false, 0, 0, 0⟩ 2) w x ∧ LocO t ⟨10, r, a, i, order, imm⟩ x)) [14] [1, 1, 1, 1, 1, 1, 1, 1, 1, 1, 1, 1, 1, 1, 1] [ptr g 0, vU U, ptr g 0, ptr g 0, ptr g 1, .slice (some ⟨vb, 0, none⟩) l.length l.length, ptr t 3, vI (i : Int), ptr vb i, vU (S.val i), .bool (order == 4), wnV ⟨2, U, S.val (i : Int), 0, order == 4, 0, false, 0, 0, 0⟩, ptr g 0, .func (.func 80) #[ptr g 0] #[], .tuple #[]] (by kernel_rfl) (by kernel_rfl) (by kernel_rfl) (by kernel_rfl) (by kernel_rfl) hst ?_
    clear hst
    refine ⟨fun j w1 hj hC => by exact Chn.upon_pure hC (fun F hF => by (go_simp <;> exact hF)), ?_⟩
    simp only [Act.put, List.setIfInBounds_toArray, List.set_cons_succ, List.set_cons_zero]
    refine ⟨fun j w1 hj hC => by exact Chn.upon_pure hC (fun F hF => by (go_simp <;> exact hF)), ?_⟩
    simp only [Act.put, List.setIfInBounds_toArray, List.set_cons_succ, List.set_cons_zero]
    refine ⟨fun j w1 hj hC => by exact Chn.upon_pure hC (fun F hF => by (go_simp <;> exact hF)), ?_⟩
    simp only [Act.put, List.setIfInBounds_toArray, List.set_cons_succ, List.set_cons_zero]
    refine ⟨fun j w1 hj hC => by exact Chn.upon_pure hC (fun F hF => by (go_simp <;> exact hF)), ?_⟩
    simp only [Act.put, List.setIfInBounds_toArray, List.set_cons_succ, List.set_cons_zero]
    refine ⟨fun j w1 hj hC => by exact Chn.upon_pure hC (fun F hF => by (go_simp <;> exact hF)), ?_⟩
    simp only [Act.put, List.setIfInBounds_toArray, List.set_cons_succ, List.set_cons_zero]
    refine ⟨fun j w1 hj hC => by
      have z : w1.cell? ⟨g, 1, none⟩ = some (.slice (some ⟨vb, 0, none⟩) l.length l.length) := match j, hC with
        | 0, hC => hC.1.1.c1
        | _ + 1, hC => hC.1.1.c1
      exact Chn.upon_pure hC (fun F hF => by (go_simp <;> exact hF)), ?_⟩
    simp only [Act.put, List.setIfInBounds_toArray, List.set_cons_succ, List.set_cons_zero]
    refine ⟨fun j w1 hj hC => by exact Chn.upon_pure hC (fun F hF => by (go_simp <;> exact hF)), ?_⟩
    simp only [Act.put, List.setIfInBounds_toArray, List.set_cons_succ, List.set_cons_zero]
    refine ⟨fun j w1 hj hC => by
      have z : w1.cell? ⟨t, 3, none⟩ = some (vI (i : Int)) := match j, hC with
        | 0, hC => hC.2.c3
        | _ + 1, hC => hC.2.c3
      exact Chn.upon_pure hC (fun F hF => by (go_simp <;> exact hF)), ?_⟩
    simp only [Act.put, List.setIfInBounds_toArray, List.set_cons_succ, List.set_cons_zero]
    refine ⟨fun j w1 hj hC => by exact Chn.upon_pure hC (fun F hF => by (go_simp <;> exact hF)), ?_⟩
    simp only [Act.put, List.setIfInBounds_toArray, List.set_cons_succ, List.set_cons_zero]
    refine ⟨fun j w1 hj hC => by
      have z : w1.cell? ⟨vb, i, none⟩ = some (vU (S.val i)) := match j, hC with
        | 0, hC => hC.1.1.valc hi
        | _ + 1, hC => hC.1.1.valc hi
      exact Chn.upon_pure hC (fun F hF => by (go_simp <;> exact hF)), ?_⟩
    simp only [Act.put, List.setIfInBounds_toArray, List.set_cons_succ, List.set_cons_zero]
    refine ⟨fun j w1 hj hC => by exact Chn.upon_pure hC (fun F hF => by (go_simp <;> exact hF)), ?_⟩
    simp only [Act.put, List.setIfInBounds_toArray, List.set_cons_succ, List.set_cons_zero]
    refine ⟨fun j w1 hj hC => by exact Chn.upon_pure hC (fun F hF => by (go_simp <;> exact hF)), ?_⟩
    simp only [Act.put, List.setIfInBounds_toArray, List.set_cons_succ, List.set_cons_zero]
    refine ⟨fun j w1 hj hC => by exact Chn.upon_pure hC (fun F hF => by (go_simp <;> exact hF)), ?_⟩
    simp only [Act.put, List.setIfInBounds_toArray, List.set_cons_succ, List.set_cons_zero]
    refine ⟨fun j w1 hj hC => by exact Chn.upon_pure hC (fun F hF => by (go_simp <;> exact hF)), ?_⟩
    simp only [Act.put, List.setIfInBounds_toArray, List.set_cons_succ, List.set_cons_zero]
    refine ⟨fun w1 hC => by
      have hA : (fun x => RT l g vb so S w x ∧ LocO t ⟨10, r, a, i, order, imm⟩ x) w1 := hC
      exact Chn.upon_call (C := Ph _ _ 1) (kk w1 hA.1.1) (fun e2 w2 hh => ⟨hh.1, hA.1.then hh.2, locKept hA hh.2⟩) (fun F hF => by (go_simp <;> exact hF)), ?_⟩
    simp only [Act.put, List.setIfInBounds_toArray, List.set_cons_succ, List.set_cons_zero]
    intro w5 hC
    have hC : (fun x => RT l g vb so (S.wait ⟨2, U, S.val (i : Int), 0, order == 4, 0, false, 0, 0, 0⟩ 2) w x ∧ LocO t ⟨10, r, a, i, order, imm⟩ x) w5 := hC
    go_wp2
    go_end0
    refine ⟨rfl, ?_⟩
    have e : carryV l.length S ⟨10, r, a, i, order, imm⟩ = S.wait ⟨2, U, S.val (i : Int), 0, order == 4, 0, false, 0, 0, 0⟩ 2 := by show S.acc l.length (S.val a) _ _ = _; rw [hU]; unfold Rn.acc; rw [if_pos h8]; rfl
    rw [e]; exact hC.1
  · have e8 : (U % 8 != 0) = true := by simp [h8]
    go_enter Tryz.func63, Tryz.ntmps63
    go_upto_region 1 with fail
    generalize w.alloc (.cells (opA ⟨10, r, a, i, order, imm⟩) 27) = w1 at *
    generalize w.heap.size = t at *
    have k := fault_c R.1
    go_wp2_with (first | (go_at_call 77; (with_reducible refine k.mono ?_); rintro e w6 ⟨rfl, R6⟩; dsimp only))
    refine bodyPost_ret (results_none rfl _ _ _) rfl ?_
    refine ⟨rfl, ?_⟩
    have e : carryV l.length S ⟨10, r, a, i, order, imm⟩ = S.fault l.length := by show S.acc l.length (S.val a) _ _ = _; rw [hU]; unfold Rn.acc; rw [if_neg h8]
    rw [e]; exact R.then R6

set_option maxHeartbeats 2000000 in
theorem acc12 (H : RunAt l g vb so S w) (fit : OpFit l ⟨12, r, a, b, order, imm⟩) (h1 : 1 ≤ S.next) (h2 : S.next ≤ l.length) : Calls Tryz.prog 63 #[ptr g 0, opV ⟨12, r, a, b, order, imm⟩, vU (S.val a)] w fun e w' => e = .returned (.tuple #[]) ∧ RT l g vb so (carryV l.length S ⟨12, r, a, b, order, imm⟩) w w' := by
  obtain ⟨i, rfl⟩ : ∃ i : Nat, b = i := ⟨b.toNat, by have := fit.b hp12_4; dsimp only at this; omega⟩
  have hi : i < l.length := by have := fit.b hp12_4; dsimp only at this; omega
  have hii : (i : Int) < l.length := by omega
  have hu := H.valu a
  have hu0 := hu.1
  have hb := below_alloc w (.cells (opA ⟨12, r, a, i, order, imm⟩) 27)
  have L : LocO w.heap.size ⟨12, r, a, i, order, imm⟩ (w.alloc (.cells (opA ⟨12, r, a, i, order, imm⟩) 27)) := LocO.new w _
  have R : RT l g vb so S w (w.alloc (.cells (opA ⟨12, r, a, i, order, imm⟩) 27)) := RT.from hb (H.grow hb).here
  generalize hU : S.val a = U at *
  have et : U.tmod 8 = U % 8 := Int.tmod_eq_emod_of_nonneg hu0
  by_cases h8 : U % 8 = 0
  · have e8 : (U % 8 != 0) = false := by simp [h8]
    go_enter Tryz.func63, Tryz.ntmps63
    go_upto_region 12 with fail
    generalize w.alloc (.cells (opA ⟨12, r, a, i, order, imm⟩) 27) = w1 at *
    generalize w.heap.size = t at *
    have hmf : ∀ (fn : Fn) (first cap : Array Value) (w : World), (Instr.makeFunc fn first cap).run Tryz.prog w = .ok (.func fn first cap) w := fun _ _ _ _ => rfl
    have kk := fun x (Hx : RunAt l g vb so S x) => wait_c Hx ⟨4, U, S.val (i : Int), 0, order == 4, 0, false, 0, 0, 0⟩ 3
    rw [show goV g 3 = .func (.func 81) #[ptr g 0] #[] from rfl] at kk
    have hst : Ph (fun x => RT l g vb so S w x ∧ LocO t ⟨12, r, a, i, order, imm⟩ x) (fun x => RT l g vb so (S.wait ⟨4, U, S.val (i : Int), 0, order == 4, 0, false, 0, 0, 0⟩ 3) w x ∧ LocO t ⟨12, r, a, i, order, imm⟩ x) 0 _ := ⟨R.then R.1.draw, L.grow (below_dr _)⟩
    refine Chn.wp_region_chainL (Ph (fun x => RT l g vb so S w x ∧ LocO t ⟨12, r, a, i, order, imm⟩ x) (fun x => RT l g vb so (S.wait ⟨4, U, S.val (i : Int), 0, order == 4, 0, false, 0, 0, 0⟩ 3) w x ∧ LocO t ⟨12, r, a, i, order, imm⟩ x)) [14] [1, 1, 1, 1, 1, 1, 1, 1, 1, 1, 1, 1, 1, 1, 1] [ptr g 0, vU U, ptr g 0, ptr g 0, ptr g 1, .slice (some ⟨vb, 0, none⟩) l.length l.length, ptr t 3, vI (i : Int), ptr vb i, vU (S.val i), .bool (order == 4), wnV ⟨4, U, S.val (i : Int), 0, order == 4, 0, false, 0, 0, 0⟩, ptr g 0, .func (.func 81) #[ptr g 0] #[], .tuple #[]] (by kernel_rfl) (by kernel_rfl) (by kernel_rfl) (by kernel_rfl) (by kernel_rfl) hst ?_
    clear hst
    refine ⟨fun j w1 hj hC => by exact Chn.upon_pure hC (fun F hF => by (go_simp <;> exact hF)), ?_⟩
    simp only [Act.put, List.setIfInBounds_toArray, List.set_cons_succ, List.set_cons_zero]
    refine ⟨fun j w1 hj hC => by exact Chn.upon_pure hC (fun F hF => by (go_simp <;> exact hF)), ?_⟩
    simp only [Act.put, List.setIfInBounds_toArray, List.set_cons_succ, List.set_cons_zero]
    refine ⟨fun j w1 hj hC => by exact Chn.upon_pure hC (fun F hF => by (go_simp <;> exact hF)), ?_⟩
    simp only [Act.put, List.setIfInBounds_toArray, List.set_cons_succ, List.set_cons_zero]
    refine ⟨fun j w1 hj hC => by exact Chn.upon_pure hC (fun F hF => by (go_simp <;> exact hF)), ?_⟩
    simp only [Act.put, List.setIfInBounds_toArray, List.set_cons_succ, List.set_cons_zero]
    refine ⟨fun j w1 hj hC => by exact Chn.upon_pure hC (fun F hF => by (go_simp <;> exact hF)), ?_⟩
    simp only [Act.put, List.setIfInBounds_toArray, List.set_cons_succ, List.set_cons_zero]
    refine ⟨fun j w1 hj hC => by
      have z : w1.cell? ⟨g, 1, none⟩ = some (.slice (some ⟨vb, 0, none⟩) l.length l.length) := match j, hC with
        | 0, hC => hC.1.1.c1
        | _ + 1, hC => hC.1.1.c1
      exact Chn.upon_pure hC (fun F hF => by (go_simp <;> exact hF)), ?_⟩
    simp only [Act.put, List.setIfInBounds_toArray, List.set_cons_succ, List.set_cons_zero]
    refine ⟨fun j w1 hj hC => by exact Chn.upon_pure hC (fun F hF => by (go_simp <;> exact hF)), ?_⟩
    simp only [Act.put, List.setIfInBounds_toArray, List.set_cons_succ, List.set_cons_zero]
    refine ⟨fun j w1 hj hC => by
      have z : w1.cell? ⟨t, 3, none⟩ = some (vI (i : Int)) := match j, hC with
        | 0, hC => hC.2.c3
        | _ + 1, hC => hC.2.c3
      exact Chn.upon_pure hC (fun F hF => by (go_simp <;> exact hF)), ?_⟩
    simp only [Act.put, List.setIfInBounds_toArray, List.set_cons_succ, List.set_cons_zero]
    refine ⟨fun j w1 hj hC => by exact Chn.upon_pure hC (fun F hF => by (go_simp <;> exact hF)), ?_⟩
    simp only [Act.put, List.setIfInBounds_toArray, List.set_cons_succ, List.set_cons_zero]
    refine ⟨fun j w1 hj hC => by
      have z : w1.cell? ⟨vb, i, none⟩ = some (vU (S.val i)) := match j, hC with
        | 0, hC => hC.1.1.valc hi
        | _ + 1, hC => hC.1.1.valc hi
      exact Chn.upon_pure hC (fun F hF => by (go_simp <;> exact hF)), ?_⟩
    simp only [Act.put, List.setIfInBounds_toArray, List.set_cons_succ, List.set_cons_zero]
    refine ⟨fun j w1 hj hC => by exact Chn.upon_pure hC (fun F hF => by (go_simp <;> exact hF)), ?_⟩
    simp only [Act.put, List.setIfInBounds_toArray, List.set_cons_succ, List.set_cons_zero]
    refine ⟨fun j w1 hj hC => by exact Chn.upon_pure hC (fun F hF => by (go_simp <;> exact hF)), ?_⟩
    simp only [Act.put, List.setIfInBounds_toArray, List.set_cons_succ, List.set_cons_zero]
    refine ⟨fun j w1 hj hC => by exact Chn.upon_pure hC (fun F hF => by (go_simp <;> exact hF)), ?_⟩
    simp only [Act.put, List.setIfInBounds_toArray, List.set_cons_succ, List.set_cons_zero]
    refine ⟨fun j w1 hj hC => by exact Chn.upon_pure hC (fun F hF => by (go_simp <;> exact hF)), ?_⟩
    simp only [Act.put, List.setIfInBounds_toArray, List.set_cons_succ, List.set_cons_zero]
    refine ⟨fun w1 hC => by
      have hA : (fun x => RT l g vb so S w x ∧ LocO t ⟨12, r, a, i, order, imm⟩ x) w1 := hC
      exact Chn.upon_call (C := Ph _ _ 1) (kk w1 hA.1.1) (fun e2 w2 hh => ⟨hh.1, hA.1.then hh.2, locKept hA hh.2⟩) (fun F hF => by (go_simp <;> exact hF)), ?_⟩
    simp only [Act.put, List.setIfInBounds_toArray, List.set_cons_succ, List.set_cons_zero]
    intro w5 hC
    have hC : (fun x => RT l g vb so (S.wait ⟨4, U, S.val (i : Int), 0, order == 4, 0, false, 0, 0, 0⟩ 3) w x ∧ LocO t ⟨12, r, a, i, order, imm⟩ x) w5 := hC
    go_wp2
    go_end0
    refine ⟨rfl, ?_⟩
    have e : carryV l.length S ⟨12, r, a, i, order, imm⟩ = S.wait ⟨4, U, S.val (i : Int), 0, order == 4, 0, false, 0, 0, 0⟩ 3 := by show S.acc l.length (S.val a) _ _ = _; rw [hU]; unfold Rn.acc; rw [if_pos h8]; rfl
    rw [e]; exact hC.1
  · have e8 : (U % 8 != 0) = true := by simp [h8]
    go_enter Tryz.func63, Tryz.ntmps63
    go_upto_region 1 with fail
    generalize w.alloc (.cells (opA ⟨12, r, a, i, order, imm⟩) 27) = w1 at *
    generalize w.heap.size = t at *
    have k := fault_c R.1
    go_wp2_with (first | (go_at_call 77; (with_reducible refine k.mono ?_); rintro e w6 ⟨rfl, R6⟩; dsimp only))
    refine bodyPost_ret (results_none rfl _ _ _) rfl ?_
    refine ⟨rfl, ?_⟩
    have e : carryV l.length S ⟨12, r, a, i, order, imm⟩ = S.fault l.length := by show S.acc l.length (S.val a) _ _ = _; rw [hU]; unfold Rn.acc; rw [if_neg h8]
    rw [e]; exact R.then R6
end
end Go.Proofs.YtccmncecpmemaaaGreatDoor
