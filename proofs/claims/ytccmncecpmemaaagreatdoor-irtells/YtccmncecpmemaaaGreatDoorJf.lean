/- What an operation does to a run. -/
import Derived.Test.YtccmncecpmemaaaGreatDoorJe
import Derived.Test.YtccmncecpmemaaaGreatDoorAReck
namespace Go.Proofs.YtccmncecpmemaaaGreatDoor
open Go.RowKit
set_option linter.unusedVariables false
set_option linter.unusedSimpArgs false
set_option maxRecDepth 8000

theorem val_carry9 (n : Nat) (S : Rn) (r a b order imm : Int) (i : Int) : (carryV n S ⟨9, r, a, b, order, imm⟩).val i = S.val i := by
  show (S.acc _ _ _ _).val i = _
  unfold Rn.acc
  split <;> rfl
theorem val_carry10 (n : Nat) (S : Rn) (r a b order imm : Int) (i : Int) : (carryV n S ⟨10, r, a, b, order, imm⟩).val i = S.val i := by
  show (S.acc _ _ _ _).val i = _
  unfold Rn.acc
  split <;> rfl
theorem val_carry11 (n : Nat) (S : Rn) (r a b order imm : Int) (i : Int) : (carryV n S ⟨11, r, a, b, order, imm⟩).val i = S.val i := by
  show (S.acc _ _ _ _).val i = _
  unfold Rn.acc
  split <;> rfl
theorem val_carry12 (n : Nat) (S : Rn) (r a b order imm : Int) (i : Int) : (carryV n S ⟨12, r, a, b, order, imm⟩).val i = S.val i := by
  show (S.acc _ _ _ _).val i = _
  unfold Rn.acc
  split <;> rfl
section
variable {l : List Opr} {g vb : Nat} {so : Value} {S : Rn} {w w' : World} {r a b order imm : Int}

set_option maxHeartbeats 2000000 in
theorem car1 (H : RunAt l g vb so S w) (fit : OpFit l ⟨1, r, a, b, order, imm⟩) (h1 : 1 ≤ S.next) (h2 : S.next ≤ l.length) : Calls Tryz.prog 51 #[ptr g 0, opV ⟨1, r, a, b, order, imm⟩] w fun e w' => e = .returned (.tuple #[]) ∧ RT l g vb so (carryV l.length S ⟨1, r, a, b, order, imm⟩) w w' := by
  have hb := below_alloc w (.cells (opA ⟨1, r, a, b, order, imm⟩) 27)
  have L : LocO w.heap.size ⟨1, r, a, b, order, imm⟩ (w.alloc (.cells (opA ⟨1, r, a, b, order, imm⟩) 27)) := LocO.new w _
  have R : RT l g vb so S w (w.alloc (.cells (opA ⟨1, r, a, b, order, imm⟩) 27)) := RT.from hb (H.grow hb).here
  go_enter Tryz.func51, Tryz.ntmps51
  go_upto_region 4 with fail
  generalize w.alloc (.cells (opA ⟨1, r, a, b, order, imm⟩) 27) = w1 at *
  generalize w.heap.size = t at *
  have z := L.c5
  have k := define_c R.1 fit.imm h1 h2
  go_wp2_with (first | (go_at_call 61; (with_reducible refine k.mono ?_); rintro e w6 ⟨rfl, R6⟩; dsimp only))
  go_end0
  exact ⟨rfl, R.then R6⟩

set_option maxHeartbeats 2000000 in
theorem car8 (H : RunAt l g vb so S w) (fit : OpFit l ⟨8, r, a, b, order, imm⟩) (h1 : 1 ≤ S.next) (h2 : S.next ≤ l.length) : Calls Tryz.prog 51 #[ptr g 0, opV ⟨8, r, a, b, order, imm⟩] w fun e w' => e = .returned (.tuple #[]) ∧ RT l g vb so (carryV l.length S ⟨8, r, a, b, order, imm⟩) w w' := by
  obtain ⟨i, rfl⟩ : ∃ i : Nat, a = i := ⟨a.toNat, by have := fit.a hp8_2; dsimp only at this; omega⟩
  have hi : i < l.length := by have := fit.a hp8_2; dsimp only at this; omega
  have hii : (i : Int) < l.length := by omega
  obtain ⟨j9, rfl⟩ : ∃ i : Nat, b = i := ⟨b.toNat, by have := fit.b hp8_4; dsimp only at this; omega⟩
  have hj9 : j9 < l.length := by have := fit.b hp8_4; dsimp only at this; omega
  have hjj : (j9 : Int) < l.length := by omega
  have hb := below_alloc w (.cells (opA ⟨8, r, i, j9, order, imm⟩) 27)
  have L : LocO w.heap.size ⟨8, r, i, j9, order, imm⟩ (w.alloc (.cells (opA ⟨8, r, i, j9, order, imm⟩) 27)) := LocO.new w _
  have R : RT l g vb so S w (w.alloc (.cells (opA ⟨8, r, i, j9, order, imm⟩) 27)) := RT.from hb (H.grow hb).here
  go_enter Tryz.func51, Tryz.ntmps51
  go_upto_region 6 with fail
  generalize w.alloc (.cells (opA ⟨8, r, i, j9, order, imm⟩) 27) = w1 at *
  generalize w.heap.size = t at *
  have hst : Ph (fun x => RT l g vb so S w x ∧ LocO t ⟨8, r, i, j9, order, imm⟩ x) (fun x => RT l g vb so S w x ∧ LocO t ⟨8, r, i, j9, order, imm⟩ x) 0 _ := ⟨R.then R.1.draw, L.grow (below_dr _)⟩
  refine Chn.wp_region_chainL (Ph (fun x => RT l g vb so S w x ∧ LocO t ⟨8, r, i, j9, order, imm⟩ x) (fun x => RT l g vb so S w x ∧ LocO t ⟨8, r, i, j9, order, imm⟩ x)) [18] [1, 1, 1, 1, 1, 1, 1, 1, 1, 1, 1, 1, 1, 1, 1, 1, 1, 1, 1, 1, 1, 1, 1, 1] [ptr t 1, vI r, ptr g 0, ptr g 0, ptr g 1, .slice (some ⟨vb, 0, none⟩) l.length l.length, ptr t 2, vI (i : Int), ptr vb i, vU (S.val i), ptr g 0, ptr g 0, ptr g 1, .slice (some ⟨vb, 0, none⟩) l.length l.length, ptr t 3, vI (j9 : Int), ptr vb j9, vU (S.val j9), .tuple #[vU (Alu.reckonV r (S.val (i : Int)) (S.val (j9 : Int))), vI (Alu.kindE r)], .tuple #[vU (Alu.reckonV r (S.val (i : Int)) (S.val (j9 : Int))), vI (Alu.kindE r)], vU (Alu.reckonV r (S.val (i : Int)) (S.val (j9 : Int))), vI (Alu.kindE r), vU (Alu.reckonV r (S.val (i : Int)) (S.val (j9 : Int))), vI (Alu.kindE r)] (by kernel_rfl) (by kernel_rfl) (by kernel_rfl) (by kernel_rfl) (by kernel_rfl) hst ?_
  clear hst
  refine ⟨fun j w1 hj hC => by exact Chn.upon_pure hC (fun F hF => by (go_simp <;> exact hF)), ?_⟩
  simp only [Act.put, List.setIfInBounds_toArray, List.set_cons_succ, List.set_cons_zero]
  refine ⟨fun j w1 hj hC => by
    have z : w1.cell? ⟨t, 1, none⟩ = some (vI r) := match j, hC with
      | 0, hC => hC.2.c1
      | _ + 1, hC => hC.2.c1
    exact Chn.upon_pure hC (fun F hF => by (go_simp <;> exact hF)), ?_⟩
  simp only [Act.put, List.setIfInBounds_toArray, List.set_cons_succ, List.set_cons_zero]
  refine ⟨fun j w1 hj hC => by exact Chn.upon_pure hC (fun F hF => by (go_simp <;> exact hF)), ?_⟩
  simp only [Act.put, List.setIfInBounds_toArray, List.set_cons_succ, List.set_cons_zero]
  refine ⟨fun j w1 hj hC => by exact Chn.upon_pure hC (fun F hF => by (go_simp <;> exact hF)), ?_⟩
  simp only [Act.put, List.setIfInBounds_toArray, List.set_cons_succ, List.set_cons_zero]
  refine ⟨fun j w1 hj hC => by exact Chn.upon_pure hC (fun F hF => by (go_simp <;> exact hF)), ?_⟩
  simp only [Act.put, List.setIfInBounds_toArray, List.set_cons_succ, List.set_cons_zero]
  refine ⟨fun j w1 hj hC => by
    have z : w1.cell? ⟨g, 1, none⟩ = some (.slice (some ⟨vb, 0, none⟩) l.length l.length) := match j, hC with
      | 0, hC => hC.1.1.c1
      | _ + 1, hC => hC.1.1.c1
    exact Chn.upon_pure hC (fun F hF => by (go_simp <;> exact hF)), ?_⟩
  simp only [Act.put, List.setIfInBounds_toArray, List.set_cons_succ, List.set_cons_zero]
  refine ⟨fun j w1 hj hC => by exact Chn.upon_pure hC (fun F hF => by (go_simp <;> exact hF)), ?_⟩
  simp only [Act.put, List.setIfInBounds_toArray, List.set_cons_succ, List.set_cons_zero]
  refine ⟨fun j w1 hj hC => by
    have z : w1.cell? ⟨t, 2, none⟩ = some (vI (i : Int)) := match j, hC with
      | 0, hC => hC.2.c2
      | _ + 1, hC => hC.2.c2
    exact Chn.upon_pure hC (fun F hF => by (go_simp <;> exact hF)), ?_⟩
  simp only [Act.put, List.setIfInBounds_toArray, List.set_cons_succ, List.set_cons_zero]
  refine ⟨fun j w1 hj hC => by exact Chn.upon_pure hC (fun F hF => by (go_simp <;> exact hF)), ?_⟩
  simp only [Act.put, List.setIfInBounds_toArray, List.set_cons_succ, List.set_cons_zero]
  refine ⟨fun j w1 hj hC => by
    have z : w1.cell? ⟨vb, i, none⟩ = some (vU (S.val i)) := match j, hC with
      | 0, hC => hC.1.1.valc hi
      | _ + 1, hC => hC.1.1.valc hi
    exact Chn.upon_pure hC (fun F hF => by (go_simp <;> exact hF)), ?_⟩
  simp only [Act.put, List.setIfInBounds_toArray, List.set_cons_succ, List.set_cons_zero]
  refine ⟨fun j w1 hj hC => by exact Chn.upon_pure hC (fun F hF => by (go_simp <;> exact hF)), ?_⟩
  simp only [Act.put, List.setIfInBounds_toArray, List.set_cons_succ, List.set_cons_zero]
  refine ⟨fun j w1 hj hC => by exact Chn.upon_pure hC (fun F hF => by (go_simp <;> exact hF)), ?_⟩
  simp only [Act.put, List.setIfInBounds_toArray, List.set_cons_succ, List.set_cons_zero]
  refine ⟨fun j w1 hj hC => by exact Chn.upon_pure hC (fun F hF => by (go_simp <;> exact hF)), ?_⟩
  simp only [Act.put, List.setIfInBounds_toArray, List.set_cons_succ, List.set_cons_zero]
  refine ⟨fun j w1 hj hC => by
    have z : w1.cell? ⟨g, 1, none⟩ = some (.slice (some ⟨vb, 0, none⟩) l.length l.length) := match j, hC with
      | 0, hC => hC.1.1.c1
      | _ + 1, hC => hC.1.1.c1
    exact Chn.upon_pure hC (fun F hF => by (go_simp <;> exact hF)), ?_⟩
  simp only [Act.put, List.setIfInBounds_toArray, List.set_cons_succ, List.set_cons_zero]
  refine ⟨fun j w1 hj hC => by exact Chn.upon_pure hC (fun F hF => by (go_simp <;> exact hF)), ?_⟩
  simp only [Act.put, List.setIfInBounds_toArray, List.set_cons_succ, List.set_cons_zero]
  refine ⟨fun j w1 hj hC => by
    have z : w1.cell? ⟨t, 3, none⟩ = some (vI (j9 : Int)) := match j, hC with
      | 0, hC => hC.2.c3
      | _ + 1, hC => hC.2.c3
    exact Chn.upon_pure hC (fun F hF => by (go_simp <;> exact hF)), ?_⟩
  simp only [Act.put, List.setIfInBounds_toArray, List.set_cons_succ, List.set_cons_zero]
  refine ⟨fun j w1 hj hC => by exact Chn.upon_pure hC (fun F hF => by (go_simp <;> exact hF)), ?_⟩
  simp only [Act.put, List.setIfInBounds_toArray, List.set_cons_succ, List.set_cons_zero]
  refine ⟨fun j w1 hj hC => by
    have z : w1.cell? ⟨vb, j9, none⟩ = some (vU (S.val j9)) := match j, hC with
      | 0, hC => hC.1.1.valc hj9
      | _ + 1, hC => hC.1.1.valc hj9
    exact Chn.upon_pure hC (fun F hF => by (go_simp <;> exact hF)), ?_⟩
  simp only [Act.put, List.setIfInBounds_toArray, List.set_cons_succ, List.set_cons_zero]
  refine ⟨fun w1 hC => by
    have hA : (fun x => RT l g vb so S w x ∧ LocO t ⟨8, r, i, j9, order, imm⟩ x) w1 := hC
    exact Chn.upon_call (C := Ph _ _ 1) (Alu.Reckon_c r _ _ (hA.1.1.valu (i : Int)) (hA.1.1.valu (j9 : Int)) w1) (fun e2 w2 hh => ⟨hh.1, hA.1.grow hh.2, hA.2.grow hh.2⟩) (fun F hF => by (go_simp <;> exact hF)), ?_⟩
  simp only [Act.put, List.setIfInBounds_toArray, List.set_cons_succ, List.set_cons_zero]
  refine ⟨fun j w1 hj hC => by exact Chn.upon_pure hC (fun F hF => by (go_simp <;> exact hF)), ?_⟩
  simp only [Act.put, List.setIfInBounds_toArray, List.set_cons_succ, List.set_cons_zero]
  refine ⟨fun j w1 hj hC => by exact Chn.upon_pure hC (fun F hF => by (go_simp <;> exact hF)), ?_⟩
  simp only [Act.put, List.setIfInBounds_toArray, List.set_cons_succ, List.set_cons_zero]
  refine ⟨fun j w1 hj hC => by exact Chn.upon_pure hC (fun F hF => by (go_simp <;> exact hF)), ?_⟩
  simp only [Act.put, List.setIfInBounds_toArray, List.set_cons_succ, List.set_cons_zero]
  refine ⟨fun j w1 hj hC => by exact Chn.upon_pure hC (fun F hF => by (go_simp <;> exact hF)), ?_⟩
  simp only [Act.put, List.setIfInBounds_toArray, List.set_cons_succ, List.set_cons_zero]
  refine ⟨fun j w1 hj hC => by exact Chn.upon_pure hC (fun F hF => by (go_simp <;> exact hF)), ?_⟩
  simp only [Act.put, List.setIfInBounds_toArray, List.set_cons_succ, List.set_cons_zero]
  intro w5 hC
  have hC : (fun x => RT l g vb so S w x ∧ LocO t ⟨8, r, i, j9, order, imm⟩ x) w5 := hC
  have k := define_c hC.1.1 (Alu.reckon_in (k := r) (hC.1.1.valu (i : Int)) (hC.1.1.valu (j9 : Int))) h1 h2
  go_wp2_with (first | (go_at_call 61; (with_reducible refine k.mono ?_); rintro e w6 ⟨rfl, R6⟩; dsimp only))
  go_end0
  exact ⟨rfl, hC.1.then R6⟩

set_option maxHeartbeats 2000000 in
theorem car14 (H : RunAt l g vb so S w) (fit : OpFit l ⟨14, r, a, b, order, imm⟩) (h1 : 1 ≤ S.next) (h2 : S.next ≤ l.length) : Calls Tryz.prog 51 #[ptr g 0, opV ⟨14, r, a, b, order, imm⟩] w fun e w' => e = .returned (.tuple #[]) ∧ RT l g vb so (carryV l.length S ⟨14, r, a, b, order, imm⟩) w w' := by
  have hb := below_alloc w (.cells (opA ⟨14, r, a, b, order, imm⟩) 27)
  have L : LocO w.heap.size ⟨14, r, a, b, order, imm⟩ (w.alloc (.cells (opA ⟨14, r, a, b, order, imm⟩) 27)) := LocO.new w _
  have R : RT l g vb so S w (w.alloc (.cells (opA ⟨14, r, a, b, order, imm⟩) 27)) := RT.from hb (H.grow hb).here
  go_enter Tryz.func51, Tryz.ntmps51
  go_upto_region 9 with fail
  generalize w.alloc (.cells (opA ⟨14, r, a, b, order, imm⟩) 27) = w1 at *
  generalize w.heap.size = t at *
  have z := L.c5
  have z2 := R.1.cpc
  have f := R.1.fz 36
  go_wp2
  go_end0
  exact ⟨rfl, R.then (R.1.pc_ imm)⟩

set_option maxHeartbeats 2000000 in
theorem car2 (H : RunAt l g vb so S w) (fit : OpFit l ⟨2, r, a, b, order, imm⟩) (h1 : 1 ≤ S.next) (h2 : S.next ≤ l.length) : Calls Tryz.prog 51 #[ptr g 0, opV ⟨2, r, a, b, order, imm⟩] w fun e w' => e = .returned (.tuple #[]) ∧ RT l g vb so (carryV l.length S ⟨2, r, a, b, order, imm⟩) w w' := by
  have hb := below_alloc w (.cells (opA ⟨2, r, a, b, order, imm⟩) 27)
  have L : LocO w.heap.size ⟨2, r, a, b, order, imm⟩ (w.alloc (.cells (opA ⟨2, r, a, b, order, imm⟩) 27)) := LocO.new w _
  have R : RT l g vb so S w (w.alloc (.cells (opA ⟨2, r, a, b, order, imm⟩) 27)) := RT.from hb (H.grow hb).here
  go_enter Tryz.func51, Tryz.ntmps51
  go_upto_region 2 with fail
  generalize w.alloc (.cells (opA ⟨2, r, a, b, order, imm⟩) 27) = w1 at *
  generalize w.heap.size = t at *
  have k := reg2 R.1 fit h1 h2
  go_wp2_with (first | ((with_reducible refine wpList_load42 rfl _ rfl _ rfl _ L.at_ ?_); simp only [Act.put, List.setIfInBounds_toArray, List.set_cons_succ, List.set_cons_zero]) | (go_at_call 66; (with_reducible refine k.mono ?_); rintro e w6 ⟨rfl, R6⟩; dsimp only))
  go_end0
  exact ⟨rfl, R.then R6⟩

set_option maxHeartbeats 2000000 in
theorem car3 (H : RunAt l g vb so S w) (fit : OpFit l ⟨3, r, a, b, order, imm⟩) (h1 : 1 ≤ S.next) (h2 : S.next ≤ l.length) : Calls Tryz.prog 51 #[ptr g 0, opV ⟨3, r, a, b, order, imm⟩] w fun e w' => e = .returned (.tuple #[]) ∧ RT l g vb so (carryV l.length S ⟨3, r, a, b, order, imm⟩) w w' := by
  have hb := below_alloc w (.cells (opA ⟨3, r, a, b, order, imm⟩) 27)
  have L : LocO w.heap.size ⟨3, r, a, b, order, imm⟩ (w.alloc (.cells (opA ⟨3, r, a, b, order, imm⟩) 27)) := LocO.new w _
  have R : RT l g vb so S w (w.alloc (.cells (opA ⟨3, r, a, b, order, imm⟩) 27)) := RT.from hb (H.grow hb).here
  go_enter Tryz.func51, Tryz.ntmps51
  go_upto_region 2 with fail
  generalize w.alloc (.cells (opA ⟨3, r, a, b, order, imm⟩) 27) = w1 at *
  generalize w.heap.size = t at *
  have k := reg3 R.1 fit h1 h2
  go_wp2_with (first | ((with_reducible refine wpList_load42 rfl _ rfl _ rfl _ L.at_ ?_); simp only [Act.put, List.setIfInBounds_toArray, List.set_cons_succ, List.set_cons_zero]) | (go_at_call 66; (with_reducible refine k.mono ?_); rintro e w6 ⟨rfl, R6⟩; dsimp only))
  go_end0
  exact ⟨rfl, R.then R6⟩

set_option maxHeartbeats 2000000 in
theorem car6 (H : RunAt l g vb so S w) (fit : OpFit l ⟨6, r, a, b, order, imm⟩) (h1 : 1 ≤ S.next) (h2 : S.next ≤ l.length) : Calls Tryz.prog 51 #[ptr g 0, opV ⟨6, r, a, b, order, imm⟩] w fun e w' => e = .returned (.tuple #[]) ∧ RT l g vb so (carryV l.length S ⟨6, r, a, b, order, imm⟩) w w' := by
  have hb := below_alloc w (.cells (opA ⟨6, r, a, b, order, imm⟩) 27)
  have L : LocO w.heap.size ⟨6, r, a, b, order, imm⟩ (w.alloc (.cells (opA ⟨6, r, a, b, order, imm⟩) 27)) := LocO.new w _
  have R : RT l g vb so S w (w.alloc (.cells (opA ⟨6, r, a, b, order, imm⟩) 27)) := RT.from hb (H.grow hb).here
  go_enter Tryz.func51, Tryz.ntmps51
  go_upto_region 2 with fail
  generalize w.alloc (.cells (opA ⟨6, r, a, b, order, imm⟩) 27) = w1 at *
  generalize w.heap.size = t at *
  have k := reg6 R.1 fit h1 h2
  go_wp2_with (first | ((with_reducible refine wpList_load42 rfl _ rfl _ rfl _ L.at_ ?_); simp only [Act.put, List.setIfInBounds_toArray, List.set_cons_succ, List.set_cons_zero]) | (go_at_call 66; (with_reducible refine k.mono ?_); rintro e w6 ⟨rfl, R6⟩; dsimp only))
  go_end0
  exact ⟨rfl, R.then R6⟩

set_option maxHeartbeats 2000000 in
theorem car7 (H : RunAt l g vb so S w) (fit : OpFit l ⟨7, r, a, b, order, imm⟩) (h1 : 1 ≤ S.next) (h2 : S.next ≤ l.length) : Calls Tryz.prog 51 #[ptr g 0, opV ⟨7, r, a, b, order, imm⟩] w fun e w' => e = .returned (.tuple #[]) ∧ RT l g vb so (carryV l.length S ⟨7, r, a, b, order, imm⟩) w w' := by
  have hb := below_alloc w (.cells (opA ⟨7, r, a, b, order, imm⟩) 27)
  have L : LocO w.heap.size ⟨7, r, a, b, order, imm⟩ (w.alloc (.cells (opA ⟨7, r, a, b, order, imm⟩) 27)) := LocO.new w _
  have R : RT l g vb so S w (w.alloc (.cells (opA ⟨7, r, a, b, order, imm⟩) 27)) := RT.from hb (H.grow hb).here
  go_enter Tryz.func51, Tryz.ntmps51
  go_upto_region 2 with fail
  generalize w.alloc (.cells (opA ⟨7, r, a, b, order, imm⟩) 27) = w1 at *
  generalize w.heap.size = t at *
  have k := reg7 R.1 fit h1 h2
  go_wp2_with (first | ((with_reducible refine wpList_load42 rfl _ rfl _ rfl _ L.at_ ?_); simp only [Act.put, List.setIfInBounds_toArray, List.set_cons_succ, List.set_cons_zero]) | (go_at_call 66; (with_reducible refine k.mono ?_); rintro e w6 ⟨rfl, R6⟩; dsimp only))
  go_end0
  exact ⟨rfl, R.then R6⟩

set_option maxHeartbeats 2000000 in
theorem car15 (H : RunAt l g vb so S w) (fit : OpFit l ⟨15, r, a, b, order, imm⟩) (h1 : 1 ≤ S.next) (h2 : S.next ≤ l.length) : Calls Tryz.prog 51 #[ptr g 0, opV ⟨15, r, a, b, order, imm⟩] w fun e w' => e = .returned (.tuple #[]) ∧ RT l g vb so (carryV l.length S ⟨15, r, a, b, order, imm⟩) w w' := by
  have hb := below_alloc w (.cells (opA ⟨15, r, a, b, order, imm⟩) 27)
  have L : LocO w.heap.size ⟨15, r, a, b, order, imm⟩ (w.alloc (.cells (opA ⟨15, r, a, b, order, imm⟩) 27)) := LocO.new w _
  have R : RT l g vb so S w (w.alloc (.cells (opA ⟨15, r, a, b, order, imm⟩) 27)) := RT.from hb (H.grow hb).here
  go_enter Tryz.func51, Tryz.ntmps51
  go_upto_region 21 with fail
  generalize w.alloc (.cells (opA ⟨15, r, a, b, order, imm⟩) 27) = w1 at *
  generalize w.heap.size = t at *
  have k := exit15 R.1 fit h1 h2
  go_wp2_with (first | ((with_reducible refine wpList_load42 rfl _ rfl _ rfl _ L.at_ ?_); simp only [Act.put, List.setIfInBounds_toArray, List.set_cons_succ, List.set_cons_zero]) | (go_at_call 65; (with_reducible refine k.mono ?_); rintro e w6 ⟨rfl, R6⟩; dsimp only))
  go_end0
  exact ⟨rfl, R.then R6⟩

set_option maxHeartbeats 2000000 in
theorem car16 (H : RunAt l g vb so S w) (fit : OpFit l ⟨16, r, a, b, order, imm⟩) (h1 : 1 ≤ S.next) (h2 : S.next ≤ l.length) : Calls Tryz.prog 51 #[ptr g 0, opV ⟨16, r, a, b, order, imm⟩] w fun e w' => e = .returned (.tuple #[]) ∧ RT l g vb so (carryV l.length S ⟨16, r, a, b, order, imm⟩) w w' := by
  have hb := below_alloc w (.cells (opA ⟨16, r, a, b, order, imm⟩) 27)
  have L : LocO w.heap.size ⟨16, r, a, b, order, imm⟩ (w.alloc (.cells (opA ⟨16, r, a, b, order, imm⟩) 27)) := LocO.new w _
  have R : RT l g vb so S w (w.alloc (.cells (opA ⟨16, r, a, b, order, imm⟩) 27)) := RT.from hb (H.grow hb).here
  go_enter Tryz.func51, Tryz.ntmps51
  go_upto_region 21 with fail
  generalize w.alloc (.cells (opA ⟨16, r, a, b, order, imm⟩) 27) = w1 at *
  generalize w.heap.size = t at *
  have k := exit16 R.1 fit h1 h2
  go_wp2_with (first | ((with_reducible refine wpList_load42 rfl _ rfl _ rfl _ L.at_ ?_); simp only [Act.put, List.setIfInBounds_toArray, List.set_cons_succ, List.set_cons_zero]) | (go_at_call 65; (with_reducible refine k.mono ?_); rintro e w6 ⟨rfl, R6⟩; dsimp only))
  go_end0
  exact ⟨rfl, R.then R6⟩

set_option maxHeartbeats 2000000 in
theorem car17 (H : RunAt l g vb so S w) (fit : OpFit l ⟨17, r, a, b, order, imm⟩) (h1 : 1 ≤ S.next) (h2 : S.next ≤ l.length) : Calls Tryz.prog 51 #[ptr g 0, opV ⟨17, r, a, b, order, imm⟩] w fun e w' => e = .returned (.tuple #[]) ∧ RT l g vb so (carryV l.length S ⟨17, r, a, b, order, imm⟩) w w' := by
  have hb := below_alloc w (.cells (opA ⟨17, r, a, b, order, imm⟩) 27)
  have L : LocO w.heap.size ⟨17, r, a, b, order, imm⟩ (w.alloc (.cells (opA ⟨17, r, a, b, order, imm⟩) 27)) := LocO.new w _
  have R : RT l g vb so S w (w.alloc (.cells (opA ⟨17, r, a, b, order, imm⟩) 27)) := RT.from hb (H.grow hb).here
  go_enter Tryz.func51, Tryz.ntmps51
  go_upto_region 21 with fail
  generalize w.alloc (.cells (opA ⟨17, r, a, b, order, imm⟩) 27) = w1 at *
  generalize w.heap.size = t at *
  have k := exit17 R.1 fit h1 h2
  go_wp2_with (first | ((with_reducible refine wpList_load42 rfl _ rfl _ rfl _ L.at_ ?_); simp only [Act.put, List.setIfInBounds_toArray, List.set_cons_succ, List.set_cons_zero]) | (go_at_call 65; (with_reducible refine k.mono ?_); rintro e w6 ⟨rfl, R6⟩; dsimp only))
  go_end0
  exact ⟨rfl, R.then R6⟩

set_option maxHeartbeats 2000000 in
theorem car18 (H : RunAt l g vb so S w) (fit : OpFit l ⟨18, r, a, b, order, imm⟩) (h1 : 1 ≤ S.next) (h2 : S.next ≤ l.length) : Calls Tryz.prog 51 #[ptr g 0, opV ⟨18, r, a, b, order, imm⟩] w fun e w' => e = .returned (.tuple #[]) ∧ RT l g vb so (carryV l.length S ⟨18, r, a, b, order, imm⟩) w w' := by
  have hb := below_alloc w (.cells (opA ⟨18, r, a, b, order, imm⟩) 27)
  have L : LocO w.heap.size ⟨18, r, a, b, order, imm⟩ (w.alloc (.cells (opA ⟨18, r, a, b, order, imm⟩) 27)) := LocO.new w _
  have R : RT l g vb so S w (w.alloc (.cells (opA ⟨18, r, a, b, order, imm⟩) 27)) := RT.from hb (H.grow hb).here
  go_enter Tryz.func51, Tryz.ntmps51
  go_upto_region 21 with fail
  generalize w.alloc (.cells (opA ⟨18, r, a, b, order, imm⟩) 27) = w1 at *
  generalize w.heap.size = t at *
  have k := exit18 R.1 fit h1 h2
  go_wp2_with (first | ((with_reducible refine wpList_load42 rfl _ rfl _ rfl _ L.at_ ?_); simp only [Act.put, List.setIfInBounds_toArray, List.set_cons_succ, List.set_cons_zero]) | (go_at_call 65; (with_reducible refine k.mono ?_); rintro e w6 ⟨rfl, R6⟩; dsimp only))
  go_end0
  exact ⟨rfl, R.then R6⟩

set_option maxHeartbeats 2000000 in
theorem car4 (H : RunAt l g vb so S w) (fit : OpFit l ⟨4, r, a, b, order, imm⟩) (h1 : 1 ≤ S.next) (h2 : S.next ≤ l.length) : Calls Tryz.prog 51 #[ptr g 0, opV ⟨4, r, a, b, order, imm⟩] w fun e w' => e = .returned (.tuple #[]) ∧ RT l g vb so (carryV l.length S ⟨4, r, a, b, order, imm⟩) w w' := by
  have hb := below_alloc w (.cells (opA ⟨4, r, a, b, order, imm⟩) 27)
  have L : LocO w.heap.size ⟨4, r, a, b, order, imm⟩ (w.alloc (.cells (opA ⟨4, r, a, b, order, imm⟩) 27)) := LocO.new w _
  have R : RT l g vb so S w (w.alloc (.cells (opA ⟨4, r, a, b, order, imm⟩) 27)) := RT.from hb (H.grow hb).here
  go_enter Tryz.func51, Tryz.ntmps51
  go_upto_region 2 with fail
  generalize w.alloc (.cells (opA ⟨4, r, a, b, order, imm⟩) 27) = w1 at *
  generalize w.heap.size = t at *
  have k : Calls Tryz.prog 66 #[ptr g 0, opV ⟨4, r, a, b, order, imm⟩] w1 fun e w' => e = .returned (.tuple #[]) ∧ RT l g vb so (carryV l.length S ⟨4, r, a, b, order, imm⟩) w1 w' := by
    rcases H.ok.el with he | he
    · exact reg4_0 R.1 he fit h1 h2
    · exact reg4_1 R.1 he fit h1 h2
  go_wp2_with (first | ((with_reducible refine wpList_load42 rfl _ rfl _ rfl _ L.at_ ?_); simp only [Act.put, List.setIfInBounds_toArray, List.set_cons_succ, List.set_cons_zero]) | (go_at_call 66; (with_reducible refine k.mono ?_); rintro e w6 ⟨rfl, R6⟩; dsimp only))
  go_end0
  exact ⟨rfl, R.then R6⟩

set_option maxHeartbeats 2000000 in
theorem car5 (H : RunAt l g vb so S w) (fit : OpFit l ⟨5, r, a, b, order, imm⟩) (h1 : 1 ≤ S.next) (h2 : S.next ≤ l.length) : Calls Tryz.prog 51 #[ptr g 0, opV ⟨5, r, a, b, order, imm⟩] w fun e w' => e = .returned (.tuple #[]) ∧ RT l g vb so (carryV l.length S ⟨5, r, a, b, order, imm⟩) w w' := by
  have hb := below_alloc w (.cells (opA ⟨5, r, a, b, order, imm⟩) 27)
  have L : LocO w.heap.size ⟨5, r, a, b, order, imm⟩ (w.alloc (.cells (opA ⟨5, r, a, b, order, imm⟩) 27)) := LocO.new w _
  have R : RT l g vb so S w (w.alloc (.cells (opA ⟨5, r, a, b, order, imm⟩) 27)) := RT.from hb (H.grow hb).here
  go_enter Tryz.func51, Tryz.ntmps51
  go_upto_region 2 with fail
  generalize w.alloc (.cells (opA ⟨5, r, a, b, order, imm⟩) 27) = w1 at *
  generalize w.heap.size = t at *
  have k : Calls Tryz.prog 66 #[ptr g 0, opV ⟨5, r, a, b, order, imm⟩] w1 fun e w' => e = .returned (.tuple #[]) ∧ RT l g vb so (carryV l.length S ⟨5, r, a, b, order, imm⟩) w1 w' := by
    rcases H.ok.el with he | he
    · exact reg5_0 R.1 he fit h1 h2
    · exact reg5_1 R.1 he fit h1 h2
  go_wp2_with (first | ((with_reducible refine wpList_load42 rfl _ rfl _ rfl _ L.at_ ?_); simp only [Act.put, List.setIfInBounds_toArray, List.set_cons_succ, List.set_cons_zero]) | (go_at_call 66; (with_reducible refine k.mono ?_); rintro e w6 ⟨rfl, R6⟩; dsimp only))
  go_end0
  exact ⟨rfl, R.then R6⟩

set_option maxHeartbeats 2000000 in
theorem car9 (H : RunAt l g vb so S w) (fit : OpFit l ⟨9, r, a, b, order, imm⟩) (h1 : 1 ≤ S.next) (h2 : S.next ≤ l.length) : Calls Tryz.prog 51 #[ptr g 0, opV ⟨9, r, a, b, order, imm⟩] w fun e w' => e = .returned (.tuple #[]) ∧ RT l g vb so (carryV l.length S ⟨9, r, a, b, order, imm⟩) w w' := by
  obtain ⟨i, rfl⟩ : ∃ i : Nat, a = i := ⟨a.toNat, by have := fit.a hp9_2; dsimp only at this; omega⟩
  have hi : i < l.length := by have := fit.a hp9_2; dsimp only at this; omega
  have hii : (i : Int) < l.length := by omega
  have hb := below_alloc w (.cells (opA ⟨9, r, i, b, order, imm⟩) 27)
  have L : LocO w.heap.size ⟨9, r, i, b, order, imm⟩ (w.alloc (.cells (opA ⟨9, r, i, b, order, imm⟩) 27)) := LocO.new w _
  have R : RT l g vb so S w (w.alloc (.cells (opA ⟨9, r, i, b, order, imm⟩) 27)) := RT.from hb (H.grow hb).here
  go_enter Tryz.func51, Tryz.ntmps51
  go_upto_region 14 with fail
  generalize w.alloc (.cells (opA ⟨9, r, i, b, order, imm⟩) 27) = w1 at *
  generalize w.heap.size = t at *
  have hst : Ph (fun x => RT l g vb so S w x ∧ LocO t ⟨9, r, i, b, order, imm⟩ x) (fun x => RT l g vb so (carryV l.length S ⟨9, r, i, b, order, imm⟩) w x ∧ LocO t ⟨9, r, i, b, order, imm⟩ x) 0 _ := ⟨R.then R.1.draw, L.grow (below_dr _)⟩
  refine Chn.wp_region_chainL (Ph (fun x => RT l g vb so S w x ∧ LocO t ⟨9, r, i, b, order, imm⟩ x) (fun x => RT l g vb so (carryV l.length S ⟨9, r, i, b, order, imm⟩) w x ∧ LocO t ⟨9, r, i, b, order, imm⟩ x)) [10] [1, 0, 1, 1, 1, 1, 1, 1, 1, 1, 1] [ptr g 0, opV ⟨9, r, i, b, order, imm⟩, ptr g 0, ptr g 0, ptr g 1, .slice (some ⟨vb, 0, none⟩) l.length l.length, ptr t 2, vI (i : Int), ptr vb i, vU (S.val i), .tuple #[]] (by kernel_rfl) (by kernel_rfl) (by kernel_rfl) (by kernel_rfl) (by kernel_rfl) hst ?_
  clear hst
  refine ⟨fun j w1 hj hC => by exact Chn.upon_pure hC (fun F hF => by (go_simp <;> exact hF)), ?_⟩
  simp only [Act.put, List.setIfInBounds_toArray, List.set_cons_succ, List.set_cons_zero]
  refine ⟨fun j w1 hj hC => by
    obtain rfl : j = 0 := Nat.le_zero.1 hj
    have hA : (fun x => RT l g vb so S w x ∧ LocO t ⟨9, r, i, b, order, imm⟩ x) w1 := hC
    exact upon_load42 hA.2.at_ hC, ?_⟩
  simp only [Act.put, List.setIfInBounds_toArray, List.set_cons_succ, List.set_cons_zero]
  refine ⟨fun j w1 hj hC => by exact Chn.upon_pure hC (fun F hF => by (go_simp <;> exact hF)), ?_⟩
  simp only [Act.put, List.setIfInBounds_toArray, List.set_cons_succ, List.set_cons_zero]
  refine ⟨fun j w1 hj hC => by exact Chn.upon_pure hC (fun F hF => by (go_simp <;> exact hF)), ?_⟩
  simp only [Act.put, List.setIfInBounds_toArray, List.set_cons_succ, List.set_cons_zero]
  refine ⟨fun j w1 hj hC => by exact Chn.upon_pure hC (fun F hF => by (go_simp <;> exact hF)), ?_⟩
  simp only [Act.put, List.setIfInBounds_toArray, List.set_cons_succ, List.set_cons_zero]
  refine ⟨fun j w1 hj hC => by
    have z : w1.cell? ⟨g, 1, none⟩ = some (.slice (some ⟨vb, 0, none⟩) l.length l.length) := match j, hC with
      | 0, hC => hC.1.1.c1
      | _ + 1, hC => hC.1.1.c1
    exact Chn.upon_pure hC (fun F hF => by (go_simp <;> exact hF)), ?_⟩
  simp only [Act.put, List.setIfInBounds_toArray, List.set_cons_succ, List.set_cons_zero]
  refine ⟨fun j w1 hj hC => by exact Chn.upon_pure hC (fun F hF => by (go_simp <;> exact hF)), ?_⟩
  simp only [Act.put, List.setIfInBounds_toArray, List.set_cons_succ, List.set_cons_zero]
  refine ⟨fun j w1 hj hC => by
    have z : w1.cell? ⟨t, 2, none⟩ = some (vI (i : Int)) := match j, hC with
      | 0, hC => hC.2.c2
      | _ + 1, hC => hC.2.c2
    exact Chn.upon_pure hC (fun F hF => by (go_simp <;> exact hF)), ?_⟩
  simp only [Act.put, List.setIfInBounds_toArray, List.set_cons_succ, List.set_cons_zero]
  refine ⟨fun j w1 hj hC => by exact Chn.upon_pure hC (fun F hF => by (go_simp <;> exact hF)), ?_⟩
  simp only [Act.put, List.setIfInBounds_toArray, List.set_cons_succ, List.set_cons_zero]
  refine ⟨fun j w1 hj hC => by
    have z : w1.cell? ⟨vb, i, none⟩ = some (vU (S.val i)) := match j, hC with
      | 0, hC => hC.1.1.valc hi
      | _ + 1, hC => by have q := hC.1.1.valc hi; rw [val_carry9] at q; exact q
    exact Chn.upon_pure hC (fun F hF => by (go_simp <;> exact hF)), ?_⟩
  simp only [Act.put, List.setIfInBounds_toArray, List.set_cons_succ, List.set_cons_zero]
  refine ⟨fun w1 hC => by
    have hA : (fun x => RT l g vb so S w x ∧ LocO t ⟨9, r, i, b, order, imm⟩ x) w1 := hC
    exact Chn.upon_call (C := Ph _ _ 1) (acc9 hA.1.1 fit h1 h2) (fun e2 w2 hh => ⟨hh.1, hA.1.then hh.2, locKept hA hh.2⟩) (fun F hF => by (go_simp <;> exact hF)), ?_⟩
  simp only [Act.put, List.setIfInBounds_toArray, List.set_cons_succ, List.set_cons_zero]
  intro w5 hC
  have hC : (fun x => RT l g vb so (carryV l.length S ⟨9, r, i, b, order, imm⟩) w x ∧ LocO t ⟨9, r, i, b, order, imm⟩ x) w5 := hC
  go_wp2
  go_end0
  exact ⟨rfl, hC.1⟩

set_option maxHeartbeats 2000000 in
theorem car10 (H : RunAt l g vb so S w) (fit : OpFit l ⟨10, r, a, b, order, imm⟩) (h1 : 1 ≤ S.next) (h2 : S.next ≤ l.length) : Calls Tryz.prog 51 #[ptr g 0, opV ⟨10, r, a, b, order, imm⟩] w fun e w' => e = .returned (.tuple #[]) ∧ RT l g vb so (carryV l.length S ⟨10, r, a, b, order, imm⟩) w w' := by
  obtain ⟨i, rfl⟩ : ∃ i : Nat, a = i := ⟨a.toNat, by have := fit.a hp10_2; dsimp only at this; omega⟩
  have hi : i < l.length := by have := fit.a hp10_2; dsimp only at this; omega
  have hii : (i : Int) < l.length := by omega
  have hb := below_alloc w (.cells (opA ⟨10, r, i, b, order, imm⟩) 27)
  have L : LocO w.heap.size ⟨10, r, i, b, order, imm⟩ (w.alloc (.cells (opA ⟨10, r, i, b, order, imm⟩) 27)) := LocO.new w _
  have R : RT l g vb so S w (w.alloc (.cells (opA ⟨10, r, i, b, order, imm⟩) 27)) := RT.from hb (H.grow hb).here
  go_enter Tryz.func51, Tryz.ntmps51
  go_upto_region 14 with fail
  generalize w.alloc (.cells (opA ⟨10, r, i, b, order, imm⟩) 27) = w1 at *
  generalize w.heap.size = t at *
  have hst : Ph (fun x => RT l g vb so S w x ∧ LocO t ⟨10, r, i, b, order, imm⟩ x) (fun x => RT l g vb so (carryV l.length S ⟨10, r, i, b, order, imm⟩) w x ∧ LocO t ⟨10, r, i, b, order, imm⟩ x) 0 _ := ⟨R.then R.1.draw, L.grow (below_dr _)⟩
  refine Chn.wp_region_chainL (Ph (fun x => RT l g vb so S w x ∧ LocO t ⟨10, r, i, b, order, imm⟩ x) (fun x => RT l g vb so (carryV l.length S ⟨10, r, i, b, order, imm⟩) w x ∧ LocO t ⟨10, r, i, b, order, imm⟩ x)) [10] [1, 0, 1, 1, 1, 1, 1, 1, 1, 1, 1] [ptr g 0, opV ⟨10, r, i, b, order, imm⟩, ptr g 0, ptr g 0, ptr g 1, .slice (some ⟨vb, 0, none⟩) l.length l.length, ptr t 2, vI (i : Int), ptr vb i, vU (S.val i), .tuple #[]] (by kernel_rfl) (by kernel_rfl) (by kernel_rfl) (by kernel_rfl) (by kernel_rfl) hst ?_
  clear hst
  refine ⟨fun j w1 hj hC => by exact Chn.upon_pure hC (fun F hF => by (go_simp <;> exact hF)), ?_⟩
  simp only [Act.put, List.setIfInBounds_toArray, List.set_cons_succ, List.set_cons_zero]
  refine ⟨fun j w1 hj hC => by
    obtain rfl : j = 0 := Nat.le_zero.1 hj
    have hA : (fun x => RT l g vb so S w x ∧ LocO t ⟨10, r, i, b, order, imm⟩ x) w1 := hC
    exact upon_load42 hA.2.at_ hC, ?_⟩
  simp only [Act.put, List.setIfInBounds_toArray, List.set_cons_succ, List.set_cons_zero]
  refine ⟨fun j w1 hj hC => by exact Chn.upon_pure hC (fun F hF => by (go_simp <;> exact hF)), ?_⟩
  simp only [Act.put, List.setIfInBounds_toArray, List.set_cons_succ, List.set_cons_zero]
  refine ⟨fun j w1 hj hC => by exact Chn.upon_pure hC (fun F hF => by (go_simp <;> exact hF)), ?_⟩
  simp only [Act.put, List.setIfInBounds_toArray, List.set_cons_succ, List.set_cons_zero]
  refine ⟨fun j w1 hj hC => by exact Chn.upon_pure hC (fun F hF => by (go_simp <;> exact hF)), ?_⟩
  simp only [Act.put, List.setIfInBounds_toArray, List.set_cons_succ, List.set_cons_zero]
  refine ⟨fun j w1 hj hC => by
    have z : w1.cell? ⟨g, 1, none⟩ = some (.slice (some ⟨vb, 0, none⟩) l.length l.length) := match j, hC with
      | 0, hC => hC.1.1.c1
      | _ + 1, hC => hC.1.1.c1
    exact Chn.upon_pure hC (fun F hF => by (go_simp <;> exact hF)), ?_⟩
  simp only [Act.put, List.setIfInBounds_toArray, List.set_cons_succ, List.set_cons_zero]
  refine ⟨fun j w1 hj hC => by exact Chn.upon_pure hC (fun F hF => by (go_simp <;> exact hF)), ?_⟩
  simp only [Act.put, List.setIfInBounds_toArray, List.set_cons_succ, List.set_cons_zero]
  refine ⟨fun j w1 hj hC => by
    have z : w1.cell? ⟨t, 2, none⟩ = some (vI (i : Int)) := match j, hC with
      | 0, hC => hC.2.c2
      | _ + 1, hC => hC.2.c2
    exact Chn.upon_pure hC (fun F hF => by (go_simp <;> exact hF)), ?_⟩
  simp only [Act.put, List.setIfInBounds_toArray, List.set_cons_succ, List.set_cons_zero]
  refine ⟨fun j w1 hj hC => by exact Chn.upon_pure hC (fun F hF => by (go_simp <;> exact hF)), ?_⟩
  simp only [Act.put, List.setIfInBounds_toArray, List.set_cons_succ, List.set_cons_zero]
  refine ⟨fun j w1 hj hC => by
    have z : w1.cell? ⟨vb, i, none⟩ = some (vU (S.val i)) := match j, hC with
      | 0, hC => hC.1.1.valc hi
      | _ + 1, hC => by have q := hC.1.1.valc hi; rw [val_carry10] at q; exact q
    exact Chn.upon_pure hC (fun F hF => by (go_simp <;> exact hF)), ?_⟩
  simp only [Act.put, List.setIfInBounds_toArray, List.set_cons_succ, List.set_cons_zero]
  refine ⟨fun w1 hC => by
    have hA : (fun x => RT l g vb so S w x ∧ LocO t ⟨10, r, i, b, order, imm⟩ x) w1 := hC
    exact Chn.upon_call (C := Ph _ _ 1) (acc10 hA.1.1 fit h1 h2) (fun e2 w2 hh => ⟨hh.1, hA.1.then hh.2, locKept hA hh.2⟩) (fun F hF => by (go_simp <;> exact hF)), ?_⟩
  simp only [Act.put, List.setIfInBounds_toArray, List.set_cons_succ, List.set_cons_zero]
  intro w5 hC
  have hC : (fun x => RT l g vb so (carryV l.length S ⟨10, r, i, b, order, imm⟩) w x ∧ LocO t ⟨10, r, i, b, order, imm⟩ x) w5 := hC
  go_wp2
  go_end0
  exact ⟨rfl, hC.1⟩

set_option maxHeartbeats 2000000 in
theorem car11 (H : RunAt l g vb so S w) (fit : OpFit l ⟨11, r, a, b, order, imm⟩) (h1 : 1 ≤ S.next) (h2 : S.next ≤ l.length) : Calls Tryz.prog 51 #[ptr g 0, opV ⟨11, r, a, b, order, imm⟩] w fun e w' => e = .returned (.tuple #[]) ∧ RT l g vb so (carryV l.length S ⟨11, r, a, b, order, imm⟩) w w' := by
  obtain ⟨i, rfl⟩ : ∃ i : Nat, a = i := ⟨a.toNat, by have := fit.a hp11_2; dsimp only at this; omega⟩
  have hi : i < l.length := by have := fit.a hp11_2; dsimp only at this; omega
  have hii : (i : Int) < l.length := by omega
  have hb := below_alloc w (.cells (opA ⟨11, r, i, b, order, imm⟩) 27)
  have L : LocO w.heap.size ⟨11, r, i, b, order, imm⟩ (w.alloc (.cells (opA ⟨11, r, i, b, order, imm⟩) 27)) := LocO.new w _
  have R : RT l g vb so S w (w.alloc (.cells (opA ⟨11, r, i, b, order, imm⟩) 27)) := RT.from hb (H.grow hb).here
  go_enter Tryz.func51, Tryz.ntmps51
  go_upto_region 14 with fail
  generalize w.alloc (.cells (opA ⟨11, r, i, b, order, imm⟩) 27) = w1 at *
  generalize w.heap.size = t at *
  have hst : Ph (fun x => RT l g vb so S w x ∧ LocO t ⟨11, r, i, b, order, imm⟩ x) (fun x => RT l g vb so (carryV l.length S ⟨11, r, i, b, order, imm⟩) w x ∧ LocO t ⟨11, r, i, b, order, imm⟩ x) 0 _ := ⟨R.then R.1.draw, L.grow (below_dr _)⟩
  refine Chn.wp_region_chainL (Ph (fun x => RT l g vb so S w x ∧ LocO t ⟨11, r, i, b, order, imm⟩ x) (fun x => RT l g vb so (carryV l.length S ⟨11, r, i, b, order, imm⟩) w x ∧ LocO t ⟨11, r, i, b, order, imm⟩ x)) [10] [1, 0, 1, 1, 1, 1, 1, 1, 1, 1, 1] [ptr g 0, opV ⟨11, r, i, b, order, imm⟩, ptr g 0, ptr g 0, ptr g 1, .slice (some ⟨vb, 0, none⟩) l.length l.length, ptr t 2, vI (i : Int), ptr vb i, vU (S.val i), .tuple #[]] (by kernel_rfl) (by kernel_rfl) (by kernel_rfl) (by kernel_rfl) (by kernel_rfl) hst ?_
  clear hst
  refine ⟨fun j w1 hj hC => by exact Chn.upon_pure hC (fun F hF => by (go_simp <;> exact hF)), ?_⟩
  simp only [Act.put, List.setIfInBounds_toArray, List.set_cons_succ, List.set_cons_zero]
  refine ⟨fun j w1 hj hC => by
    obtain rfl : j = 0 := Nat.le_zero.1 hj
    have hA : (fun x => RT l g vb so S w x ∧ LocO t ⟨11, r, i, b, order, imm⟩ x) w1 := hC
    exact upon_load42 hA.2.at_ hC, ?_⟩
  simp only [Act.put, List.setIfInBounds_toArray, List.set_cons_succ, List.set_cons_zero]
  refine ⟨fun j w1 hj hC => by exact Chn.upon_pure hC (fun F hF => by (go_simp <;> exact hF)), ?_⟩
  simp only [Act.put, List.setIfInBounds_toArray, List.set_cons_succ, List.set_cons_zero]
  refine ⟨fun j w1 hj hC => by exact Chn.upon_pure hC (fun F hF => by (go_simp <;> exact hF)), ?_⟩
  simp only [Act.put, List.setIfInBounds_toArray, List.set_cons_succ, List.set_cons_zero]
  refine ⟨fun j w1 hj hC => by exact Chn.upon_pure hC (fun F hF => by (go_simp <;> exact hF)), ?_⟩
  simp only [Act.put, List.setIfInBounds_toArray, List.set_cons_succ, List.set_cons_zero]
  refine ⟨fun j w1 hj hC => by
    have z : w1.cell? ⟨g, 1, none⟩ = some (.slice (some ⟨vb, 0, none⟩) l.length l.length) := match j, hC with
      | 0, hC => hC.1.1.c1
      | _ + 1, hC => hC.1.1.c1
    exact Chn.upon_pure hC (fun F hF => by (go_simp <;> exact hF)), ?_⟩
  simp only [Act.put, List.setIfInBounds_toArray, List.set_cons_succ, List.set_cons_zero]
  refine ⟨fun j w1 hj hC => by exact Chn.upon_pure hC (fun F hF => by (go_simp <;> exact hF)), ?_⟩
  simp only [Act.put, List.setIfInBounds_toArray, List.set_cons_succ, List.set_cons_zero]
  refine ⟨fun j w1 hj hC => by
    have z : w1.cell? ⟨t, 2, none⟩ = some (vI (i : Int)) := match j, hC with
      | 0, hC => hC.2.c2
      | _ + 1, hC => hC.2.c2
    exact Chn.upon_pure hC (fun F hF => by (go_simp <;> exact hF)), ?_⟩
  simp only [Act.put, List.setIfInBounds_toArray, List.set_cons_succ, List.set_cons_zero]
  refine ⟨fun j w1 hj hC => by exact Chn.upon_pure hC (fun F hF => by (go_simp <;> exact hF)), ?_⟩
  simp only [Act.put, List.setIfInBounds_toArray, List.set_cons_succ, List.set_cons_zero]
  refine ⟨fun j w1 hj hC => by
    have z : w1.cell? ⟨vb, i, none⟩ = some (vU (S.val i)) := match j, hC with
      | 0, hC => hC.1.1.valc hi
      | _ + 1, hC => by have q := hC.1.1.valc hi; rw [val_carry11] at q; exact q
    exact Chn.upon_pure hC (fun F hF => by (go_simp <;> exact hF)), ?_⟩
  simp only [Act.put, List.setIfInBounds_toArray, List.set_cons_succ, List.set_cons_zero]
  refine ⟨fun w1 hC => by
    have hA : (fun x => RT l g vb so S w x ∧ LocO t ⟨11, r, i, b, order, imm⟩ x) w1 := hC
    exact Chn.upon_call (C := Ph _ _ 1) (acc11 hA.1.1 fit h1 h2) (fun e2 w2 hh => ⟨hh.1, hA.1.then hh.2, locKept hA hh.2⟩) (fun F hF => by (go_simp <;> exact hF)), ?_⟩
  simp only [Act.put, List.setIfInBounds_toArray, List.set_cons_succ, List.set_cons_zero]
  intro w5 hC
  have hC : (fun x => RT l g vb so (carryV l.length S ⟨11, r, i, b, order, imm⟩) w x ∧ LocO t ⟨11, r, i, b, order, imm⟩ x) w5 := hC
  go_wp2
  go_end0
  exact ⟨rfl, hC.1⟩

set_option maxHeartbeats 2000000 in
theorem car12 (H : RunAt l g vb so S w) (fit : OpFit l ⟨12, r, a, b, order, imm⟩) (h1 : 1 ≤ S.next) (h2 : S.next ≤ l.length) : Calls Tryz.prog 51 #[ptr g 0, opV ⟨12, r, a, b, order, imm⟩] w fun e w' => e = .returned (.tuple #[]) ∧ RT l g vb so (carryV l.length S ⟨12, r, a, b, order, imm⟩) w w' := by
  obtain ⟨i, rfl⟩ : ∃ i : Nat, a = i := ⟨a.toNat, by have := fit.a hp12_2; dsimp only at this; omega⟩
  have hi : i < l.length := by have := fit.a hp12_2; dsimp only at this; omega
  have hii : (i : Int) < l.length := by omega
  have hb := below_alloc w (.cells (opA ⟨12, r, i, b, order, imm⟩) 27)
  have L : LocO w.heap.size ⟨12, r, i, b, order, imm⟩ (w.alloc (.cells (opA ⟨12, r, i, b, order, imm⟩) 27)) := LocO.new w _
  have R : RT l g vb so S w (w.alloc (.cells (opA ⟨12, r, i, b, order, imm⟩) 27)) := RT.from hb (H.grow hb).here
  go_enter Tryz.func51, Tryz.ntmps51
  go_upto_region 14 with fail
  generalize w.alloc (.cells (opA ⟨12, r, i, b, order, imm⟩) 27) = w1 at *
  generalize w.heap.size = t at *
  have hst : Ph (fun x => RT l g vb so S w x ∧ LocO t ⟨12, r, i, b, order, imm⟩ x) (fun x => RT l g vb so (carryV l.length S ⟨12, r, i, b, order, imm⟩) w x ∧ LocO t ⟨12, r, i, b, order, imm⟩ x) 0 _ := ⟨R.then R.1.draw, L.grow (below_dr _)⟩
  refine Chn.wp_region_chainL (Ph (fun x => RT l g vb so S w x ∧ LocO t ⟨12, r, i, b, order, imm⟩ x) (fun x => RT l g vb so (carryV l.length S ⟨12, r, i, b, order, imm⟩) w x ∧ LocO t ⟨12, r, i, b, order, imm⟩ x)) [10] [1, 0, 1, 1, 1, 1, 1, 1, 1, 1, 1] [ptr g 0, opV ⟨12, r, i, b, order, imm⟩, ptr g 0, ptr g 0, ptr g 1, .slice (some ⟨vb, 0, none⟩) l.length l.length, ptr t 2, vI (i : Int), ptr vb i, vU (S.val i), .tuple #[]] (by kernel_rfl) (by kernel_rfl) (by kernel_rfl) (by kernel_rfl) (by kernel_rfl) hst ?_
  clear hst
  refine ⟨fun j w1 hj hC => by exact Chn.upon_pure hC (fun F hF => by (go_simp <;> exact hF)), ?_⟩
  simp only [Act.put, List.setIfInBounds_toArray, List.set_cons_succ, List.set_cons_zero]
  refine ⟨fun j w1 hj hC => by
    obtain rfl : j = 0 := Nat.le_zero.1 hj
    have hA : (fun x => RT l g vb so S w x ∧ LocO t ⟨12, r, i, b, order, imm⟩ x) w1 := hC
    exact upon_load42 hA.2.at_ hC, ?_⟩
  simp only [Act.put, List.setIfInBounds_toArray, List.set_cons_succ, List.set_cons_zero]
  refine ⟨fun j w1 hj hC => by exact Chn.upon_pure hC (fun F hF => by (go_simp <;> exact hF)), ?_⟩
  simp only [Act.put, List.setIfInBounds_toArray, List.set_cons_succ, List.set_cons_zero]
  refine ⟨fun j w1 hj hC => by exact Chn.upon_pure hC (fun F hF => by (go_simp <;> exact hF)), ?_⟩
  simp only [Act.put, List.setIfInBounds_toArray, List.set_cons_succ, List.set_cons_zero]
  refine ⟨fun j w1 hj hC => by exact Chn.upon_pure hC (fun F hF => by (go_simp <;> exact hF)), ?_⟩
  simp only [Act.put, List.setIfInBounds_toArray, List.set_cons_succ, List.set_cons_zero]
  refine ⟨fun j w1 hj hC => by
    have z : w1.cell? ⟨g, 1, none⟩ = some (.slice (some ⟨vb, 0, none⟩) l.length l.length) := match j, hC with
      | 0, hC => hC.1.1.c1
      | _ + 1, hC => hC.1.1.c1
    exact Chn.upon_pure hC (fun F hF => by (go_simp <;> exact hF)), ?_⟩
  simp only [Act.put, List.setIfInBounds_toArray, List.set_cons_succ, List.set_cons_zero]
  refine ⟨fun j w1 hj hC => by exact Chn.upon_pure hC (fun F hF => by (go_simp <;> exact hF)), ?_⟩
  simp only [Act.put, List.setIfInBounds_toArray, List.set_cons_succ, List.set_cons_zero]
  refine ⟨fun j w1 hj hC => by
    have z : w1.cell? ⟨t, 2, none⟩ = some (vI (i : Int)) := match j, hC with
      | 0, hC => hC.2.c2
      | _ + 1, hC => hC.2.c2
    exact Chn.upon_pure hC (fun F hF => by (go_simp <;> exact hF)), ?_⟩
  simp only [Act.put, List.setIfInBounds_toArray, List.set_cons_succ, List.set_cons_zero]
  refine ⟨fun j w1 hj hC => by exact Chn.upon_pure hC (fun F hF => by (go_simp <;> exact hF)), ?_⟩
  simp only [Act.put, List.setIfInBounds_toArray, List.set_cons_succ, List.set_cons_zero]
  refine ⟨fun j w1 hj hC => by
    have z : w1.cell? ⟨vb, i, none⟩ = some (vU (S.val i)) := match j, hC with
      | 0, hC => hC.1.1.valc hi
      | _ + 1, hC => by have q := hC.1.1.valc hi; rw [val_carry12] at q; exact q
    exact Chn.upon_pure hC (fun F hF => by (go_simp <;> exact hF)), ?_⟩
  simp only [Act.put, List.setIfInBounds_toArray, List.set_cons_succ, List.set_cons_zero]
  refine ⟨fun w1 hC => by
    have hA : (fun x => RT l g vb so S w x ∧ LocO t ⟨12, r, i, b, order, imm⟩ x) w1 := hC
    exact Chn.upon_call (C := Ph _ _ 1) (acc12 hA.1.1 fit h1 h2) (fun e2 w2 hh => ⟨hh.1, hA.1.then hh.2, locKept hA hh.2⟩) (fun F hF => by (go_simp <;> exact hF)), ?_⟩
  simp only [Act.put, List.setIfInBounds_toArray, List.set_cons_succ, List.set_cons_zero]
  intro w5 hC
  have hC : (fun x => RT l g vb so (carryV l.length S ⟨12, r, i, b, order, imm⟩) w x ∧ LocO t ⟨12, r, i, b, order, imm⟩ x) w5 := hC
  go_wp2
  go_end0
  exact ⟨rfl, hC.1⟩

set_option maxHeartbeats 2000000 in
theorem car13 (H : RunAt l g vb so S w) (fit : OpFit l ⟨13, r, a, b, order, imm⟩) (h1 : 1 ≤ S.next) (h2 : S.next ≤ l.length) : Calls Tryz.prog 51 #[ptr g 0, opV ⟨13, r, a, b, order, imm⟩] w fun e w' => e = .returned (.tuple #[]) ∧ RT l g vb so (carryV l.length S ⟨13, r, a, b, order, imm⟩) w w' := by
  have hb := below_alloc w (.cells (opA ⟨13, r, a, b, order, imm⟩) 27)
  have L : LocO w.heap.size ⟨13, r, a, b, order, imm⟩ (w.alloc (.cells (opA ⟨13, r, a, b, order, imm⟩) 27)) := LocO.new w _
  have R : RT l g vb so S w (w.alloc (.cells (opA ⟨13, r, a, b, order, imm⟩) 27)) := RT.from hb (H.grow hb).here
  go_enter Tryz.func51, Tryz.ntmps51
  go_upto_region 16 with fail
  generalize w.alloc (.cells (opA ⟨13, r, a, b, order, imm⟩) 27) = w1 at *
  generalize w.heap.size = t at *
  have z := L.c1
  have k := wait_c R.1 ⟨6, 0, 0, 0, false, r, false, 0, 0, 0⟩ 4
  rw [show goV g 4 = .func (.func 64) #[ptr g 0] #[] from rfl] at k
  have hmf : ∀ (fn : Fn) (first cap : Array Value) (w : World), (Instr.makeFunc fn first cap).run Tryz.prog w = .ok (.func fn first cap) w := fun _ _ _ _ => rfl
  go_wp2_with (first | (go_at_call 50; (with_reducible refine k.mono ?_); rintro e w6 ⟨rfl, R6⟩; dsimp only))
  go_end0
  exact ⟨rfl, R.then R6⟩
theorem carry_c (H : RunAt l g vb so S w) {o : Opr} (fit : OpFit l o) (h1 : 1 ≤ S.next) (h2 : S.next ≤ l.length) : Calls Tryz.prog 51 #[ptr g 0, opV o] w fun e w' => e = .returned (.tuple #[]) ∧ RT l g vb so (carryV l.length S o) w w' := by
  obtain ⟨kind, r, a, b, order, imm⟩ := o
  rcases isK_cases fit.k with h | h | h | h | h | h | h | h | h | h | h | h | h | h | h | h | h | h <;> (dsimp only at h; subst h)
  · exact car1 H fit h1 h2
  · exact car2 H fit h1 h2
  · exact car3 H fit h1 h2
  · exact car4 H fit h1 h2
  · exact car5 H fit h1 h2
  · exact car6 H fit h1 h2
  · exact car7 H fit h1 h2
  · exact car8 H fit h1 h2
  · exact car9 H fit h1 h2
  · exact car10 H fit h1 h2
  · exact car11 H fit h1 h2
  · exact car12 H fit h1 h2
  · exact car13 H fit h1 h2
  · exact car14 H fit h1 h2
  · exact car15 H fit h1 h2
  · exact car16 H fit h1 h2
  · exact car17 H fit h1 h2
  · exact car18 H fit h1 h2
end
end Go.Proofs.YtccmncecpmemaaaGreatDoor
