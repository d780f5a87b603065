/- Registers of a run. -/
import Derived.Test.YtccmncecpmemaaaGreatDoorJc
namespace Go.Proofs.YtccmncecpmemaaaGreatDoor
open Go.RowKit
set_option linter.unusedVariables false
set_option linter.unusedSimpArgs false
set_option maxRecDepth 8000

section
theorem locKept {l : List Opr} {g vb : Nat} {so : Value} {S S' : Rn} {w x y : World} {t : Nat} {o : Opr} (hA : RT l g vb so S w x ∧ LocO t o x) (R : RT l g vb so S' x y) : LocO t o y :=
  R.kept hA.2 (ne_of_type hA.2 hA.1.1.top (by decide)) (ne_of_type hA.2 hA.1.1.vals (by decide))
variable {l : List Opr} {g vb : Nat} {so : Value} {S : Rn} {w w' : World} {r a b order imm : Int}

set_option maxHeartbeats 2000000 in
theorem reg2 (H : RunAt l g vb so S w) (fit : OpFit l ⟨2, r, a, b, order, imm⟩) (h1 : 1 ≤ S.next) (h2 : S.next ≤ l.length) : Calls Tryz.prog 66 #[ptr g 0, opV ⟨2, r, a, b, order, imm⟩] w fun e w' => e = .returned (.tuple #[]) ∧ RT l g vb so (carryV l.length S ⟨2, r, a, b, order, imm⟩) w w' := by
  have hrg : rangeB ⟨2, r, a, b, order, imm⟩ = true := fit.rng
  simp [rangeB] at hrg
  obtain ⟨q, rfl⟩ : ∃ q : Nat, r = q := ⟨r.toNat, by omega⟩
  have hq : q < 31 := by omega
  have hqi : (q : Int) < 31 := by omega
  have hb := below_alloc w (.cells (opA ⟨2, q, a, b, order, imm⟩) 27)
  have L : LocO w.heap.size ⟨2, q, a, b, order, imm⟩ (w.alloc (.cells (opA ⟨2, q, a, b, order, imm⟩) 27)) := LocO.new w _
  have R : RT l g vb so S w (w.alloc (.cells (opA ⟨2, q, a, b, order, imm⟩) 27)) := RT.from hb (H.grow hb).here
  go_enter Tryz.func66, Tryz.ntmps66
  go_upto_region 3 with fail
  generalize w.alloc (.cells (opA ⟨2, q, a, b, order, imm⟩) 27) = w1 at *
  generalize w.heap.size = t at *
  have hst : Ph (fun x => RT l g vb so S w x ∧ LocO t ⟨2, q, a, b, order, imm⟩ x) (fun x => RT l g vb so (S.define (S.x (q : Int))) w x ∧ LocO t ⟨2, q, a, b, order, imm⟩ x) 0 _ := ⟨R.then R.1.draw, L.grow (below_dr _)⟩
  refine Chn.wp_region_chainL (Ph (fun x => RT l g vb so S w x ∧ LocO t ⟨2, q, a, b, order, imm⟩ x) (fun x => RT l g vb so (S.define (S.x (q : Int))) w x ∧ LocO t ⟨2, q, a, b, order, imm⟩ x)) [9] [1, 1, 1, 1, 1, 1, 1, 1, 0, 1] [ptr g 0, ptr g 0, ptr t 1, vI (q : Int), ptr g 0, ptr g 3, ptr g 3, ptr g (3 + q), vU (S.x (q : Int)), .tuple #[]] (by kernel_rfl) (by kernel_rfl) (by kernel_rfl) (by kernel_rfl) (by kernel_rfl) hst ?_
  clear hst
  refine ⟨fun j w1 hj hC => by exact Chn.upon_pure hC (fun F hF => by (go_simp <;> exact hF)), ?_⟩
  simp only [Act.put, List.setIfInBounds_toArray, List.set_cons_succ, List.set_cons_zero]
  refine ⟨fun j w1 hj hC => by exact Chn.upon_pure hC (fun F hF => by (go_simp <;> exact hF)), ?_⟩
  simp only [Act.put, List.setIfInBounds_toArray, List.set_cons_succ, List.set_cons_zero]
  refine ⟨fun j w1 hj hC => by exact Chn.upon_pure hC (fun F hF => by (go_simp <;> exact hF)), ?_⟩
  simp only [Act.put, List.setIfInBounds_toArray, List.set_cons_succ, List.set_cons_zero]
  refine ⟨fun j w1 hj hC => by
    have z : w1.cell? ⟨t, 1, none⟩ = some (vI (q : Int)) := match j, hC with
      | 0, hC => hC.2.c1
      | _ + 1, hC => hC.2.c1
    exact Chn.upon_pure hC (fun F hF => by (go_simp <;> exact hF)), ?_⟩
  simp only [Act.put, List.setIfInBounds_toArray, List.set_cons_succ, List.set_cons_zero]
  refine ⟨fun j w1 hj hC => by exact Chn.upon_pure hC (fun F hF => by (go_simp <;> exact hF)), ?_⟩
  simp only [Act.put, List.setIfInBounds_toArray, List.set_cons_succ, List.set_cons_zero]
  refine ⟨fun j w1 hj hC => by exact Chn.upon_pure hC (fun F hF => by (go_simp <;> exact hF)), ?_⟩
  simp only [Act.put, List.setIfInBounds_toArray, List.set_cons_succ, List.set_cons_zero]
  refine ⟨fun j w1 hj hC => by exact Chn.upon_pure hC (fun F hF => by (go_simp <;> exact hF)), ?_⟩
  simp only [Act.put, List.setIfInBounds_toArray, List.set_cons_succ, List.set_cons_zero]
  refine ⟨fun j w1 hj hC => by exact Chn.upon_pure hC (fun F hF => by (go_simp <;> exact hF)), ?_⟩
  simp only [Act.put, List.setIfInBounds_toArray, List.set_cons_succ, List.set_cons_zero]
  refine ⟨fun j w1 hj hC => by
    obtain rfl : j = 0 := Nat.le_zero.1 hj
    have hA : (fun x => RT l g vb so S w x ∧ LocO t ⟨2, q, a, b, order, imm⟩ x) w1 := hC
    have z := hA.1.1.xc hq
    exact Chn.upon_pure hC (fun F hF => by (go_simp <;> exact hF)), ?_⟩
  simp only [Act.put, List.setIfInBounds_toArray, List.set_cons_succ, List.set_cons_zero]
  refine ⟨fun w1 hC => by
    have hA : (fun x => RT l g vb so S w x ∧ LocO t ⟨2, q, a, b, order, imm⟩ x) w1 := hC
    exact Chn.upon_call (C := Ph _ _ 1) (define_c hA.1.1 (hA.1.1.xu hq) h1 h2) (fun e2 w2 hh => ⟨hh.1, hA.1.then hh.2, locKept hA hh.2⟩) (fun F hF => by (go_simp <;> exact hF)), ?_⟩
  simp only [Act.put, List.setIfInBounds_toArray, List.set_cons_succ, List.set_cons_zero]
  intro w5 hC
  have hC : (fun x => RT l g vb so (S.define (S.x (q : Int))) w x ∧ LocO t ⟨2, q, a, b, order, imm⟩ x) w5 := hC
  go_wp2
  go_end0
  exact ⟨rfl, hC.1⟩

set_option maxHeartbeats 2000000 in
theorem reg3 (H : RunAt l g vb so S w) (fit : OpFit l ⟨3, r, a, b, order, imm⟩) (h1 : 1 ≤ S.next) (h2 : S.next ≤ l.length) : Calls Tryz.prog 66 #[ptr g 0, opV ⟨3, r, a, b, order, imm⟩] w fun e w' => e = .returned (.tuple #[]) ∧ RT l g vb so (carryV l.length S ⟨3, r, a, b, order, imm⟩) w w' := by
  have hrg : rangeB ⟨3, r, a, b, order, imm⟩ = true := fit.rng
  simp [rangeB] at hrg
  obtain ⟨q, rfl⟩ : ∃ q : Nat, r = q := ⟨r.toNat, by omega⟩
  have hq : q < 31 := by omega
  have hqi : (q : Int) < 31 := by omega
  obtain ⟨i, rfl⟩ : ∃ i : Nat, a = i := ⟨a.toNat, by have := fit.a hp3_2; dsimp only at this; omega⟩
  have hi : i < l.length := by have := fit.a hp3_2; dsimp only at this; omega
  have hii : (i : Int) < l.length := by omega
  have hb := below_alloc w (.cells (opA ⟨3, q, i, b, order, imm⟩) 27)
  have L : LocO w.heap.size ⟨3, q, i, b, order, imm⟩ (w.alloc (.cells (opA ⟨3, q, i, b, order, imm⟩) 27)) := LocO.new w _
  have R : RT l g vb so S w (w.alloc (.cells (opA ⟨3, q, i, b, order, imm⟩) 27)) := RT.from hb (H.grow hb).here
  go_enter Tryz.func66, Tryz.ntmps66
  go_upto_region 5 with fail
  generalize w.alloc (.cells (opA ⟨3, q, i, b, order, imm⟩) 27) = w1 at *
  generalize w.heap.size = t at *
  have hst : Ph (fun x => RT l g vb so S w x ∧ LocO t ⟨3, q, i, b, order, imm⟩ x) (RT l g vb so (S.setX (q : Int) (S.val (i : Int))) w) 0 _ := ⟨R.then R.1.draw, L.grow (below_dr _)⟩
  refine Chn.wp_region_chainL (Ph (fun x => RT l g vb so S w x ∧ LocO t ⟨3, q, i, b, order, imm⟩ x) (RT l g vb so (S.setX (q : Int) (S.val (i : Int))) w)) [15] [1, 1, 0, 1, 1, 1, 0, 1, 0, 1, 0, 1, 1, 1, 1, 1] [ptr g 0, ptr t 1, vI (q : Int), ptr g 0, ptr g 0, ptr g 1, .slice (some ⟨vb, 0, none⟩) l.length l.length, ptr t 2, vI (i : Int), ptr vb i, vU (S.val i), ptr g 0, ptr g 3, ptr g 3, ptr g (3 + q), undef] (by kernel_rfl) (by kernel_rfl) (by kernel_rfl) (by kernel_rfl) (by kernel_rfl) hst ?_
  clear hst
  refine ⟨fun j w1 hj hC => by exact Chn.upon_pure hC (fun F hF => by (go_simp <;> exact hF)), ?_⟩
  simp only [Act.put, List.setIfInBounds_toArray, List.set_cons_succ, List.set_cons_zero]
  refine ⟨fun j w1 hj hC => by exact Chn.upon_pure hC (fun F hF => by (go_simp <;> exact hF)), ?_⟩
  simp only [Act.put, List.setIfInBounds_toArray, List.set_cons_succ, List.set_cons_zero]
  refine ⟨fun j w1 hj hC => by
    obtain rfl : j = 0 := Nat.le_zero.1 hj
    have hA : (fun x => RT l g vb so S w x ∧ LocO t ⟨3, q, i, b, order, imm⟩ x) w1 := hC
    have z := hA.2.c1
    exact Chn.upon_pure hC (fun F hF => by (go_simp <;> exact hF)), ?_⟩
  simp only [Act.put, List.setIfInBounds_toArray, List.set_cons_succ, List.set_cons_zero]
  refine ⟨fun j w1 hj hC => by exact Chn.upon_pure hC (fun F hF => by (go_simp <;> exact hF)), ?_⟩
  simp only [Act.put, List.setIfInBounds_toArray, List.set_cons_succ, List.set_cons_zero]
  refine ⟨fun j w1 hj hC => by exact Chn.upon_pure hC (fun F hF => by (go_simp <;> exact hF)), ?_⟩
  simp only [Act.put, List.setIfInBounds_toArray, List.set_cons_succ, List.set_cons_zero]
  refine ⟨fun j w1 hj hC => by exact Chn.upon_pure hC (fun F hF => by (go_simp <;> exact hF)), ?_⟩
  simp only [Act.put, List.setIfInBounds_toArray, List.set_cons_succ, List.set_cons_zero]
  refine ⟨fun j w1 hj hC => by
    obtain rfl : j = 0 := Nat.le_zero.1 hj
    have hA : (fun x => RT l g vb so S w x ∧ LocO t ⟨3, q, i, b, order, imm⟩ x) w1 := hC
    have z := hA.1.1.c1
    exact Chn.upon_pure hC (fun F hF => by (go_simp <;> exact hF)), ?_⟩
  simp only [Act.put, List.setIfInBounds_toArray, List.set_cons_succ, List.set_cons_zero]
  refine ⟨fun j w1 hj hC => by exact Chn.upon_pure hC (fun F hF => by (go_simp <;> exact hF)), ?_⟩
  simp only [Act.put, List.setIfInBounds_toArray, List.set_cons_succ, List.set_cons_zero]
  refine ⟨fun j w1 hj hC => by
    obtain rfl : j = 0 := Nat.le_zero.1 hj
    have hA : (fun x => RT l g vb so S w x ∧ LocO t ⟨3, q, i, b, order, imm⟩ x) w1 := hC
    have z := hA.2.c2
    exact Chn.upon_pure hC (fun F hF => by (go_simp <;> exact hF)), ?_⟩
  simp only [Act.put, List.setIfInBounds_toArray, List.set_cons_succ, List.set_cons_zero]
  refine ⟨fun j w1 hj hC => by exact Chn.upon_pure hC (fun F hF => by (go_simp <;> exact hF)), ?_⟩
  simp only [Act.put, List.setIfInBounds_toArray, List.set_cons_succ, List.set_cons_zero]
  refine ⟨fun j w1 hj hC => by
    obtain rfl : j = 0 := Nat.le_zero.1 hj
    have hA : (fun x => RT l g vb so S w x ∧ LocO t ⟨3, q, i, b, order, imm⟩ x) w1 := hC
    have z := hA.1.1.valc hi
    exact Chn.upon_pure hC (fun F hF => by (go_simp <;> exact hF)), ?_⟩
  simp only [Act.put, List.setIfInBounds_toArray, List.set_cons_succ, List.set_cons_zero]
  refine ⟨fun j w1 hj hC => by exact Chn.upon_pure hC (fun F hF => by (go_simp <;> exact hF)), ?_⟩
  simp only [Act.put, List.setIfInBounds_toArray, List.set_cons_succ, List.set_cons_zero]
  refine ⟨fun j w1 hj hC => by exact Chn.upon_pure hC (fun F hF => by (go_simp <;> exact hF)), ?_⟩
  simp only [Act.put, List.setIfInBounds_toArray, List.set_cons_succ, List.set_cons_zero]
  refine ⟨fun j w1 hj hC => by exact Chn.upon_pure hC (fun F hF => by (go_simp <;> exact hF)), ?_⟩
  simp only [Act.put, List.setIfInBounds_toArray, List.set_cons_succ, List.set_cons_zero]
  refine ⟨fun j w1 hj hC => by exact Chn.upon_pure hC (fun F hF => by (go_simp <;> exact hF)), ?_⟩
  simp only [Act.put, List.setIfInBounds_toArray, List.set_cons_succ, List.set_cons_zero]
  refine ⟨fun w1 hC => by
    have hA : (fun x => RT l g vb so S w x ∧ LocO t ⟨3, q, i, b, order, imm⟩ x) w1 := hC
    exact chn_store 22 _ _ rfl g (3 + q) rfl _ rfl (run_cell _ 22 g (3 + q) _ _ inf22 rfl rfl (hA.1.1.xc hq) (hA.1.1.fz (3 + q))) (hA.1.then (hA.1.1.setX_ hq (hA.1.1.valu _))), ?_⟩
  simp only [Act.put, List.setIfInBounds_toArray, List.set_cons_succ, List.set_cons_zero]
  intro w5 hC
  have hC : (RT l g vb so (S.setX (q : Int) (S.val (i : Int))) w) w5 := hC
  go_wp2
  go_end0
  exact ⟨rfl, hC⟩

set_option maxHeartbeats 2000000 in
theorem reg4_0 (H : RunAt l g vb so S w) (he : S.c.el = 0) (fit : OpFit l ⟨4, r, a, b, order, imm⟩) (h1 : 1 ≤ S.next) (h2 : S.next ≤ l.length) : Calls Tryz.prog 66 #[ptr g 0, opV ⟨4, r, a, b, order, imm⟩] w fun e w' => e = .returned (.tuple #[]) ∧ RT l g vb so (carryV l.length S ⟨4, r, a, b, order, imm⟩) w w' := by
  have hb := below_alloc w (.cells (opA ⟨4, r, a, b, order, imm⟩) 27)
  have L : LocO w.heap.size ⟨4, r, a, b, order, imm⟩ (w.alloc (.cells (opA ⟨4, r, a, b, order, imm⟩) 27)) := LocO.new w _
  have R : RT l g vb so S w (w.alloc (.cells (opA ⟨4, r, a, b, order, imm⟩) 27)) := RT.from hb (H.grow hb).here
  go_enter Tryz.func66, Tryz.ntmps66
  go_upto_region 7 with fail
  generalize w.alloc (.cells (opA ⟨4, r, a, b, order, imm⟩) 27) = w1 at *
  generalize w.heap.size = t at *
  have hst : Ph (fun x => RT l g vb so S w x ∧ LocO t ⟨4, r, a, b, order, imm⟩ x) (RT l g vb so (S.define S.c.sp0) w) 0 _ := ⟨R.then R.1.draw, L.grow (below_dr _)⟩
  refine Chn.wp_region_chainL (Ph (fun x => RT l g vb so S w x ∧ LocO t ⟨4, r, a, b, order, imm⟩ x) (RT l g vb so (S.define S.c.sp0) w)) [12] [1, 1, 1, 1, 1, 1, 1, 1, 1, 1, 1, 0, 1] [ptr g 0, ptr g 0, ptr g 0, ptr g 0, ptr g 3, ptr g 41, vI 0, ptr g 0, ptr g 3, ptr g 34, ptr g 34, vU S.c.sp0, .tuple #[]] (by kernel_rfl) (by kernel_rfl) (by kernel_rfl) (by kernel_rfl) (by kernel_rfl) hst ?_
  clear hst
  refine ⟨fun j w1 hj hC => by exact Chn.upon_pure hC (fun F hF => by (go_simp <;> exact hF)), ?_⟩
  simp only [Act.put, List.setIfInBounds_toArray, List.set_cons_succ, List.set_cons_zero]
  refine ⟨fun j w1 hj hC => by exact Chn.upon_pure hC (fun F hF => by (go_simp <;> exact hF)), ?_⟩
  simp only [Act.put, List.setIfInBounds_toArray, List.set_cons_succ, List.set_cons_zero]
  refine ⟨fun j w1 hj hC => by exact Chn.upon_pure hC (fun F hF => by (go_simp <;> exact hF)), ?_⟩
  simp only [Act.put, List.setIfInBounds_toArray, List.set_cons_succ, List.set_cons_zero]
  refine ⟨fun j w1 hj hC => by exact Chn.upon_pure hC (fun F hF => by (go_simp <;> exact hF)), ?_⟩
  simp only [Act.put, List.setIfInBounds_toArray, List.set_cons_succ, List.set_cons_zero]
  refine ⟨fun j w1 hj hC => by exact Chn.upon_pure hC (fun F hF => by (go_simp <;> exact hF)), ?_⟩
  simp only [Act.put, List.setIfInBounds_toArray, List.set_cons_succ, List.set_cons_zero]
  refine ⟨fun j w1 hj hC => by exact Chn.upon_pure hC (fun F hF => by (go_simp <;> exact hF)), ?_⟩
  simp only [Act.put, List.setIfInBounds_toArray, List.set_cons_succ, List.set_cons_zero]
  refine ⟨fun j w1 hj hC => by
    have z : w1.cell? ⟨g, 41, none⟩ = some (vI 0) := match j, hC with
      | 0, hC => (by have z := hC.1.1.elc; rw [he] at z; exact z)
      | _ + 1, hC => (by have z := (show RT l g vb so _ w w1 from hC).1.elc; exact z.trans (by rw [show (S.define S.c.sp0).c.el = S.c.el from rfl, he]))
    exact Chn.upon_pure hC (fun F hF => by (go_simp <;> exact hF)), ?_⟩
  simp only [Act.put, List.setIfInBounds_toArray, List.set_cons_succ, List.set_cons_zero]
  refine ⟨fun j w1 hj hC => by exact Chn.upon_pure hC (fun F hF => by (go_simp <;> exact hF)), ?_⟩
  simp only [Act.put, List.setIfInBounds_toArray, List.set_cons_succ, List.set_cons_zero]
  refine ⟨fun j w1 hj hC => by exact Chn.upon_pure hC (fun F hF => by (go_simp <;> exact hF)), ?_⟩
  simp only [Act.put, List.setIfInBounds_toArray, List.set_cons_succ, List.set_cons_zero]
  refine ⟨fun j w1 hj hC => by exact Chn.upon_pure hC (fun F hF => by (go_simp <;> exact hF)), ?_⟩
  simp only [Act.put, List.setIfInBounds_toArray, List.set_cons_succ, List.set_cons_zero]
  refine ⟨fun j w1 hj hC => by exact Chn.upon_pure hC (fun F hF => by (go_simp <;> exact hF)), ?_⟩
  simp only [Act.put, List.setIfInBounds_toArray, List.set_cons_succ, List.set_cons_zero]
  refine ⟨fun j w1 hj hC => by
    obtain rfl : j = 0 := Nat.le_zero.1 hj
    have hA : (fun x => RT l g vb so S w x ∧ LocO t ⟨4, r, a, b, order, imm⟩ x) w1 := hC
    have z := hA.1.1.sp0c
    exact Chn.upon_pure hC (fun F hF => by (go_simp <;> exact hF)), ?_⟩
  simp only [Act.put, List.setIfInBounds_toArray, List.set_cons_succ, List.set_cons_zero]
  refine ⟨fun w1 hC => by
    have hA : (fun x => RT l g vb so S w x ∧ LocO t ⟨4, r, a, b, order, imm⟩ x) w1 := hC
    exact Chn.upon_call (C := Ph _ _ 1) (define_c hA.1.1 hA.1.1.ok.sp0 h1 h2) (fun e2 w2 hh => ⟨hh.1, hA.1.then hh.2⟩) (fun F hF => by (go_simp <;> exact hF)), ?_⟩
  simp only [Act.put, List.setIfInBounds_toArray, List.set_cons_succ, List.set_cons_zero]
  intro w5 hC
  have hC : (RT l g vb so (S.define S.c.sp0) w) w5 := hC
  go_wp2
  go_end0
  refine ⟨rfl, ?_⟩
  have e : carryV l.length S ⟨4, r, a, b, order, imm⟩ = S.define S.c.sp0 := by show S.define S.sp = _; unfold Rn.sp; rw [he]; rfl
  rw [e]; exact hC

set_option maxHeartbeats 2000000 in
theorem reg4_1 (H : RunAt l g vb so S w) (he : S.c.el = 1) (fit : OpFit l ⟨4, r, a, b, order, imm⟩) (h1 : 1 ≤ S.next) (h2 : S.next ≤ l.length) : Calls Tryz.prog 66 #[ptr g 0, opV ⟨4, r, a, b, order, imm⟩] w fun e w' => e = .returned (.tuple #[]) ∧ RT l g vb so (carryV l.length S ⟨4, r, a, b, order, imm⟩) w w' := by
  have hb := below_alloc w (.cells (opA ⟨4, r, a, b, order, imm⟩) 27)
  have L : LocO w.heap.size ⟨4, r, a, b, order, imm⟩ (w.alloc (.cells (opA ⟨4, r, a, b, order, imm⟩) 27)) := LocO.new w _
  have R : RT l g vb so S w (w.alloc (.cells (opA ⟨4, r, a, b, order, imm⟩) 27)) := RT.from hb (H.grow hb).here
  go_enter Tryz.func66, Tryz.ntmps66
  go_upto_region 7 with fail
  generalize w.alloc (.cells (opA ⟨4, r, a, b, order, imm⟩) 27) = w1 at *
  generalize w.heap.size = t at *
  have hst : Ph (fun x => RT l g vb so S w x ∧ LocO t ⟨4, r, a, b, order, imm⟩ x) (RT l g vb so (S.define S.c.sp1) w) 0 _ := ⟨R.then R.1.draw, L.grow (below_dr _)⟩
  refine Chn.wp_region_chainL (Ph (fun x => RT l g vb so S w x ∧ LocO t ⟨4, r, a, b, order, imm⟩ x) (RT l g vb so (S.define S.c.sp1) w)) [12] [1, 1, 1, 1, 1, 1, 1, 1, 1, 1, 1, 0, 1] [ptr g 0, ptr g 0, ptr g 0, ptr g 0, ptr g 3, ptr g 41, vI 1, ptr g 0, ptr g 3, ptr g 34, ptr g 35, vU S.c.sp1, .tuple #[]] (by kernel_rfl) (by kernel_rfl) (by kernel_rfl) (by kernel_rfl) (by kernel_rfl) hst ?_
  clear hst
  refine ⟨fun j w1 hj hC => by exact Chn.upon_pure hC (fun F hF => by (go_simp <;> exact hF)), ?_⟩
  simp only [Act.put, List.setIfInBounds_toArray, List.set_cons_succ, List.set_cons_zero]
  refine ⟨fun j w1 hj hC => by exact Chn.upon_pure hC (fun F hF => by (go_simp <;> exact hF)), ?_⟩
  simp only [Act.put, List.setIfInBounds_toArray, List.set_cons_succ, List.set_cons_zero]
  refine ⟨fun j w1 hj hC => by exact Chn.upon_pure hC (fun F hF => by (go_simp <;> exact hF)), ?_⟩
  simp only [Act.put, List.setIfInBounds_toArray, List.set_cons_succ, List.set_cons_zero]
  refine ⟨fun j w1 hj hC => by exact Chn.upon_pure hC (fun F hF => by (go_simp <;> exact hF)), ?_⟩
  simp only [Act.put, List.setIfInBounds_toArray, List.set_cons_succ, List.set_cons_zero]
  refine ⟨fun j w1 hj hC => by exact Chn.upon_pure hC (fun F hF => by (go_simp <;> exact hF)), ?_⟩
  simp only [Act.put, List.setIfInBounds_toArray, List.set_cons_succ, List.set_cons_zero]
  refine ⟨fun j w1 hj hC => by exact Chn.upon_pure hC (fun F hF => by (go_simp <;> exact hF)), ?_⟩
  simp only [Act.put, List.setIfInBounds_toArray, List.set_cons_succ, List.set_cons_zero]
  refine ⟨fun j w1 hj hC => by
    have z : w1.cell? ⟨g, 41, none⟩ = some (vI 1) := match j, hC with
      | 0, hC => (by have z := hC.1.1.elc; rw [he] at z; exact z)
      | _ + 1, hC => (by have z := (show RT l g vb so _ w w1 from hC).1.elc; exact z.trans (by rw [show (S.define S.c.sp1).c.el = S.c.el from rfl, he]))
    exact Chn.upon_pure hC (fun F hF => by (go_simp <;> exact hF)), ?_⟩
  simp only [Act.put, List.setIfInBounds_toArray, List.set_cons_succ, List.set_cons_zero]
  refine ⟨fun j w1 hj hC => by exact Chn.upon_pure hC (fun F hF => by (go_simp <;> exact hF)), ?_⟩
  simp only [Act.put, List.setIfInBounds_toArray, List.set_cons_succ, List.set_cons_zero]
  refine ⟨fun j w1 hj hC => by exact Chn.upon_pure hC (fun F hF => by (go_simp <;> exact hF)), ?_⟩
  simp only [Act.put, List.setIfInBounds_toArray, List.set_cons_succ, List.set_cons_zero]
  refine ⟨fun j w1 hj hC => by exact Chn.upon_pure hC (fun F hF => by (go_simp <;> exact hF)), ?_⟩
  simp only [Act.put, List.setIfInBounds_toArray, List.set_cons_succ, List.set_cons_zero]
  refine ⟨fun j w1 hj hC => by exact Chn.upon_pure hC (fun F hF => by (go_simp <;> exact hF)), ?_⟩
  simp only [Act.put, List.setIfInBounds_toArray, List.set_cons_succ, List.set_cons_zero]
  refine ⟨fun j w1 hj hC => by
    obtain rfl : j = 0 := Nat.le_zero.1 hj
    have hA : (fun x => RT l g vb so S w x ∧ LocO t ⟨4, r, a, b, order, imm⟩ x) w1 := hC
    have z := hA.1.1.sp1c
    exact Chn.upon_pure hC (fun F hF => by (go_simp <;> exact hF)), ?_⟩
  simp only [Act.put, List.setIfInBounds_toArray, List.set_cons_succ, List.set_cons_zero]
  refine ⟨fun w1 hC => by
    have hA : (fun x => RT l g vb so S w x ∧ LocO t ⟨4, r, a, b, order, imm⟩ x) w1 := hC
    exact Chn.upon_call (C := Ph _ _ 1) (define_c hA.1.1 hA.1.1.ok.sp1 h1 h2) (fun e2 w2 hh => ⟨hh.1, hA.1.then hh.2⟩) (fun F hF => by (go_simp <;> exact hF)), ?_⟩
  simp only [Act.put, List.setIfInBounds_toArray, List.set_cons_succ, List.set_cons_zero]
  intro w5 hC
  have hC : (RT l g vb so (S.define S.c.sp1) w) w5 := hC
  go_wp2
  go_end0
  refine ⟨rfl, ?_⟩
  have e : carryV l.length S ⟨4, r, a, b, order, imm⟩ = S.define S.c.sp1 := by show S.define S.sp = _; unfold Rn.sp; rw [he]; rfl
  rw [e]; exact hC

set_option maxHeartbeats 2000000 in
theorem reg5_0 (H : RunAt l g vb so S w) (he : S.c.el = 0) (fit : OpFit l ⟨5, r, a, b, order, imm⟩) (h1 : 1 ≤ S.next) (h2 : S.next ≤ l.length) : Calls Tryz.prog 66 #[ptr g 0, opV ⟨5, r, a, b, order, imm⟩] w fun e w' => e = .returned (.tuple #[]) ∧ RT l g vb so (carryV l.length S ⟨5, r, a, b, order, imm⟩) w w' := by
  obtain ⟨i, rfl⟩ : ∃ i : Nat, a = i := ⟨a.toNat, by have := fit.a hp5_2; dsimp only at this; omega⟩
  have hi : i < l.length := by have := fit.a hp5_2; dsimp only at this; omega
  have hii : (i : Int) < l.length := by omega
  have hb := below_alloc w (.cells (opA ⟨5, r, i, b, order, imm⟩) 27)
  have L : LocO w.heap.size ⟨5, r, i, b, order, imm⟩ (w.alloc (.cells (opA ⟨5, r, i, b, order, imm⟩) 27)) := LocO.new w _
  have R : RT l g vb so S w (w.alloc (.cells (opA ⟨5, r, i, b, order, imm⟩) 27)) := RT.from hb (H.grow hb).here
  go_enter Tryz.func66, Tryz.ntmps66
  go_upto_region 9 with fail
  generalize w.alloc (.cells (opA ⟨5, r, i, b, order, imm⟩) 27) = w1 at *
  generalize w.heap.size = t at *
  have hst : Ph (fun x => RT l g vb so S w x ∧ LocO t ⟨5, r, i, b, order, imm⟩ x) (RT l g vb so ({ S with c := { S.c with sp0 := S.val (i : Int) } }) w) 0 _ := ⟨R.then R.1.draw, L.grow (below_dr _)⟩
  refine Chn.wp_region_chainL (Ph (fun x => RT l g vb so S w x ∧ LocO t ⟨5, r, i, b, order, imm⟩ x) (RT l g vb so ({ S with c := { S.c with sp0 := S.val (i : Int) } }) w)) [18] [1, 1, 1, 1, 1, 0, 1, 1, 1, 0, 1, 0, 1, 0, 1, 1, 1, 1, 1] [ptr g 0, ptr g 0, ptr g 0, ptr g 3, ptr g 41, vI 0, ptr g 0, ptr g 0, ptr g 1, .slice (some ⟨vb, 0, none⟩) l.length l.length, ptr t 2, vI (i : Int), ptr vb i, vU (S.val i), ptr g 0, ptr g 3, ptr g 34, ptr g 34, undef] (by kernel_rfl) (by kernel_rfl) (by kernel_rfl) (by kernel_rfl) (by kernel_rfl) hst ?_
  clear hst
  refine ⟨fun j w1 hj hC => by exact Chn.upon_pure hC (fun F hF => by (go_simp <;> exact hF)), ?_⟩
  simp only [Act.put, List.setIfInBounds_toArray, List.set_cons_succ, List.set_cons_zero]
  refine ⟨fun j w1 hj hC => by exact Chn.upon_pure hC (fun F hF => by (go_simp <;> exact hF)), ?_⟩
  simp only [Act.put, List.setIfInBounds_toArray, List.set_cons_succ, List.set_cons_zero]
  refine ⟨fun j w1 hj hC => by exact Chn.upon_pure hC (fun F hF => by (go_simp <;> exact hF)), ?_⟩
  simp only [Act.put, List.setIfInBounds_toArray, List.set_cons_succ, List.set_cons_zero]
  refine ⟨fun j w1 hj hC => by exact Chn.upon_pure hC (fun F hF => by (go_simp <;> exact hF)), ?_⟩
  simp only [Act.put, List.setIfInBounds_toArray, List.set_cons_succ, List.set_cons_zero]
  refine ⟨fun j w1 hj hC => by exact Chn.upon_pure hC (fun F hF => by (go_simp <;> exact hF)), ?_⟩
  simp only [Act.put, List.setIfInBounds_toArray, List.set_cons_succ, List.set_cons_zero]
  refine ⟨fun j w1 hj hC => by
    obtain rfl : j = 0 := Nat.le_zero.1 hj
    have hA : (fun x => RT l g vb so S w x ∧ LocO t ⟨5, r, i, b, order, imm⟩ x) w1 := hC
    have z := hA.1.1.elc
    rw [he] at z
    exact Chn.upon_pure hC (fun F hF => by (go_simp <;> exact hF)), ?_⟩
  simp only [Act.put, List.setIfInBounds_toArray, List.set_cons_succ, List.set_cons_zero]
  refine ⟨fun j w1 hj hC => by exact Chn.upon_pure hC (fun F hF => by (go_simp <;> exact hF)), ?_⟩
  simp only [Act.put, List.setIfInBounds_toArray, List.set_cons_succ, List.set_cons_zero]
  refine ⟨fun j w1 hj hC => by exact Chn.upon_pure hC (fun F hF => by (go_simp <;> exact hF)), ?_⟩
  simp only [Act.put, List.setIfInBounds_toArray, List.set_cons_succ, List.set_cons_zero]
  refine ⟨fun j w1 hj hC => by exact Chn.upon_pure hC (fun F hF => by (go_simp <;> exact hF)), ?_⟩
  simp only [Act.put, List.setIfInBounds_toArray, List.set_cons_succ, List.set_cons_zero]
  refine ⟨fun j w1 hj hC => by
    obtain rfl : j = 0 := Nat.le_zero.1 hj
    have hA : (fun x => RT l g vb so S w x ∧ LocO t ⟨5, r, i, b, order, imm⟩ x) w1 := hC
    have z := hA.1.1.c1
    exact Chn.upon_pure hC (fun F hF => by (go_simp <;> exact hF)), ?_⟩
  simp only [Act.put, List.setIfInBounds_toArray, List.set_cons_succ, List.set_cons_zero]
  refine ⟨fun j w1 hj hC => by exact Chn.upon_pure hC (fun F hF => by (go_simp <;> exact hF)), ?_⟩
  simp only [Act.put, List.setIfInBounds_toArray, List.set_cons_succ, List.set_cons_zero]
  refine ⟨fun j w1 hj hC => by
    obtain rfl : j = 0 := Nat.le_zero.1 hj
    have hA : (fun x => RT l g vb so S w x ∧ LocO t ⟨5, r, i, b, order, imm⟩ x) w1 := hC
    have z := hA.2.c2
    exact Chn.upon_pure hC (fun F hF => by (go_simp <;> exact hF)), ?_⟩
  simp only [Act.put, List.setIfInBounds_toArray, List.set_cons_succ, List.set_cons_zero]
  refine ⟨fun j w1 hj hC => by exact Chn.upon_pure hC (fun F hF => by (go_simp <;> exact hF)), ?_⟩
  simp only [Act.put, List.setIfInBounds_toArray, List.set_cons_succ, List.set_cons_zero]
  refine ⟨fun j w1 hj hC => by
    obtain rfl : j = 0 := Nat.le_zero.1 hj
    have hA : (fun x => RT l g vb so S w x ∧ LocO t ⟨5, r, i, b, order, imm⟩ x) w1 := hC
    have z := hA.1.1.valc hi
    exact Chn.upon_pure hC (fun F hF => by (go_simp <;> exact hF)), ?_⟩
  simp only [Act.put, List.setIfInBounds_toArray, List.set_cons_succ, List.set_cons_zero]
  refine ⟨fun j w1 hj hC => by exact Chn.upon_pure hC (fun F hF => by (go_simp <;> exact hF)), ?_⟩
  simp only [Act.put, List.setIfInBounds_toArray, List.set_cons_succ, List.set_cons_zero]
  refine ⟨fun j w1 hj hC => by exact Chn.upon_pure hC (fun F hF => by (go_simp <;> exact hF)), ?_⟩
  simp only [Act.put, List.setIfInBounds_toArray, List.set_cons_succ, List.set_cons_zero]
  refine ⟨fun j w1 hj hC => by exact Chn.upon_pure hC (fun F hF => by (go_simp <;> exact hF)), ?_⟩
  simp only [Act.put, List.setIfInBounds_toArray, List.set_cons_succ, List.set_cons_zero]
  refine ⟨fun j w1 hj hC => by exact Chn.upon_pure hC (fun F hF => by (go_simp <;> exact hF)), ?_⟩
  simp only [Act.put, List.setIfInBounds_toArray, List.set_cons_succ, List.set_cons_zero]
  refine ⟨fun w1 hC => by
    have hA : (fun x => RT l g vb so S w x ∧ LocO t ⟨5, r, i, b, order, imm⟩ x) w1 := hC
    exact chn_store 22 _ _ rfl g 34 rfl _ rfl (run_cell _ 22 g 34 _ _ inf22 rfl rfl hA.1.1.sp0c (hA.1.1.fz 34)) (hA.1.then (hA.1.1.setSP0 (hA.1.1.valu _))), ?_⟩
  simp only [Act.put, List.setIfInBounds_toArray, List.set_cons_succ, List.set_cons_zero]
  intro w5 hC
  have hC : (RT l g vb so ({ S with c := { S.c with sp0 := S.val (i : Int) } }) w) w5 := hC
  go_wp2
  go_end0
  refine ⟨rfl, ?_⟩
  have e : carryV l.length S ⟨5, r, i, b, order, imm⟩ = { S with c := { S.c with sp0 := S.val (i : Int) } } := by show S.setSP (S.val i) = _; unfold Rn.setSP; rw [he]; rfl
  rw [e]; exact hC

set_option maxHeartbeats 2000000 in
theorem reg5_1 (H : RunAt l g vb so S w) (he : S.c.el = 1) (fit : OpFit l ⟨5, r, a, b, order, imm⟩) (h1 : 1 ≤ S.next) (h2 : S.next ≤ l.length) : Calls Tryz.prog 66 #[ptr g 0, opV ⟨5, r, a, b, order, imm⟩] w fun e w' => e = .returned (.tuple #[]) ∧ RT l g vb so (carryV l.length S ⟨5, r, a, b, order, imm⟩) w w' := by
  obtain ⟨i, rfl⟩ : ∃ i : Nat, a = i := ⟨a.toNat, by have := fit.a hp5_2; dsimp only at this; omega⟩
  have hi : i < l.length := by have := fit.a hp5_2; dsimp only at this; omega
  have hii : (i : Int) < l.length := by omega
  have hb := below_alloc w (.cells (opA ⟨5, r, i, b, order, imm⟩) 27)
  have L : LocO w.heap.size ⟨5, r, i, b, order, imm⟩ (w.alloc (.cells (opA ⟨5, r, i, b, order, imm⟩) 27)) := LocO.new w _
  have R : RT l g vb so S w (w.alloc (.cells (opA ⟨5, r, i, b, order, imm⟩) 27)) := RT.from hb (H.grow hb).here
  go_enter Tryz.func66, Tryz.ntmps66
  go_upto_region 9 with fail
  generalize w.alloc (.cells (opA ⟨5, r, i, b, order, imm⟩) 27) = w1 at *
  generalize w.heap.size = t at *
  have hst : Ph (fun x => RT l g vb so S w x ∧ LocO t ⟨5, r, i, b, order, imm⟩ x) (RT l g vb so ({ S with c := { S.c with sp1 := S.val (i : Int) } }) w) 0 _ := ⟨R.then R.1.draw, L.grow (below_dr _)⟩
  refine Chn.wp_region_chainL (Ph (fun x => RT l g vb so S w x ∧ LocO t ⟨5, r, i, b, order, imm⟩ x) (RT l g vb so ({ S with c := { S.c with sp1 := S.val (i : Int) } }) w)) [18] [1, 1, 1, 1, 1, 0, 1, 1, 1, 0, 1, 0, 1, 0, 1, 1, 1, 1, 1] [ptr g 0, ptr g 0, ptr g 0, ptr g 3, ptr g 41, vI 1, ptr g 0, ptr g 0, ptr g 1, .slice (some ⟨vb, 0, none⟩) l.length l.length, ptr t 2, vI (i : Int), ptr vb i, vU (S.val i), ptr g 0, ptr g 3, ptr g 34, ptr g 35, undef] (by kernel_rfl) (by kernel_rfl) (by kernel_rfl) (by kernel_rfl) (by kernel_rfl) hst ?_
  clear hst
  refine ⟨fun j w1 hj hC => by exact Chn.upon_pure hC (fun F hF => by (go_simp <;> exact hF)), ?_⟩
  simp only [Act.put, List.setIfInBounds_toArray, List.set_cons_succ, List.set_cons_zero]
  refine ⟨fun j w1 hj hC => by exact Chn.upon_pure hC (fun F hF => by (go_simp <;> exact hF)), ?_⟩
  simp only [Act.put, List.setIfInBounds_toArray, List.set_cons_succ, List.set_cons_zero]
  refine ⟨fun j w1 hj hC => by exact Chn.upon_pure hC (fun F hF => by (go_simp <;> exact hF)), ?_⟩
  simp only [Act.put, List.setIfInBounds_toArray, List.set_cons_succ, List.set_cons_zero]
  refine ⟨fun j w1 hj hC => by exact Chn.upon_pure hC (fun F hF => by (go_simp <;> exact hF)), ?_⟩
  simp only [Act.put, List.setIfInBounds_toArray, List.set_cons_succ, List.set_cons_zero]
  refine ⟨fun j w1 hj hC => by exact Chn.upon_pure hC (fun F hF => by (go_simp <;> exact hF)), ?_⟩
  simp only [Act.put, List.setIfInBounds_toArray, List.set_cons_succ, List.set_cons_zero]
  refine ⟨fun j w1 hj hC => by
    obtain rfl : j = 0 := Nat.le_zero.1 hj
    have hA : (fun x => RT l g vb so S w x ∧ LocO t ⟨5, r, i, b, order, imm⟩ x) w1 := hC
    have z := hA.1.1.elc
    rw [he] at z
    exact Chn.upon_pure hC (fun F hF => by (go_simp <;> exact hF)), ?_⟩
  simp only [Act.put, List.setIfInBounds_toArray, List.set_cons_succ, List.set_cons_zero]
  refine ⟨fun j w1 hj hC => by exact Chn.upon_pure hC (fun F hF => by (go_simp <;> exact hF)), ?_⟩
  simp only [Act.put, List.setIfInBounds_toArray, List.set_cons_succ, List.set_cons_zero]
  refine ⟨fun j w1 hj hC => by exact Chn.upon_pure hC (fun F hF => by (go_simp <;> exact hF)), ?_⟩
  simp only [Act.put, List.setIfInBounds_toArray, List.set_cons_succ, List.set_cons_zero]
  refine ⟨fun j w1 hj hC => by exact Chn.upon_pure hC (fun F hF => by (go_simp <;> exact hF)), ?_⟩
  simp only [Act.put, List.setIfInBounds_toArray, List.set_cons_succ, List.set_cons_zero]
  refine ⟨fun j w1 hj hC => by
    obtain rfl : j = 0 := Nat.le_zero.1 hj
    have hA : (fun x => RT l g vb so S w x ∧ LocO t ⟨5, r, i, b, order, imm⟩ x) w1 := hC
    have z := hA.1.1.c1
    exact Chn.upon_pure hC (fun F hF => by (go_simp <;> exact hF)), ?_⟩
  simp only [Act.put, List.setIfInBounds_toArray, List.set_cons_succ, List.set_cons_zero]
  refine ⟨fun j w1 hj hC => by exact Chn.upon_pure hC (fun F hF => by (go_simp <;> exact hF)), ?_⟩
  simp only [Act.put, List.setIfInBounds_toArray, List.set_cons_succ, List.set_cons_zero]
  refine ⟨fun j w1 hj hC => by
    obtain rfl : j = 0 := Nat.le_zero.1 hj
    have hA : (fun x => RT l g vb so S w x ∧ LocO t ⟨5, r, i, b, order, imm⟩ x) w1 := hC
    have z := hA.2.c2
    exact Chn.upon_pure hC (fun F hF => by (go_simp <;> exact hF)), ?_⟩
  simp only [Act.put, List.setIfInBounds_toArray, List.set_cons_succ, List.set_cons_zero]
  refine ⟨fun j w1 hj hC => by exact Chn.upon_pure hC (fun F hF => by (go_simp <;> exact hF)), ?_⟩
  simp only [Act.put, List.setIfInBounds_toArray, List.set_cons_succ, List.set_cons_zero]
  refine ⟨fun j w1 hj hC => by
    obtain rfl : j = 0 := Nat.le_zero.1 hj
    have hA : (fun x => RT l g vb so S w x ∧ LocO t ⟨5, r, i, b, order, imm⟩ x) w1 := hC
    have z := hA.1.1.valc hi
    exact Chn.upon_pure hC (fun F hF => by (go_simp <;> exact hF)), ?_⟩
  simp only [Act.put, List.setIfInBounds_toArray, List.set_cons_succ, List.set_cons_zero]
  refine ⟨fun j w1 hj hC => by exact Chn.upon_pure hC (fun F hF => by (go_simp <;> exact hF)), ?_⟩
  simp only [Act.put, List.setIfInBounds_toArray, List.set_cons_succ, List.set_cons_zero]
  refine ⟨fun j w1 hj hC => by exact Chn.upon_pure hC (fun F hF => by (go_simp <;> exact hF)), ?_⟩
  simp only [Act.put, List.setIfInBounds_toArray, List.set_cons_succ, List.set_cons_zero]
  refine ⟨fun j w1 hj hC => by exact Chn.upon_pure hC (fun F hF => by (go_simp <;> exact hF)), ?_⟩
  simp only [Act.put, List.setIfInBounds_toArray, List.set_cons_succ, List.set_cons_zero]
  refine ⟨fun j w1 hj hC => by exact Chn.upon_pure hC (fun F hF => by (go_simp <;> exact hF)), ?_⟩
  simp only [Act.put, List.setIfInBounds_toArray, List.set_cons_succ, List.set_cons_zero]
  refine ⟨fun w1 hC => by
    have hA : (fun x => RT l g vb so S w x ∧ LocO t ⟨5, r, i, b, order, imm⟩ x) w1 := hC
    exact chn_store 22 _ _ rfl g 35 rfl _ rfl (run_cell _ 22 g 35 _ _ inf22 rfl rfl hA.1.1.sp1c (hA.1.1.fz 35)) (hA.1.then (hA.1.1.setSP1 (hA.1.1.valu _))), ?_⟩
  simp only [Act.put, List.setIfInBounds_toArray, List.set_cons_succ, List.set_cons_zero]
  intro w5 hC
  have hC : (RT l g vb so ({ S with c := { S.c with sp1 := S.val (i : Int) } }) w) w5 := hC
  go_wp2
  go_end0
  refine ⟨rfl, ?_⟩
  have e : carryV l.length S ⟨5, r, i, b, order, imm⟩ = { S with c := { S.c with sp1 := S.val (i : Int) } } := by show S.setSP (S.val i) = _; unfold Rn.setSP; rw [he]; rfl
  rw [e]; exact hC

set_option maxHeartbeats 2000000 in
theorem reg6 (H : RunAt l g vb so S w) (fit : OpFit l ⟨6, r, a, b, order, imm⟩) (h1 : 1 ≤ S.next) (h2 : S.next ≤ l.length) : Calls Tryz.prog 66 #[ptr g 0, opV ⟨6, r, a, b, order, imm⟩] w fun e w' => e = .returned (.tuple #[]) ∧ RT l g vb so (carryV l.length S ⟨6, r, a, b, order, imm⟩) w w' := by
  have hrg : rangeB ⟨6, r, a, b, order, imm⟩ = true := fit.rng
  simp [rangeB] at hrg
  obtain ⟨q, rfl⟩ : ∃ q : Nat, r = q := ⟨r.toNat, by omega⟩
  have hq : q < 4 := by omega
  have hqi : (q : Int) < 4 := by omega
  have hb := below_alloc w (.cells (opA ⟨6, q, a, b, order, imm⟩) 27)
  have L : LocO w.heap.size ⟨6, q, a, b, order, imm⟩ (w.alloc (.cells (opA ⟨6, q, a, b, order, imm⟩) 27)) := LocO.new w _
  have R : RT l g vb so S w (w.alloc (.cells (opA ⟨6, q, a, b, order, imm⟩) 27)) := RT.from hb (H.grow hb).here
  go_enter Tryz.func66, Tryz.ntmps66
  go_upto_region 11 with fail
  generalize w.alloc (.cells (opA ⟨6, q, a, b, order, imm⟩) 27) = w1 at *
  generalize w.heap.size = t at *
  have k1 := fun x => flag_c (g := g) hq x
  have k2 := fun x => oneIf_c (S.flag (q : Int)) x
  have z := L.c1
  go_wp2_with (first | (go_at_call 85; (with_reducible refine (k1 _).mono ?_); rintro e w2 ⟨rfl, B⟩; dsimp only; have R2 := R.grow B; have H2 := R2.1; have zz := H2.fc hq) | (go_at_call 84; (with_reducible refine (k2 _).mono ?_); rintro e w3 ⟨rfl, rfl⟩; dsimp only) | (go_at_call 61; (with_reducible refine (define_c H2 (oneV_u _) h1 h2).mono ?_); rintro e w4 ⟨rfl, R4⟩; dsimp only))
  go_end0
  exact ⟨rfl, R2.then R4⟩
def Ph3 (A B : World → Prop) : Nat → World → Prop
  | 0 => A
  | 1 => A
  | _ + 2 => B

set_option maxHeartbeats 2000000 in
theorem reg7 (H : RunAt l g vb so S w) (fit : OpFit l ⟨7, r, a, b, order, imm⟩) (h1 : 1 ≤ S.next) (h2 : S.next ≤ l.length) : Calls Tryz.prog 66 #[ptr g 0, opV ⟨7, r, a, b, order, imm⟩] w fun e w' => e = .returned (.tuple #[]) ∧ RT l g vb so (carryV l.length S ⟨7, r, a, b, order, imm⟩) w w' := by
  have hrg : rangeB ⟨7, r, a, b, order, imm⟩ = true := fit.rng
  simp [rangeB] at hrg
  obtain ⟨q, rfl⟩ : ∃ q : Nat, r = q := ⟨r.toNat, by omega⟩
  have hq : q < 4 := by omega
  have hqi : (q : Int) < 4 := by omega
  obtain ⟨i, rfl⟩ : ∃ i : Nat, a = i := ⟨a.toNat, by have := fit.a hp7_2; dsimp only at this; omega⟩
  have hi : i < l.length := by have := fit.a hp7_2; dsimp only at this; omega
  have hii : (i : Int) < l.length := by omega
  have hb := below_alloc w (.cells (opA ⟨7, q, i, b, order, imm⟩) 27)
  have L : LocO w.heap.size ⟨7, q, i, b, order, imm⟩ (w.alloc (.cells (opA ⟨7, q, i, b, order, imm⟩) 27)) := LocO.new w _
  have R : RT l g vb so S w (w.alloc (.cells (opA ⟨7, q, i, b, order, imm⟩) 27)) := RT.from hb (H.grow hb).here
  go_enter Tryz.func66, Tryz.ntmps66
  go_upto_region 13 with fail
  generalize w.alloc (.cells (opA ⟨7, q, i, b, order, imm⟩) 27) = w1 at *
  generalize w.heap.size = t at *
  have hst : Ph3 (fun x => RT l g vb so S w x ∧ LocO t ⟨7, q, i, b, order, imm⟩ x) (RT l g vb so (S.setF (q : Int) (S.val (i : Int) != 0)) w) 0 _ := ⟨R.then R.1.draw, L.grow (below_dr _)⟩
  refine Chn.wp_region_chainL (Ph3 (fun x => RT l g vb so S w x ∧ LocO t ⟨7, q, i, b, order, imm⟩ x) (RT l g vb so (S.setF (q : Int) (S.val (i : Int) != 0)) w)) [3, 14] [2, 2, 1, 2, 2, 2, 2, 1, 2, 1, 2, 1, 2, 2, 2] [ptr g 0, ptr t 1, vI (q : Int), ptr g (37 + q), ptr g 0, ptr g 0, ptr g 1, .slice (some ⟨vb, 0, none⟩) l.length l.length, ptr t 2, vI (i : Int), ptr vb i, vU (S.val i), .bool (S.val (i : Int) != 0), ptr g (37 + q), undef] (by kernel_rfl) (by kernel_rfl) (by kernel_rfl) (by kernel_rfl) (by kernel_rfl) hst ?_
  clear hst
  refine ⟨fun j w1 hj hC => by exact Chn.upon_pure hC (fun F hF => by (go_simp <;> exact hF)), ?_⟩
  simp only [Act.put, List.setIfInBounds_toArray, List.set_cons_succ, List.set_cons_zero]
  refine ⟨fun j w1 hj hC => by exact Chn.upon_pure hC (fun F hF => by (go_simp <;> exact hF)), ?_⟩
  simp only [Act.put, List.setIfInBounds_toArray, List.set_cons_succ, List.set_cons_zero]
  refine ⟨fun j w1 hj hC => by
    have hA : (fun x => RT l g vb so S w x ∧ LocO t ⟨7, q, i, b, order, imm⟩ x) w1 := match j, (show j ≤ 1 from hj), hC with
      | 0, _, hC => hC
      | 1, _, hC => hC
      | _ + 2, h, _ => absurd h (by omega)
    have z := hA.2.c1
    exact Chn.upon_pure hC (fun F hF => by (go_simp <;> exact hF)), ?_⟩
  simp only [Act.put, List.setIfInBounds_toArray, List.set_cons_succ, List.set_cons_zero]
  refine ⟨fun w1 hC => by
    have hA : (fun x => RT l g vb so S w x ∧ LocO t ⟨7, q, i, b, order, imm⟩ x) w1 := hC
    exact Chn.upon_call (C := Ph3 _ _ 1) (flag_c hq w1) (fun e2 w2 hh => ⟨hh.1, hA.1.grow hh.2, hA.2.grow hh.2⟩) (fun F hF => by (go_simp <;> exact hF)), ?_⟩
  simp only [Act.put, List.setIfInBounds_toArray, List.set_cons_succ, List.set_cons_zero]
  refine ⟨fun j w1 hj hC => by exact Chn.upon_pure hC (fun F hF => by (go_simp <;> exact hF)), ?_⟩
  simp only [Act.put, List.setIfInBounds_toArray, List.set_cons_succ, List.set_cons_zero]
  refine ⟨fun j w1 hj hC => by exact Chn.upon_pure hC (fun F hF => by (go_simp <;> exact hF)), ?_⟩
  simp only [Act.put, List.setIfInBounds_toArray, List.set_cons_succ, List.set_cons_zero]
  refine ⟨fun j w1 hj hC => by exact Chn.upon_pure hC (fun F hF => by (go_simp <;> exact hF)), ?_⟩
  simp only [Act.put, List.setIfInBounds_toArray, List.set_cons_succ, List.set_cons_zero]
  refine ⟨fun j w1 hj hC => by
    have hA : (fun x => RT l g vb so S w x ∧ LocO t ⟨7, q, i, b, order, imm⟩ x) w1 := match j, (show j ≤ 1 from hj), hC with
      | 0, _, hC => hC
      | 1, _, hC => hC
      | _ + 2, h, _ => absurd h (by omega)
    have z := hA.1.1.c1
    exact Chn.upon_pure hC (fun F hF => by (go_simp <;> exact hF)), ?_⟩
  simp only [Act.put, List.setIfInBounds_toArray, List.set_cons_succ, List.set_cons_zero]
  refine ⟨fun j w1 hj hC => by exact Chn.upon_pure hC (fun F hF => by (go_simp <;> exact hF)), ?_⟩
  simp only [Act.put, List.setIfInBounds_toArray, List.set_cons_succ, List.set_cons_zero]
  refine ⟨fun j w1 hj hC => by
    have hA : (fun x => RT l g vb so S w x ∧ LocO t ⟨7, q, i, b, order, imm⟩ x) w1 := match j, (show j ≤ 1 from hj), hC with
      | 0, _, hC => hC
      | 1, _, hC => hC
      | _ + 2, h, _ => absurd h (by omega)
    have z := hA.2.c2
    exact Chn.upon_pure hC (fun F hF => by (go_simp <;> exact hF)), ?_⟩
  simp only [Act.put, List.setIfInBounds_toArray, List.set_cons_succ, List.set_cons_zero]
  refine ⟨fun j w1 hj hC => by exact Chn.upon_pure hC (fun F hF => by (go_simp <;> exact hF)), ?_⟩
  simp only [Act.put, List.setIfInBounds_toArray, List.set_cons_succ, List.set_cons_zero]
  refine ⟨fun j w1 hj hC => by
    have hA : (fun x => RT l g vb so S w x ∧ LocO t ⟨7, q, i, b, order, imm⟩ x) w1 := match j, (show j ≤ 1 from hj), hC with
      | 0, _, hC => hC
      | 1, _, hC => hC
      | _ + 2, h, _ => absurd h (by omega)
    have z := hA.1.1.valc hi
    exact Chn.upon_pure hC (fun F hF => by (go_simp <;> exact hF)), ?_⟩
  simp only [Act.put, List.setIfInBounds_toArray, List.set_cons_succ, List.set_cons_zero]
  refine ⟨fun j w1 hj hC => by exact Chn.upon_pure hC (fun F hF => by (go_simp <;> exact hF)), ?_⟩
  simp only [Act.put, List.setIfInBounds_toArray, List.set_cons_succ, List.set_cons_zero]
  refine ⟨fun j w1 hj hC => by exact Chn.upon_pure hC (fun F hF => by (go_simp <;> exact hF)), ?_⟩
  simp only [Act.put, List.setIfInBounds_toArray, List.set_cons_succ, List.set_cons_zero]
  refine ⟨fun w1 hC => by
    have hA : (fun x => RT l g vb so S w x ∧ LocO t ⟨7, q, i, b, order, imm⟩ x) w1 := hC
    exact chn_store 4 _ _ rfl g (37 + q) rfl _ rfl (run_cell _ 4 g (37 + q) _ _ inf4 rfl rfl (hA.1.1.fc hq) (hA.1.1.fz (37 + q))) (hA.1.then (hA.1.1.setF_ hq _)), ?_⟩
  simp only [Act.put, List.setIfInBounds_toArray, List.set_cons_succ, List.set_cons_zero]
  intro w5 hC
  have hC : (RT l g vb so (S.setF (q : Int) (S.val (i : Int) != 0)) w) w5 := hC
  go_wp2
  go_end0
  exact ⟨rfl, hC⟩
end
end Go.Proofs.YtccmncecpmemaaaGreatDoor
