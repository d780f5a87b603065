/- The document's run: an operation that defines a value. -/
import Derived.Test.YtejlmggfeejgpaaDe0
namespace Go.Proofs.Ytejlmggfeejgpaa
open Go.RowKit
set_option linter.unusedVariables false
set_option linter.unusedSimpArgs false
set_option maxRecDepth 8000

section
variable {pc words el : Int} {v : Value} {l : List Opr} {g vb : Nat} {D : Dn} {w w' : World} {r a b order imm : Int}
set_option maxHeartbeats 4000000 in
theorem one_1 (H : DocAt pc words el v l g vb D w)  (fit : OpFit l ⟨1, r, a, b, order, imm⟩) (fa : 0 ≤ a ∧ a < l.length) (fb : 0 ≤ b ∧ b < l.length) (hat : D.at_ < l.length) : Calls Try.prog 32 #[ptr g 0, opV ⟨1, r, a, b, order, imm⟩] w fun e w' => e = .returned (.tuple #[]) ∧ DT pc words el v l g vb (dOne el { D with at_ := D.at_ + 1 } ⟨1, r, a, b, order, imm⟩) w w' := by
  obtain ⟨i, rfl⟩ : ∃ i : Nat, a = i := ⟨a.toNat, by omega⟩
  obtain ⟨j, rfl⟩ : ∃ j : Nat, b = j := ⟨b.toNat, by omega⟩
  have hi : i < l.length := by omega
  have hj : j < l.length := by omega
  have hii : (i : Int) < l.length := by omega
  have hjj : (j : Int) < l.length := by omega
  have hkk : (D.at_ : Int) < l.length := by omega
  have hm := H.max
  have hmm : (l.length : Int) ≤ 512 := by omega
  have hu := fit.imm
  clear fa fb fit
  have hb := below_alloc w (.cells (opA ⟨1, r, i, j, order, imm⟩) 39)
  have R : DT pc words el v l g vb D w (w.alloc (.cells (opA ⟨1, r, i, j, order, imm⟩) 39)) := DT.from hb (H.grow hb).here
  have L : LocO w.heap.size ⟨1, r, i, j, order, imm⟩ (w.alloc (.cells (opA ⟨1, r, i, j, order, imm⟩) 39)) := LocO.new w _
  clear hb
  go_enter Try.func32, Try.ntmps32
  go_upto_region 1 with fail
  generalize w.alloc (.cells (opA ⟨1, r, i, j, order, imm⟩) 39) = w1 at *
  generalize w.heap.size = t at *
  have z := R.1.c54
  have f9 := R.1.fz 54
  have R2 : DT pc words el v l g vb { D with at_ := D.at_ + 1 } w1 (w1.setCell ⟨g, 54, none⟩ (vI ((D.at_ : Int) + 1))) := R.1.at__ (D.at_ + 1)
  go_upto_region 3 with ((with_reducible refine wpList_storeC rfl 3 _ _ rfl g 54 rfl (vI ((D.at_ : Int) + 1)) rfl inf3 rfl rfl z f9 ?_); try simp only [Act.put])
  replace L := keepD L R.1 R2
  replace R := R.then R2
  clear R2 z f9 H
  generalize w1.setCell ⟨g, 54, none⟩ (vI ((D.at_ : Int) + 1)) = w2 at *
  generalize hE : ({ D with at_ := D.at_ + 1 } : Dn) = E at R
  have hEa : E.at_ - 1 = D.at_ := by rw [← hE]; rfl
  generalize D.at_ = k at hkk hat hEa R ⊢
  have z1 := R.1.c53
  have z2 := L.c2
  have z3 := R.1.valc hi
  go_quiet (fail)
  replace R := R.grow (below_drewN (Below.refl _ w2) (n := nq))
  replace L := L.grow (below_drewN (Below.refl _ w2) (n := nq))
  clear z1 z2 z3
  generalize w2.drewN nq = w3 at *
  clear nq
  go_upto_region 4 with fail
  have z1 := R.1.c53
  have z2 := L.c3
  have z3 := R.1.valc hj
  go_quiet (fail)
  replace R := R.grow (below_drewN (Below.refl _ w3) (n := nq))
  replace L := L.grow (below_drewN (Below.refl _ w3) (n := nq))
  clear z1 z2 z3
  generalize w3.drewN nq = w4 at *
  clear nq
  have hvi := R.1.valu (i : Int)
  have hvj := R.1.valu (j : Int)
  have z0 := L.c0
  have hk := (show k < l.length by omega)
  go_upto_region 8 with fail
  refine wp_region_still_tail 8 (by kernel_rfl) (by kernel_rfl) ?_
  replace R := R.grow (below_dr _)
  replace L := L.grow (below_dr _)
  generalize ({ w4 with drawn := w4.drawn + 1 } : World) = w5 at *
  have H5 := R.1
  have zv := H5.c53
  have z5 := L.c5
  simp only [List.take_succ_cons, List.take_zero, List.drop_succ_cons, List.drop_zero]
  repeat still_step
  refine wpStill_nil ?_
  (with_reducible refine wpList_storeC rfl 22 _ _ rfl vb (k) rfl (vU imm) rfl inf22 rfl rfl (H5.valc hk) (H5.fv k) ?_)
  try simp only [Act.put]
  have R6 := R.then (H5.val (k := k) (hu))
  go_wp2
  go_end0
  refine ⟨rfl, ?_⟩
  (try rw [hE])
  have e : E.define (imm) = { E with vs := E.vs.set k (imm) } := by unfold Dn.define; rw [hEa]
  show DT pc words el v l g vb (E.define (imm)) _ _
  rw [e]
  exact R6
set_option maxHeartbeats 4000000 in
theorem one_2 (H : DocAt pc words el v l g vb D w)  (fit : OpFit l ⟨2, r, a, b, order, imm⟩) (fa : 0 ≤ a ∧ a < l.length) (fb : 0 ≤ b ∧ b < l.length) (hat : D.at_ < l.length) : Calls Try.prog 32 #[ptr g 0, opV ⟨2, r, a, b, order, imm⟩] w fun e w' => e = .returned (.tuple #[]) ∧ DT pc words el v l g vb (dOne el { D with at_ := D.at_ + 1 } ⟨2, r, a, b, order, imm⟩) w w' := by
  have hrg : rangeB ⟨2, r, a, b, order, imm⟩ = true := fit.rng
  simp [rangeB] at hrg
  obtain ⟨q, rfl⟩ : ∃ q : Nat, r = q := ⟨r.toNat, by omega⟩
  have hq : q < 31 := by omega
  have hqi : (q : Int) < 31 := by omega
  obtain ⟨i, rfl⟩ : ∃ i : Nat, a = i := ⟨a.toNat, by omega⟩
  obtain ⟨j, rfl⟩ : ∃ j : Nat, b = j := ⟨b.toNat, by omega⟩
  have hi : i < l.length := by omega
  have hj : j < l.length := by omega
  have hii : (i : Int) < l.length := by omega
  have hjj : (j : Int) < l.length := by omega
  have hkk : (D.at_ : Int) < l.length := by omega
  have hm := H.max
  have hmm : (l.length : Int) ≤ 512 := by omega
  have hu := fit.imm
  clear fa fb fit
  have hb := below_alloc w (.cells (opA ⟨2, q, i, j, order, imm⟩) 39)
  have R : DT pc words el v l g vb D w (w.alloc (.cells (opA ⟨2, q, i, j, order, imm⟩) 39)) := DT.from hb (H.grow hb).here
  have L : LocO w.heap.size ⟨2, q, i, j, order, imm⟩ (w.alloc (.cells (opA ⟨2, q, i, j, order, imm⟩) 39)) := LocO.new w _
  clear hb
  go_enter Try.func32, Try.ntmps32
  go_upto_region 1 with fail
  generalize w.alloc (.cells (opA ⟨2, q, i, j, order, imm⟩) 39) = w1 at *
  generalize w.heap.size = t at *
  have z := R.1.c54
  have f9 := R.1.fz 54
  have R2 : DT pc words el v l g vb { D with at_ := D.at_ + 1 } w1 (w1.setCell ⟨g, 54, none⟩ (vI ((D.at_ : Int) + 1))) := R.1.at__ (D.at_ + 1)
  go_upto_region 3 with ((with_reducible refine wpList_storeC rfl 3 _ _ rfl g 54 rfl (vI ((D.at_ : Int) + 1)) rfl inf3 rfl rfl z f9 ?_); try simp only [Act.put])
  replace L := keepD L R.1 R2
  replace R := R.then R2
  clear R2 z f9 H
  generalize w1.setCell ⟨g, 54, none⟩ (vI ((D.at_ : Int) + 1)) = w2 at *
  generalize hE : ({ D with at_ := D.at_ + 1 } : Dn) = E at R
  have hEa : E.at_ - 1 = D.at_ := by rw [← hE]; rfl
  generalize D.at_ = k at hkk hat hEa R ⊢
  have z1 := R.1.c53
  have z2 := L.c2
  have z3 := R.1.valc hi
  go_quiet (fail)
  replace R := R.grow (below_drewN (Below.refl _ w2) (n := nq))
  replace L := L.grow (below_drewN (Below.refl _ w2) (n := nq))
  clear z1 z2 z3
  generalize w2.drewN nq = w3 at *
  clear nq
  go_upto_region 4 with fail
  have z1 := R.1.c53
  have z2 := L.c3
  have z3 := R.1.valc hj
  go_quiet (fail)
  replace R := R.grow (below_drewN (Below.refl _ w3) (n := nq))
  replace L := L.grow (below_drewN (Below.refl _ w3) (n := nq))
  clear z1 z2 z3
  generalize w3.drewN nq = w4 at *
  clear nq
  have hvi := R.1.valu (i : Int)
  have hvj := R.1.valu (j : Int)
  have z0 := L.c0
  have hk := (show k < l.length by omega)
  go_upto_region 10 with fail
  refine wp_region_still_tail 14 (by kernel_rfl) (by kernel_rfl) ?_
  replace R := R.grow (below_dr _)
  replace L := L.grow (below_dr _)
  generalize ({ w4 with drawn := w4.drawn + 1 } : World) = w5 at *
  have H5 := R.1
  have zv := H5.c53
  have z5 := L.c1
  have z6 := H5.xc hq
  simp only [List.take_succ_cons, List.take_zero, List.drop_succ_cons, List.drop_zero]
  repeat still_step
  refine wpStill_nil ?_
  (with_reducible refine wpList_storeC rfl 22 _ _ rfl vb (k) rfl (vU (E.x (q : Int))) rfl inf22 rfl rfl (H5.valc hk) (H5.fv k) ?_)
  try simp only [Act.put]
  have R6 := R.then (H5.val (k := k) (H5.xu hq))
  go_wp2
  go_end0
  refine ⟨rfl, ?_⟩
  (try rw [hE])
  have e : E.define ((E.x (q : Int))) = { E with vs := E.vs.set k ((E.x (q : Int))) } := by unfold Dn.define; rw [hEa]
  show DT pc words el v l g vb (E.define ((E.x (q : Int)))) _ _
  rw [e]
  exact R6
set_option maxHeartbeats 4000000 in
theorem one_3 (H : DocAt pc words el v l g vb D w)  (fit : OpFit l ⟨3, r, a, b, order, imm⟩) (fa : 0 ≤ a ∧ a < l.length) (fb : 0 ≤ b ∧ b < l.length) (hat : D.at_ < l.length) : Calls Try.prog 32 #[ptr g 0, opV ⟨3, r, a, b, order, imm⟩] w fun e w' => e = .returned (.tuple #[]) ∧ DT pc words el v l g vb (dOne el { D with at_ := D.at_ + 1 } ⟨3, r, a, b, order, imm⟩) w w' := by
  have hrg : rangeB ⟨3, r, a, b, order, imm⟩ = true := fit.rng
  simp [rangeB] at hrg
  obtain ⟨q, rfl⟩ : ∃ q : Nat, r = q := ⟨r.toNat, by omega⟩
  have hq : q < 31 := by omega
  have hqi : (q : Int) < 31 := by omega
  obtain ⟨i, rfl⟩ : ∃ i : Nat, a = i := ⟨a.toNat, by omega⟩
  obtain ⟨j, rfl⟩ : ∃ j : Nat, b = j := ⟨b.toNat, by omega⟩
  have hi : i < l.length := by omega
  have hj : j < l.length := by omega
  have hii : (i : Int) < l.length := by omega
  have hjj : (j : Int) < l.length := by omega
  have hkk : (D.at_ : Int) < l.length := by omega
  have hm := H.max
  have hmm : (l.length : Int) ≤ 512 := by omega
  have hu := fit.imm
  clear fa fb fit
  have hb := below_alloc w (.cells (opA ⟨3, q, i, j, order, imm⟩) 39)
  have R : DT pc words el v l g vb D w (w.alloc (.cells (opA ⟨3, q, i, j, order, imm⟩) 39)) := DT.from hb (H.grow hb).here
  have L : LocO w.heap.size ⟨3, q, i, j, order, imm⟩ (w.alloc (.cells (opA ⟨3, q, i, j, order, imm⟩) 39)) := LocO.new w _
  clear hb
  go_enter Try.func32, Try.ntmps32
  go_upto_region 1 with fail
  generalize w.alloc (.cells (opA ⟨3, q, i, j, order, imm⟩) 39) = w1 at *
  generalize w.heap.size = t at *
  have z := R.1.c54
  have f9 := R.1.fz 54
  have R2 : DT pc words el v l g vb { D with at_ := D.at_ + 1 } w1 (w1.setCell ⟨g, 54, none⟩ (vI ((D.at_ : Int) + 1))) := R.1.at__ (D.at_ + 1)
  go_upto_region 3 with ((with_reducible refine wpList_storeC rfl 3 _ _ rfl g 54 rfl (vI ((D.at_ : Int) + 1)) rfl inf3 rfl rfl z f9 ?_); try simp only [Act.put])
  replace L := keepD L R.1 R2
  replace R := R.then R2
  clear R2 z f9 H
  generalize w1.setCell ⟨g, 54, none⟩ (vI ((D.at_ : Int) + 1)) = w2 at *
  generalize hE : ({ D with at_ := D.at_ + 1 } : Dn) = E at R
  have hEa : E.at_ - 1 = D.at_ := by rw [← hE]; rfl
  generalize D.at_ = k at hkk hat hEa R ⊢
  have z1 := R.1.c53
  have z2 := L.c2
  have z3 := R.1.valc hi
  go_quiet (fail)
  replace R := R.grow (below_drewN (Below.refl _ w2) (n := nq))
  replace L := L.grow (below_drewN (Below.refl _ w2) (n := nq))
  clear z1 z2 z3
  generalize w2.drewN nq = w3 at *
  clear nq
  go_upto_region 4 with fail
  have z1 := R.1.c53
  have z2 := L.c3
  have z3 := R.1.valc hj
  go_quiet (fail)
  replace R := R.grow (below_drewN (Below.refl _ w3) (n := nq))
  replace L := L.grow (below_drewN (Below.refl _ w3) (n := nq))
  clear z1 z2 z3
  generalize w3.drewN nq = w4 at *
  clear nq
  have hvi := R.1.valu (i : Int)
  have hvj := R.1.valu (j : Int)
  have z0 := L.c0
  have hk := (show k < l.length by omega)
  go_upto_region 12 with fail
  refine wp_region_still_tail 8 (by kernel_rfl) (by kernel_rfl) ?_
  replace R := R.grow (below_dr _)
  replace L := L.grow (below_dr _)
  generalize ({ w4 with drawn := w4.drawn + 1 } : World) = w5 at *
  have H5 := R.1
  have z5 := L.c1
  simp only [List.take_succ_cons, List.take_zero, List.drop_succ_cons, List.drop_zero]
  repeat still_step
  refine wpStill_nil ?_
  (with_reducible refine wpList_storeC rfl 22 _ _ rfl g (4 + q) rfl (vU (E.val (i : Int))) rfl inf22 rfl rfl (H5.xc hq) (H5.fz (4 + q)) ?_)
  try simp only [Act.put]
  have R6 := R.then (H5.setX_ hq hvi)
  go_wp2
  go_end0
  refine ⟨rfl, ?_⟩
  (try rw [hE])
  exact R6
set_option maxHeartbeats 4000000 in
theorem one_4_0 (H : DocAt pc words el v l g vb D w) (he : el = 0) (fit : OpFit l ⟨4, r, a, b, order, imm⟩) (fa : 0 ≤ a ∧ a < l.length) (fb : 0 ≤ b ∧ b < l.length) (hat : D.at_ < l.length) : Calls Try.prog 32 #[ptr g 0, opV ⟨4, r, a, b, order, imm⟩] w fun e w' => e = .returned (.tuple #[]) ∧ DT pc words el v l g vb (dOne el { D with at_ := D.at_ + 1 } ⟨4, r, a, b, order, imm⟩) w w' := by
  subst he
  obtain ⟨i, rfl⟩ : ∃ i : Nat, a = i := ⟨a.toNat, by omega⟩
  obtain ⟨j, rfl⟩ : ∃ j : Nat, b = j := ⟨b.toNat, by omega⟩
  have hi : i < l.length := by omega
  have hj : j < l.length := by omega
  have hii : (i : Int) < l.length := by omega
  have hjj : (j : Int) < l.length := by omega
  have hkk : (D.at_ : Int) < l.length := by omega
  have hm := H.max
  have hmm : (l.length : Int) ≤ 512 := by omega
  have hu := fit.imm
  clear fa fb fit
  have hb := below_alloc w (.cells (opA ⟨4, r, i, j, order, imm⟩) 39)
  have R : DT pc words 0 v l g vb D w (w.alloc (.cells (opA ⟨4, r, i, j, order, imm⟩) 39)) := DT.from hb (H.grow hb).here
  have L : LocO w.heap.size ⟨4, r, i, j, order, imm⟩ (w.alloc (.cells (opA ⟨4, r, i, j, order, imm⟩) 39)) := LocO.new w _
  clear hb
  go_enter Try.func32, Try.ntmps32
  go_upto_region 1 with fail
  generalize w.alloc (.cells (opA ⟨4, r, i, j, order, imm⟩) 39) = w1 at *
  generalize w.heap.size = t at *
  have z := R.1.c54
  have f9 := R.1.fz 54
  have R2 : DT pc words 0 v l g vb { D with at_ := D.at_ + 1 } w1 (w1.setCell ⟨g, 54, none⟩ (vI ((D.at_ : Int) + 1))) := R.1.at__ (D.at_ + 1)
  go_upto_region 3 with ((with_reducible refine wpList_storeC rfl 3 _ _ rfl g 54 rfl (vI ((D.at_ : Int) + 1)) rfl inf3 rfl rfl z f9 ?_); try simp only [Act.put])
  replace L := keepD L R.1 R2
  replace R := R.then R2
  clear R2 z f9 H
  generalize w1.setCell ⟨g, 54, none⟩ (vI ((D.at_ : Int) + 1)) = w2 at *
  generalize hE : ({ D with at_ := D.at_ + 1 } : Dn) = E at R
  have hEa : E.at_ - 1 = D.at_ := by rw [← hE]; rfl
  generalize D.at_ = k at hkk hat hEa R ⊢
  have z1 := R.1.c53
  have z2 := L.c2
  have z3 := R.1.valc hi
  go_quiet (fail)
  replace R := R.grow (below_drewN (Below.refl _ w2) (n := nq))
  replace L := L.grow (below_drewN (Below.refl _ w2) (n := nq))
  clear z1 z2 z3
  generalize w2.drewN nq = w3 at *
  clear nq
  go_upto_region 4 with fail
  have z1 := R.1.c53
  have z2 := L.c3
  have z3 := R.1.valc hj
  go_quiet (fail)
  replace R := R.grow (below_drewN (Below.refl _ w3) (n := nq))
  replace L := L.grow (below_drewN (Below.refl _ w3) (n := nq))
  clear z1 z2 z3
  generalize w3.drewN nq = w4 at *
  clear nq
  have hvi := R.1.valu (i : Int)
  have hvj := R.1.valu (j : Int)
  have z0 := L.c0
  have hk := (show k < l.length by omega)
  go_upto_region 14 with fail
  refine wp_region_still_tail 17 (by kernel_rfl) (by kernel_rfl) ?_
  replace R := R.grow (below_dr _)
  replace L := L.grow (below_dr _)
  generalize ({ w4 with drawn := w4.drawn + 1 } : World) = w5 at *
  have H5 := R.1
  have zv := H5.c53
  have z5 := H5.c2
  have z6 := H5.sp0c
  simp only [List.take_succ_cons, List.take_zero, List.drop_succ_cons, List.drop_zero]
  repeat still_step
  refine wpStill_nil ?_
  (with_reducible refine wpList_storeC rfl 22 _ _ rfl vb (k) rfl (vU E.c.sp0) rfl inf22 rfl rfl (H5.valc hk) (H5.fv k) ?_)
  try simp only [Act.put]
  have R6 := R.then (H5.val (k := k) (H5.ok.sp0))
  go_wp2
  go_end0
  refine ⟨rfl, ?_⟩
  (try rw [hE])
  have e : E.define (E.c.sp0) = { E with vs := E.vs.set k (E.c.sp0) } := by unfold Dn.define; rw [hEa]
  show DT pc words 0 v l g vb (E.define (E.c.sp0)) _ _
  rw [e]
  exact R6
set_option maxHeartbeats 4000000 in
theorem one_4_1 (H : DocAt pc words el v l g vb D w) (he : el = 1) (fit : OpFit l ⟨4, r, a, b, order, imm⟩) (fa : 0 ≤ a ∧ a < l.length) (fb : 0 ≤ b ∧ b < l.length) (hat : D.at_ < l.length) : Calls Try.prog 32 #[ptr g 0, opV ⟨4, r, a, b, order, imm⟩] w fun e w' => e = .returned (.tuple #[]) ∧ DT pc words el v l g vb (dOne el { D with at_ := D.at_ + 1 } ⟨4, r, a, b, order, imm⟩) w w' := by
  subst he
  obtain ⟨i, rfl⟩ : ∃ i : Nat, a = i := ⟨a.toNat, by omega⟩
  obtain ⟨j, rfl⟩ : ∃ j : Nat, b = j := ⟨b.toNat, by omega⟩
  have hi : i < l.length := by omega
  have hj : j < l.length := by omega
  have hii : (i : Int) < l.length := by omega
  have hjj : (j : Int) < l.length := by omega
  have hkk : (D.at_ : Int) < l.length := by omega
  have hm := H.max
  have hmm : (l.length : Int) ≤ 512 := by omega
  have hu := fit.imm
  clear fa fb fit
  have hb := below_alloc w (.cells (opA ⟨4, r, i, j, order, imm⟩) 39)
  have R : DT pc words 1 v l g vb D w (w.alloc (.cells (opA ⟨4, r, i, j, order, imm⟩) 39)) := DT.from hb (H.grow hb).here
  have L : LocO w.heap.size ⟨4, r, i, j, order, imm⟩ (w.alloc (.cells (opA ⟨4, r, i, j, order, imm⟩) 39)) := LocO.new w _
  clear hb
  go_enter Try.func32, Try.ntmps32
  go_upto_region 1 with fail
  generalize w.alloc (.cells (opA ⟨4, r, i, j, order, imm⟩) 39) = w1 at *
  generalize w.heap.size = t at *
  have z := R.1.c54
  have f9 := R.1.fz 54
  have R2 : DT pc words 1 v l g vb { D with at_ := D.at_ + 1 } w1 (w1.setCell ⟨g, 54, none⟩ (vI ((D.at_ : Int) + 1))) := R.1.at__ (D.at_ + 1)
  go_upto_region 3 with ((with_reducible refine wpList_storeC rfl 3 _ _ rfl g 54 rfl (vI ((D.at_ : Int) + 1)) rfl inf3 rfl rfl z f9 ?_); try simp only [Act.put])
  replace L := keepD L R.1 R2
  replace R := R.then R2
  clear R2 z f9 H
  generalize w1.setCell ⟨g, 54, none⟩ (vI ((D.at_ : Int) + 1)) = w2 at *
  generalize hE : ({ D with at_ := D.at_ + 1 } : Dn) = E at R
  have hEa : E.at_ - 1 = D.at_ := by rw [← hE]; rfl
  generalize D.at_ = k at hkk hat hEa R ⊢
  have z1 := R.1.c53
  have z2 := L.c2
  have z3 := R.1.valc hi
  go_quiet (fail)
  replace R := R.grow (below_drewN (Below.refl _ w2) (n := nq))
  replace L := L.grow (below_drewN (Below.refl _ w2) (n := nq))
  clear z1 z2 z3
  generalize w2.drewN nq = w3 at *
  clear nq
  go_upto_region 4 with fail
  have z1 := R.1.c53
  have z2 := L.c3
  have z3 := R.1.valc hj
  go_quiet (fail)
  replace R := R.grow (below_drewN (Below.refl _ w3) (n := nq))
  replace L := L.grow (below_drewN (Below.refl _ w3) (n := nq))
  clear z1 z2 z3
  generalize w3.drewN nq = w4 at *
  clear nq
  have hvi := R.1.valu (i : Int)
  have hvj := R.1.valu (j : Int)
  have z0 := L.c0
  have hk := (show k < l.length by omega)
  go_upto_region 14 with fail
  refine wp_region_still_tail 17 (by kernel_rfl) (by kernel_rfl) ?_
  replace R := R.grow (below_dr _)
  replace L := L.grow (below_dr _)
  generalize ({ w4 with drawn := w4.drawn + 1 } : World) = w5 at *
  have H5 := R.1
  have zv := H5.c53
  have z5 := H5.c2
  have z6 := H5.sp1c
  simp only [List.take_succ_cons, List.take_zero, List.drop_succ_cons, List.drop_zero]
  repeat still_step
  refine wpStill_nil ?_
  (with_reducible refine wpList_storeC rfl 22 _ _ rfl vb (k) rfl (vU E.c.sp1) rfl inf22 rfl rfl (H5.valc hk) (H5.fv k) ?_)
  try simp only [Act.put]
  have R6 := R.then (H5.val (k := k) (H5.ok.sp1))
  go_wp2
  go_end0
  refine ⟨rfl, ?_⟩
  (try rw [hE])
  have e : E.define (E.c.sp1) = { E with vs := E.vs.set k (E.c.sp1) } := by unfold Dn.define; rw [hEa]
  show DT pc words 1 v l g vb (E.define (E.c.sp1)) _ _
  rw [e]
  exact R6
set_option maxHeartbeats 4000000 in
theorem one_5_0 (H : DocAt pc words el v l g vb D w) (he : el = 0) (fit : OpFit l ⟨5, r, a, b, order, imm⟩) (fa : 0 ≤ a ∧ a < l.length) (fb : 0 ≤ b ∧ b < l.length) (hat : D.at_ < l.length) : Calls Try.prog 32 #[ptr g 0, opV ⟨5, r, a, b, order, imm⟩] w fun e w' => e = .returned (.tuple #[]) ∧ DT pc words el v l g vb (dOne el { D with at_ := D.at_ + 1 } ⟨5, r, a, b, order, imm⟩) w w' := by
  subst he
  obtain ⟨i, rfl⟩ : ∃ i : Nat, a = i := ⟨a.toNat, by omega⟩
  obtain ⟨j, rfl⟩ : ∃ j : Nat, b = j := ⟨b.toNat, by omega⟩
  have hi : i < l.length := by omega
  have hj : j < l.length := by omega
  have hii : (i : Int) < l.length := by omega
  have hjj : (j : Int) < l.length := by omega
  have hkk : (D.at_ : Int) < l.length := by omega
  have hm := H.max
  have hmm : (l.length : Int) ≤ 512 := by omega
  have hu := fit.imm
  clear fa fb fit
  have hb := below_alloc w (.cells (opA ⟨5, r, i, j, order, imm⟩) 39)
  have R : DT pc words 0 v l g vb D w (w.alloc (.cells (opA ⟨5, r, i, j, order, imm⟩) 39)) := DT.from hb (H.grow hb).here
  have L : LocO w.heap.size ⟨5, r, i, j, order, imm⟩ (w.alloc (.cells (opA ⟨5, r, i, j, order, imm⟩) 39)) := LocO.new w _
  clear hb
  go_enter Try.func32, Try.ntmps32
  go_upto_region 1 with fail
  generalize w.alloc (.cells (opA ⟨5, r, i, j, order, imm⟩) 39) = w1 at *
  generalize w.heap.size = t at *
  have z := R.1.c54
  have f9 := R.1.fz 54
  have R2 : DT pc words 0 v l g vb { D with at_ := D.at_ + 1 } w1 (w1.setCell ⟨g, 54, none⟩ (vI ((D.at_ : Int) + 1))) := R.1.at__ (D.at_ + 1)
  go_upto_region 3 with ((with_reducible refine wpList_storeC rfl 3 _ _ rfl g 54 rfl (vI ((D.at_ : Int) + 1)) rfl inf3 rfl rfl z f9 ?_); try simp only [Act.put])
  replace L := keepD L R.1 R2
  replace R := R.then R2
  clear R2 z f9 H
  generalize w1.setCell ⟨g, 54, none⟩ (vI ((D.at_ : Int) + 1)) = w2 at *
  generalize hE : ({ D with at_ := D.at_ + 1 } : Dn) = E at R
  have hEa : E.at_ - 1 = D.at_ := by rw [← hE]; rfl
  generalize D.at_ = k at hkk hat hEa R ⊢
  have z1 := R.1.c53
  have z2 := L.c2
  have z3 := R.1.valc hi
  go_quiet (fail)
  replace R := R.grow (below_drewN (Below.refl _ w2) (n := nq))
  replace L := L.grow (below_drewN (Below.refl _ w2) (n := nq))
  clear z1 z2 z3
  generalize w2.drewN nq = w3 at *
  clear nq
  go_upto_region 4 with fail
  have z1 := R.1.c53
  have z2 := L.c3
  have z3 := R.1.valc hj
  go_quiet (fail)
  replace R := R.grow (below_drewN (Below.refl _ w3) (n := nq))
  replace L := L.grow (below_drewN (Below.refl _ w3) (n := nq))
  clear z1 z2 z3
  generalize w3.drewN nq = w4 at *
  clear nq
  have hvi := R.1.valu (i : Int)
  have hvj := R.1.valu (j : Int)
  have z0 := L.c0
  have hk := (show k < l.length by omega)
  go_upto_region 16 with fail
  refine wp_region_still_tail 11 (by kernel_rfl) (by kernel_rfl) ?_
  replace R := R.grow (below_dr _)
  replace L := L.grow (below_dr _)
  generalize ({ w4 with drawn := w4.drawn + 1 } : World) = w5 at *
  have H5 := R.1
  have z5 := H5.c2
  simp only [List.take_succ_cons, List.take_zero, List.drop_succ_cons, List.drop_zero]
  repeat still_step
  refine wpStill_nil ?_
  (with_reducible refine wpList_storeC rfl 22 _ _ rfl g (35) rfl (vU (E.val (i : Int))) rfl inf22 rfl rfl H5.sp0c (H5.fz 35) ?_)
  try simp only [Act.put]
  have R6 := R.then (H5.setSP0 hvi)
  go_wp2
  go_end0
  refine ⟨rfl, ?_⟩
  (try rw [hE])
  exact R6
set_option maxHeartbeats 4000000 in
theorem one_5_1 (H : DocAt pc words el v l g vb D w) (he : el = 1) (fit : OpFit l ⟨5, r, a, b, order, imm⟩) (fa : 0 ≤ a ∧ a < l.length) (fb : 0 ≤ b ∧ b < l.length) (hat : D.at_ < l.length) : Calls Try.prog 32 #[ptr g 0, opV ⟨5, r, a, b, order, imm⟩] w fun e w' => e = .returned (.tuple #[]) ∧ DT pc words el v l g vb (dOne el { D with at_ := D.at_ + 1 } ⟨5, r, a, b, order, imm⟩) w w' := by
  subst he
  obtain ⟨i, rfl⟩ : ∃ i : Nat, a = i := ⟨a.toNat, by omega⟩
  obtain ⟨j, rfl⟩ : ∃ j : Nat, b = j := ⟨b.toNat, by omega⟩
  have hi : i < l.length := by omega
  have hj : j < l.length := by omega
  have hii : (i : Int) < l.length := by omega
  have hjj : (j : Int) < l.length := by omega
  have hkk : (D.at_ : Int) < l.length := by omega
  have hm := H.max
  have hmm : (l.length : Int) ≤ 512 := by omega
  have hu := fit.imm
  clear fa fb fit
  have hb := below_alloc w (.cells (opA ⟨5, r, i, j, order, imm⟩) 39)
  have R : DT pc words 1 v l g vb D w (w.alloc (.cells (opA ⟨5, r, i, j, order, imm⟩) 39)) := DT.from hb (H.grow hb).here
  have L : LocO w.heap.size ⟨5, r, i, j, order, imm⟩ (w.alloc (.cells (opA ⟨5, r, i, j, order, imm⟩) 39)) := LocO.new w _
  clear hb
  go_enter Try.func32, Try.ntmps32
  go_upto_region 1 with fail
  generalize w.alloc (.cells (opA ⟨5, r, i, j, order, imm⟩) 39) = w1 at *
  generalize w.heap.size = t at *
  have z := R.1.c54
  have f9 := R.1.fz 54
  have R2 : DT pc words 1 v l g vb { D with at_ := D.at_ + 1 } w1 (w1.setCell ⟨g, 54, none⟩ (vI ((D.at_ : Int) + 1))) := R.1.at__ (D.at_ + 1)
  go_upto_region 3 with ((with_reducible refine wpList_storeC rfl 3 _ _ rfl g 54 rfl (vI ((D.at_ : Int) + 1)) rfl inf3 rfl rfl z f9 ?_); try simp only [Act.put])
  replace L := keepD L R.1 R2
  replace R := R.then R2
  clear R2 z f9 H
  generalize w1.setCell ⟨g, 54, none⟩ (vI ((D.at_ : Int) + 1)) = w2 at *
  generalize hE : ({ D with at_ := D.at_ + 1 } : Dn) = E at R
  have hEa : E.at_ - 1 = D.at_ := by rw [← hE]; rfl
  generalize D.at_ = k at hkk hat hEa R ⊢
  have z1 := R.1.c53
  have z2 := L.c2
  have z3 := R.1.valc hi
  go_quiet (fail)
  replace R := R.grow (below_drewN (Below.refl _ w2) (n := nq))
  replace L := L.grow (below_drewN (Below.refl _ w2) (n := nq))
  clear z1 z2 z3
  generalize w2.drewN nq = w3 at *
  clear nq
  go_upto_region 4 with fail
  have z1 := R.1.c53
  have z2 := L.c3
  have z3 := R.1.valc hj
  go_quiet (fail)
  replace R := R.grow (below_drewN (Below.refl _ w3) (n := nq))
  replace L := L.grow (below_drewN (Below.refl _ w3) (n := nq))
  clear z1 z2 z3
  generalize w3.drewN nq = w4 at *
  clear nq
  have hvi := R.1.valu (i : Int)
  have hvj := R.1.valu (j : Int)
  have z0 := L.c0
  have hk := (show k < l.length by omega)
  go_upto_region 16 with fail
  refine wp_region_still_tail 11 (by kernel_rfl) (by kernel_rfl) ?_
  replace R := R.grow (below_dr _)
  replace L := L.grow (below_dr _)
  generalize ({ w4 with drawn := w4.drawn + 1 } : World) = w5 at *
  have H5 := R.1
  have z5 := H5.c2
  simp only [List.take_succ_cons, List.take_zero, List.drop_succ_cons, List.drop_zero]
  repeat still_step
  refine wpStill_nil ?_
  (with_reducible refine wpList_storeC rfl 22 _ _ rfl g (36) rfl (vU (E.val (i : Int))) rfl inf22 rfl rfl H5.sp1c (H5.fz 36) ?_)
  try simp only [Act.put]
  have R6 := R.then (H5.setSP1 hvi)
  go_wp2
  go_end0
  refine ⟨rfl, ?_⟩
  (try rw [hE])
  exact R6
end
end Go.Proofs.Ytejlmggfeejgpaa
