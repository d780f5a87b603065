/- The document's run: flags, numbers, accesses. -/
import Derived.Test.YtejlmggfeejgpaaDe0
namespace Go.Proofs.Ytejlmggfeejgpaa
open Go.RowKit
set_option linter.unusedVariables false
set_option linter.unusedSimpArgs false
set_option maxRecDepth 8000

section
variable {pc words el : Int} {v : Value} {l : List Opr} {g vb : Nat} {D : Dn} {w w' : World} {r a b order imm : Int}
set_option maxHeartbeats 4000000 in
theorem one_7 (H : DocAt pc words el v l g vb D w)  (fit : OpFit l ⟨7, r, a, b, order, imm⟩) (fa : 0 ≤ a ∧ a < l.length) (fb : 0 ≤ b ∧ b < l.length) (hat : D.at_ < l.length) : Calls Try.prog 32 #[ptr g 0, opV ⟨7, r, a, b, order, imm⟩] w fun e w' => e = .returned (.tuple #[]) ∧ DT pc words el v l g vb (dOne el { D with at_ := D.at_ + 1 } ⟨7, r, a, b, order, imm⟩) w w' := by
  have hrg : rangeB ⟨7, r, a, b, order, imm⟩ = true := fit.rng
  simp [rangeB] at hrg
  obtain ⟨q, rfl⟩ : ∃ q : Nat, r = q := ⟨r.toNat, by omega⟩
  have hq : q < 4 := by omega
  have hqi : (q : Int) < 4 := by omega
  obtain ⟨i, rfl⟩ : ∃ i : Nat, a = i := ⟨a.toNat, by omega⟩
  obtain ⟨j, rfl⟩ : ∃ j : Nat, b = j := ⟨b.toNat, by omega⟩
  have hi : i < l.length := by omega
  have hj : j < l.length := by omega
  have hii : (i : Int) < l.length := by omega
  have hjj : (j : Int) < l.length := by omega
  have hkk : (D.at_ : Int) < l.length := by omega
  have hm := H.max
  have hmm : (l.length : Int) ≤ 512 := by omega
  have hu := fit.imm
  clear fa fb fit
  have hb := below_alloc w (.cells (opA ⟨7, q, i, j, order, imm⟩) 39)
  have R : DT pc words el v l g vb D w (w.alloc (.cells (opA ⟨7, q, i, j, order, imm⟩) 39)) := DT.from hb (H.grow hb).here
  have L : LocO w.heap.size ⟨7, q, i, j, order, imm⟩ (w.alloc (.cells (opA ⟨7, q, i, j, order, imm⟩) 39)) := LocO.new w _
  clear hb
  go_enter Try.func32, Try.ntmps32
  go_upto_region 1 with fail
  generalize w.alloc (.cells (opA ⟨7, q, i, j, order, imm⟩) 39) = w1 at *
  generalize w.heap.size = t at *
  have z := R.1.c54
  have f9 := R.1.fz 54
  have R2 : DT pc words el v l g vb { D with at_ := D.at_ + 1 } w1 (w1.setCell ⟨g, 54, none⟩ (vI ((D.at_ : Int) + 1))) := R.1.at__ (D.at_ + 1)
  go_upto_region 3 with ((with_reducible refine wpList_storeC rfl 3 _ _ rfl g 54 rfl (vI ((D.at_ : Int) + 1)) rfl inf3 rfl rfl z f9 ?_); try simp only [Act.put])
  replace L := keepD L R.1 R2
  replace R := R.then R2
  clear R2 z f9 H
  generalize w1.setCell ⟨g, 54, none⟩ (vI ((D.at_ : Int) + 1)) = w2 at *
  generalize hE : ({ D with at_ := D.at_ + 1 } : Dn) = E at R
  have hEa : E.at_ - 1 = D.at_ := by rw [← hE]; rfl
  generalize D.at_ = k at hkk hat hEa R ⊢
  have z1 := R.1.c53
  have z2 := L.c2
  have z3 := R.1.valc hi
  go_quiet (fail)
  replace R := R.grow (below_drewN (Below.refl _ w2) (n := nq))
  replace L := L.grow (below_drewN (Below.refl _ w2) (n := nq))
  clear z1 z2 z3
  generalize w2.drewN nq = w3 at *
  clear nq
  go_upto_region 4 with fail
  have z1 := R.1.c53
  have z2 := L.c3
  have z3 := R.1.valc hj
  go_quiet (fail)
  replace R := R.grow (below_drewN (Below.refl _ w3) (n := nq))
  replace L := L.grow (below_drewN (Below.refl _ w3) (n := nq))
  clear z1 z2 z3
  generalize w3.drewN nq = w4 at *
  clear nq
  have hvi := R.1.valu (i : Int)
  have hvj := R.1.valu (j : Int)
  have z0 := L.c0
  have hk := (show k < l.length by omega)
  have H4 := R.1
  have k1 := dSetF_c H4 hq (E.val (i : Int) != 0)
  have z5 := L.c1
  go_wp2_with (go_at_call 52; (with_reducible refine k1.mono ?_); rintro e w5 ⟨rfl, R5⟩; dsimp only)
  go_end0
  refine ⟨rfl, ?_⟩
  (try rw [hE])
  exact R.then R5
set_option maxHeartbeats 4000000 in
theorem one_9 (H : DocAt pc words el v l g vb D w)  (fit : OpFit l ⟨9, r, a, b, order, imm⟩) (fa : 0 ≤ a ∧ a < l.length) (fb : 0 ≤ b ∧ b < l.length) (hat : D.at_ < l.length) : Calls Try.prog 32 #[ptr g 0, opV ⟨9, r, a, b, order, imm⟩] w fun e w' => e = .returned (.tuple #[]) ∧ DT pc words el v l g vb (dOne el { D with at_ := D.at_ + 1 } ⟨9, r, a, b, order, imm⟩) w w' := by
  obtain ⟨i, rfl⟩ : ∃ i : Nat, a = i := ⟨a.toNat, by omega⟩
  obtain ⟨j, rfl⟩ : ∃ j : Nat, b = j := ⟨b.toNat, by omega⟩
  have hi : i < l.length := by omega
  have hj : j < l.length := by omega
  have hii : (i : Int) < l.length := by omega
  have hjj : (j : Int) < l.length := by omega
  have hkk : (D.at_ : Int) < l.length := by omega
  have hm := H.max
  have hmm : (l.length : Int) ≤ 512 := by omega
  have hu := fit.imm
  clear fa fb fit
  have hb := below_alloc w (.cells (opA ⟨9, r, i, j, order, imm⟩) 39)
  have R : DT pc words el v l g vb D w (w.alloc (.cells (opA ⟨9, r, i, j, order, imm⟩) 39)) := DT.from hb (H.grow hb).here
  have L : LocO w.heap.size ⟨9, r, i, j, order, imm⟩ (w.alloc (.cells (opA ⟨9, r, i, j, order, imm⟩) 39)) := LocO.new w _
  clear hb
  go_enter Try.func32, Try.ntmps32
  go_upto_region 1 with fail
  generalize w.alloc (.cells (opA ⟨9, r, i, j, order, imm⟩) 39) = w1 at *
  generalize w.heap.size = t at *
  have z := R.1.c54
  have f9 := R.1.fz 54
  have R2 : DT pc words el v l g vb { D with at_ := D.at_ + 1 } w1 (w1.setCell ⟨g, 54, none⟩ (vI ((D.at_ : Int) + 1))) := R.1.at__ (D.at_ + 1)
  go_upto_region 3 with ((with_reducible refine wpList_storeC rfl 3 _ _ rfl g 54 rfl (vI ((D.at_ : Int) + 1)) rfl inf3 rfl rfl z f9 ?_); try simp only [Act.put])
  replace L := keepD L R.1 R2
  replace R := R.then R2
  clear R2 z f9 H
  generalize w1.setCell ⟨g, 54, none⟩ (vI ((D.at_ : Int) + 1)) = w2 at *
  generalize hE : ({ D with at_ := D.at_ + 1 } : Dn) = E at R
  have hEa : E.at_ - 1 = D.at_ := by rw [← hE]; rfl
  generalize D.at_ = k at hkk hat hEa R ⊢
  have z1 := R.1.c53
  have z2 := L.c2
  have z3 := R.1.valc hi
  go_quiet (fail)
  replace R := R.grow (below_drewN (Below.refl _ w2) (n := nq))
  replace L := L.grow (below_drewN (Below.refl _ w2) (n := nq))
  clear z1 z2 z3
  generalize w2.drewN nq = w3 at *
  clear nq
  go_upto_region 4 with fail
  have z1 := R.1.c53
  have z2 := L.c3
  have z3 := R.1.valc hj
  go_quiet (fail)
  replace R := R.grow (below_drewN (Below.refl _ w3) (n := nq))
  replace L := L.grow (below_drewN (Below.refl _ w3) (n := nq))
  clear z1 z2 z3
  generalize w3.drewN nq = w4 at *
  clear nq
  have hvi := R.1.valu (i : Int)
  have hvj := R.1.valu (j : Int)
  have z0 := L.c0
  have hk := (show k < l.length by omega)
  have H4 := R.1
  have zl := L.at_
  have k1 := dAccess_c (a := E.val (i : Int)) (b := E.val (j : Int)) H4 ⟨9, r, i, j, order, imm⟩ (by simp) hvi.1
  go_wp2_with (first | ((with_reducible refine wpList_load42 rfl _ rfl _ rfl _ zl ?_); try simp only [Act.put]) | (go_at_call 55; (with_reducible refine k1.mono ?_); rintro e w5 ⟨rfl, R5⟩; dsimp only))
  go_end0
  refine ⟨rfl, ?_⟩
  (try rw [hE])
  exact R.then R5
set_option maxHeartbeats 4000000 in
theorem one_10 (H : DocAt pc words el v l g vb D w)  (fit : OpFit l ⟨10, r, a, b, order, imm⟩) (fa : 0 ≤ a ∧ a < l.length) (fb : 0 ≤ b ∧ b < l.length) (hat : D.at_ < l.length) : Calls Try.prog 32 #[ptr g 0, opV ⟨10, r, a, b, order, imm⟩] w fun e w' => e = .returned (.tuple #[]) ∧ DT pc words el v l g vb (dOne el { D with at_ := D.at_ + 1 } ⟨10, r, a, b, order, imm⟩) w w' := by
  obtain ⟨i, rfl⟩ : ∃ i : Nat, a = i := ⟨a.toNat, by omega⟩
  obtain ⟨j, rfl⟩ : ∃ j : Nat, b = j := ⟨b.toNat, by omega⟩
  have hi : i < l.length := by omega
  have hj : j < l.length := by omega
  have hii : (i : Int) < l.length := by omega
  have hjj : (j : Int) < l.length := by omega
  have hkk : (D.at_ : Int) < l.length := by omega
  have hm := H.max
  have hmm : (l.length : Int) ≤ 512 := by omega
  have hu := fit.imm
  clear fa fb fit
  have hb := below_alloc w (.cells (opA ⟨10, r, i, j, order, imm⟩) 39)
  have R : DT pc words el v l g vb D w (w.alloc (.cells (opA ⟨10, r, i, j, order, imm⟩) 39)) := DT.from hb (H.grow hb).here
  have L : LocO w.heap.size ⟨10, r, i, j, order, imm⟩ (w.alloc (.cells (opA ⟨10, r, i, j, order, imm⟩) 39)) := LocO.new w _
  clear hb
  go_enter Try.func32, Try.ntmps32
  go_upto_region 1 with fail
  generalize w.alloc (.cells (opA ⟨10, r, i, j, order, imm⟩) 39) = w1 at *
  generalize w.heap.size = t at *
  have z := R.1.c54
  have f9 := R.1.fz 54
  have R2 : DT pc words el v l g vb { D with at_ := D.at_ + 1 } w1 (w1.setCell ⟨g, 54, none⟩ (vI ((D.at_ : Int) + 1))) := R.1.at__ (D.at_ + 1)
  go_upto_region 3 with ((with_reducible refine wpList_storeC rfl 3 _ _ rfl g 54 rfl (vI ((D.at_ : Int) + 1)) rfl inf3 rfl rfl z f9 ?_); try simp only [Act.put])
  replace L := keepD L R.1 R2
  replace R := R.then R2
  clear R2 z f9 H
  generalize w1.setCell ⟨g, 54, none⟩ (vI ((D.at_ : Int) + 1)) = w2 at *
  generalize hE : ({ D with at_ := D.at_ + 1 } : Dn) = E at R
  have hEa : E.at_ - 1 = D.at_ := by rw [← hE]; rfl
  generalize D.at_ = k at hkk hat hEa R ⊢
  have z1 := R.1.c53
  have z2 := L.c2
  have z3 := R.1.valc hi
  go_quiet (fail)
  replace R := R.grow (below_drewN (Below.refl _ w2) (n := nq))
  replace L := L.grow (below_drewN (Below.refl _ w2) (n := nq))
  clear z1 z2 z3
  generalize w2.drewN nq = w3 at *
  clear nq
  go_upto_region 4 with fail
  have z1 := R.1.c53
  have z2 := L.c3
  have z3 := R.1.valc hj
  go_quiet (fail)
  replace R := R.grow (below_drewN (Below.refl _ w3) (n := nq))
  replace L := L.grow (below_drewN (Below.refl _ w3) (n := nq))
  clear z1 z2 z3
  generalize w3.drewN nq = w4 at *
  clear nq
  have hvi := R.1.valu (i : Int)
  have hvj := R.1.valu (j : Int)
  have z0 := L.c0
  have hk := (show k < l.length by omega)
  have H4 := R.1
  have zl := L.at_
  have k1 := dAccess_c (a := E.val (i : Int)) (b := E.val (j : Int)) H4 ⟨10, r, i, j, order, imm⟩ (by simp) hvi.1
  go_wp2_with (first | ((with_reducible refine wpList_load42 rfl _ rfl _ rfl _ zl ?_); try simp only [Act.put]) | (go_at_call 55; (with_reducible refine k1.mono ?_); rintro e w5 ⟨rfl, R5⟩; dsimp only))
  go_end0
  refine ⟨rfl, ?_⟩
  (try rw [hE])
  exact R.then R5
set_option maxHeartbeats 4000000 in
theorem one_11 (H : DocAt pc words el v l g vb D w)  (fit : OpFit l ⟨11, r, a, b, order, imm⟩) (fa : 0 ≤ a ∧ a < l.length) (fb : 0 ≤ b ∧ b < l.length) (hat : D.at_ < l.length) : Calls Try.prog 32 #[ptr g 0, opV ⟨11, r, a, b, order, imm⟩] w fun e w' => e = .returned (.tuple #[]) ∧ DT pc words el v l g vb (dOne el { D with at_ := D.at_ + 1 } ⟨11, r, a, b, order, imm⟩) w w' := by
  obtain ⟨i, rfl⟩ : ∃ i : Nat, a = i := ⟨a.toNat, by omega⟩
  obtain ⟨j, rfl⟩ : ∃ j : Nat, b = j := ⟨b.toNat, by omega⟩
  have hi : i < l.length := by omega
  have hj : j < l.length := by omega
  have hii : (i : Int) < l.length := by omega
  have hjj : (j : Int) < l.length := by omega
  have hkk : (D.at_ : Int) < l.length := by omega
  have hm := H.max
  have hmm : (l.length : Int) ≤ 512 := by omega
  have hu := fit.imm
  clear fa fb fit
  have hb := below_alloc w (.cells (opA ⟨11, r, i, j, order, imm⟩) 39)
  have R : DT pc words el v l g vb D w (w.alloc (.cells (opA ⟨11, r, i, j, order, imm⟩) 39)) := DT.from hb (H.grow hb).here
  have L : LocO w.heap.size ⟨11, r, i, j, order, imm⟩ (w.alloc (.cells (opA ⟨11, r, i, j, order, imm⟩) 39)) := LocO.new w _
  clear hb
  go_enter Try.func32, Try.ntmps32
  go_upto_region 1 with fail
  generalize w.alloc (.cells (opA ⟨11, r, i, j, order, imm⟩) 39) = w1 at *
  generalize w.heap.size = t at *
  have z := R.1.c54
  have f9 := R.1.fz 54
  have R2 : DT pc words el v l g vb { D with at_ := D.at_ + 1 } w1 (w1.setCell ⟨g, 54, none⟩ (vI ((D.at_ : Int) + 1))) := R.1.at__ (D.at_ + 1)
  go_upto_region 3 with ((with_reducible refine wpList_storeC rfl 3 _ _ rfl g 54 rfl (vI ((D.at_ : Int) + 1)) rfl inf3 rfl rfl z f9 ?_); try simp only [Act.put])
  replace L := keepD L R.1 R2
  replace R := R.then R2
  clear R2 z f9 H
  generalize w1.setCell ⟨g, 54, none⟩ (vI ((D.at_ : Int) + 1)) = w2 at *
  generalize hE : ({ D with at_ := D.at_ + 1 } : Dn) = E at R
  have hEa : E.at_ - 1 = D.at_ := by rw [← hE]; rfl
  generalize D.at_ = k at hkk hat hEa R ⊢
  have z1 := R.1.c53
  have z2 := L.c2
  have z3 := R.1.valc hi
  go_quiet (fail)
  replace R := R.grow (below_drewN (Below.refl _ w2) (n := nq))
  replace L := L.grow (below_drewN (Below.refl _ w2) (n := nq))
  clear z1 z2 z3
  generalize w2.drewN nq = w3 at *
  clear nq
  go_upto_region 4 with fail
  have z1 := R.1.c53
  have z2 := L.c3
  have z3 := R.1.valc hj
  go_quiet (fail)
  replace R := R.grow (below_drewN (Below.refl _ w3) (n := nq))
  replace L := L.grow (below_drewN (Below.refl _ w3) (n := nq))
  clear z1 z2 z3
  generalize w3.drewN nq = w4 at *
  clear nq
  have hvi := R.1.valu (i : Int)
  have hvj := R.1.valu (j : Int)
  have z0 := L.c0
  have hk := (show k < l.length by omega)
  have H4 := R.1
  have zl := L.at_
  have k1 := dAccess_c (a := E.val (i : Int)) (b := E.val (j : Int)) H4 ⟨11, r, i, j, order, imm⟩ (by simp) hvi.1
  go_wp2_with (first | ((with_reducible refine wpList_load42 rfl _ rfl _ rfl _ zl ?_); try simp only [Act.put]) | (go_at_call 55; (with_reducible refine k1.mono ?_); rintro e w5 ⟨rfl, R5⟩; dsimp only))
  go_end0
  refine ⟨rfl, ?_⟩
  (try rw [hE])
  exact R.then R5
set_option maxHeartbeats 4000000 in
theorem one_12 (H : DocAt pc words el v l g vb D w)  (fit : OpFit l ⟨12, r, a, b, order, imm⟩) (fa : 0 ≤ a ∧ a < l.length) (fb : 0 ≤ b ∧ b < l.length) (hat : D.at_ < l.length) : Calls Try.prog 32 #[ptr g 0, opV ⟨12, r, a, b, order, imm⟩] w fun e w' => e = .returned (.tuple #[]) ∧ DT pc words el v l g vb (dOne el { D with at_ := D.at_ + 1 } ⟨12, r, a, b, order, imm⟩) w w' := by
  obtain ⟨i, rfl⟩ : ∃ i : Nat, a = i := ⟨a.toNat, by omega⟩
  obtain ⟨j, rfl⟩ : ∃ j : Nat, b = j := ⟨b.toNat, by omega⟩
  have hi : i < l.length := by omega
  have hj : j < l.length := by omega
  have hii : (i : Int) < l.length := by omega
  have hjj : (j : Int) < l.length := by omega
  have hkk : (D.at_ : Int) < l.length := by omega
  have hm := H.max
  have hmm : (l.length : Int) ≤ 512 := by omega
  have hu := fit.imm
  clear fa fb fit
  have hb := below_alloc w (.cells (opA ⟨12, r, i, j, order, imm⟩) 39)
  have R : DT pc words el v l g vb D w (w.alloc (.cells (opA ⟨12, r, i, j, order, imm⟩) 39)) := DT.from hb (H.grow hb).here
  have L : LocO w.heap.size ⟨12, r, i, j, order, imm⟩ (w.alloc (.cells (opA ⟨12, r, i, j, order, imm⟩) 39)) := LocO.new w _
  clear hb
  go_enter Try.func32, Try.ntmps32
  go_upto_region 1 with fail
  generalize w.alloc (.cells (opA ⟨12, r, i, j, order, imm⟩) 39) = w1 at *
  generalize w.heap.size = t at *
  have z := R.1.c54
  have f9 := R.1.fz 54
  have R2 : DT pc words el v l g vb { D with at_ := D.at_ + 1 } w1 (w1.setCell ⟨g, 54, none⟩ (vI ((D.at_ : Int) + 1))) := R.1.at__ (D.at_ + 1)
  go_upto_region 3 with ((with_reducible refine wpList_storeC rfl 3 _ _ rfl g 54 rfl (vI ((D.at_ : Int) + 1)) rfl inf3 rfl rfl z f9 ?_); try simp only [Act.put])
  replace L := keepD L R.1 R2
  replace R := R.then R2
  clear R2 z f9 H
  generalize w1.setCell ⟨g, 54, none⟩ (vI ((D.at_ : Int) + 1)) = w2 at *
  generalize hE : ({ D with at_ := D.at_ + 1 } : Dn) = E at R
  have hEa : E.at_ - 1 = D.at_ := by rw [← hE]; rfl
  generalize D.at_ = k at hkk hat hEa R ⊢
  have z1 := R.1.c53
  have z2 := L.c2
  have z3 := R.1.valc hi
  go_quiet (fail)
  replace R := R.grow (below_drewN (Below.refl _ w2) (n := nq))
  replace L := L.grow (below_drewN (Below.refl _ w2) (n := nq))
  clear z1 z2 z3
  generalize w2.drewN nq = w3 at *
  clear nq
  go_upto_region 4 with fail
  have z1 := R.1.c53
  have z2 := L.c3
  have z3 := R.1.valc hj
  go_quiet (fail)
  replace R := R.grow (below_drewN (Below.refl _ w3) (n := nq))
  replace L := L.grow (below_drewN (Below.refl _ w3) (n := nq))
  clear z1 z2 z3
  generalize w3.drewN nq = w4 at *
  clear nq
  have hvi := R.1.valu (i : Int)
  have hvj := R.1.valu (j : Int)
  have z0 := L.c0
  have hk := (show k < l.length by omega)
  have H4 := R.1
  have zl := L.at_
  have k1 := dAccess_c (a := E.val (i : Int)) (b := E.val (j : Int)) H4 ⟨12, r, i, j, order, imm⟩ (by simp) hvi.1
  go_wp2_with (first | ((with_reducible refine wpList_load42 rfl _ rfl _ rfl _ zl ?_); try simp only [Act.put]) | (go_at_call 55; (with_reducible refine k1.mono ?_); rintro e w5 ⟨rfl, R5⟩; dsimp only))
  go_end0
  refine ⟨rfl, ?_⟩
  (try rw [hE])
  exact R.then R5
end
end Go.Proofs.Ytejlmggfeejgpaa
