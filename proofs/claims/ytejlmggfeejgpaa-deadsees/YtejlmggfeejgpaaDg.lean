/- The document's run: fences and exits. -/
import Derived.Test.YtejlmggfeejgpaaDe0
namespace Go.Proofs.Ytejlmggfeejgpaa
open Go.RowKit
set_option linter.unusedVariables false
set_option linter.unusedSimpArgs false
set_option maxRecDepth 8000

section
variable {pc words el : Int} {v : Value} {l : List Opr} {g vb : Nat} {D : Dn} {w w' : World} {r a b order imm : Int}
set_option maxHeartbeats 4000000 in
theorem one_13 (H : DocAt pc words el v l g vb D w)  (fit : OpFit l ⟨13, r, a, b, order, imm⟩) (fa : 0 ≤ a ∧ a < l.length) (fb : 0 ≤ b ∧ b < l.length) (hat : D.at_ < l.length) : Calls Try.prog 32 #[ptr g 0, opV ⟨13, r, a, b, order, imm⟩] w fun e w' => e = .returned (.tuple #[]) ∧ DT pc words el v l g vb (dOne el { D with at_ := D.at_ + 1 } ⟨13, r, a, b, order, imm⟩) w w' := by
  obtain ⟨i, rfl⟩ : ∃ i : Nat, a = i := ⟨a.toNat, by omega⟩
  obtain ⟨j, rfl⟩ : ∃ j : Nat, b = j := ⟨b.toNat, by omega⟩
  have hi : i < l.length := by omega
  have hj : j < l.length := by omega
  have hii : (i : Int) < l.length := by omega
  have hjj : (j : Int) < l.length := by omega
  have hkk : (D.at_ : Int) < l.length := by omega
  have hm := H.max
  have hmm : (l.length : Int) ≤ 512 := by omega
  have hu := fit.imm
  clear fa fb fit
  have hb := below_alloc w (.cells (opA ⟨13, r, i, j, order, imm⟩) 39)
  have R : DT pc words el v l g vb D w (w.alloc (.cells (opA ⟨13, r, i, j, order, imm⟩) 39)) := DT.from hb (H.grow hb).here
  have L : LocO w.heap.size ⟨13, r, i, j, order, imm⟩ (w.alloc (.cells (opA ⟨13, r, i, j, order, imm⟩) 39)) := LocO.new w _
  clear hb
  go_enter Try.func32, Try.ntmps32
  go_upto_region 1 with fail
  generalize w.alloc (.cells (opA ⟨13, r, i, j, order, imm⟩) 39) = w1 at *
  generalize w.heap.size = t at *
  have z := R.1.c54
  have f9 := R.1.fz 54
  have R2 : DT pc words el v l g vb { D with at_ := D.at_ + 1 } w1 (w1.setCell ⟨g, 54, none⟩ (vI ((D.at_ : Int) + 1))) := R.1.at__ (D.at_ + 1)
  go_upto_region 3 with ((with_reducible refine wpList_storeC rfl 3 _ _ rfl g 54 rfl (vI ((D.at_ : Int) + 1)) rfl inf3 rfl rfl z f9 ?_); try simp only [Act.put])
  replace L := keepD L R.1 R2
  replace R := R.then R2
  clear R2 z f9 H
  generalize w1.setCell ⟨g, 54, none⟩ (vI ((D.at_ : Int) + 1)) = w2 at *
  generalize hE : ({ D with at_ := D.at_ + 1 } : Dn) = E at R
  have hEa : E.at_ - 1 = D.at_ := by rw [← hE]; rfl
  generalize D.at_ = k at hkk hat hEa R ⊢
  have z1 := R.1.c53
  have z2 := L.c2
  have z3 := R.1.valc hi
  go_quiet (fail)
  replace R := R.grow (below_drewN (Below.refl _ w2) (n := nq))
  replace L := L.grow (below_drewN (Below.refl _ w2) (n := nq))
  clear z1 z2 z3
  generalize w2.drewN nq = w3 at *
  clear nq
  go_upto_region 4 with fail
  have z1 := R.1.c53
  have z2 := L.c3
  have z3 := R.1.valc hj
  go_quiet (fail)
  replace R := R.grow (below_drewN (Below.refl _ w3) (n := nq))
  replace L := L.grow (below_drewN (Below.refl _ w3) (n := nq))
  clear z1 z2 z3
  generalize w3.drewN nq = w4 at *
  clear nq
  have hvi := R.1.valu (i : Int)
  have hvj := R.1.valu (j : Int)
  have z0 := L.c0
  have hk := (show k < l.length by omega)
  have H4 := R.1
  have k1 := dWait_c H4 { nilW with kind := 6, fence := r }
  have z5 := L.c1
  go_wp2_with (first | ((with_reducible refine wpList_built rfl _ _ rfl (wnA { nilW with kind := 6, fence := r }) (by kernel_rfl) ?_); try simp only [Act.put]) | (go_at_call 54; (with_reducible refine k1.mono ?_); rintro e w5 ⟨rfl, R5⟩; dsimp only))
  go_end0
  refine ⟨rfl, ?_⟩
  (try rw [hE])
  exact R.then R5
set_option maxHeartbeats 4000000 in
theorem one_14 (H : DocAt pc words el v l g vb D w)  (fit : OpFit l ⟨14, r, a, b, order, imm⟩) (fa : 0 ≤ a ∧ a < l.length) (fb : 0 ≤ b ∧ b < l.length) (hat : D.at_ < l.length) : Calls Try.prog 32 #[ptr g 0, opV ⟨14, r, a, b, order, imm⟩] w fun e w' => e = .returned (.tuple #[]) ∧ DT pc words el v l g vb (dOne el { D with at_ := D.at_ + 1 } ⟨14, r, a, b, order, imm⟩) w w' := by
  obtain ⟨i, rfl⟩ : ∃ i : Nat, a = i := ⟨a.toNat, by omega⟩
  obtain ⟨j, rfl⟩ : ∃ j : Nat, b = j := ⟨b.toNat, by omega⟩
  have hi : i < l.length := by omega
  have hj : j < l.length := by omega
  have hii : (i : Int) < l.length := by omega
  have hjj : (j : Int) < l.length := by omega
  have hkk : (D.at_ : Int) < l.length := by omega
  have hm := H.max
  have hmm : (l.length : Int) ≤ 512 := by omega
  have hu := fit.imm
  clear fa fb fit
  have hb := below_alloc w (.cells (opA ⟨14, r, i, j, order, imm⟩) 39)
  have R : DT pc words el v l g vb D w (w.alloc (.cells (opA ⟨14, r, i, j, order, imm⟩) 39)) := DT.from hb (H.grow hb).here
  have L : LocO w.heap.size ⟨14, r, i, j, order, imm⟩ (w.alloc (.cells (opA ⟨14, r, i, j, order, imm⟩) 39)) := LocO.new w _
  clear hb
  go_enter Try.func32, Try.ntmps32
  go_upto_region 1 with fail
  generalize w.alloc (.cells (opA ⟨14, r, i, j, order, imm⟩) 39) = w1 at *
  generalize w.heap.size = t at *
  have z := R.1.c54
  have f9 := R.1.fz 54
  have R2 : DT pc words el v l g vb { D with at_ := D.at_ + 1 } w1 (w1.setCell ⟨g, 54, none⟩ (vI ((D.at_ : Int) + 1))) := R.1.at__ (D.at_ + 1)
  go_upto_region 3 with ((with_reducible refine wpList_storeC rfl 3 _ _ rfl g 54 rfl (vI ((D.at_ : Int) + 1)) rfl inf3 rfl rfl z f9 ?_); try simp only [Act.put])
  replace L := keepD L R.1 R2
  replace R := R.then R2
  clear R2 z f9 H
  generalize w1.setCell ⟨g, 54, none⟩ (vI ((D.at_ : Int) + 1)) = w2 at *
  generalize hE : ({ D with at_ := D.at_ + 1 } : Dn) = E at R
  have hEa : E.at_ - 1 = D.at_ := by rw [← hE]; rfl
  generalize D.at_ = k at hkk hat hEa R ⊢
  have z1 := R.1.c53
  have z2 := L.c2
  have z3 := R.1.valc hi
  go_quiet (fail)
  replace R := R.grow (below_drewN (Below.refl _ w2) (n := nq))
  replace L := L.grow (below_drewN (Below.refl _ w2) (n := nq))
  clear z1 z2 z3
  generalize w2.drewN nq = w3 at *
  clear nq
  go_upto_region 4 with fail
  have z1 := R.1.c53
  have z2 := L.c3
  have z3 := R.1.valc hj
  go_quiet (fail)
  replace R := R.grow (below_drewN (Below.refl _ w3) (n := nq))
  replace L := L.grow (below_drewN (Below.refl _ w3) (n := nq))
  clear z1 z2 z3
  generalize w3.drewN nq = w4 at *
  clear nq
  have hvi := R.1.valu (i : Int)
  have hvj := R.1.valu (j : Int)
  have z0 := L.c0
  have hk := (show k < l.length by omega)
  have H4 := R.1
  have z5 := L.c5
  have zc := H4.pcc
  have fc := H4.fz 37
  have R4 := H4.pc_ imm
  go_wp2_with ((with_reducible refine wpList_storeC rfl 22 _ _ rfl g 37 rfl (vU imm) rfl inf22 rfl rfl zc fc ?_); try simp only [Act.put])
  go_end0
  refine ⟨rfl, ?_⟩
  (try rw [hE])
  exact R.then R4
set_option maxHeartbeats 4000000 in
theorem one_15y (H : DocAt pc words el v l g vb D w) (hz : D.val a ≠ 0) (fit : OpFit l ⟨15, r, a, b, order, imm⟩) (fa : 0 ≤ a ∧ a < l.length) (fb : 0 ≤ b ∧ b < l.length) (hat : D.at_ < l.length) : Calls Try.prog 32 #[ptr g 0, opV ⟨15, r, a, b, order, imm⟩] w fun e w' => e = .returned (.tuple #[]) ∧ DT pc words el v l g vb (dOne el { D with at_ := D.at_ + 1 } ⟨15, r, a, b, order, imm⟩) w w' := by
  obtain ⟨i, rfl⟩ : ∃ i : Nat, a = i := ⟨a.toNat, by omega⟩
  obtain ⟨j, rfl⟩ : ∃ j : Nat, b = j := ⟨b.toNat, by omega⟩
  have hi : i < l.length := by omega
  have hj : j < l.length := by omega
  have hii : (i : Int) < l.length := by omega
  have hjj : (j : Int) < l.length := by omega
  have hkk : (D.at_ : Int) < l.length := by omega
  have hm := H.max
  have hmm : (l.length : Int) ≤ 512 := by omega
  have hu := fit.imm
  clear fa fb fit
  have hb := below_alloc w (.cells (opA ⟨15, r, i, j, order, imm⟩) 39)
  have R : DT pc words el v l g vb D w (w.alloc (.cells (opA ⟨15, r, i, j, order, imm⟩) 39)) := DT.from hb (H.grow hb).here
  have L : LocO w.heap.size ⟨15, r, i, j, order, imm⟩ (w.alloc (.cells (opA ⟨15, r, i, j, order, imm⟩) 39)) := LocO.new w _
  clear hb
  go_enter Try.func32, Try.ntmps32
  go_upto_region 1 with fail
  generalize w.alloc (.cells (opA ⟨15, r, i, j, order, imm⟩) 39) = w1 at *
  generalize w.heap.size = t at *
  have z := R.1.c54
  have f9 := R.1.fz 54
  have R2 : DT pc words el v l g vb { D with at_ := D.at_ + 1 } w1 (w1.setCell ⟨g, 54, none⟩ (vI ((D.at_ : Int) + 1))) := R.1.at__ (D.at_ + 1)
  go_upto_region 3 with ((with_reducible refine wpList_storeC rfl 3 _ _ rfl g 54 rfl (vI ((D.at_ : Int) + 1)) rfl inf3 rfl rfl z f9 ?_); try simp only [Act.put])
  replace L := keepD L R.1 R2
  replace R := R.then R2
  clear R2 z f9 H
  generalize w1.setCell ⟨g, 54, none⟩ (vI ((D.at_ : Int) + 1)) = w2 at *
  have hz : ({ D with at_ := D.at_ + 1 } : Dn).val (i : Int) ≠ 0 := hz
  generalize hE : ({ D with at_ := D.at_ + 1 } : Dn) = E at R hz
  have hEa : E.at_ - 1 = D.at_ := by rw [← hE]; rfl
  generalize D.at_ = k at hkk hat hEa R ⊢
  have z1 := R.1.c53
  have z2 := L.c2
  have z3 := R.1.valc hi
  go_quiet (fail)
  replace R := R.grow (below_drewN (Below.refl _ w2) (n := nq))
  replace L := L.grow (below_drewN (Below.refl _ w2) (n := nq))
  clear z1 z2 z3
  generalize w2.drewN nq = w3 at *
  clear nq
  go_upto_region 4 with fail
  have z1 := R.1.c53
  have z2 := L.c3
  have z3 := R.1.valc hj
  go_quiet (fail)
  replace R := R.grow (below_drewN (Below.refl _ w3) (n := nq))
  replace L := L.grow (below_drewN (Below.refl _ w3) (n := nq))
  clear z1 z2 z3
  generalize w3.drewN nq = w4 at *
  clear nq
  have hvi := R.1.valu (i : Int)
  have hvj := R.1.valu (j : Int)
  have z0 := L.c0
  have hk := (show k < l.length by omega)
  have hz2 : (E.val (i : Int) != 0) = true := by simpa using hz
  have H4 := R.1
  have z5 := L.c5
  have zc := H4.pcc
  have fc := H4.fz 37
  have R4 := H4.pc_ imm
  go_upto_region 30 with ((with_reducible refine wpList_storeC rfl 22 _ _ rfl g 37 rfl (vU imm) rfl inf22 rfl rfl zc fc ?_); try simp only [Act.put])
  replace L := keepD L H4 R4
  replace R := R.then R4
  clear R4 zc fc z5
  generalize w4.setCell ⟨g, 37, none⟩ (vU imm) = w5 at *
  have H5 := R.1
  have z5 := L.c5
  have zc := H5.c66
  have fc := H5.fz 66
  have R5 := H5.out_
  go_wp2_with ((with_reducible refine wpList_storeC rfl 4 _ _ rfl g 66 rfl (.bool true) rfl inf4 rfl rfl zc fc ?_); try simp only [Act.put])
  go_end0
  refine ⟨rfl, ?_⟩
  (try rw [hE])
  have := R.then R5
  have e : dOne el E ⟨15, r, i, j, order, imm⟩ = (E.pc imm).out := by show (if (E.val (i : Int) != 0) = true then (E.pc imm).out else E) = _; rw [if_pos hz2]
  rw [e]; exact this
set_option maxHeartbeats 4000000 in
theorem one_15n (H : DocAt pc words el v l g vb D w) (hz : D.val a = 0) (fit : OpFit l ⟨15, r, a, b, order, imm⟩) (fa : 0 ≤ a ∧ a < l.length) (fb : 0 ≤ b ∧ b < l.length) (hat : D.at_ < l.length) : Calls Try.prog 32 #[ptr g 0, opV ⟨15, r, a, b, order, imm⟩] w fun e w' => e = .returned (.tuple #[]) ∧ DT pc words el v l g vb (dOne el { D with at_ := D.at_ + 1 } ⟨15, r, a, b, order, imm⟩) w w' := by
  obtain ⟨i, rfl⟩ : ∃ i : Nat, a = i := ⟨a.toNat, by omega⟩
  obtain ⟨j, rfl⟩ : ∃ j : Nat, b = j := ⟨b.toNat, by omega⟩
  have hi : i < l.length := by omega
  have hj : j < l.length := by omega
  have hii : (i : Int) < l.length := by omega
  have hjj : (j : Int) < l.length := by omega
  have hkk : (D.at_ : Int) < l.length := by omega
  have hm := H.max
  have hmm : (l.length : Int) ≤ 512 := by omega
  have hu := fit.imm
  clear fa fb fit
  have hb := below_alloc w (.cells (opA ⟨15, r, i, j, order, imm⟩) 39)
  have R : DT pc words el v l g vb D w (w.alloc (.cells (opA ⟨15, r, i, j, order, imm⟩) 39)) := DT.from hb (H.grow hb).here
  have L : LocO w.heap.size ⟨15, r, i, j, order, imm⟩ (w.alloc (.cells (opA ⟨15, r, i, j, order, imm⟩) 39)) := LocO.new w _
  clear hb
  go_enter Try.func32, Try.ntmps32
  go_upto_region 1 with fail
  generalize w.alloc (.cells (opA ⟨15, r, i, j, order, imm⟩) 39) = w1 at *
  generalize w.heap.size = t at *
  have z := R.1.c54
  have f9 := R.1.fz 54
  have R2 : DT pc words el v l g vb { D with at_ := D.at_ + 1 } w1 (w1.setCell ⟨g, 54, none⟩ (vI ((D.at_ : Int) + 1))) := R.1.at__ (D.at_ + 1)
  go_upto_region 3 with ((with_reducible refine wpList_storeC rfl 3 _ _ rfl g 54 rfl (vI ((D.at_ : Int) + 1)) rfl inf3 rfl rfl z f9 ?_); try simp only [Act.put])
  replace L := keepD L R.1 R2
  replace R := R.then R2
  clear R2 z f9 H
  generalize w1.setCell ⟨g, 54, none⟩ (vI ((D.at_ : Int) + 1)) = w2 at *
  have hz : ({ D with at_ := D.at_ + 1 } : Dn).val (i : Int) = 0 := hz
  generalize hE : ({ D with at_ := D.at_ + 1 } : Dn) = E at R hz
  have hEa : E.at_ - 1 = D.at_ := by rw [← hE]; rfl
  generalize D.at_ = k at hkk hat hEa R ⊢
  have z1 := R.1.c53
  have z2 := L.c2
  have z3 := R.1.valc hi
  go_quiet (fail)
  replace R := R.grow (below_drewN (Below.refl _ w2) (n := nq))
  replace L := L.grow (below_drewN (Below.refl _ w2) (n := nq))
  clear z1 z2 z3
  generalize w2.drewN nq = w3 at *
  clear nq
  go_upto_region 4 with fail
  have z1 := R.1.c53
  have z2 := L.c3
  have z3 := R.1.valc hj
  go_quiet (fail)
  replace R := R.grow (below_drewN (Below.refl _ w3) (n := nq))
  replace L := L.grow (below_drewN (Below.refl _ w3) (n := nq))
  clear z1 z2 z3
  generalize w3.drewN nq = w4 at *
  clear nq
  have hvi := R.1.valu (i : Int)
  have hvj := R.1.valu (j : Int)
  have z0 := L.c0
  have hk := (show k < l.length by omega)
  have hz2 : (E.val (i : Int) != 0) = false := by simpa using hz
  go_wp2
  go_end0
  refine ⟨rfl, ?_⟩
  (try rw [hE])
  have e : dOne el E ⟨15, r, i, j, order, imm⟩ = E := by show (if (E.val (i : Int) != 0) = true then (E.pc imm).out else E) = _; rw [hz2]; rfl
  rw [e]; exact R
set_option maxHeartbeats 4000000 in
theorem one_16 (H : DocAt pc words el v l g vb D w)  (fit : OpFit l ⟨16, r, a, b, order, imm⟩) (fa : 0 ≤ a ∧ a < l.length) (fb : 0 ≤ b ∧ b < l.length) (hat : D.at_ < l.length) : Calls Try.prog 32 #[ptr g 0, opV ⟨16, r, a, b, order, imm⟩] w fun e w' => e = .returned (.tuple #[]) ∧ DT pc words el v l g vb (dOne el { D with at_ := D.at_ + 1 } ⟨16, r, a, b, order, imm⟩) w w' := by
  obtain ⟨i, rfl⟩ : ∃ i : Nat, a = i := ⟨a.toNat, by omega⟩
  obtain ⟨j, rfl⟩ : ∃ j : Nat, b = j := ⟨b.toNat, by omega⟩
  have hi : i < l.length := by omega
  have hj : j < l.length := by omega
  have hii : (i : Int) < l.length := by omega
  have hjj : (j : Int) < l.length := by omega
  have hkk : (D.at_ : Int) < l.length := by omega
  have hm := H.max
  have hmm : (l.length : Int) ≤ 512 := by omega
  have hu := fit.imm
  clear fa fb fit
  have hb := below_alloc w (.cells (opA ⟨16, r, i, j, order, imm⟩) 39)
  have R : DT pc words el v l g vb D w (w.alloc (.cells (opA ⟨16, r, i, j, order, imm⟩) 39)) := DT.from hb (H.grow hb).here
  have L : LocO w.heap.size ⟨16, r, i, j, order, imm⟩ (w.alloc (.cells (opA ⟨16, r, i, j, order, imm⟩) 39)) := LocO.new w _
  clear hb
  go_enter Try.func32, Try.ntmps32
  go_upto_region 1 with fail
  generalize w.alloc (.cells (opA ⟨16, r, i, j, order, imm⟩) 39) = w1 at *
  generalize w.heap.size = t at *
  have z := R.1.c54
  have f9 := R.1.fz 54
  have R2 : DT pc words el v l g vb { D with at_ := D.at_ + 1 } w1 (w1.setCell ⟨g, 54, none⟩ (vI ((D.at_ : Int) + 1))) := R.1.at__ (D.at_ + 1)
  go_upto_region 3 with ((with_reducible refine wpList_storeC rfl 3 _ _ rfl g 54 rfl (vI ((D.at_ : Int) + 1)) rfl inf3 rfl rfl z f9 ?_); try simp only [Act.put])
  replace L := keepD L R.1 R2
  replace R := R.then R2
  clear R2 z f9 H
  generalize w1.setCell ⟨g, 54, none⟩ (vI ((D.at_ : Int) + 1)) = w2 at *
  generalize hE : ({ D with at_ := D.at_ + 1 } : Dn) = E at R
  have hEa : E.at_ - 1 = D.at_ := by rw [← hE]; rfl
  generalize D.at_ = k at hkk hat hEa R ⊢
  have z1 := R.1.c53
  have z2 := L.c2
  have z3 := R.1.valc hi
  go_quiet (fail)
  replace R := R.grow (below_drewN (Below.refl _ w2) (n := nq))
  replace L := L.grow (below_drewN (Below.refl _ w2) (n := nq))
  clear z1 z2 z3
  generalize w2.drewN nq = w3 at *
  clear nq
  go_upto_region 4 with fail
  have z1 := R.1.c53
  have z2 := L.c3
  have z3 := R.1.valc hj
  go_quiet (fail)
  replace R := R.grow (below_drewN (Below.refl _ w3) (n := nq))
  replace L := L.grow (below_drewN (Below.refl _ w3) (n := nq))
  clear z1 z2 z3
  generalize w3.drewN nq = w4 at *
  clear nq
  have hvi := R.1.valu (i : Int)
  have hvj := R.1.valu (j : Int)
  have z0 := L.c0
  have hk := (show k < l.length by omega)
  have H4 := R.1
  have z5 := L.c5
  have zc := H4.pcc
  have fc := H4.fz 37
  have R4 := H4.pc_ imm
  go_upto_region 33 with ((with_reducible refine wpList_storeC rfl 22 _ _ rfl g 37 rfl (vU imm) rfl inf22 rfl rfl zc fc ?_); try simp only [Act.put])
  replace L := keepD L H4 R4
  replace R := R.then R4
  clear R4 zc fc z5
  generalize w4.setCell ⟨g, 37, none⟩ (vU imm) = w5 at *
  have H5 := R.1
  have z5 := L.c5
  have zc := H5.c66
  have fc := H5.fz 66
  have R5 := H5.out_
  go_wp2_with ((with_reducible refine wpList_storeC rfl 4 _ _ rfl g 66 rfl (.bool true) rfl inf4 rfl rfl zc fc ?_); try simp only [Act.put])
  go_end0
  refine ⟨rfl, ?_⟩
  (try rw [hE])
  exact R.then R5
set_option maxHeartbeats 4000000 in
theorem one_17 (H : DocAt pc words el v l g vb D w)  (fit : OpFit l ⟨17, r, a, b, order, imm⟩) (fa : 0 ≤ a ∧ a < l.length) (fb : 0 ≤ b ∧ b < l.length) (hat : D.at_ < l.length) : Calls Try.prog 32 #[ptr g 0, opV ⟨17, r, a, b, order, imm⟩] w fun e w' => e = .returned (.tuple #[]) ∧ DT pc words el v l g vb (dOne el { D with at_ := D.at_ + 1 } ⟨17, r, a, b, order, imm⟩) w w' := by
  obtain ⟨i, rfl⟩ : ∃ i : Nat, a = i := ⟨a.toNat, by omega⟩
  obtain ⟨j, rfl⟩ : ∃ j : Nat, b = j := ⟨b.toNat, by omega⟩
  have hi : i < l.length := by omega
  have hj : j < l.length := by omega
  have hii : (i : Int) < l.length := by omega
  have hjj : (j : Int) < l.length := by omega
  have hkk : (D.at_ : Int) < l.length := by omega
  have hm := H.max
  have hmm : (l.length : Int) ≤ 512 := by omega
  have hu := fit.imm
  clear fa fb fit
  have hb := below_alloc w (.cells (opA ⟨17, r, i, j, order, imm⟩) 39)
  have R : DT pc words el v l g vb D w (w.alloc (.cells (opA ⟨17, r, i, j, order, imm⟩) 39)) := DT.from hb (H.grow hb).here
  have L : LocO w.heap.size ⟨17, r, i, j, order, imm⟩ (w.alloc (.cells (opA ⟨17, r, i, j, order, imm⟩) 39)) := LocO.new w _
  clear hb
  go_enter Try.func32, Try.ntmps32
  go_upto_region 1 with fail
  generalize w.alloc (.cells (opA ⟨17, r, i, j, order, imm⟩) 39) = w1 at *
  generalize w.heap.size = t at *
  have z := R.1.c54
  have f9 := R.1.fz 54
  have R2 : DT pc words el v l g vb { D with at_ := D.at_ + 1 } w1 (w1.setCell ⟨g, 54, none⟩ (vI ((D.at_ : Int) + 1))) := R.1.at__ (D.at_ + 1)
  go_upto_region 3 with ((with_reducible refine wpList_storeC rfl 3 _ _ rfl g 54 rfl (vI ((D.at_ : Int) + 1)) rfl inf3 rfl rfl z f9 ?_); try simp only [Act.put])
  replace L := keepD L R.1 R2
  replace R := R.then R2
  clear R2 z f9 H
  generalize w1.setCell ⟨g, 54, none⟩ (vI ((D.at_ : Int) + 1)) = w2 at *
  generalize hE : ({ D with at_ := D.at_ + 1 } : Dn) = E at R
  have hEa : E.at_ - 1 = D.at_ := by rw [← hE]; rfl
  generalize D.at_ = k at hkk hat hEa R ⊢
  have z1 := R.1.c53
  have z2 := L.c2
  have z3 := R.1.valc hi
  go_quiet (fail)
  replace R := R.grow (below_drewN (Below.refl _ w2) (n := nq))
  replace L := L.grow (below_drewN (Below.refl _ w2) (n := nq))
  clear z1 z2 z3
  generalize w2.drewN nq = w3 at *
  clear nq
  go_upto_region 4 with fail
  have z1 := R.1.c53
  have z2 := L.c3
  have z3 := R.1.valc hj
  go_quiet (fail)
  replace R := R.grow (below_drewN (Below.refl _ w3) (n := nq))
  replace L := L.grow (below_drewN (Below.refl _ w3) (n := nq))
  clear z1 z2 z3
  generalize w3.drewN nq = w4 at *
  clear nq
  have hvi := R.1.valu (i : Int)
  have hvj := R.1.valu (j : Int)
  have z0 := L.c0
  have hk := (show k < l.length by omega)
  have H4 := R.1
  have z5 := L.c5
  have zc := H4.pcc
  have fc := H4.fz 37
  have R4 := H4.pc_ (E.val (i : Int))
  go_upto_region 36 with ((with_reducible refine wpList_storeC rfl 22 _ _ rfl g 37 rfl (vU (E.val (i : Int))) rfl inf22 rfl rfl zc fc ?_); try simp only [Act.put])
  replace L := keepD L H4 R4
  replace R := R.then R4
  clear R4 zc fc z5
  generalize w4.setCell ⟨g, 37, none⟩ (vU (E.val (i : Int))) = w5 at *
  have H5 := R.1
  have z5 := L.c5
  have zc := H5.c66
  have fc := H5.fz 66
  have R5 := H5.out_
  go_wp2_with ((with_reducible refine wpList_storeC rfl 4 _ _ rfl g 66 rfl (.bool true) rfl inf4 rfl rfl zc fc ?_); try simp only [Act.put])
  go_end0
  refine ⟨rfl, ?_⟩
  (try rw [hE])
  exact R.then R5
set_option maxHeartbeats 4000000 in
theorem one_18 (H : DocAt pc words el v l g vb D w)  (fit : OpFit l ⟨18, r, a, b, order, imm⟩) (fa : 0 ≤ a ∧ a < l.length) (fb : 0 ≤ b ∧ b < l.length) (hat : D.at_ < l.length) : Calls Try.prog 32 #[ptr g 0, opV ⟨18, r, a, b, order, imm⟩] w fun e w' => e = .returned (.tuple #[]) ∧ DT pc words el v l g vb (dOne el { D with at_ := D.at_ + 1 } ⟨18, r, a, b, order, imm⟩) w w' := by
  obtain ⟨i, rfl⟩ : ∃ i : Nat, a = i := ⟨a.toNat, by omega⟩
  obtain ⟨j, rfl⟩ : ∃ j : Nat, b = j := ⟨b.toNat, by omega⟩
  have hi : i < l.length := by omega
  have hj : j < l.length := by omega
  have hii : (i : Int) < l.length := by omega
  have hjj : (j : Int) < l.length := by omega
  have hkk : (D.at_ : Int) < l.length := by omega
  have hm := H.max
  have hmm : (l.length : Int) ≤ 512 := by omega
  have hu := fit.imm
  clear fa fb fit
  have hb := below_alloc w (.cells (opA ⟨18, r, i, j, order, imm⟩) 39)
  have R : DT pc words el v l g vb D w (w.alloc (.cells (opA ⟨18, r, i, j, order, imm⟩) 39)) := DT.from hb (H.grow hb).here
  have L : LocO w.heap.size ⟨18, r, i, j, order, imm⟩ (w.alloc (.cells (opA ⟨18, r, i, j, order, imm⟩) 39)) := LocO.new w _
  clear hb
  go_enter Try.func32, Try.ntmps32
  go_upto_region 1 with fail
  generalize w.alloc (.cells (opA ⟨18, r, i, j, order, imm⟩) 39) = w1 at *
  generalize w.heap.size = t at *
  have z := R.1.c54
  have f9 := R.1.fz 54
  have R2 : DT pc words el v l g vb { D with at_ := D.at_ + 1 } w1 (w1.setCell ⟨g, 54, none⟩ (vI ((D.at_ : Int) + 1))) := R.1.at__ (D.at_ + 1)
  go_upto_region 3 with ((with_reducible refine wpList_storeC rfl 3 _ _ rfl g 54 rfl (vI ((D.at_ : Int) + 1)) rfl inf3 rfl rfl z f9 ?_); try simp only [Act.put])
  replace L := keepD L R.1 R2
  replace R := R.then R2
  clear R2 z f9 H
  generalize w1.setCell ⟨g, 54, none⟩ (vI ((D.at_ : Int) + 1)) = w2 at *
  generalize hE : ({ D with at_ := D.at_ + 1 } : Dn) = E at R
  have hEa : E.at_ - 1 = D.at_ := by rw [← hE]; rfl
  generalize D.at_ = k at hkk hat hEa R ⊢
  have z1 := R.1.c53
  have z2 := L.c2
  have z3 := R.1.valc hi
  go_quiet (fail)
  replace R := R.grow (below_drewN (Below.refl _ w2) (n := nq))
  replace L := L.grow (below_drewN (Below.refl _ w2) (n := nq))
  clear z1 z2 z3
  generalize w2.drewN nq = w3 at *
  clear nq
  go_upto_region 4 with fail
  have z1 := R.1.c53
  have z2 := L.c3
  have z3 := R.1.valc hj
  go_quiet (fail)
  replace R := R.grow (below_drewN (Below.refl _ w3) (n := nq))
  replace L := L.grow (below_drewN (Below.refl _ w3) (n := nq))
  clear z1 z2 z3
  generalize w3.drewN nq = w4 at *
  clear nq
  have hvi := R.1.valu (i : Int)
  have hvj := R.1.valu (j : Int)
  have z0 := L.c0
  have hk := (show k < l.length by omega)
  have H4 := R.1
  have z5 := L.c5
  have zc := H4.c68
  have fc := H4.fz 68
  have R4 := H4.word_ imm
  go_upto_region 39 with ((with_reducible refine wpList_storeC rfl 22 _ _ rfl g 68 rfl (vU imm) rfl inf22 rfl rfl zc fc ?_); try simp only [Act.put])
  replace L := keepD L H4 R4
  replace R := R.then R4
  clear R4 zc fc z5
  generalize w4.setCell ⟨g, 68, none⟩ (vU imm) = w5 at *
  have H5 := R.1
  have z5 := L.c5
  have zc := H5.c69
  have fc := H5.fz 69
  have R5 := H5.guest_
  go_upto_region 40 with ((with_reducible refine wpList_storeC rfl 4 _ _ rfl g 69 rfl (.bool true) rfl inf4 rfl rfl zc fc ?_); try simp only [Act.put])
  replace L := keepD L H5 R5
  replace R := R.then R5
  clear R5 zc fc z5
  generalize w5.setCell ⟨g, 69, none⟩ (.bool true) = w6 at *
  have H6 := R.1
  have z5 := L.c5
  have zc := H6.c66
  have fc := H6.fz 66
  have R6 := H6.out_
  go_wp2_with ((with_reducible refine wpList_storeC rfl 4 _ _ rfl g 66 rfl (.bool true) rfl inf4 rfl rfl zc fc ?_); try simp only [Act.put])
  go_end0
  refine ⟨rfl, ?_⟩
  (try rw [hE])
  exact R.then R6
end
end Go.Proofs.Ytejlmggfeejgpaa
