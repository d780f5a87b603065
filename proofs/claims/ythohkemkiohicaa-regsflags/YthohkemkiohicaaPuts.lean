/- What the functions of package regs, and the document's own, make of a state: contracts, for every state. -/
import Derived.Test.YthohkemkiohicaaSys
namespace Go.Proofs.Ythohkemkiohicaa
open Go.RowKit

theorem tm_bit {v : Int} (h : U64 v) (m : Int) (k : Nat) (hm : m = 2 ^ k) : ((v / m).tmod 2 == 1) = bitB v k := by
  subst hm
  unfold bitB
  rw [Int.tmod_eq_emod_of_nonneg (Int.ediv_nonneg h.1 (Int.le_of_lt (Int.pow_pos (by decide))))]
theorem tm_31 {v : Int} (h : U64 v) : ((v / 2147483648).tmod 2 == 1) = bitB v 31 := tm_bit h _ 31 rfl
theorem tm_30 {v : Int} (h : U64 v) : ((v / 1073741824).tmod 2 == 1) = bitB v 30 := tm_bit h _ 30 rfl
theorem tm_29 {v : Int} (h : U64 v) : ((v / 536870912).tmod 2 == 1) = bitB v 29 := tm_bit h _ 29 rfl
theorem tm_28 {v : Int} (h : U64 v) : ((v / 268435456).tmod 2 == 1) = bitB v 28 := tm_bit h _ 28 rfl
theorem tm_7 {v : Int} (h : U64 v) : ((v / 128).tmod 2 == 1) = bitB v 7 := tm_bit h _ 7 rfl
/-- A number laid into a cell that is there. -/
theorem wpList_store_int {P : Program} {ops : Array Oper} {rest : List Oper} {o : Oper} {a : Act} {w : World} {Q : Exit → Act → World → Prop} (hgd : o.guard = none) (ty : TypeId) (x y : Operand) (ho : o.op = .store ty x y)
    (g j : Nat) (k : IntKind) (n : Int) (hx : a.eval x = .pointer (some ⟨g, j, none⟩)) (hy : a.eval y = .int k n) (old : Value) (hc : w.cell? ⟨g, j, none⟩ = some old) (hf : w.frozen? ⟨g, j, none⟩ = false) (hi : (P.info? ty).map (·.size) = some 1)
    (h : wpList P ops Q rest (a.put o.dst undef) (w.setCell ⟨g, j, none⟩ (.int k n))) : wpList P ops Q (o :: rest) a w := by
  refine wpList_plain hgd fun K hK => ?_
  unfold Oper.wp execOp
  have hs : (storeVar ty ⟨g, j, none⟩ (.int k n)).run P w = .ok () (w.setCell ⟨g, j, none⟩ (.int k n)) := by
    cases hq : P.info? ty with
    | none => simp [hq] at hi
    | some i =>
      have hs : i.size = 1 := by simpa [hq] using hi
      have hadd : (⟨g, j, none⟩ : Addr).add 0 = ⟨g, j, none⟩ := by unfold Addr.add; split <;> simp_all
      have hst : (store ⟨g, j, none⟩ (.int k n) .plain).run P w = .ok () (w.setCell ⟨g, j, none⟩ (.int k n)) := by
        rw [run_store P w _ _ _ rfl, hc, hf]; rfl
      simp [storeVar, sizeOf, typeInfo, hq, hs, Value.cells, storeCells, hadd, hst]
  simp only [ho, hx, hy, Instr.storeAt, Instr.sureAddr, Sem.run_bind, Sem.run_pure, Result.andThen_ok, hs]
  exact hK _ _ h
theorem put_x (c : Cor) (k : Nat) (v : Int) (h : k < 31) (Z : Obj) (w : World) : ((w.alloc (.cells c.cells 26)).alloc Z).setCell ⟨w.heap.size, k, none⟩ (vU v) = (w.alloc (.cells ({ c with x := c.x.set k v } : Cor).cells 26)).alloc Z := by
  rw [World.setCell_alloc_past Z _ _ _ (by simp), World.setCell_alloc_new, c.setX k v h]
theorem built_some : (Try.prog.built 26 []).isSome = true := by kernel_rfl
theorem built_nil : (Try.prog.built 26 []).getD #[] = nilC.cells := by kernel_rfl
theorem wpList_build_nil {ops : Array Oper} {rest : List Oper} {o : Oper} {a : Act} {w : World} {Q : Exit → Act → World → Prop} (hw : Region.wanted o (yielded ops a.tmps) = true) (ho : o.op = .build 26 #[])
    (h : wpList Try.prog ops Q rest (a.put o.dst nilC.val) w) : wpList Try.prog ops Q (o :: rest) a w := by
  have e : (Array.map (fun x : Nat × Operand => match x with | (i, x) => (i, a.eval x)) #[]).toList = [] := by simp
  refine BigFrame.wpList_want hw fun K hK => wp_build 26 #[] ho (by rw [e]; exact built_some) ?_
  refine hK _ _ ?_
  rw [e, built_nil]
  exact h
def setXV (c : Cor) (r v : Int) : Cor := bif regB r then (if h : 0 ≤ r ∧ r < 31 then { c with x := c.x.set r.toNat v (by omega) } else c) else nilC
def setSPV (c : Cor) (v : Int) : Cor := if c.el = 0 then { c with sp0 := v } else if c.el = 1 then { c with sp1 := v } else nilC
def setNzcvV (c : Cor) (u : Int) : Cor := { c with n := bitB u 31, z := bitB u 30, c := bitB u 29, v := bitB u 28 }
def newV (id pc : Int) : Cor := { nilC with id := id, pc := pc, el := 1, mask := true }
set_option maxHeartbeats 1000000 in
theorem SetX_c (c : Cor) (r v : Int) (w : World) : Calls Try.prog 12 #[c.val, vI r, vU v] w fun e w' => e = .returned (.tuple #[(setXV c r v).val, vI (regE r)]) ∧ Below w.heap.size w w' := by
  by_cases h0 : 0 ≤ r
  · by_cases h1 : r < 31
    · have hb : regB r = true := by simp [regB, h0]; omega
      have hne : r ≠ 31 := by omega
      have hv : setXV c r v = { c with x := c.x.set r.toNat v (by omega) } := by simp [setXV, hb, h0, h1]
      rw [hv]
      clear hv
      go_enter Try.func12, Try.ntmps12
      go_upto_region 4 with (go_at_call 29; refine (isRegister_c _ _).mono ?_; rintro e w1 ⟨rfl, rfl⟩)
      iterate 13 go_step
      refine wpList_store_int rfl 22 _ _ rfl w.heap.size r.toNat .u64 v rfl rfl (vU (xV c r)) ?_ (frozen_of_row _ _ _ _ _ (heap_alloc2_old _ _ _)) (by kernel_rfl) ?_
      focus
        rw [cell_of_row _ _ _ _ _ _ (heap_alloc2_old _ _ _), c.atX r.toNat (by omega)]
        simp [xV, h0, show r.toNat < 31 by omega]
      rw [put_x c r.toNat v (by omega)]
      go_upto_region 5 with fail
      go_step
      with_reducible refine wpList_load_row rfl 26 _ rfl _ rfl 26 _ (0, 0) _ (heap_alloc2_old _ _ _) Try.underlying26 rfl (Cor.info _) ?_
      simp only [Act.put, List.setIfInBounds_toArray, List.set_cons_succ, List.set_cons_zero]
      with_reducible refine wpList_store_row rfl 26 _ _ rfl _ _ rfl rfl 26 _ (heap_alloc2_new _ _ _) (Cor.info _) ?_ (Cor.one _) ?_
      focus (rw [Cor.size]; rfl)
      go_wp2
      refine bodyPost_ret (back_two rfl _ _ _ _ _ _ rfl (setRow_heap _ _ _ _ _ _ (heap_alloc2_new _ _ _))) rfl ?_
      exact ⟨by first | rfl | (rw [show regE r = 0 by simp [regE, hb]]; rfl), by repeat (first | exact Below.refl _ _ | apply below_more | apply below_drew | apply below_drewN | (refine below_setRow ?_ (by simp)))⟩
    · by_cases h2 : r = 31
      · subst h2
        have hv : setXV c 31 v = c := by simp [setXV, show regB 31 = true by decide]
        rw [hv]
        go_enter Try.func12, Try.ntmps12
        go_upto_region 5 with (go_at_call 29; refine (isRegister_c _ _).mono ?_; rintro e w1 ⟨rfl, rfl⟩)
        go_step
        with_reducible refine wpList_load_row rfl 26 _ rfl _ rfl 26 _ (0, 0) _ (heap_alloc2_old _ _ _) Try.underlying26 rfl (Cor.info _) ?_
        simp only [Act.put, List.setIfInBounds_toArray, List.set_cons_succ, List.set_cons_zero]
        with_reducible refine wpList_store_row rfl 26 _ _ rfl _ _ rfl rfl 26 _ (heap_alloc2_new _ _ _) (Cor.info _) ?_ (Cor.one _) ?_
        focus (rw [Cor.size]; rfl)
        go_wp2
        refine bodyPost_ret (back_two rfl _ _ _ _ _ _ rfl (setRow_heap _ _ _ _ _ _ (heap_alloc2_new _ _ _))) rfl ?_
        exact ⟨rfl, by repeat (first | exact Below.refl _ _ | apply below_more | apply below_drew | apply below_drewN | (refine below_setRow ?_ (by simp)))⟩
      · have hb : regB r = false := by simp [regB]; omega
        have hv : setXV c r v = nilC := by simp [setXV, hb]
        rw [hv]
        have h3 : 31 < r := by omega
        go_enter Try.func12, Try.ntmps12
        go_upto_region 2 with (go_at_call 29; refine (isRegister_c _ _).mono ?_; rintro e w1 ⟨rfl, rfl⟩)
        go_step
        with_reducible refine wpList_build_nil rfl rfl ?_
        simp only [Act.put, List.setIfInBounds_toArray, List.set_cons_succ, List.set_cons_zero]
        with_reducible refine wpList_store_row rfl 26 _ _ rfl _ _ rfl rfl 26 _ (heap_alloc2_new _ _ _) (Cor.info _) ?_ (Cor.one _) ?_
        focus (rw [Cor.size]; rfl)
        go_wp2
        refine bodyPost_ret (back_two rfl _ _ _ _ _ _ rfl (setRow_heap _ _ _ _ _ _ (heap_alloc2_new _ _ _))) rfl ?_
        exact ⟨by first | rfl | (rw [show regE r = 1 by simp only [regE, hb, cond_false]]; rfl), by repeat (first | exact Below.refl _ _ | apply below_more | apply below_drew | apply below_drewN | (refine below_setRow ?_ (by simp)))⟩
  · have hb : regB r = false := by simp [regB]; omega
    have hv : setXV c r v = nilC := by simp [setXV, hb]
    rw [hv]
    have h3 : r < 0 := by omega
    go_enter Try.func12, Try.ntmps12
    go_upto_region 2 with (go_at_call 29; refine (isRegister_c _ _).mono ?_; rintro e w1 ⟨rfl, rfl⟩)
    go_step
    with_reducible refine wpList_build_nil rfl rfl ?_
    simp only [Act.put, List.setIfInBounds_toArray, List.set_cons_succ, List.set_cons_zero]
    with_reducible refine wpList_store_row rfl 26 _ _ rfl _ _ rfl rfl 26 _ (heap_alloc2_new _ _ _) (Cor.info _) ?_ (Cor.one _) ?_
    focus (rw [Cor.size]; rfl)
    go_wp2
    refine bodyPost_ret (back_two rfl _ _ _ _ _ _ rfl (setRow_heap _ _ _ _ _ _ (heap_alloc2_new _ _ _))) rfl ?_
    exact ⟨by first | rfl | (rw [show regE r = 1 by simp only [regE, hb, cond_false]]; rfl), by repeat (first | exact Below.refl _ _ | apply below_more | apply below_drew | apply below_drewN | (refine below_setRow ?_ (by simp)))⟩
set_option maxHeartbeats 1000000 in
theorem refSetX_c (c : Cor) (r v : Int) (w : World) : Calls Try.prog 13 #[c.val, vI r, vU v] w fun e w' => e = .returned (.tuple #[(setXV c r v).val, .bool (regB r)]) ∧ Below w.heap.size w w' := by
  by_cases h0 : 0 ≤ r
  · by_cases h1 : r < 31
    · have hb : regB r = true := by simp [regB, h0]; omega
      have hne : r ≠ 31 := by omega
      have hv : setXV c r v = { c with x := c.x.set r.toNat v (by omega) } := by simp [setXV, hb, h0, h1]
      rw [hv]
      clear hv
      go_enter Try.func13, Try.ntmps13
      go_upto_region 4 with fail
      iterate 13 go_step
      refine wpList_store_int rfl 22 _ _ rfl w.heap.size r.toNat .u64 v rfl rfl (vU (xV c r)) ?_ (frozen_of_row _ _ _ _ _ (heap_alloc2_old _ _ _)) (by kernel_rfl) ?_
      focus
        rw [cell_of_row _ _ _ _ _ _ (heap_alloc2_old _ _ _), c.atX r.toNat (by omega)]
        simp [xV, h0, show r.toNat < 31 by omega]
      rw [put_x c r.toNat v (by omega)]
      go_upto_region 5 with fail
      go_step
      with_reducible refine wpList_load_row rfl 26 _ rfl _ rfl 26 _ (0, 0) _ (heap_alloc2_old _ _ _) Try.underlying26 rfl (Cor.info _) ?_
      simp only [Act.put, List.setIfInBounds_toArray, List.set_cons_succ, List.set_cons_zero]
      with_reducible refine wpList_store_row rfl 26 _ _ rfl _ _ rfl rfl 26 _ (heap_alloc2_new _ _ _) (Cor.info _) ?_ (Cor.one _) ?_
      focus (rw [Cor.size]; rfl)
      go_wp2
      refine bodyPost_ret (back_two rfl _ _ _ _ _ _ rfl (setRow_heap _ _ _ _ _ _ (heap_alloc2_new _ _ _))) rfl ?_
      exact ⟨by first | rfl | (rw [show regB r = true by simp [hb]]; rfl), by repeat (first | exact Below.refl _ _ | apply below_more | apply below_drew | apply below_drewN | (refine below_setRow ?_ (by simp)))⟩
    · by_cases h2 : r = 31
      · subst h2
        have hv : setXV c 31 v = c := by simp [setXV, show regB 31 = true by decide]
        rw [hv]
        go_enter Try.func13, Try.ntmps13
        go_upto_region 5 with fail
        go_step
        with_reducible refine wpList_load_row rfl 26 _ rfl _ rfl 26 _ (0, 0) _ (heap_alloc2_old _ _ _) Try.underlying26 rfl (Cor.info _) ?_
        simp only [Act.put, List.setIfInBounds_toArray, List.set_cons_succ, List.set_cons_zero]
        with_reducible refine wpList_store_row rfl 26 _ _ rfl _ _ rfl rfl 26 _ (heap_alloc2_new _ _ _) (Cor.info _) ?_ (Cor.one _) ?_
        focus (rw [Cor.size]; rfl)
        go_wp2
        refine bodyPost_ret (back_two rfl _ _ _ _ _ _ rfl (setRow_heap _ _ _ _ _ _ (heap_alloc2_new _ _ _))) rfl ?_
        exact ⟨rfl, by repeat (first | exact Below.refl _ _ | apply below_more | apply below_drew | apply below_drewN | (refine below_setRow ?_ (by simp)))⟩
      · have hb : regB r = false := by simp [regB]; omega
        have hv : setXV c r v = nilC := by simp [setXV, hb]
        rw [hv]
        have h3 : 31 < r := by omega
        go_enter Try.func13, Try.ntmps13
        go_upto_region 2 with fail
        go_step
        with_reducible refine wpList_build_nil rfl rfl ?_
        simp only [Act.put, List.setIfInBounds_toArray, List.set_cons_succ, List.set_cons_zero]
        with_reducible refine wpList_store_row rfl 26 _ _ rfl _ _ rfl rfl 26 _ (heap_alloc2_new _ _ _) (Cor.info _) ?_ (Cor.one _) ?_
        focus (rw [Cor.size]; rfl)
        go_wp2
        refine bodyPost_ret (back_two rfl _ _ _ _ _ _ rfl (setRow_heap _ _ _ _ _ _ (heap_alloc2_new _ _ _))) rfl ?_
        exact ⟨by first | rfl | (rw [show regB r = false by simp only [regE, hb, cond_false]]; rfl), by repeat (first | exact Below.refl _ _ | apply below_more | apply below_drew | apply below_drewN | (refine below_setRow ?_ (by simp)))⟩
  · have hb : regB r = false := by simp [regB]; omega
    have hv : setXV c r v = nilC := by simp [setXV, hb]
    rw [hv]
    have h3 : r < 0 := by omega
    go_enter Try.func13, Try.ntmps13
    go_upto_region 2 with fail
    go_step
    with_reducible refine wpList_build_nil rfl rfl ?_
    simp only [Act.put, List.setIfInBounds_toArray, List.set_cons_succ, List.set_cons_zero]
    with_reducible refine wpList_store_row rfl 26 _ _ rfl _ _ rfl rfl 26 _ (heap_alloc2_new _ _ _) (Cor.info _) ?_ (Cor.one _) ?_
    focus (rw [Cor.size]; rfl)
    go_wp2
    refine bodyPost_ret (back_two rfl _ _ _ _ _ _ rfl (setRow_heap _ _ _ _ _ _ (heap_alloc2_new _ _ _))) rfl ?_
    exact ⟨by first | rfl | (rw [show regB r = false by simp only [regE, hb, cond_false]]; rfl), by repeat (first | exact Below.refl _ _ | apply below_more | apply below_drew | apply below_drewN | (refine below_setRow ?_ (by simp)))⟩
set_option maxHeartbeats 1000000 in
theorem SetSP_c (c : Cor) (v : Int) (w : World) : Calls Try.prog 15 #[c.val, vU v] w fun e w' => e = .returned (.tuple #[(setSPV c v).val, vI (spE c)]) ∧ Below w.heap.size w w' := by
  rcases (by omega : c.el = 0 ∨ c.el = 1 ∨ (c.el ≠ 0 ∧ c.el ≠ 1)) with h | h | ⟨h, h'⟩
  · have hv : setSPV c v = { c with sp0 := v } := by simp [setSPV, h]
    have he : spE c = 0 := by simp [spE, h]
    rw [hv, he]
    go_enter Try.func15, Try.ntmps15
    go_upto_region 4 with (go_at_call 30; refine (isLevel_c _ _).mono ?_; rintro e w1 ⟨rfl, rfl⟩)
    go_step
    with_reducible refine wpList_load_row rfl 26 _ rfl _ rfl 26 _ (0, 0) _ (heap_alloc2_old _ _ _) Try.underlying26 rfl (Cor.info _) ?_
    simp only [Act.put, List.setIfInBounds_toArray, List.set_cons_succ, List.set_cons_zero]
    with_reducible refine wpList_store_row rfl 26 _ _ rfl _ _ rfl rfl 26 _ (heap_alloc2_new _ _ _) (Cor.info _) ?_ (Cor.one _) ?_
    focus (rw [Cor.size]; rfl)
    go_wp2
    refine bodyPost_ret (back_two rfl _ _ _ _ _ _ rfl (setRow_heap _ _ _ _ _ _ (heap_alloc2_new _ _ _))) rfl ?_
    exact ⟨by simp [h], by repeat (first | exact Below.refl _ _ | apply below_more | apply below_drew | apply below_drewN | (refine below_setRow ?_ (by simp)))⟩
  · have hv : setSPV c v = { c with sp1 := v } := by simp [setSPV, h]
    have he : spE c = 0 := by simp [spE, h]
    rw [hv, he]
    go_enter Try.func15, Try.ntmps15
    go_upto_region 4 with (go_at_call 30; refine (isLevel_c _ _).mono ?_; rintro e w1 ⟨rfl, rfl⟩)
    go_step
    with_reducible refine wpList_load_row rfl 26 _ rfl _ rfl 26 _ (0, 0) _ (heap_alloc2_old _ _ _) Try.underlying26 rfl (Cor.info _) ?_
    simp only [Act.put, List.setIfInBounds_toArray, List.set_cons_succ, List.set_cons_zero]
    with_reducible refine wpList_store_row rfl 26 _ _ rfl _ _ rfl rfl 26 _ (heap_alloc2_new _ _ _) (Cor.info _) ?_ (Cor.one _) ?_
    focus (rw [Cor.size]; rfl)
    go_wp2
    refine bodyPost_ret (back_two rfl _ _ _ _ _ _ rfl (setRow_heap _ _ _ _ _ _ (heap_alloc2_new _ _ _))) rfl ?_
    exact ⟨by simp [h], by repeat (first | exact Below.refl _ _ | apply below_more | apply below_drew | apply below_drewN | (refine below_setRow ?_ (by simp)))⟩
  · have hv : setSPV c v = nilC := by simp [setSPV, h, h']
    have he : spE c = 1 := by simp [spE, h, h']
    have hb : (c.el == 0 || c.el == 1) = false := by simp [h, h']
    rw [hv, he]
    go_enter Try.func15, Try.ntmps15
    go_upto_region 2 with (go_at_call 30; refine (isLevel_c _ _).mono ?_; rw [hb]; rintro e w1 ⟨rfl, rfl⟩)
    go_step
    with_reducible refine wpList_build_nil rfl rfl ?_
    simp only [Act.put, List.setIfInBounds_toArray, List.set_cons_succ, List.set_cons_zero]
    with_reducible refine wpList_store_row rfl 26 _ _ rfl _ _ rfl rfl 26 _ (heap_alloc2_new _ _ _) (Cor.info _) ?_ (Cor.one _) ?_
    focus (rw [Cor.size]; rfl)
    go_wp2
    refine bodyPost_ret (back_two rfl _ _ _ _ _ _ rfl (setRow_heap _ _ _ _ _ _ (heap_alloc2_new _ _ _))) rfl ?_
    exact ⟨rfl, by repeat (first | exact Below.refl _ _ | apply below_more | apply below_drew | apply below_drewN | (refine below_setRow ?_ (by simp)))⟩
set_option maxHeartbeats 1000000 in
theorem SetNzcv_c (c : Cor) (v : Int) (hv : Hid (U64 v)) (w : World) : Calls Try.prog 23 #[c.val, vU v] w fun e w' => e = .returned (setNzcvV c v).val ∧ Below w.heap.size w w' := by
  have e31 := and_31 hv.out
  have e30 := and_30 hv.out
  have e29 := and_29 hv.out
  have e28 := and_28 hv.out
  go_enter Try.func23, Try.ntmps23
  go_upto_region 3 with fail
  go_step
  with_reducible refine wpList_load_row rfl 26 _ rfl _ rfl 26 _ (0, 0) _ (heap_alloc2_old _ _ _) Try.underlying26 rfl (Cor.info _) ?_
  simp only [Act.put, List.setIfInBounds_toArray, List.set_cons_succ, List.set_cons_zero]
  with_reducible refine wpList_store_row rfl 26 _ _ rfl _ _ rfl rfl 26 _ (heap_alloc2_new _ _ _) (Cor.info _) ?_ (Cor.one _) ?_
  focus (rw [Cor.size]; rfl)
  go_wp2
  refine bodyPost_ret (back_one rfl _ _ _ _ _ _ rfl (setRow_heap _ _ _ _ _ _ (heap_alloc2_new _ _ _))) rfl ?_
  exact ⟨rfl, by repeat (first | exact Below.refl _ _ | apply below_more | apply below_drew | apply below_drewN | (refine below_setRow ?_ (by simp)))⟩
set_option maxHeartbeats 1000000 in
theorem refSetNzcv_c (c : Cor) (v : Int) (hv : Hid (U64 v)) (w : World) : Calls Try.prog 24 #[c.val, vU v] w fun e w' => e = .returned (setNzcvV c v).val ∧ Below w.heap.size w w' := by
  have e31 := tm_31 hv.out
  have e30 := tm_30 hv.out
  have e29 := tm_29 hv.out
  have e28 := tm_28 hv.out
  go_enter Try.func24, Try.ntmps24
  go_upto_region 5 with fail
  go_step
  with_reducible refine wpList_load_row rfl 26 _ rfl _ rfl 26 _ (0, 0) _ (heap_alloc2_old _ _ _) Try.underlying26 rfl (Cor.info _) ?_
  simp only [Act.put, List.setIfInBounds_toArray, List.set_cons_succ, List.set_cons_zero]
  with_reducible refine wpList_store_row rfl 26 _ _ rfl _ _ rfl rfl 26 _ (heap_alloc2_new _ _ _) (Cor.info _) ?_ (Cor.one _) ?_
  focus (rw [Cor.size]; rfl)
  go_wp2
  refine bodyPost_ret (back_one rfl _ _ _ _ _ _ rfl (setRow_heap _ _ _ _ _ _ (heap_alloc2_new _ _ _))) rfl ?_
  exact ⟨rfl, by repeat (first | exact Below.refl _ _ | apply below_more | apply below_drew | apply below_drewN | (refine below_setRow ?_ (by simp)))⟩
theorem built_new (id pc : Int) : Try.prog.built 26 [(15, vI id), (2, vU pc), (7, vI 1), (8, .bool true)] = some (newV id pc).cells := by kernel_rfl
end Go.Proofs.Ythohkemkiohicaa
