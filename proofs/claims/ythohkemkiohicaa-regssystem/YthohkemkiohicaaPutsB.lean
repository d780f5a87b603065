/- New and Set of package regs, and of the document's own answer: contracts, for every state. -/
import Derived.Test.YthohkemkiohicaaPuts
namespace Go.Proofs.Ythohkemkiohicaa
open Go.RowKit

theorem wpList_build_new {ops : Array Oper} {rest : List Oper} {o : Oper} {a : Act} {w : World} {Q : Exit → Act → World → Prop} (hw : Region.wanted o (yielded ops a.tmps) = true) (x y : Operand) (ho : o.op = .build 26 #[(15, x), (2, y), (7, .const (.int .i64 1)), (8, .const (.bool true))])
    (id pc : Int) (hx : a.eval x = vI id) (hy : a.eval y = vU pc) (h : wpList Try.prog ops Q rest (a.put o.dst (newV id pc).val) w) : wpList Try.prog ops Q (o :: rest) a w := by
  have e : (Array.map (fun x : Nat × Operand => match x with | (i, x) => (i, a.eval x)) #[(15, x), (2, y), (7, .const (.int .i64 1)), (8, .const (.bool true))]).toList = [(15, vI id), (2, vU pc), (7, vI 1), (8, .bool true)] := by
    simp only [List.map_toArray, List.map_cons, List.map_nil, hx, hy]
    rfl
  refine BigFrame.wpList_want hw fun K hK => wp_build 26 _ ho (by rw [e, built_new]; rfl) ?_
  refine hK _ _ ?_
  rw [e, built_new]
  exact h
set_option maxHeartbeats 1000000 in
theorem New_c (id pc : Int) (w : World) : Calls Try.prog 18 #[vI id, vU pc] w fun e w' => e = .returned (newV id pc).val ∧ Below w.heap.size w w' := by
  go_enter Try.func18, Try.ntmps18
  go_upto_region 1 with fail
  iterate 7 go_step
  with_reducible refine wpList_build_new rfl _ _ rfl id pc rfl rfl ?_
  simp only [Act.put, List.setIfInBounds_toArray, List.set_cons_succ, List.set_cons_zero]
  with_reducible refine wpList_store_row rfl 26 _ _ rfl _ _ rfl rfl 26 _ (heap_alloc_new _ _) (Cor.info _) ?_ (Cor.one _) ?_
  focus (rw [Cor.size]; rfl)
  go_wp2
  refine bodyPost_ret (back_one rfl _ _ _ _ _ _ rfl (setRow_heap _ _ _ _ _ _ (heap_alloc_new _ _))) rfl ?_
  exact ⟨rfl, by repeat (first | exact Below.refl _ _ | apply below_more | apply below_drew | apply below_drewN | (refine below_setRow ?_ (by simp)))⟩
def setV (c : Cor) (sys v : Int) : Cor := bif sys == 17920 then { c with vbar := v - v % 2048 } else bif sys == 16897 then { c with elr := v } else bif sys == 16896 then { c with spsr := v } else bif sys == 17040 then { c with esr := v % 4294967296 } else bif sys == 17152 then { c with far := v } else bif sys == 16904 then { c with sp0 := v } else bif sys == 24194 then { c with tpidr := v } else bif sys == 23056 then setNzcvV c v else bif sys == 23057 then { c with mask := bitB v 7 } else nilC
theorem tm_vbar {v : Int} (h : U64 v) : v - v.tmod 2048 = v - v % 2048 := by rw [Int.tmod_eq_emod_of_nonneg h.1]
theorem tm_esr {v : Int} (h : U64 v) : v.tmod 4294967296 = v % 4294967296 := by rw [Int.tmod_eq_emod_of_nonneg h.1]
theorem wr_vbar {v : Int} (h : U64 v) : IntKind.u64.wrap (v - v % 2048) = v - v % 2048 := by
  have := h.1; have := h.2
  rw [IntKind.wrap_u64]; omega
theorem heap_two {w x : World} {A B : Obj} (h : Below ((w.alloc A).alloc B).heap.size ((w.alloc A).alloc B) x) : x.heap[w.heap.size]? = some A ∧ x.heap[w.heap.size + 1]? = some B := by
  have e : ((w.alloc A).alloc B).heap.size = w.heap.size + 2 := by simp
  rw [e] at h
  rw [h.block _ (by omega), h.block _ (by omega)]
  exact ⟨heap_alloc2_old _ _ _, heap_alloc2_new _ _ _⟩
set_option maxHeartbeats 1000000 in
theorem Set_vbar (c : Cor) (v : Int) (hv : Hid (U64 v)) (w : World) : Calls Try.prog 27 #[c.val, vI 17920, vU v] w fun e w' => e = .returned (.tuple #[({ c with vbar := v - v % 2048 } : Cor).val, .bool true]) ∧ Below w.heap.size w w' := by
  have e1 := andNot_vbar hv.out
  go_enter Try.func27, Try.ntmps27
  go_upto_region 14 with (go_at_call 33; refine (place_vbar _ _).mono ?_; rintro e w1 ⟨rfl, rfl⟩)
  go_step
  with_reducible refine wpList_load_row rfl 26 _ rfl _ rfl 26 _ (0, 0) _ (heap_alloc2_old _ _ _) Try.underlying26 rfl (Cor.info _) ?_
  simp only [Act.put, List.setIfInBounds_toArray, List.set_cons_succ, List.set_cons_zero]
  with_reducible refine wpList_store_row rfl 26 _ _ rfl _ _ rfl rfl 26 _ (heap_alloc2_new _ _ _) (Cor.info _) ?_ (Cor.one _) ?_
  focus (rw [Cor.size]; rfl)
  go_wp2
  refine bodyPost_ret (back_two rfl _ _ _ _ _ _ rfl (setRow_heap _ _ _ _ _ _ (heap_alloc2_new _ _ _))) rfl ?_
  exact ⟨rfl, by repeat (first | exact Below.refl _ _ | apply below_more | apply below_drew | apply below_drewN | (refine below_setRow ?_ (by simp)))⟩
set_option maxHeartbeats 1000000 in
theorem Set_elr (c : Cor) (v : Int) (_hv : Hid (U64 v)) (w : World) : Calls Try.prog 27 #[c.val, vI 16897, vU v] w fun e w' => e = .returned (.tuple #[({ c with elr := v } : Cor).val, .bool true]) ∧ Below w.heap.size w w' := by
  go_enter Try.func27, Try.ntmps27
  go_upto_region 14 with (go_at_call 33; refine (place_elr _ _).mono ?_; rintro e w1 ⟨rfl, rfl⟩)
  go_step
  with_reducible refine wpList_load_row rfl 26 _ rfl _ rfl 26 _ (0, 0) _ (heap_alloc2_old _ _ _) Try.underlying26 rfl (Cor.info _) ?_
  simp only [Act.put, List.setIfInBounds_toArray, List.set_cons_succ, List.set_cons_zero]
  with_reducible refine wpList_store_row rfl 26 _ _ rfl _ _ rfl rfl 26 _ (heap_alloc2_new _ _ _) (Cor.info _) ?_ (Cor.one _) ?_
  focus (rw [Cor.size]; rfl)
  go_wp2
  refine bodyPost_ret (back_two rfl _ _ _ _ _ _ rfl (setRow_heap _ _ _ _ _ _ (heap_alloc2_new _ _ _))) rfl ?_
  exact ⟨rfl, by repeat (first | exact Below.refl _ _ | apply below_more | apply below_drew | apply below_drewN | (refine below_setRow ?_ (by simp)))⟩
set_option maxHeartbeats 1000000 in
theorem Set_spsr (c : Cor) (v : Int) (_hv : Hid (U64 v)) (w : World) : Calls Try.prog 27 #[c.val, vI 16896, vU v] w fun e w' => e = .returned (.tuple #[({ c with spsr := v } : Cor).val, .bool true]) ∧ Below w.heap.size w w' := by
  go_enter Try.func27, Try.ntmps27
  go_upto_region 14 with (go_at_call 33; refine (place_spsr _ _).mono ?_; rintro e w1 ⟨rfl, rfl⟩)
  go_step
  with_reducible refine wpList_load_row rfl 26 _ rfl _ rfl 26 _ (0, 0) _ (heap_alloc2_old _ _ _) Try.underlying26 rfl (Cor.info _) ?_
  simp only [Act.put, List.setIfInBounds_toArray, List.set_cons_succ, List.set_cons_zero]
  with_reducible refine wpList_store_row rfl 26 _ _ rfl _ _ rfl rfl 26 _ (heap_alloc2_new _ _ _) (Cor.info _) ?_ (Cor.one _) ?_
  focus (rw [Cor.size]; rfl)
  go_wp2
  refine bodyPost_ret (back_two rfl _ _ _ _ _ _ rfl (setRow_heap _ _ _ _ _ _ (heap_alloc2_new _ _ _))) rfl ?_
  exact ⟨rfl, by repeat (first | exact Below.refl _ _ | apply below_more | apply below_drew | apply below_drewN | (refine below_setRow ?_ (by simp)))⟩
set_option maxHeartbeats 1000000 in
theorem Set_esr (c : Cor) (v : Int) (hv : Hid (U64 v)) (w : World) : Calls Try.prog 27 #[c.val, vI 17040, vU v] w fun e w' => e = .returned (.tuple #[({ c with esr := v % 4294967296 } : Cor).val, .bool true]) ∧ Below w.heap.size w w' := by
  have e1 := and_word hv.out
  go_enter Try.func27, Try.ntmps27
  go_upto_region 14 with (go_at_call 33; refine (place_esr _ _).mono ?_; rintro e w1 ⟨rfl, rfl⟩)
  go_step
  with_reducible refine wpList_load_row rfl 26 _ rfl _ rfl 26 _ (0, 0) _ (heap_alloc2_old _ _ _) Try.underlying26 rfl (Cor.info _) ?_
  simp only [Act.put, List.setIfInBounds_toArray, List.set_cons_succ, List.set_cons_zero]
  with_reducible refine wpList_store_row rfl 26 _ _ rfl _ _ rfl rfl 26 _ (heap_alloc2_new _ _ _) (Cor.info _) ?_ (Cor.one _) ?_
  focus (rw [Cor.size]; rfl)
  go_wp2
  refine bodyPost_ret (back_two rfl _ _ _ _ _ _ rfl (setRow_heap _ _ _ _ _ _ (heap_alloc2_new _ _ _))) rfl ?_
  exact ⟨rfl, by repeat (first | exact Below.refl _ _ | apply below_more | apply below_drew | apply below_drewN | (refine below_setRow ?_ (by simp)))⟩
set_option maxHeartbeats 1000000 in
theorem Set_far (c : Cor) (v : Int) (_hv : Hid (U64 v)) (w : World) : Calls Try.prog 27 #[c.val, vI 17152, vU v] w fun e w' => e = .returned (.tuple #[({ c with far := v } : Cor).val, .bool true]) ∧ Below w.heap.size w w' := by
  go_enter Try.func27, Try.ntmps27
  go_upto_region 14 with (go_at_call 33; refine (place_far _ _).mono ?_; rintro e w1 ⟨rfl, rfl⟩)
  go_step
  with_reducible refine wpList_load_row rfl 26 _ rfl _ rfl 26 _ (0, 0) _ (heap_alloc2_old _ _ _) Try.underlying26 rfl (Cor.info _) ?_
  simp only [Act.put, List.setIfInBounds_toArray, List.set_cons_succ, List.set_cons_zero]
  with_reducible refine wpList_store_row rfl 26 _ _ rfl _ _ rfl rfl 26 _ (heap_alloc2_new _ _ _) (Cor.info _) ?_ (Cor.one _) ?_
  focus (rw [Cor.size]; rfl)
  go_wp2
  refine bodyPost_ret (back_two rfl _ _ _ _ _ _ rfl (setRow_heap _ _ _ _ _ _ (heap_alloc2_new _ _ _))) rfl ?_
  exact ⟨rfl, by repeat (first | exact Below.refl _ _ | apply below_more | apply below_drew | apply below_drewN | (refine below_setRow ?_ (by simp)))⟩
set_option maxHeartbeats 1000000 in
theorem Set_sp0 (c : Cor) (v : Int) (_hv : Hid (U64 v)) (w : World) : Calls Try.prog 27 #[c.val, vI 16904, vU v] w fun e w' => e = .returned (.tuple #[({ c with sp0 := v } : Cor).val, .bool true]) ∧ Below w.heap.size w w' := by
  go_enter Try.func27, Try.ntmps27
  go_upto_region 14 with (go_at_call 33; refine (place_sp0 _ _).mono ?_; rintro e w1 ⟨rfl, rfl⟩)
  go_step
  with_reducible refine wpList_load_row rfl 26 _ rfl _ rfl 26 _ (0, 0) _ (heap_alloc2_old _ _ _) Try.underlying26 rfl (Cor.info _) ?_
  simp only [Act.put, List.setIfInBounds_toArray, List.set_cons_succ, List.set_cons_zero]
  with_reducible refine wpList_store_row rfl 26 _ _ rfl _ _ rfl rfl 26 _ (heap_alloc2_new _ _ _) (Cor.info _) ?_ (Cor.one _) ?_
  focus (rw [Cor.size]; rfl)
  go_wp2
  refine bodyPost_ret (back_two rfl _ _ _ _ _ _ rfl (setRow_heap _ _ _ _ _ _ (heap_alloc2_new _ _ _))) rfl ?_
  exact ⟨rfl, by repeat (first | exact Below.refl _ _ | apply below_more | apply below_drew | apply below_drewN | (refine below_setRow ?_ (by simp)))⟩
set_option maxHeartbeats 1000000 in
theorem Set_tpidr (c : Cor) (v : Int) (_hv : Hid (U64 v)) (w : World) : Calls Try.prog 27 #[c.val, vI 24194, vU v] w fun e w' => e = .returned (.tuple #[({ c with tpidr := v } : Cor).val, .bool true]) ∧ Below w.heap.size w w' := by
  go_enter Try.func27, Try.ntmps27
  go_upto_region 14 with (go_at_call 33; refine (place_tpidr _ _).mono ?_; rintro e w1 ⟨rfl, rfl⟩)
  go_step
  with_reducible refine wpList_load_row rfl 26 _ rfl _ rfl 26 _ (0, 0) _ (heap_alloc2_old _ _ _) Try.underlying26 rfl (Cor.info _) ?_
  simp only [Act.put, List.setIfInBounds_toArray, List.set_cons_succ, List.set_cons_zero]
  with_reducible refine wpList_store_row rfl 26 _ _ rfl _ _ rfl rfl 26 _ (heap_alloc2_new _ _ _) (Cor.info _) ?_ (Cor.one _) ?_
  focus (rw [Cor.size]; rfl)
  go_wp2
  refine bodyPost_ret (back_two rfl _ _ _ _ _ _ rfl (setRow_heap _ _ _ _ _ _ (heap_alloc2_new _ _ _))) rfl ?_
  exact ⟨rfl, by repeat (first | exact Below.refl _ _ | apply below_more | apply below_drew | apply below_drewN | (refine below_setRow ?_ (by simp)))⟩
set_option maxHeartbeats 1000000 in
theorem Set_daif (c : Cor) (v : Int) (hv : Hid (U64 v)) (w : World) : Calls Try.prog 27 #[c.val, vI 23057, vU v] w fun e w' => e = .returned (.tuple #[({ c with mask := bitB v 7 } : Cor).val, .bool true]) ∧ Below w.heap.size w w' := by
  have e1 := and_7 hv.out
  go_enter Try.func27, Try.ntmps27
  go_upto_region 6 with fail
  go_step
  with_reducible refine wpList_load_row rfl 26 _ rfl _ rfl 26 _ (0, 0) _ (heap_alloc2_old _ _ _) Try.underlying26 rfl (Cor.info _) ?_
  simp only [Act.put, List.setIfInBounds_toArray, List.set_cons_succ, List.set_cons_zero]
  with_reducible refine wpList_store_row rfl 26 _ _ rfl _ _ rfl rfl 26 _ (heap_alloc2_new _ _ _) (Cor.info _) ?_ (Cor.one _) ?_
  focus (rw [Cor.size]; rfl)
  go_wp2
  refine bodyPost_ret (back_two rfl _ _ _ _ _ _ rfl (setRow_heap _ _ _ _ _ _ (heap_alloc2_new _ _ _))) rfl ?_
  exact ⟨rfl, by repeat (first | exact Below.refl _ _ | apply below_more | apply below_drew | apply below_drewN | (refine below_setRow ?_ (by simp)))⟩
set_option maxHeartbeats 1000000 in
theorem Set_nzcv (c : Cor) (v : Int) (hv : Hid (U64 v)) (w : World) : Calls Try.prog 27 #[c.val, vI 23056, vU v] w fun e w' => e = .returned (.tuple #[(setNzcvV c v).val, .bool true]) ∧ Below w.heap.size w w' := by
  go_enter Try.func27, Try.ntmps27
  go_upto_region 3 with fail
  go_step
  with_reducible refine wpList_load_row rfl 26 _ rfl _ rfl 26 _ (0, 0) _ (heap_alloc2_old _ _ _) Try.underlying26 rfl (Cor.info _) ?_
  simp only [Act.put, List.setIfInBounds_toArray, List.set_cons_succ, List.set_cons_zero]
  iterate 5 go_step
  go_at_call 23
  refine (SetNzcv_c _ _ hv _).mono ?_
  rintro e w1 ⟨rfl, hb⟩
  dsimp only
  go_step
  have hh := heap_two hb
  have hB := below_then (below_more (below_alloc _ _)) hb
  with_reducible refine wpList_store_row rfl 26 _ _ rfl _ _ rfl rfl 26 _ hh.2 (Cor.info _) ?_ (Cor.one _) ?_
  focus (rw [Cor.size]; rfl)
  go_wp2
  refine bodyPost_ret (back_two rfl _ _ _ _ _ _ rfl (setRow_heap _ _ _ _ _ _ hh.2)) rfl ?_
  exact ⟨rfl, below_setRow hB (by simp)⟩
set_option maxHeartbeats 1000000 in
theorem Set_no (c : Cor) (sys v : Int) (h17920 : sys ≠ 17920) (h16897 : sys ≠ 16897) (h16896 : sys ≠ 16896) (h17040 : sys ≠ 17040) (h17152 : sys ≠ 17152) (h16904 : sys ≠ 16904) (h24194 : sys ≠ 24194) (h23056 : sys ≠ 23056) (h23057 : sys ≠ 23057) (w : World) : Calls Try.prog 27 #[c.val, vI sys, vU v] w fun e w' => e = .returned (.tuple #[nilC.val, .bool false]) ∧ Below w.heap.size w w' := by
  go_enter Try.func27, Try.ntmps27
  go_upto_region 15 with (go_at_call 33; refine (place_no _ _ h17920 h16897 h16896 h17040 h17152 h16904 h24194 _).mono ?_; rintro e w1 ⟨rfl, rfl⟩)
  go_step
  with_reducible refine wpList_build_nil rfl rfl ?_
  simp only [Act.put, List.setIfInBounds_toArray, List.set_cons_succ, List.set_cons_zero]
  with_reducible refine wpList_store_row rfl 26 _ _ rfl _ _ rfl rfl 26 _ (heap_alloc2_new _ _ _) (Cor.info _) ?_ (Cor.one _) ?_
  focus (rw [Cor.size]; rfl)
  go_wp2
  refine bodyPost_ret (back_two rfl _ _ _ _ _ _ rfl (setRow_heap _ _ _ _ _ _ (heap_alloc2_new _ _ _))) rfl ?_
  exact ⟨rfl, by repeat (first | exact Below.refl _ _ | apply below_more | apply below_drew | apply below_drewN | (refine below_setRow ?_ (by simp)))⟩
set_option maxHeartbeats 1000000 in
theorem refSet_vbar (c : Cor) (v : Int) (hv : Hid (U64 v)) (w : World) : Calls Try.prog 28 #[c.val, vI 17920, vU v] w fun e w' => e = .returned (.tuple #[({ c with vbar := v - v % 2048 } : Cor).val, .bool true]) ∧ Below w.heap.size w w' := by
  have e1 := tm_vbar hv.out
  have e2 := wr_vbar hv.out
  go_enter Try.func28, Try.ntmps28
  go_upto_region 21 with fail
  go_step
  with_reducible refine wpList_load_row rfl 26 _ rfl _ rfl 26 _ (0, 0) _ (heap_alloc2_old _ _ _) Try.underlying26 rfl (Cor.info _) ?_
  simp only [Act.put, List.setIfInBounds_toArray, List.set_cons_succ, List.set_cons_zero]
  with_reducible refine wpList_store_row rfl 26 _ _ rfl _ _ rfl rfl 26 _ (heap_alloc2_new _ _ _) (Cor.info _) ?_ (Cor.one _) ?_
  focus (rw [Cor.size]; rfl)
  go_wp2
  refine bodyPost_ret (back_two rfl _ _ _ _ _ _ rfl (setRow_heap _ _ _ _ _ _ (heap_alloc2_new _ _ _))) rfl ?_
  exact ⟨rfl, by repeat (first | exact Below.refl _ _ | apply below_more | apply below_drew | apply below_drewN | (refine below_setRow ?_ (by simp)))⟩
set_option maxHeartbeats 1000000 in
theorem refSet_elr (c : Cor) (v : Int) (_hv : Hid (U64 v)) (w : World) : Calls Try.prog 28 #[c.val, vI 16897, vU v] w fun e w' => e = .returned (.tuple #[({ c with elr := v } : Cor).val, .bool true]) ∧ Below w.heap.size w w' := by
  go_enter Try.func28, Try.ntmps28
  go_upto_region 21 with fail
  go_step
  with_reducible refine wpList_load_row rfl 26 _ rfl _ rfl 26 _ (0, 0) _ (heap_alloc2_old _ _ _) Try.underlying26 rfl (Cor.info _) ?_
  simp only [Act.put, List.setIfInBounds_toArray, List.set_cons_succ, List.set_cons_zero]
  with_reducible refine wpList_store_row rfl 26 _ _ rfl _ _ rfl rfl 26 _ (heap_alloc2_new _ _ _) (Cor.info _) ?_ (Cor.one _) ?_
  focus (rw [Cor.size]; rfl)
  go_wp2
  refine bodyPost_ret (back_two rfl _ _ _ _ _ _ rfl (setRow_heap _ _ _ _ _ _ (heap_alloc2_new _ _ _))) rfl ?_
  exact ⟨rfl, by repeat (first | exact Below.refl _ _ | apply below_more | apply below_drew | apply below_drewN | (refine below_setRow ?_ (by simp)))⟩
set_option maxHeartbeats 1000000 in
theorem refSet_spsr (c : Cor) (v : Int) (_hv : Hid (U64 v)) (w : World) : Calls Try.prog 28 #[c.val, vI 16896, vU v] w fun e w' => e = .returned (.tuple #[({ c with spsr := v } : Cor).val, .bool true]) ∧ Below w.heap.size w w' := by
  go_enter Try.func28, Try.ntmps28
  go_upto_region 21 with fail
  go_step
  with_reducible refine wpList_load_row rfl 26 _ rfl _ rfl 26 _ (0, 0) _ (heap_alloc2_old _ _ _) Try.underlying26 rfl (Cor.info _) ?_
  simp only [Act.put, List.setIfInBounds_toArray, List.set_cons_succ, List.set_cons_zero]
  with_reducible refine wpList_store_row rfl 26 _ _ rfl _ _ rfl rfl 26 _ (heap_alloc2_new _ _ _) (Cor.info _) ?_ (Cor.one _) ?_
  focus (rw [Cor.size]; rfl)
  go_wp2
  refine bodyPost_ret (back_two rfl _ _ _ _ _ _ rfl (setRow_heap _ _ _ _ _ _ (heap_alloc2_new _ _ _))) rfl ?_
  exact ⟨rfl, by repeat (first | exact Below.refl _ _ | apply below_more | apply below_drew | apply below_drewN | (refine below_setRow ?_ (by simp)))⟩
set_option maxHeartbeats 1000000 in
theorem refSet_esr (c : Cor) (v : Int) (hv : Hid (U64 v)) (w : World) : Calls Try.prog 28 #[c.val, vI 17040, vU v] w fun e w' => e = .returned (.tuple #[({ c with esr := v % 4294967296 } : Cor).val, .bool true]) ∧ Below w.heap.size w w' := by
  have e1 := tm_esr hv.out
  go_enter Try.func28, Try.ntmps28
  go_upto_region 21 with fail
  go_step
  with_reducible refine wpList_load_row rfl 26 _ rfl _ rfl 26 _ (0, 0) _ (heap_alloc2_old _ _ _) Try.underlying26 rfl (Cor.info _) ?_
  simp only [Act.put, List.setIfInBounds_toArray, List.set_cons_succ, List.set_cons_zero]
  with_reducible refine wpList_store_row rfl 26 _ _ rfl _ _ rfl rfl 26 _ (heap_alloc2_new _ _ _) (Cor.info _) ?_ (Cor.one _) ?_
  focus (rw [Cor.size]; rfl)
  go_wp2
  refine bodyPost_ret (back_two rfl _ _ _ _ _ _ rfl (setRow_heap _ _ _ _ _ _ (heap_alloc2_new _ _ _))) rfl ?_
  exact ⟨rfl, by repeat (first | exact Below.refl _ _ | apply below_more | apply below_drew | apply below_drewN | (refine below_setRow ?_ (by simp)))⟩
set_option maxHeartbeats 1000000 in
theorem refSet_far (c : Cor) (v : Int) (_hv : Hid (U64 v)) (w : World) : Calls Try.prog 28 #[c.val, vI 17152, vU v] w fun e w' => e = .returned (.tuple #[({ c with far := v } : Cor).val, .bool true]) ∧ Below w.heap.size w w' := by
  go_enter Try.func28, Try.ntmps28
  go_upto_region 21 with fail
  go_step
  with_reducible refine wpList_load_row rfl 26 _ rfl _ rfl 26 _ (0, 0) _ (heap_alloc2_old _ _ _) Try.underlying26 rfl (Cor.info _) ?_
  simp only [Act.put, List.setIfInBounds_toArray, List.set_cons_succ, List.set_cons_zero]
  with_reducible refine wpList_store_row rfl 26 _ _ rfl _ _ rfl rfl 26 _ (heap_alloc2_new _ _ _) (Cor.info _) ?_ (Cor.one _) ?_
  focus (rw [Cor.size]; rfl)
  go_wp2
  refine bodyPost_ret (back_two rfl _ _ _ _ _ _ rfl (setRow_heap _ _ _ _ _ _ (heap_alloc2_new _ _ _))) rfl ?_
  exact ⟨rfl, by repeat (first | exact Below.refl _ _ | apply below_more | apply below_drew | apply below_drewN | (refine below_setRow ?_ (by simp)))⟩
set_option maxHeartbeats 1000000 in
theorem refSet_sp0 (c : Cor) (v : Int) (_hv : Hid (U64 v)) (w : World) : Calls Try.prog 28 #[c.val, vI 16904, vU v] w fun e w' => e = .returned (.tuple #[({ c with sp0 := v } : Cor).val, .bool true]) ∧ Below w.heap.size w w' := by
  go_enter Try.func28, Try.ntmps28
  go_upto_region 21 with fail
  go_step
  with_reducible refine wpList_load_row rfl 26 _ rfl _ rfl 26 _ (0, 0) _ (heap_alloc2_old _ _ _) Try.underlying26 rfl (Cor.info _) ?_
  simp only [Act.put, List.setIfInBounds_toArray, List.set_cons_succ, List.set_cons_zero]
  with_reducible refine wpList_store_row rfl 26 _ _ rfl _ _ rfl rfl 26 _ (heap_alloc2_new _ _ _) (Cor.info _) ?_ (Cor.one _) ?_
  focus (rw [Cor.size]; rfl)
  go_wp2
  refine bodyPost_ret (back_two rfl _ _ _ _ _ _ rfl (setRow_heap _ _ _ _ _ _ (heap_alloc2_new _ _ _))) rfl ?_
  exact ⟨rfl, by repeat (first | exact Below.refl _ _ | apply below_more | apply below_drew | apply below_drewN | (refine below_setRow ?_ (by simp)))⟩
set_option maxHeartbeats 1000000 in
theorem refSet_tpidr (c : Cor) (v : Int) (_hv : Hid (U64 v)) (w : World) : Calls Try.prog 28 #[c.val, vI 24194, vU v] w fun e w' => e = .returned (.tuple #[({ c with tpidr := v } : Cor).val, .bool true]) ∧ Below w.heap.size w w' := by
  go_enter Try.func28, Try.ntmps28
  go_upto_region 21 with fail
  go_step
  with_reducible refine wpList_load_row rfl 26 _ rfl _ rfl 26 _ (0, 0) _ (heap_alloc2_old _ _ _) Try.underlying26 rfl (Cor.info _) ?_
  simp only [Act.put, List.setIfInBounds_toArray, List.set_cons_succ, List.set_cons_zero]
  with_reducible refine wpList_store_row rfl 26 _ _ rfl _ _ rfl rfl 26 _ (heap_alloc2_new _ _ _) (Cor.info _) ?_ (Cor.one _) ?_
  focus (rw [Cor.size]; rfl)
  go_wp2
  refine bodyPost_ret (back_two rfl _ _ _ _ _ _ rfl (setRow_heap _ _ _ _ _ _ (heap_alloc2_new _ _ _))) rfl ?_
  exact ⟨rfl, by repeat (first | exact Below.refl _ _ | apply below_more | apply below_drew | apply below_drewN | (refine below_setRow ?_ (by simp)))⟩
set_option maxHeartbeats 1000000 in
theorem refSet_daif (c : Cor) (v : Int) (hv : Hid (U64 v)) (w : World) : Calls Try.prog 28 #[c.val, vI 23057, vU v] w fun e w' => e = .returned (.tuple #[({ c with mask := bitB v 7 } : Cor).val, .bool true]) ∧ Below w.heap.size w w' := by
  have e1 := tm_7 hv.out
  go_enter Try.func28, Try.ntmps28
  go_upto_region 21 with fail
  go_step
  with_reducible refine wpList_load_row rfl 26 _ rfl _ rfl 26 _ (0, 0) _ (heap_alloc2_old _ _ _) Try.underlying26 rfl (Cor.info _) ?_
  simp only [Act.put, List.setIfInBounds_toArray, List.set_cons_succ, List.set_cons_zero]
  with_reducible refine wpList_store_row rfl 26 _ _ rfl _ _ rfl rfl 26 _ (heap_alloc2_new _ _ _) (Cor.info _) ?_ (Cor.one _) ?_
  focus (rw [Cor.size]; rfl)
  go_wp2
  refine bodyPost_ret (back_two rfl _ _ _ _ _ _ rfl (setRow_heap _ _ _ _ _ _ (heap_alloc2_new _ _ _))) rfl ?_
  exact ⟨rfl, by repeat (first | exact Below.refl _ _ | apply below_more | apply below_drew | apply below_drewN | (refine below_setRow ?_ (by simp)))⟩
set_option maxHeartbeats 1000000 in
theorem refSet_nzcv (c : Cor) (v : Int) (hv : Hid (U64 v)) (w : World) : Calls Try.prog 28 #[c.val, vI 23056, vU v] w fun e w' => e = .returned (.tuple #[(setNzcvV c v).val, .bool true]) ∧ Below w.heap.size w w' := by
  go_enter Try.func28, Try.ntmps28
  go_upto_region 18 with fail
  go_step
  with_reducible refine wpList_load_row rfl 26 _ rfl _ rfl 26 _ (0, 0) _ (heap_alloc2_old _ _ _) Try.underlying26 rfl (Cor.info _) ?_
  simp only [Act.put, List.setIfInBounds_toArray, List.set_cons_succ, List.set_cons_zero]
  iterate 5 go_step
  go_at_call 24
  refine (refSetNzcv_c _ _ hv _).mono ?_
  rintro e w1 ⟨rfl, hb⟩
  dsimp only
  go_step
  have hh := heap_two hb
  have hB := below_then (below_more (below_alloc _ _)) hb
  with_reducible refine wpList_store_row rfl 26 _ _ rfl _ _ rfl rfl 26 _ hh.1 (Cor.info _) ?_ (Cor.one _) ?_
  focus (rw [Cor.size, Cor.size])
  go_upto_region 21 with fail
  go_step
  with_reducible refine wpList_load_row rfl 26 _ rfl _ rfl 26 _ (0, 0) _ (setRow_heap _ _ _ _ _ _ hh.1) Try.underlying26 rfl (Cor.info _) ?_
  simp only [Act.put, List.setIfInBounds_toArray, List.set_cons_succ, List.set_cons_zero]
  with_reducible refine wpList_store_row rfl 26 _ _ rfl _ _ rfl rfl 26 _ ((setRow_other _ _ _ _ (Nat.succ_ne_self _)).trans hh.2) (Cor.info _) ?_ (Cor.one _) ?_
  focus (rw [Cor.size]; rfl)
  go_wp2
  refine bodyPost_ret (back_two rfl _ _ _ _ _ _ rfl (setRow_heap _ _ _ _ _ _ ((setRow_other _ _ _ _ (Nat.succ_ne_self _)).trans hh.2))) rfl ?_
  exact ⟨rfl, below_setRow (below_setRow hB (Nat.le_refl _)) (by simp)⟩
set_option maxHeartbeats 1000000 in
theorem refSet_no (c : Cor) (sys v : Int) (h17920 : sys ≠ 17920) (h16897 : sys ≠ 16897) (h16896 : sys ≠ 16896) (h17040 : sys ≠ 17040) (h17152 : sys ≠ 17152) (h16904 : sys ≠ 16904) (h24194 : sys ≠ 24194) (h23056 : sys ≠ 23056) (h23057 : sys ≠ 23057) (w : World) : Calls Try.prog 28 #[c.val, vI sys, vU v] w fun e w' => e = .returned (.tuple #[nilC.val, .bool false]) ∧ Below w.heap.size w w' := by
  go_enter Try.func28, Try.ntmps28
  go_upto_region 2 with fail
  go_step
  with_reducible refine wpList_build_nil rfl rfl ?_
  simp only [Act.put, List.setIfInBounds_toArray, List.set_cons_succ, List.set_cons_zero]
  with_reducible refine wpList_store_row rfl 26 _ _ rfl _ _ rfl rfl 26 _ (heap_alloc2_new _ _ _) (Cor.info _) ?_ (Cor.one _) ?_
  focus (rw [Cor.size]; rfl)
  go_wp2
  refine bodyPost_ret (back_two rfl _ _ _ _ _ _ rfl (setRow_heap _ _ _ _ _ _ (heap_alloc2_new _ _ _))) rfl ?_
  exact ⟨rfl, by repeat (first | exact Below.refl _ _ | apply below_more | apply below_drew | apply below_drewN | (refine below_setRow ?_ (by simp)))⟩
theorem Set_c (c : Cor) (sys v : Int) (hv : Hid (U64 v)) (w : World) : Calls Try.prog 27 #[c.val, vI sys, vU v] w fun e w' => e = .returned (.tuple #[(setV c sys v).val, .bool (setB sys)]) ∧ Below w.heap.size w w' := by
  by_cases h17920 : sys = 17920
  · subst h17920; exact Set_vbar c v hv w
  by_cases h16897 : sys = 16897
  · subst h16897; exact Set_elr c v hv w
  by_cases h16896 : sys = 16896
  · subst h16896; exact Set_spsr c v hv w
  by_cases h17040 : sys = 17040
  · subst h17040; exact Set_esr c v hv w
  by_cases h17152 : sys = 17152
  · subst h17152; exact Set_far c v hv w
  by_cases h16904 : sys = 16904
  · subst h16904; exact Set_sp0 c v hv w
  by_cases h24194 : sys = 24194
  · subst h24194; exact Set_tpidr c v hv w
  by_cases h23056 : sys = 23056
  · subst h23056; exact Set_nzcv c v hv w
  by_cases h23057 : sys = 23057
  · subst h23057; exact Set_daif c v hv w
  have h := Set_no c sys v h17920 h16897 h16896 h17040 h17152 h16904 h24194 h23056 h23057 w
  rwa [show nilC = setV c sys v by simp only [setV, beq_false_of_ne h17920, beq_false_of_ne h16897, beq_false_of_ne h16896, beq_false_of_ne h17040, beq_false_of_ne h17152, beq_false_of_ne h16904, beq_false_of_ne h24194, beq_false_of_ne h23056, beq_false_of_ne h23057, cond_false], show false = setB sys by simp only [setB, beq_false_of_ne h17920, beq_false_of_ne h16897, beq_false_of_ne h16896, beq_false_of_ne h17040, beq_false_of_ne h17152, beq_false_of_ne h16904, beq_false_of_ne h24194, beq_false_of_ne h23056, beq_false_of_ne h23057, Bool.or_false]] at h
theorem refSet_c (c : Cor) (sys v : Int) (hv : Hid (U64 v)) (w : World) : Calls Try.prog 28 #[c.val, vI sys, vU v] w fun e w' => e = .returned (.tuple #[(setV c sys v).val, .bool (setB sys)]) ∧ Below w.heap.size w w' := by
  by_cases h17920 : sys = 17920
  · subst h17920; exact refSet_vbar c v hv w
  by_cases h16897 : sys = 16897
  · subst h16897; exact refSet_elr c v hv w
  by_cases h16896 : sys = 16896
  · subst h16896; exact refSet_spsr c v hv w
  by_cases h17040 : sys = 17040
  · subst h17040; exact refSet_esr c v hv w
  by_cases h17152 : sys = 17152
  · subst h17152; exact refSet_far c v hv w
  by_cases h16904 : sys = 16904
  · subst h16904; exact refSet_sp0 c v hv w
  by_cases h24194 : sys = 24194
  · subst h24194; exact refSet_tpidr c v hv w
  by_cases h23056 : sys = 23056
  · subst h23056; exact refSet_nzcv c v hv w
  by_cases h23057 : sys = 23057
  · subst h23057; exact refSet_daif c v hv w
  have h := refSet_no c sys v h17920 h16897 h16896 h17040 h17152 h16904 h24194 h23056 h23057 w
  rwa [show nilC = setV c sys v by simp only [setV, beq_false_of_ne h17920, beq_false_of_ne h16897, beq_false_of_ne h16896, beq_false_of_ne h17040, beq_false_of_ne h17152, beq_false_of_ne h16904, beq_false_of_ne h24194, beq_false_of_ne h23056, beq_false_of_ne h23057, cond_false], show false = setB sys by simp only [setB, beq_false_of_ne h17920, beq_false_of_ne h16897, beq_false_of_ne h16896, beq_false_of_ne h17040, beq_false_of_ne h17152, beq_false_of_ne h16904, beq_false_of_ne h24194, beq_false_of_ne h23056, beq_false_of_ne h23057, Bool.or_false]] at h
end Go.Proofs.Ythohkemkiohicaa
