/- The monitor's copies of marks: begins, with. -/
import Derived.Test.YtgloemlbkkjcaaaMa
namespace Go.Proofs.Ytgloemlbkkjcaaa
open Go.RowKit
set_option linter.unusedVariables false
set_option linter.unusedSimpArgs false

section
variable {w : World} {ops : Array Oper} {rest : List Oper} {o : Oper} {a : Act} {Q : Exit → Act → World → Prop}
theorem wpList_loadMk (hw : Region.wanted o (yielded ops a.tmps) = true) (x : Operand) (ho : o.op = .load 55 x) (b k : Nat) (hx : a.eval x = ptr b k) (s : Mk) (hr : w.rangeAt b k s.row)
    (h : wpList Try.prog ops Q rest (a.put o.dst s.val) w) : wpList Try.prog ops Q (o :: rest) a w := by
  refine BigFrame.wpList_want hw fun K hK => ?_
  exact wp_load_mid 55 x ho b k hx s.row _ hr Try.underlying55 rfl inf55 (hK _ _ h)
theorem wpList_loadMs (hw : Region.wanted o (yielded ops a.tmps) = true) (x : Operand) (ho : o.op = .load 57 x) (b k : Nat) (hx : a.eval x = ptr b k) (ms : List Mk) (hr : w.rangeAt b k (flatM ms)) (hl : ms.length = 8)
    (h : wpList Try.prog ops Q rest (a.put o.dst (.agg (flatM ms).toArray)) w) : wpList Try.prog ops Q (o :: rest) a w := by
  refine BigFrame.wpList_want hw fun K hK => ?_
  exact wp_load_mid 57 x ho b k hx (flatM ms) _ hr Try.underlying57 rfl (size57 hl) (hK _ _ h)
theorem wpList_storeMk (hgd : o.guard = none) (x y : Operand) (ho : o.op = .store 55 x y) (b k : Nat) (hx : a.eval x = ptr b k) (s : Mk) (hy : a.eval y = s.val) (C : List Value) (t : TypeId) (hb : w.heap[b]? = some (.cells C.toArray t)) (hk : k + 2 ≤ C.length)
    (h : wpList Try.prog ops Q rest (a.put o.dst undef) (w.setRow b (seg C k s.row).toArray)) : wpList Try.prog ops Q (o :: rest) a w := by
  refine wpList_store_mid hgd 55 x y ho b k s.row.toArray hx hy (there_of hb hk) inf55 (all_oneCell_toArray (by intro v hv; simp only [Mk.row, List.mem_cons, List.not_mem_nil, or_false] at hv; rcases hv with rfl | rfl <;> rfl)) ?_
  rw [List.toList_toArray, setCells_row s.row k C w hb]
  exact h
theorem wpList_storeMs (hgd : o.guard = none) (x y : Operand) (ho : o.op = .store 57 x y) (b k : Nat) (hx : a.eval x = ptr b k) (ms : List Mk) (hy : a.eval y = .agg (flatM ms).toArray) (hl : ms.length = 8) (C : List Value) (t : TypeId) (hb : w.heap[b]? = some (.cells C.toArray t)) (hk : k + 16 ≤ C.length)
    (h : wpList Try.prog ops Q rest (a.put o.dst undef) (w.setRow b (seg C k (flatM ms)).toArray)) : wpList Try.prog ops Q (o :: rest) a w := by
  have e : (flatM ms).toArray.size = 16 := by rw [List.size_toArray, len_flatM, hl]
  refine wpList_store_mid hgd 57 x y ho b k (flatM ms).toArray hx hy (there_of hb (by rw [e]; exact hk)) (by rw [e]; exact inf57) (all_oneCell_toArray (one_flatM ms)) ?_
  rw [List.toList_toArray, setCells_row (flatM ms) k C w hb]
  exact h
end
theorem back_ms {fn : Func} {p : Tmp} (h : fn.results = #[.cell p 57]) (tmps : Array Value) (w : World) (g : Nat) (ms : List Mk) (hp : tmps.getD p undef = ptr g 0) (hl : ms.length = 8) (hg : w.heap[g]? = some (.cells (flatM ms).toArray 57)) :
    (results fn tmps).run Try.prog w = .ok (.agg (flatM ms).toArray) w := results_cell_row h tmps w g 57 _ (0, 0) _ hp hg Try.underlying57 rfl (by rw [List.size_toArray]; exact size57 hl)
theorem begins_c (s : Mk) (w : World) (h0 : 0 ≤ s.2) (h1 : s.2 * 64 < 18446744073709551616) : Calls Try.prog 23 #[s.val] w fun e w' => e = .returned (vU (s.2 * 64)) ∧ Below w.heap.size w w' := by
  have e1 : IntKind.u64.wrap (s.2 * 64) = s.2 * 64 := by rw [IntKind.wrap_u64]; omega
  go_enter Try.func23, Try.ntmps23
  go_wp2
  go_ret
  exact ⟨rfl, below_alloc _ _⟩
/-- Marks in a block of a call's own, a mark in another, and room for marks. -/
structure Three (w0 : World) (b : Nat) (ms : List Mk) (s : Mk) (w : World) : Prop where
  below : Below w0.heap.size w0 w
  low : w0.heap.size ≤ b
  a : w.heap[b]? = some (.cells (flatM ms).toArray 57)
  k : w.heap[b + 1]? = some (.cells s.row.toArray 55)
  z : ∃ zs : List Mk, zs.length = 8 ∧ w.heap[b + 1 + 1]? = some (.cells (flatM zs).toArray 57)
  len : ms.length = 8
def nilM : List Mk := List.replicate 8 (false, 0)
theorem three_new (w : World) (ms : List Mk) (s : Mk) (hl : ms.length = 8) : Three w w.heap.size ms s (((w.alloc (.cells (flatM ms).toArray 57)).alloc (.cells s.row.toArray 55)).alloc (.cells (flatM nilM).toArray 57)) := by
  refine ⟨((below_alloc _ _).alloc (below_alloc _ _).size _).alloc ((below_alloc _ _).alloc (below_alloc _ _).size _).size _, Nat.le_refl _, ?_, ?_, ⟨nilM, rfl, ?_⟩, hl⟩
  · rw [Below.heap_alloc _ _ _ (by simp; omega), Below.heap_alloc _ _ _ (by simp), heap_alloc_new]
  · rw [Below.heap_alloc _ _ _ (by simp)]
    have := heap_alloc_new (w.alloc (.cells (flatM ms).toArray 57)) (.cells s.row.toArray 55)
    simpa using this
  · have := heap_alloc_new ((w.alloc (.cells (flatM ms).toArray 57)).alloc (.cells s.row.toArray 55)) (.cells (flatM nilM).toArray 57)
    simpa using this
theorem Three.put {w0 w : World} {b : Nat} {ms : List Mk} {s : Mk} (h : Three w0 b ms s w) (k : Nat) (t : Mk) : Three w0 b (ms.set k t) s (w.setRow b (seg (flatM ms) (k * 2) t.row).toArray) := by
  obtain ⟨zs, hz1, hz2⟩ := h.z
  refine ⟨(goes_setRow (F := fun k => k = b) w rfl _).below h.below.size (fun k e => e ▸ h.low) |> h.below.trans, h.low, ?_, ?_, ⟨zs, hz1, ?_⟩, by rw [List.length_set]; exact h.len⟩
  · rw [seg_mark]; exact setRow_heap _ _ _ _ _ _ h.a
  · rw [setRow_other _ _ _ _ (by omega)]; exact h.k
  · rw [setRow_other _ _ _ _ (by omega)]; exact hz2
set_option maxRecDepth 4000 in
theorem with_c (ms : List Mk) (k : Nat) (s : Mk) (w : World) (hl : ms.length = 8) (hk : k < 8) : Calls Try.prog 20 #[.agg (flatM ms).toArray, vI k, s.val] w fun e w' => e = .returned (.agg (flatM (ms.set k s)).toArray) ∧ Below w.heap.size w w' := by
  have hk1 : (k : Int) < 8 := by omega
  have hk0 : (0 : Int) ≤ k := by omega
  go_enter Try.func20, Try.ntmps20
  go_upto_region 1 with fail
  have T : Three w w.heap.size ms s (((w.alloc (.cells (flatM ms).toArray 57)).alloc (.cells s.row.toArray 55)).alloc (.cells (flatM nilM).toArray 57)) := three_new w ms s hl
  generalize hy : (World.alloc (World.alloc (World.alloc w _) _) _) = y
  replace T : Three w w.heap.size ms s y := by rw [← hy]; exact T
  clear hy
  generalize w.heap.size = b at T ⊢
  have hb2 : b ≠ b + 1 := by omega
  have hr : y.rangeAt (b + 1) 0 s.row := range_of T.k (fun j v h => by simpa using h)
  have hc : k * 2 + 2 ≤ (flatM ms).length := by rw [len_flatM, hl]; omega
  go_upto_region 2 with (first | ((with_reducible refine wpList_loadMk rfl _ rfl _ _ rfl s hr ?_); simp only [Act.put, List.setIfInBounds_toArray, List.set_cons_succ, List.set_cons_zero]) | ((with_reducible refine wpList_storeMk rfl _ _ rfl b (k * 2) rfl s rfl (flatM ms) 57 T.a hc ?_); simp only [Act.put, List.setIfInBounds_toArray, List.set_cons_succ, List.set_cons_zero]))
  have T2 := T.put k s
  have hl2 : (ms.set k s).length = 8 := T2.len
  clear hr hc T
  generalize World.setRow y b _ = y2 at T2 ⊢
  generalize hns : ms.set k s = ns at T2 hl2
  obtain ⟨zs, hz1, hz2⟩ := T2.z
  have hr : y2.rangeAt b 0 (flatM ns) := range_of T2.a (fun j v h => by simpa using h)
  have hc : 0 + 16 ≤ (flatM zs).length := by rw [len_flatM, hz1]; decide
  go_wp2_with (first | ((with_reducible refine wpList_loadMs rfl _ rfl _ _ rfl ns hr hl2 ?_); simp only [Act.put, List.setIfInBounds_toArray, List.set_cons_succ, List.set_cons_zero]) | ((with_reducible refine wpList_storeMs rfl _ _ rfl (b + 1 + 1) 0 rfl ns rfl hl2 (flatM zs) 57 hz2 hc ?_); simp only [Act.put, List.setIfInBounds_toArray, List.set_cons_succ, List.set_cons_zero]))
  refine bodyPost_ret (back_ms rfl _ _ (b + 1 + 1) ns rfl hl2 ?_) rfl ⟨by rw [hns], ?_⟩
  · rw [seg_marks (by rw [hl2, hz1])]; exact setRow_heap _ _ _ _ _ _ hz2
  · exact T2.below.trans ((goes_setRow (F := fun k => k = b + 1 + 1) y2 rfl _).below T2.below.size (fun k e => by have := T2.low; omega))
end Go.Proofs.Ytgloemlbkkjcaaa
