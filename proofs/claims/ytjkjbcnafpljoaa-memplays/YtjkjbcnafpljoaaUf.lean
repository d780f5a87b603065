/- The document's own memory made. -/
import Derived.Test.YtjkjbcnafpljoaaUe
namespace Go.Proofs.Ytjkjbcnafpljoaa
open Go.RowKit
set_option linter.unusedVariables false
set_option linter.unusedSimpArgs false

theorem inf28 : ∃ i, Try.prog.info? 28 = some i ∧ i.zero = some (vU 0) ∧ i.size = 1 ∧ i.bytes = 8 := by
  have h : (Try.prog.info? 28).map (fun i => (i.zero, i.size, i.bytes)) = some (some (vU 0), 1, 8) := by kernel_rfl
  cases hq : Try.prog.info? 28 with
  | none => rw [hq] at h; cases h
  | some i =>
    rw [hq] at h
    simp only [Option.map_some, Option.some.injEq, Prod.mk.injEq] at h
    exact ⟨i, rfl, h.1, h.2.1, h.2.2⟩
theorem wpList_make44 {ops : Array Oper} {rest : List Oper} {o : Oper} {a : Act} {w : World} {Q : Exit → Act → World → Prop} (hgd : o.guard = none) (x : Operand) (ho : o.op = .makeSlice 44 x x) (n : Nat) (hx : a.eval x = vI n) (hn : n < 1000000000)
    (h : ∀ b w', w'.ownsRow w.heap.size 28 1 (.slice (some ⟨b, 0, none⟩) n n) n (List.replicate n (vU 0)) → Below w.heap.size w w' → wpList Try.prog ops Q rest (a.put o.dst (.slice (some ⟨b, 0, none⟩) n n)) w') : wpList Try.prog ops Q (o :: rest) a w := by
  obtain ⟨i, h1, h2, h3, h4⟩ := inf28
  obtain ⟨w', hr, q1, q2⟩ := run_make_full (P := Try.prog) w w.heap.size 44 28 i (vU 0) 1 Try.underlying44 h1 h2 h3 .i64 .i64 n (by rw [h4]; omega) (by simp only [maxLen]; omega) (Nat.le_refl _)
  refine wpList_plain hgd fun K hK => ?_
  unfold Oper.wp execOp
  simp only [ho, hx, Sem.run_bind, hr, Result.andThen_ok]
  refine hK _ _ (h _ _ ?_ ⟨q2.os, q2.tape, q2.output, q2.size, fun k hk => q2.block k hk (by simp)⟩)
  have e : (madeCells (Value.cells (vU 0)) (n * 1)).toList = List.replicate n (vU 0) := by
    apply List.ext_getElem?
    intro j
    by_cases hj : j < n
    · simp [madeCells, hj, Value.cells, Nat.mod_one, List.getElem?_replicate]
    · simp [madeCells, hj, Value.cells, List.getElem?_replicate]
  rw [e] at q1
  exact q1
def newD (n : Nat) (c d : Int) : Doc := ⟨List.replicate n 0, c, d, [], 0⟩
set_option maxRecDepth 4000 in
theorem newD_c (n : Nat) (c d : Int) (w : World) (hn : n < 1000000) : Calls Try.prog 19 #[vI n, vI c, vI d] w fun e w' => ∃ h L, e = .returned (ptr h 0) ∧ DocAt h (newD n c d) L w' ∧ (∀ k, DocFoot h L k → w.heap.size ≤ k) ∧ Below w.heap.size w w' := by
  go_enter Try.func19, Try.ntmps19
  go_upto_region 1 with fail
  go_wp2_with ((with_reducible refine wpList_make44 rfl _ rfl n rfl (by omega) ?_); intro b x1 hrow hB; simp only [Act.put, List.setIfInBounds_toArray, List.set_cons_succ, List.set_cons_zero])
  go_ret
  refine ⟨x1.heap.size, ⟨b, .slice none 0 0⟩, rfl, ⟨?_, ?_, ?_⟩, ?_, ?_⟩
  · exact (heap_alloc_new _ _).trans (by simp [docV, newD])
  · have h2 := own_mono (own_of_block (w' := x1.alloc (.cells #[.slice (some ⟨b, 0, none⟩) n n, vI c, vI d, .slice none 0 0, .int .i64 0] 47)) hrow fun k hk => Below.heap_alloc _ _ _ (hrow.lt k hk).2) (Nat.zero_le _)
    simpa [newD] using h2
  · exact World.ownsRow_nil _ _ _ _
  · rintro k (rfl | rfl | e)
    · exact hB.size
    · exact (hrow.lt _ rfl).1
    · simp [Value.ownBlock] at e
  · exact below_then hB (Nat.le_refl _) (below_alloc _ _)
end Go.Proofs.Ytjkjbcnafpljoaa
