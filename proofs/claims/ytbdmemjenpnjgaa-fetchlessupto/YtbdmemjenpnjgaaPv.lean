/- newPast. -/
import Derived.Test.YtbdmemjenpnjgaaPu
import Derived.Test.YtbdmemjenpnjgaaChx
import Derived.Great.BuildSlice
import Derived.Deep.AppendLies
namespace Go.Proofs.Ytbdmemjenpnjgaa
open Go.RowKit
set_option linter.unusedVariables false
set_option linter.unusedSimpArgs false
set_option maxRecDepth 8000

open Go.Shelf Go.Maps
theorem infI : ∃ i, Try.prog.info? 3 = some i ∧ i.zero = some (vI 0) ∧ i.size = 1 ∧ i.bytes = 8 := by
  have h : (Try.prog.info? 3).map (fun i => (i.zero, i.size, i.bytes)) = some (some (vI 0), 1, 8) := by kernel_rfl
  cases hq : Try.prog.info? 3 with
  | none => rw [hq] at h; cases h
  | some i =>
    rw [hq] at h
    simp only [Option.map_some, Option.some.injEq, Prod.mk.injEq] at h
    exact ⟨i, rfl, h.1, h.2.1, h.2.2⟩
theorem numV_append (l m : List Nat) : numV (l ++ m) = numV l ++ numV m := by simp [numV]
theorem one_numV (l : List Nat) : ∀ u ∈ numV l, u.oneCell' = true := fun u hu => by
  obtain ⟨a, _, rfl⟩ := List.mem_map.1 hu; rfl
theorem chn_app {o : Oper} {a : Act} {w : World} {F : Value → World → Prop} (T : TypeId) (hT : Try.prog.underlying T = some (.slice 3)) (s x : Operand) (ho : o.op = .call { callee := .builtin .append, args := #[s, x], argTypes := #[T, T] }) (base : Nat) (v : Value) (l : List Nat) (hs : a.eval s = v) (hown : w.ownsRow base 3 1 v l.length (numV l)) (hbase : base ≤ w.heap.size)
    (b c z : Nat) (hx : a.eval x = .slice (some ⟨b, 0, none⟩) 1 c) (hc : w.heap[b]? = some (.cells #[vI z] 3)) (hl : l.length < 10000000000000)
    (h : ∀ g cap w', w'.ownsRow base 3 1 (.slice (some ⟨g, 0, none⟩) (l.length + 1) cap) (l ++ [z]).length (numV (l ++ [z])) → w.grownBy w' v.ownBlock → (v.ownBlock = some g ∨ g = w.heap.size) → F (.slice (some ⟨g, 0, none⟩) (l.length + 1) cap) w') :
    Chn.upon Try.prog F w ((execOp a.eval o).run Try.prog w) := by
  obtain ⟨i, h1, h2, h3, h4⟩ := infI
  obtain ⟨g, cap, w', hr, q1, q2, q3, q4⟩ := run_append_lies (P := Try.prog) w T o.type base 3 i (vI 0) 1 8 hT h1 h2 h3 h4 rfl (by decide) v l.length (numV l) hown ⟨b, 0, none⟩ 1 c (numV [z]) rfl (by
    intro j u hj
    have e : (⟨b, 0, none⟩ : Addr).add j = ⟨b, j, none⟩ := by rw [Addr.add_mid, Nat.zero_add]
    rw [e, cell_of_row _ _ _ _ _ _ hc]
    simpa using hj) (one_numV _) (by decide) (by simp only [maxLen]; omega) (by omega) hbase w.heap.size rfl
  unfold execOp
  simp only [ho, resolve, invoke, builtin, Sem.run_bind, Sem.run_pure, Result.andThen_ok, List.map_toArray, List.map_cons, List.map_nil, hs, hx, hr]
  refine h g cap w' ?_ q2 q3
  rw [List.length_append, numV_append]
  exact q1
theorem chn_build {o : Oper} {a : Act} {w : World} {C : World → Prop} {N : Nat} (T : TypeId) (hT : Try.prog.underlying T = some (.slice 3)) (hN : w.heap.size = N) (x : Operand) (ho : o.op = .buildSlice T 1 #[(0, x)]) (s : Nat) (hx : a.eval x = vI s) (hC : C (w.alloc (.cells #[vI s] 3))) :
    Chn.upon Try.prog (fun v w' => v = .slice (some ⟨N, 0, none⟩) 1 1 ∧ C w') w ((execOp a.eval o).run Try.prog w) := by
  obtain ⟨i, h1, h2, h3, h4⟩ := infI
  have hf : Instr.fill (fun j => some (j * i.size, i.size)) ((Array.range (1 * i.size)).map ((vI 0).cells[· % (vI 0).cells.size]!)) (#[(0, vI s)] : Array (Nat × Value)).toList = some #[vI s] := by
    rw [h3]; kernel_rfl
  have hr := run_buildSlice (P := Try.prog) w T 3 1 #[(0, vI s)] #[vI s] i (vI 0) hT h1 h2 (by rw [h3]; decide) (by rw [h3]; decide) hf
  unfold execOp
  simp only [ho, Sem.run_bind, List.map_toArray, List.map_cons, List.map_nil, hx, hr, Result.andThen_ok]
  exact ⟨by rw [hN], hC⟩
theorem chn_store {o : Oper} {a : Act} {w w2 : World} {C : World → Prop} (ty : TypeId) (x y : Operand) (ho : o.op = .store ty x y) (b k : Nat) (hx : a.eval x = .pointer (some ⟨b, k, none⟩)) (v : Value) (hy : a.eval y = v) (hrun : (storeVar ty ⟨b, k, none⟩ v).run Try.prog w = .ok () w2) (hC : C w2) :
    Chn.upon Try.prog (fun v w' => v = undef ∧ C w') w ((execOp a.eval o).run Try.prog w) := by
  unfold execOp
  simp only [ho, hx, hy, Instr.storeAt, Instr.sureAddr, Sem.run_bind, Sem.run_pure, Result.andThen_ok, hrun]
  exact ⟨rfl, hC⟩
theorem run_cell (w : World) (ty : TypeId) (b k : Nat) (v old : Value) (hi : (Try.prog.info? ty).map (·.size) = some 1) (hv : v.oneCell' = true) (hv2 : v.cells = #[v]) (hc : w.cell? ⟨b, k, none⟩ = some old) (hf : w.frozen? ⟨b, k, none⟩ = false) : (storeVar ty ⟨b, k, none⟩ v).run Try.prog w = .ok () (w.setCell ⟨b, k, none⟩ v) := by
  have hst : (store ⟨b, k, none⟩ v .plain).run Try.prog w = .ok () (w.setCell ⟨b, k, none⟩ v) := by
    rw [run_store Try.prog w _ _ _ hv, hc, hf]; rfl
  cases hq : Try.prog.info? ty with
  | none => simp [hq] at hi
  | some i =>
    have hs : i.size = 1 := by simpa [hq] using hi
    have hadd : (⟨b, k, none⟩ : Addr).add 0 = ⟨b, k, none⟩ := by unfold Addr.add; split <;> simp_all
    simp [storeVar, sizeOf, typeInfo, hq, hs, hv2, storeCells, hadd, hst]
theorem inf3 : (Try.prog.info? 3).map (·.size) = some 1 := by kernel_rfl
theorem inf48 : (Try.prog.info? 48).map (·.size) = some 1 := by kernel_rfl
theorem chn_put {o : Oper} {a : Act} {w w2 : World} {C : World → Prop} (t : TypeId) (m x v : Operand) (ho : o.op = .mapUpdate t m x v) (mv xv vv : Value) (hm : a.eval m = mv) (hx : a.eval x = xv) (hv : a.eval v = vv) (hrun : (Instr.mapUpdate t mv xv vv).run Try.prog w = .ok () w2) (hC : C w2) :
    Chn.upon Try.prog (fun v w' => v = undef ∧ C w') w ((execOp a.eval o).run Try.prog w) := by
  unfold execOp
  simp only [ho, hm, hx, hv, Sem.run_bind, Sem.run_pure, Result.andThen_ok, hrun]
  exact ⟨rfl, hC⟩
theorem newPast_c (w : World) : Calls Try.prog 26 #[] w fun e w' => ∃ G, e = .returned (ptr G.p 0) ∧ PastAt G Pst.init 0 w' ∧ Below w.heap.size w w' ∧ (∀ k, Foot G k → w.heap.size ≤ k) := by
  have hmm := @run_makeMap Try.prog
  go_enter Try.func26, Try.ntmps26
  go_wp2
  go_ret
  generalize hw1 : w.alloc (Obj.map #[] 0) = w1
  have m1 : MapF Try.prog 23 w.heap.size 0 (fun _ => none) w1 := by rw [← hw1]; exact MapF.made w _ _
  have s1 : w1.heap.size = w.heap.size + 1 := by rw [← hw1]; exact World.size_alloc _ _
  have b1 : Below w.heap.size w w1 := by rw [← hw1]; exact below_alloc _ _
  generalize hw2 : w1.alloc (Obj.map #[] 0) = w2
  have m2 : MapF Try.prog 23 (w.heap.size + 1) 0 (fun _ => none) w2 := by rw [← hw2, ← s1]; exact MapF.made w1 _ _
  have s2 : w2.heap.size = w.heap.size + 1 + 1 := by rw [← hw2, World.size_alloc, s1]
  have b2 : Below w1.heap.size w1 w2 := by rw [← hw2]; exact below_alloc _ _
  generalize hw3 : w2.alloc (Obj.map #[] 0) = w3
  have m3 : MapF Try.prog 73 (w.heap.size + 1 + 1) 0 (fun _ => none) w3 := by rw [← hw3, ← s2]; exact MapF.made w2 _ _
  have s3 : w3.heap.size = w.heap.size + 1 + 1 + 1 := by rw [← hw3, World.size_alloc, s2]
  have b3 : Below w2.heap.size w2 w3 := by rw [← hw3]; exact below_alloc _ _
  refine ⟨⟨w.heap.size + 1 + 1 + 1, w.heap.size, w.heap.size + 1, w.heap.size + 1 + 1, fun _ => nilS⟩, rfl, ?_, ?_, ?_⟩
  · have b4 := below_alloc w3 (.cells (pcells ⟨w.heap.size + 1 + 1 + 1, w.heap.size, w.heap.size + 1, w.heap.size + 1 + 1, fun _ => nilS⟩ Pst.init) 69)
    have e4 := World.alloc_heap_new w3 (.cells (pcells ⟨w.heap.size + 1 + 1 + 1, w.heap.size, w.heap.size + 1, w.heap.size + 1 + 1, fun _ => nilS⟩ Pst.init) 69)
    rw [s3] at e4
    refine ⟨e4, ⟨_, m1.keep ?_, fun a _ => rfl⟩, ⟨_, m2.keep ?_, fun a _ => rfl⟩, ⟨_, m3.keep ?_, fun a x _ _ => rfl⟩, fun s => World.ownsRow_nil _ _ _ _, fun s => Nat.le_refl _, fun s t _ => .inl rfl, by dsimp only; omega, by dsimp only; omega, by dsimp only; omega⟩
    · exact (b4.block w.heap.size (by omega)).trans ((b3.block w.heap.size (by omega)).trans (b2.block w.heap.size (by omega)))
    · exact (b4.block (w.heap.size + 1) (by omega)).trans (b3.block (w.heap.size + 1) (by omega))
    · exact b4.block (w.heap.size + 1 + 1) (by omega)
  · exact ((b1.trans (b2.mono (by omega))).trans (b3.mono (by omega))).trans ((below_alloc _ _).mono (by omega))
  · rintro k (rfl | rfl | rfl | rfl | ⟨s, hs⟩)
    · dsimp only; omega
    · exact Nat.le_refl _
    · dsimp only; omega
    · dsimp only; omega
    · cases hs
end Go.Proofs.Ytbdmemjenpnjgaa
