/- The queue: what is appended; Push. -/
import Derived.Test.YteklkololojamaaGreatQh
import Derived.Test.YteklkololojamaaGreatChx
import Derived.Great.BuildSlice
import Derived.Deep.AppendLies
namespace Go.Proofs.YteklkololojamaaGreat
open Go.RowKit
set_option linter.unusedVariables false
set_option linter.unusedSimpArgs false
set_option maxRecDepth 8000

theorem infT : ∃ i, Tryz.prog.info? 106 = some i ∧ i.zero = some nilT.val ∧ i.size = 2 ∧ i.bytes = 16 := by
  have h : (Tryz.prog.info? 106).map (fun i => (i.zero, i.size, i.bytes)) = some (some nilT.val, 2, 16) := by kernel_rfl
  cases hq : Tryz.prog.info? 106 with
  | none => rw [hq] at h; cases h
  | some i =>
    rw [hq] at h
    simp only [Option.map_some, Option.some.injEq, Prod.mk.injEq] at h
    exact ⟨i, rfl, h.1, h.2.1, h.2.2⟩
theorem run_cell (w : World) (ty : TypeId) (b k : Nat) (v old : Value) (hi : (Tryz.prog.info? ty).map (·.size) = some 1) (hv : v.oneCell' = true) (hv2 : v.cells = #[v]) (hc : w.cell? ⟨b, k, none⟩ = some old) (hf : w.frozen? ⟨b, k, none⟩ = false) : (storeVar ty ⟨b, k, none⟩ v).run Tryz.prog w = .ok () (w.setCell ⟨b, k, none⟩ v) := by
  have hst : (store ⟨b, k, none⟩ v .plain).run Tryz.prog w = .ok () (w.setCell ⟨b, k, none⟩ v) := by
    rw [run_store Tryz.prog w _ _ _ hv, hc, hf]; rfl
  cases hq : Tryz.prog.info? ty with
  | none => simp [hq] at hi
  | some i =>
    have hs : i.size = 1 := by simpa [hq] using hi
    have hadd : (⟨b, k, none⟩ : Addr).add 0 = ⟨b, k, none⟩ := by unfold Addr.add; split <;> simp_all
    simp [storeVar, sizeOf, typeInfo, hq, hs, hv2, storeCells, hadd, hst]
theorem flatT_append (l m : List Trn) : flatT (l ++ m) = flatT l ++ flatT m := by simp [flatT]
theorem chn_app {o : Oper} {a : Act} {w : World} {F : Value → World → Prop} (T : TypeId) (hT : Tryz.prog.underlying T = some (.slice 106)) (s x : Operand) (ho : o.op = .call { callee := .builtin .append, args := #[s, x], argTypes := #[T, T] }) (base : Nat) (v : Value) (l : List Trn) (hs : a.eval s = v) (hown : w.ownsRow base 106 2 v l.length (flatT l)) (hbase : base ≤ w.heap.size)
    (b c : Nat) (z : Trn) (hx : a.eval x = .slice (some ⟨b, 0, none⟩) 1 c) (hc : w.heap[b]? = some (.cells z.row.toArray 106)) (hl : l.length < 1000000000)
    (h : ∀ g cap w', w'.ownsRow base 106 2 (.slice (some ⟨g, 0, none⟩) (l.length + 1) cap) (l ++ [z]).length (flatT (l ++ [z])) → w.grownBy w' v.ownBlock → (v.ownBlock = some g ∨ g = w.heap.size) → F (.slice (some ⟨g, 0, none⟩) (l.length + 1) cap) w') :
    Chn.upon Tryz.prog F w ((execOp a.eval o).run Tryz.prog w) := by
  obtain ⟨i, h1, h2, h3, h4⟩ := infT
  obtain ⟨g, cap, w', hr, q1, q2, q3, q4⟩ := run_append_lies (P := Tryz.prog) w T o.type base 106 i nilT.val 2 16 hT h1 h2 h3 h4 rfl (by decide) v l.length (flatT l) hown ⟨b, 0, none⟩ 1 c (flatT [z]) rfl (by
    intro j u hj
    have e : (⟨b, 0, none⟩ : Addr).add j = ⟨b, j, none⟩ := by rw [Addr.add_mid, Nat.zero_add]
    rw [e, cell_of_row _ _ _ _ _ _ hc]
    simpa [flatT] using hj) (one_flatT _) (by decide) (by simp only [maxLen]; omega) (by omega) hbase w.heap.size rfl
  unfold execOp
  simp only [ho, resolve, invoke, builtin, Sem.run_bind, Sem.run_pure, Result.andThen_ok, List.map_toArray, List.map_cons, List.map_nil, hs, hx, hr]
  refine h g cap w' ?_ q2 q3
  rw [List.length_append, flatT_append]
  exact q1
theorem chn_build {o : Oper} {a : Act} {w : World} {C : World → Prop} {N : Nat} (T : TypeId) (hT : Tryz.prog.underlying T = some (.slice 106)) (hN : w.heap.size = N) (x : Operand) (ho : o.op = .buildSlice T 1 #[(0, x)]) (s : Trn) (hx : a.eval x = s.val) (hC : C (w.alloc (.cells s.row.toArray 106))) :
    Chn.upon Tryz.prog (fun v w' => v = .slice (some ⟨N, 0, none⟩) 1 1 ∧ C w') w ((execOp a.eval o).run Tryz.prog w) := by
  obtain ⟨i, h1, h2, h3, h4⟩ := infT
  have hf : Instr.fill (fun j => some (j * i.size, i.size)) ((Array.range (1 * i.size)).map (nilT.val.cells[· % nilT.val.cells.size]!)) (#[(0, s.val)] : Array (Nat × Value)).toList = some s.row.toArray := by
    rw [h3]; kernel_rfl
  have hr := run_buildSlice (P := Tryz.prog) w T 106 1 #[(0, s.val)] s.row.toArray i nilT.val hT h1 h2 (by rw [h3]; decide) (by rw [h3]; decide) hf
  unfold execOp
  simp only [ho, Sem.run_bind, List.map_toArray, List.map_cons, List.map_nil, hx, hr, Result.andThen_ok]
  exact ⟨by rw [hN], hC⟩
theorem inf98 : (Tryz.prog.info? 145).map (·.size) = some 1 := by kernel_rfl
theorem inf65 : (Tryz.prog.info? 117).map (·.size) = some 1 := by kernel_rfl
/-- What the queue's calls touch. -/
def QF (q : Nat) (v : Value) (k : Nat) : Prop := k = q ∨ v.ownBlock = some k
def PuC (base q : Nat) (v : Value) (l : List Trn) (t : Trn) (w : World) (N : Nat) : Nat → Option Value → World → Prop
  | 0, none, w' => QAt base q v l w' ∧ Goes (QF q v) w w' ∧ w'.heap.size = N
  | 1, none, w' => QAt base q v l w' ∧ Goes (QF q v) w w' ∧ w'.heap[N]? = some (.cells t.row.toArray 106)
  | 2, some u, w' => ∃ w0 g cap, u = .slice (some ⟨g, 0, none⟩) (l.length + 1) cap ∧ QAt base q v l w0 ∧ Goes (QF q v) w w0 ∧ w'.ownsRow base 106 2 u (l ++ [t]).length (flatT (l ++ [t])) ∧ w0.grownBy w' v.ownBlock ∧ (v.ownBlock = some g ∨ g = w0.heap.size)
  | 3, some u, w' => ∃ g, QAt base q u (l ++ [t]) w' ∧ Goes (QF q v) w w' ∧ u.ownBlock = some g ∧ (v.ownBlock = some g ∨ w.heap.size ≤ g)
  | _, _, _ => False
theorem qpush_c {base q : Nat} {v : Value} {l : List Trn} {w : World} (H : QAt base q v l w) (t : Trn) (hl : l.length < 1000) (hbase : base ≤ w.heap.size) : Calls Tryz.prog 165 #[ptr q 0, .iface 106 t.val] w fun e w' => e = .returned (.tuple #[]) ∧ ∃ u g, QAt base q u (l ++ [t]) w' ∧ Goes (QF q v) w w' ∧ u.ownBlock = some g ∧ (v.ownBlock = some g ∨ w.heap.size ≤ g) := by
  have hst : PuC base q v l t w w.heap.size 0 none { w with drawn := w.drawn + 1 } := ⟨H.grow (Rel.below_draws (n := 1) (Below.refl _ _)), goes_of_below (Rel.below_draws (n := 1) (Below.refl _ _)), rfl⟩
  have hrd : ∀ (j : Nat) (ou : Option Value) (hj : j ≤ 1) (w' : World) (h : PuC base q v l t w w.heap.size j ou w'), w'.cell? ⟨q, 0, none⟩ = some v := by
    intro j ou hj w' h
    match j, ou, h with
    | 0, none, h => exact h.1.c0
    | 1, none, h => exact h.1.c0
  go_enter Tryz.func165, Tryz.ntmps165
  refine Chn.wp_region_chainX (PuC base q v l t w w.heap.size) [6, 7, 9] [3, 3, 3, 1, 3, 3, 3, 3, 3, 3] 7 (fun u => [ptr q 0, ptr q 0, ptr q 0, v, .iface 106 t.val, t.val, .slice (some ⟨w.heap.size, 0, none⟩) 1 1, u, ptr q 0, undef]) (by kernel_rfl) (by kernel_rfl) (by kernel_rfl) (by kernel_rfl) (by kernel_rfl) (by kernel_rfl) (fun v q hq => by match q, hq with | 0, _ => rfl | 1, _ => rfl | 2, _ => rfl | 3, _ => rfl | 4, _ => rfl | 5, _ => rfl | 6, _ => rfl | 8, _ => rfl | 9, _ => rfl | n + 10, _ => rfl) (fun v => rfl) (by decide) hst ?_
  intro u
  iterate 3 (refine ⟨fun j ou w1 hj hn hC => by exact Chn.upon_pure hC (fun F hF => by (go_simp <;> exact hF)), ?_⟩; simp only [Act.put, List.setIfInBounds_toArray, List.set_cons_succ, List.set_cons_zero])
  refine ⟨fun j ou w1 hj hn hC => by have z := hrd j ou hj w1 hC; exact Chn.upon_pure hC (fun F hF => by (go_simp <;> exact hF)), ?_⟩
  simp only [Act.put, List.setIfInBounds_toArray, List.set_cons_succ, List.set_cons_zero]
  iterate 2 (refine ⟨fun j ou w1 hj hn hC => by exact Chn.upon_pure hC (fun F hF => by (go_simp <;> exact hF)), ?_⟩; simp only [Act.put, List.setIfInBounds_toArray, List.set_cons_succ, List.set_cons_zero])
  refine ⟨fun ou w1 hn hC => by
    match ou, hC with
    | none, hC => exact chn_build 145 Tryz.underlying145 hC.2.2 (.tmp 9) rfl t rfl ⟨hC.1.grow (below_alloc _ _), hC.2.1.grow (below_alloc _ _), by rw [← hC.2.2]; exact heap_alloc_new _ _⟩, ?_⟩
  simp only [Act.put, List.setIfInBounds_toArray, List.set_cons_succ, List.set_cons_zero]
  refine ⟨fun w1 hC => by
    exact chn_app 145 Tryz.underlying145 _ _ rfl base v l rfl hC.1.row (Nat.le_trans hbase hC.2.1.size) w.heap.size 1 t rfl hC.2.2 (by omega) (fun g cap w2 q1 q2 q3 => ⟨w1, g, cap, rfl, hC.1, hC.2.1, q1, q2, q3⟩), ?_⟩
  simp only [Act.put, List.setIfInBounds_toArray, List.set_cons_succ, List.set_cons_zero]
  refine ⟨fun j ou w1 hj hn hC => by exact Chn.upon_pure hC (fun F hF => by (go_simp <;> exact hF)), ?_⟩
  simp only [Act.put, List.setIfInBounds_toArray, List.set_cons_succ, List.set_cons_zero]
  refine ⟨fun ou w1 hn hC => by
    obtain rfl := hn (by kernel_rfl)
    obtain ⟨w0, g, cap, rfl, Q0, G0, ho, hg, hq⟩ := hC
    have hqv : v.ownBlock ≠ some q := own_ne Q0.hd Q0.row (by decide)
    have hd1 : w1.heap[q]? = some (.cells #[v] 145) := (hg.block _ (lt_of_some Q0.hd) (fun e => hqv e.symm)).trans Q0.hd
    have G1 : Goes (QF q v) w w1 := G0.trans (goes_grown (F := fun k => v.ownBlock = some k) hg fun k hk => hk) fun _ _ e => .inr e
    refine chn_store 145 _ _ rfl q 0 rfl _ rfl (run_cell w1 145 q 0 _ v inf98 rfl rfl (by rw [cell_of_row _ _ _ _ _ _ hd1]; rfl) (frozen_of_row _ _ _ _ _ hd1)) ⟨g, ⟨?_, ?_, Q0.hq⟩, G1.trans (goes_setCell w1 (F := QF q v) (.inl rfl) _ _) (fun _ _ e => e), rfl, ?_⟩
    · exact heap_setCell_same w1 q 0 _ 145 _ hd1
    · exact own_of_block ho fun k hk => Below.heap_setCell _ _ _ _ (by rintro rfl; exact own_ne hd1 ho (by decide) hk)
    · rcases hq with e | e
      · exact .inl e
      · exact .inr (by rw [e]; exact G0.size), ?_⟩
  simp only [Act.put]
  intro w5 hC
  obtain ⟨g, hC⟩ := hC
  refine bodyPost_end (results_none rfl _ _ _) rfl ⟨rfl, u, g, hC⟩
end Go.Proofs.YteklkololojamaaGreat
