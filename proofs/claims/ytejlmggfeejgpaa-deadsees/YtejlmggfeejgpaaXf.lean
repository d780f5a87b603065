/- Dh, Di, Dj, Dl of the seat, joined. -/
import Derived.Test.YtejlmggfeejgpaaDe0
import Derived.Test.YtejlmggfeejgpaaJd
import Derived.Test.YtejlmggfeejgpaaDe
import Derived.Test.YtejlmggfeejgpaaDf
import Derived.Test.YtejlmggfeejgpaaDg
/- The document's run: what a flag is, the state as a whole. -/
namespace Go.Proofs.Ytejlmggfeejgpaa
open Go.RowKit
set_option linter.unusedVariables false
set_option linter.unusedSimpArgs false
set_option maxRecDepth 8000

theorem info4p : (Try.prog.info? 4).map (fun i => (i.zero, i.size, i.bytes)) = some (some (.bool false), 1, 1) := by kernel_rfl
theorem run_b4 (n z c v : Bool) (w : World) : (Instr.buildSlice 29 4 #[(0, .bool n), (1, .bool z), (2, .bool c), (3, .bool v)]).run Try.prog w = .ok (.slice (some ⟨w.heap.size, 0, none⟩) 4 4) (w.alloc (.cells #[.bool n, .bool z, .bool c, .bool v] 4)) := by
  obtain ⟨i, hi, hz, hs, hby⟩ := info_parts info4p
  exact run_buildSlice (P := Try.prog) w 29 4 4 _ _ i (.bool false) Try.underlying29 hi hz (by rw [hs]; decide) (by rw [hs]; decide) (by rw [hs]; kernel_rfl)
theorem wpList_b4 {ops : Array Oper} {rest : List Oper} {p : Oper} {a : Act} {w : World} {Q : Exit → Act → World → Prop} (hg : p.guard = none) (x0 x1 x2 x3 : Operand) (ho : p.op = .buildSlice 29 4 #[(0, x0), (1, x1), (2, x2), (3, x3)]) (n z c v : Bool)
    (h0 : a.eval x0 = .bool n) (h1 : a.eval x1 = .bool z) (h2 : a.eval x2 = .bool c) (h3 : a.eval x3 = .bool v)
    (h : wpList Try.prog ops Q rest (a.put p.dst (.slice (some ⟨w.heap.size, 0, none⟩) 4 4)) (w.alloc (.cells #[.bool n, .bool z, .bool c, .bool v] 4))) : wpList Try.prog ops Q (p :: rest) a w :=
  wpList_plain hg fun _ hK => by
    unfold Oper.wp execOp
    simp only [ho, Sem.run_bind, List.map_toArray, List.map_cons, List.map_nil, h0, h1, h2, h3, run_b4, Result.andThen_ok]
    exact hK _ _ h
def flagC (c : Cor) (r : Int) : Bool := if r = 0 then c.n else if r = 1 then c.z else if r = 2 then c.c else c.v
set_option maxHeartbeats 4000000 in
theorem dFlag_c (c : Cor) {r : Nat} (hr : r < 4) (w : World) : Calls Try.prog 51 #[c.val, vI r] w fun e w' => e = .returned (vU (oneV (flagC c r))) ∧ Below w.heap.size w w' := by
  have hb := below_alloc w (.cells c.cells 43)
  have hr0 : (w.alloc (.cells c.cells 43)).heap[w.heap.size]? = some (.cells c.cells 43) := heap_alloc_new _ _
  go_enter Try.func51, Try.ntmps51
  go_upto_region 1 with fail
  generalize w.alloc (.cells c.cells 43) = w1 at *
  have z3 : w1.cell? ⟨w.heap.size, 34, none⟩ = some (.bool c.n) := by rw [cell_of_row _ _ _ _ _ _ hr0, Cor.a34]
  have z4 : w1.cell? ⟨w.heap.size, 35, none⟩ = some (.bool c.z) := by rw [cell_of_row _ _ _ _ _ _ hr0, Cor.a35]
  have z5 : w1.cell? ⟨w.heap.size, 36, none⟩ = some (.bool c.c) := by rw [cell_of_row _ _ _ _ _ _ hr0, Cor.a36]
  have z6 : w1.cell? ⟨w.heap.size, 37, none⟩ = some (.bool c.v) := by rw [cell_of_row _ _ _ _ _ _ hr0, Cor.a37]
  go_upto_region 2 with ((with_reducible refine wpList_b4 rfl _ _ _ _ rfl c.n c.z c.c c.v rfl rfl rfl rfl ?_); try simp only [Act.put])
  have hr1 : (w1.alloc (.cells #[.bool c.n, .bool c.z, .bool c.c, .bool c.v] 4)).heap[w1.heap.size]? = some (.cells #[.bool c.n, .bool c.z, .bool c.c, .bool c.v] 4) := heap_alloc_new _ _
  have hb1 := below_then hb (Nat.le_refl _) (below_alloc w1 (.cells #[.bool c.n, .bool c.z, .bool c.c, .bool c.v] 4))
  generalize w1.alloc (.cells #[.bool c.n, .bool c.z, .bool c.c, .bool c.v] 4) = w2 at *
  clear z3 z4 z5 z6
  generalize w1.heap.size = t at *
  have cells : ∀ q (u : Value), (#[.bool c.n, .bool c.z, .bool c.c, .bool c.v] : Array Value)[q]? = some u → w2.cell? ⟨t, q, none⟩ = some u := fun q u h => by rw [cell_of_row _ _ _ _ _ _ hr1]; exact h
  rcases (by omega : r = 0 ∨ r = 1 ∨ r = 2 ∨ r = 3) with rfl | rfl | rfl | rfl
  · have z := cells 0 _ rfl
    show _
    cases h : c.n <;> (rw [h] at z; have e : flagC c ((0 : Nat) : Int) = c.n := rfl; rw [h] at e; go_wp2; go_ret; exact ⟨by rw [e]; rfl, hb1⟩)
  · have z := cells 1 _ rfl
    cases h : c.z <;> (rw [h] at z; have e : flagC c ((1 : Nat) : Int) = c.z := rfl; rw [h] at e; go_wp2; go_ret; exact ⟨by rw [e]; rfl, hb1⟩)
  · have z := cells 2 _ rfl
    cases h : c.c <;> (rw [h] at z; have e : flagC c ((2 : Nat) : Int) = c.c := rfl; rw [h] at e; go_wp2; go_ret; exact ⟨by rw [e]; rfl, hb1⟩)
  · have z := cells 3 _ rfl
    cases h : c.v <;> (rw [h] at z; have e : flagC c ((3 : Nat) : Int) = c.v := rfl; rw [h] at e; go_wp2; go_ret; exact ⟨by rw [e]; rfl, hb1⟩)
section
variable {pc words el : Int} {v : Value} {l : List Opr} {g vb : Nat} {D : Dn} {w w' : World}
theorem core_rangeD (H : DocAt pc words el v l g vb D w) : w.rangeAt g 4 D.c.cells.toList := by
  intro j u hu
  have hu' : D.c.cells[j]? = some u := by simpa using hu
  have hj : j < 49 := by have := (Array.getElem?_eq_some_iff.1 hu').1; rwa [Cor.size] at this
  rw [H.cc j hj, hu']
theorem infoCl (c : Cor) : (Try.prog.info? 43).map (·.size) = some c.cells.toList.length := by rw [Array.length_toList]; exact c.info
theorem run_load_coreD (H : DocAt pc words el v l g vb D w) : (loadVar 43 ⟨g, 4, none⟩).run Try.prog w = .ok D.c.val w := by
  have := run_loadVar_mid w g 4 43 D.c.cells.toList _ (core_rangeD H) Try.underlying43 rfl (infoCl D.c)
  rwa [Array.toArray_toList] at this
theorem wpList_load_coreD {ops : Array Oper} {rest : List Oper} {o : Oper} {a : Act} {Q : Exit → Act → World → Prop} (hw : Region.wanted o (yielded ops a.tmps) = true) (x : Operand) (ho : o.op = .load 43 x)
    (hx : a.eval x = ptr g 4) (H : DocAt pc words el v l g vb D w)
    (h : wpList Try.prog ops Q rest (a.put o.dst D.c.val) w) : wpList Try.prog ops Q (o :: rest) a w := by
  refine BigFrame.wpList_want hw fun K hK => ?_
  unfold Oper.wp execOp
  simp only [ho, hx, Instr.loadAt, Instr.sureAddr, Sem.run_bind, Sem.run_pure, Result.andThen_ok, run_load_coreD H]
  exact hK _ _ h
theorem upon_load_coreD {C : World → Prop} (H : DocAt pc words el v l g vb D w) {o : Oper} {a : Act} {x : Operand} (hC : C w) (ho : o.op = .load 43 x := by rfl) (hx : a.eval x = ptr g 4 := by rfl) : Chn.upon Try.prog (fun v w' => v = D.c.val ∧ C w') w ((execOp a.eval o).run Try.prog w) := by
  unfold execOp
  simp only [ho, hx, Instr.loadAt, Instr.sureAddr, Sem.run_bind, Sem.run_pure, Result.andThen_ok, run_load_coreD H]
  exact ⟨rfl, hC⟩
end
end Go.Proofs.Ytejlmggfeejgpaa
/- The document's run: a flag read, numbers reckoned with. -/
namespace Go.Proofs.Ytejlmggfeejgpaa
open Go.RowKit
set_option linter.unusedVariables false
set_option linter.unusedSimpArgs false
set_option maxRecDepth 8000

section
variable {pc words el : Int} {v : Value} {l : List Opr} {g vb : Nat} {D : Dn} {w w' : World} {r a b order imm : Int}
set_option maxHeartbeats 4000000 in
theorem one_6 (H : DocAt pc words el v l g vb D w)  (fit : OpFit l ⟨6, r, a, b, order, imm⟩) (fa : 0 ≤ a ∧ a < l.length) (fb : 0 ≤ b ∧ b < l.length) (hat : D.at_ < l.length) : Calls Try.prog 32 #[ptr g 0, opV ⟨6, r, a, b, order, imm⟩] w fun e w' => e = .returned (.tuple #[]) ∧ DT pc words el v l g vb (dOne el { D with at_ := D.at_ + 1 } ⟨6, r, a, b, order, imm⟩) w w' := by
  have hrg : rangeB ⟨6, r, a, b, order, imm⟩ = true := fit.rng
  simp [rangeB] at hrg
  obtain ⟨q, rfl⟩ : ∃ q : Nat, r = q := ⟨r.toNat, by omega⟩
  have hq : q < 4 := by omega
  have hqi : (q : Int) < 4 := by omega
  obtain ⟨i, rfl⟩ : ∃ i : Nat, a = i := ⟨a.toNat, by omega⟩
  obtain ⟨jx, rfl⟩ : ∃ jx : Nat, b = jx := ⟨b.toNat, by omega⟩
  have hi : i < l.length := by omega
  have hj : jx < l.length := by omega
  have hii : (i : Int) < l.length := by omega
  have hjj : (jx : Int) < l.length := by omega
  have hkk : (D.at_ : Int) < l.length := by omega
  have hm := H.max
  have hmm : (l.length : Int) ≤ 512 := by omega
  have hu := fit.imm
  clear fa fb fit
  have hb := below_alloc w (.cells (opA ⟨6, q, i, jx, order, imm⟩) 39)
  have R : DT pc words el v l g vb D w (w.alloc (.cells (opA ⟨6, q, i, jx, order, imm⟩) 39)) := DT.from hb (H.grow hb).here
  have L : LocO w.heap.size ⟨6, q, i, jx, order, imm⟩ (w.alloc (.cells (opA ⟨6, q, i, jx, order, imm⟩) 39)) := LocO.new w _
  clear hb
  go_enter Try.func32, Try.ntmps32
  go_upto_region 1 with fail
  generalize w.alloc (.cells (opA ⟨6, q, i, jx, order, imm⟩) 39) = w1 at *
  generalize w.heap.size = t at *
  have z := R.1.c54
  have f9 := R.1.fz 54
  have R2 : DT pc words el v l g vb { D with at_ := D.at_ + 1 } w1 (w1.setCell ⟨g, 54, none⟩ (vI ((D.at_ : Int) + 1))) := R.1.at__ (D.at_ + 1)
  go_upto_region 3 with ((with_reducible refine wpList_storeC rfl 3 _ _ rfl g 54 rfl (vI ((D.at_ : Int) + 1)) rfl inf3 rfl rfl z f9 ?_); try simp only [Act.put])
  replace L := keepD L R.1 R2
  replace R := R.then R2
  clear R2 z f9 H
  generalize w1.setCell ⟨g, 54, none⟩ (vI ((D.at_ : Int) + 1)) = w2 at *
  generalize hE : ({ D with at_ := D.at_ + 1 } : Dn) = E at R
  have hEa : E.at_ - 1 = D.at_ := by rw [← hE]; rfl
  generalize D.at_ = k at hkk hat hEa R ⊢
  have z1 := R.1.c53
  have z2 := L.c2
  have z3 := R.1.valc hi
  go_quiet (fail)
  replace R := R.grow (below_drewN (Below.refl _ w2) (n := nq))
  replace L := L.grow (below_drewN (Below.refl _ w2) (n := nq))
  clear z1 z2 z3
  generalize w2.drewN nq = w3 at *
  clear nq
  go_upto_region 4 with fail
  have z1 := R.1.c53
  have z2 := L.c3
  have z3 := R.1.valc hj
  go_quiet (fail)
  replace R := R.grow (below_drewN (Below.refl _ w3) (n := nq))
  replace L := L.grow (below_drewN (Below.refl _ w3) (n := nq))
  clear z1 z2 z3
  generalize w3.drewN nq = w4 at *
  clear nq
  have hvi := R.1.valu (i : Int)
  have hvj := R.1.valu (jx : Int)
  have z0 := L.c0
  have hk := (show k < l.length by omega)
  go_upto_region 18 with fail
  clear z0
  have hst : Ph3 (fun x => DT pc words el v l g vb E w x ∧ LocO t ⟨6, q, i, jx, order, imm⟩ x) (DT pc words el v l g vb (E.define (oneV (E.flag (q : Int)))) w) 0 _ := ⟨R.then R.1.dr, L.grow (below_dr _)⟩
  refine Chn.wp_region_chainL (Ph3 (fun x => DT pc words el v l g vb E w x ∧ LocO t ⟨6, q, i, jx, order, imm⟩ x) (DT pc words el v l g vb (E.define (oneV (E.flag (q : Int)))) w)) [11, 13] [2, 2, 2, 1, 2, 2, 2, 2, 1, 2, 1, 2, 2, 2] [ptr g 0, ptr g 0, ptr g 53, .slice (some ⟨vb, 0, none⟩) l.length l.length, vI (k : Int), ptr g 0, ptr g 0, ptr g 4, E.c.val, ptr t 1, vI (q : Int), vU (oneV (E.flag (q : Int))), ptr vb k, undef] (by kernel_rfl) (by kernel_rfl) (by kernel_rfl) (by kernel_rfl) (by kernel_rfl) hst ?_
  clear hst
  refine ⟨fun j w1 hj hC => by exact Chn.upon_pure hC (fun F hF => by (go_simp <;> exact hF)), ?_⟩
  simp only [Act.put, List.setIfInBounds_toArray, List.set_cons_succ, List.set_cons_zero]
  refine ⟨fun j w1 hj hC => by exact Chn.upon_pure hC (fun F hF => by (go_simp <;> exact hF)), ?_⟩
  simp only [Act.put, List.setIfInBounds_toArray, List.set_cons_succ, List.set_cons_zero]
  refine ⟨fun j w1 hj hC => by exact Chn.upon_pure hC (fun F hF => by (go_simp <;> exact hF)), ?_⟩
  simp only [Act.put, List.setIfInBounds_toArray, List.set_cons_succ, List.set_cons_zero]
  refine ⟨fun j w1 hj hC => by
    have hA : (fun x => DT pc words el v l g vb E w x ∧ LocO t ⟨6, q, i, jx, order, imm⟩ x) w1 := match j, (show j ≤ 1 from hj), hC with
      | 0, _, hC => hC
      | 1, _, hC => hC
      | _ + 2, h, _ => absurd h (by omega)
    have z := hA.1.1.c53
    exact Chn.upon_pure hC (fun F hF => by (go_simp <;> exact hF)), ?_⟩
  simp only [Act.put, List.setIfInBounds_toArray, List.set_cons_succ, List.set_cons_zero]
  refine ⟨fun j w1 hj hC => by exact Chn.upon_pure hC (fun F hF => by (go_simp <;> exact hF)), ?_⟩
  simp only [Act.put, List.setIfInBounds_toArray, List.set_cons_succ, List.set_cons_zero]
  refine ⟨fun j w1 hj hC => by exact Chn.upon_pure hC (fun F hF => by (go_simp <;> exact hF)), ?_⟩
  simp only [Act.put, List.setIfInBounds_toArray, List.set_cons_succ, List.set_cons_zero]
  refine ⟨fun j w1 hj hC => by exact Chn.upon_pure hC (fun F hF => by (go_simp <;> exact hF)), ?_⟩
  simp only [Act.put, List.setIfInBounds_toArray, List.set_cons_succ, List.set_cons_zero]
  refine ⟨fun j w1 hj hC => by exact Chn.upon_pure hC (fun F hF => by (go_simp <;> exact hF)), ?_⟩
  simp only [Act.put, List.setIfInBounds_toArray, List.set_cons_succ, List.set_cons_zero]
  refine ⟨fun j w1 hj hC => by
    have hA : (fun x => DT pc words el v l g vb E w x ∧ LocO t ⟨6, q, i, jx, order, imm⟩ x) w1 := match j, (show j ≤ 1 from hj), hC with
      | 0, _, hC => hC
      | 1, _, hC => hC
      | _ + 2, h, _ => absurd h (by omega)
    exact upon_load_coreD hA.1.1 hC, ?_⟩
  simp only [Act.put, List.setIfInBounds_toArray, List.set_cons_succ, List.set_cons_zero]
  refine ⟨fun j w1 hj hC => by exact Chn.upon_pure hC (fun F hF => by (go_simp <;> exact hF)), ?_⟩
  simp only [Act.put, List.setIfInBounds_toArray, List.set_cons_succ, List.set_cons_zero]
  refine ⟨fun j w1 hj hC => by
    have hA : (fun x => DT pc words el v l g vb E w x ∧ LocO t ⟨6, q, i, jx, order, imm⟩ x) w1 := match j, (show j ≤ 1 from hj), hC with
      | 0, _, hC => hC
      | 1, _, hC => hC
      | _ + 2, h, _ => absurd h (by omega)
    have z := hA.2.c1
    exact Chn.upon_pure hC (fun F hF => by (go_simp <;> exact hF)), ?_⟩
  simp only [Act.put, List.setIfInBounds_toArray, List.set_cons_succ, List.set_cons_zero]
  refine ⟨fun w1 hC => by
    have hA : (fun x => DT pc words el v l g vb E w x ∧ LocO t ⟨6, q, i, jx, order, imm⟩ x) w1 := hC
    exact Chn.upon_call (C := Ph3 _ _ 1) (dFlag_c E.c hq w1) (fun e2 w2 hh => ⟨hh.1, hA.1.grow hh.2, hA.2.grow hh.2⟩) (fun F hF => by (go_simp <;> exact hF)), ?_⟩
  simp only [Act.put, List.setIfInBounds_toArray, List.set_cons_succ, List.set_cons_zero]
  refine ⟨fun j w1 hj hC => by exact Chn.upon_pure hC (fun F hF => by (go_simp <;> exact hF)), ?_⟩
  simp only [Act.put, List.setIfInBounds_toArray, List.set_cons_succ, List.set_cons_zero]
  refine ⟨fun w1 hC => by
    have hA : (fun x => DT pc words el v l g vb E w x ∧ LocO t ⟨6, q, i, jx, order, imm⟩ x) w1 := hC
    have e : E.define (oneV (E.flag (q : Int))) = { E with vs := E.vs.set k (oneV (E.flag (q : Int))) } := by unfold Dn.define; rw [hEa]
    have R7 : DT pc words el v l g vb (E.define (oneV (E.flag (q : Int)))) w1 (w1.setCell ⟨vb, k, none⟩ (vU (oneV (E.flag (q : Int))))) := by rw [e]; exact hA.1.1.val (oneV_u _)
    exact chn_store 22 _ _ rfl vb k rfl _ rfl (run_cell _ 22 vb k _ _ inf22 rfl rfl (hA.1.1.valc hk) (hA.1.1.fv k)) (hA.1.then R7), ?_⟩
  simp only [Act.put, List.setIfInBounds_toArray, List.set_cons_succ, List.set_cons_zero]
  intro w5 hC
  have hC : (DT pc words el v l g vb (E.define (oneV (E.flag (q : Int)))) w) w5 := hC
  go_wp2
  go_end0
  refine ⟨rfl, ?_⟩
  (try rw [hE])
  exact hC
set_option maxHeartbeats 4000000 in
theorem one_8 (H : DocAt pc words el v l g vb D w)  (fit : OpFit l ⟨8, r, a, b, order, imm⟩) (fa : 0 ≤ a ∧ a < l.length) (fb : 0 ≤ b ∧ b < l.length) (hat : D.at_ < l.length) : Calls Try.prog 32 #[ptr g 0, opV ⟨8, r, a, b, order, imm⟩] w fun e w' => e = .returned (.tuple #[]) ∧ DT pc words el v l g vb (dOne el { D with at_ := D.at_ + 1 } ⟨8, r, a, b, order, imm⟩) w w' := by
  obtain ⟨i, rfl⟩ : ∃ i : Nat, a = i := ⟨a.toNat, by omega⟩
  obtain ⟨jx, rfl⟩ : ∃ jx : Nat, b = jx := ⟨b.toNat, by omega⟩
  have hi : i < l.length := by omega
  have hj : jx < l.length := by omega
  have hii : (i : Int) < l.length := by omega
  have hjj : (jx : Int) < l.length := by omega
  have hkk : (D.at_ : Int) < l.length := by omega
  have hm := H.max
  have hmm : (l.length : Int) ≤ 512 := by omega
  have hu := fit.imm
  clear fa fb fit
  have hb := below_alloc w (.cells (opA ⟨8, r, i, jx, order, imm⟩) 39)
  have R : DT pc words el v l g vb D w (w.alloc (.cells (opA ⟨8, r, i, jx, order, imm⟩) 39)) := DT.from hb (H.grow hb).here
  have L : LocO w.heap.size ⟨8, r, i, jx, order, imm⟩ (w.alloc (.cells (opA ⟨8, r, i, jx, order, imm⟩) 39)) := LocO.new w _
  clear hb
  go_enter Try.func32, Try.ntmps32
  go_upto_region 1 with fail
  generalize w.alloc (.cells (opA ⟨8, r, i, jx, order, imm⟩) 39) = w1 at *
  generalize w.heap.size = t at *
  have z := R.1.c54
  have f9 := R.1.fz 54
  have R2 : DT pc words el v l g vb { D with at_ := D.at_ + 1 } w1 (w1.setCell ⟨g, 54, none⟩ (vI ((D.at_ : Int) + 1))) := R.1.at__ (D.at_ + 1)
  go_upto_region 3 with ((with_reducible refine wpList_storeC rfl 3 _ _ rfl g 54 rfl (vI ((D.at_ : Int) + 1)) rfl inf3 rfl rfl z f9 ?_); try simp only [Act.put])
  replace L := keepD L R.1 R2
  replace R := R.then R2
  clear R2 z f9 H
  generalize w1.setCell ⟨g, 54, none⟩ (vI ((D.at_ : Int) + 1)) = w2 at *
  generalize hE : ({ D with at_ := D.at_ + 1 } : Dn) = E at R
  have hEa : E.at_ - 1 = D.at_ := by rw [← hE]; rfl
  generalize D.at_ = k at hkk hat hEa R ⊢
  have z1 := R.1.c53
  have z2 := L.c2
  have z3 := R.1.valc hi
  go_quiet (fail)
  replace R := R.grow (below_drewN (Below.refl _ w2) (n := nq))
  replace L := L.grow (below_drewN (Below.refl _ w2) (n := nq))
  clear z1 z2 z3
  generalize w2.drewN nq = w3 at *
  clear nq
  go_upto_region 4 with fail
  have z1 := R.1.c53
  have z2 := L.c3
  have z3 := R.1.valc hj
  go_quiet (fail)
  replace R := R.grow (below_drewN (Below.refl _ w3) (n := nq))
  replace L := L.grow (below_drewN (Below.refl _ w3) (n := nq))
  clear z1 z2 z3
  generalize w3.drewN nq = w4 at *
  clear nq
  have hvi := R.1.valu (i : Int)
  have hvj := R.1.valu (jx : Int)
  have z0 := L.c0
  have hk := (show k < l.length by omega)
  go_upto_region 22 with fail
  clear z0
  have hst : Ph (fun x => DT pc words el v l g vb E w x ∧ LocO t ⟨8, r, i, jx, order, imm⟩ x) (DT pc words el v l g vb (E.define (Alu.reckonV r (E.val (i : Int)) (E.val (jx : Int)))) w) 0 _ := ⟨R.then R.1.dr, L.grow (below_dr _)⟩
  refine Chn.wp_region_chainL (Ph (fun x => DT pc words el v l g vb E w x ∧ LocO t ⟨8, r, i, jx, order, imm⟩ x) (DT pc words el v l g vb (E.define (Alu.reckonV r (E.val (i : Int)) (E.val (jx : Int)))) w)) [14] [1, 1, 1, 0, 1, 1, 0, 1, 1, 0, 1, 1, 1, 1, 1] [ptr g 0, ptr g 0, ptr g 53, .slice (some ⟨vb, 0, none⟩) l.length l.length, vI (k : Int), ptr t 1, vI r, vU (E.val (i : Int)), vU (E.val (jx : Int)), .tuple #[vU (Alu.reckonV r (E.val (i : Int)) (E.val (jx : Int))), .bool (Alu.kindB r)], .tuple #[vU (Alu.reckonV r (E.val (i : Int)) (E.val (jx : Int))), .bool (Alu.kindB r)], vU (Alu.reckonV r (E.val (i : Int)) (E.val (jx : Int))), .bool (Alu.kindB r), ptr vb k, undef] (by kernel_rfl) (by kernel_rfl) (by kernel_rfl) (by kernel_rfl) (by kernel_rfl) hst ?_
  clear hst
  refine ⟨fun j w1 hj hC => by exact Chn.upon_pure hC (fun F hF => by (go_simp <;> exact hF)), ?_⟩
  simp only [Act.put, List.setIfInBounds_toArray, List.set_cons_succ, List.set_cons_zero]
  refine ⟨fun j w1 hj hC => by exact Chn.upon_pure hC (fun F hF => by (go_simp <;> exact hF)), ?_⟩
  simp only [Act.put, List.setIfInBounds_toArray, List.set_cons_succ, List.set_cons_zero]
  refine ⟨fun j w1 hj hC => by exact Chn.upon_pure hC (fun F hF => by (go_simp <;> exact hF)), ?_⟩
  simp only [Act.put, List.setIfInBounds_toArray, List.set_cons_succ, List.set_cons_zero]
  refine ⟨fun j w1 hj hC => by
    obtain rfl : j = 0 := Nat.le_zero.1 hj
    have hA : (fun x => DT pc words el v l g vb E w x ∧ LocO t ⟨8, r, i, jx, order, imm⟩ x) w1 := hC
    have z := hA.1.1.c53
    exact Chn.upon_pure hC (fun F hF => by (go_simp <;> exact hF)), ?_⟩
  simp only [Act.put, List.setIfInBounds_toArray, List.set_cons_succ, List.set_cons_zero]
  refine ⟨fun j w1 hj hC => by exact Chn.upon_pure hC (fun F hF => by (go_simp <;> exact hF)), ?_⟩
  simp only [Act.put, List.setIfInBounds_toArray, List.set_cons_succ, List.set_cons_zero]
  refine ⟨fun j w1 hj hC => by exact Chn.upon_pure hC (fun F hF => by (go_simp <;> exact hF)), ?_⟩
  simp only [Act.put, List.setIfInBounds_toArray, List.set_cons_succ, List.set_cons_zero]
  refine ⟨fun j w1 hj hC => by
    obtain rfl : j = 0 := Nat.le_zero.1 hj
    have hA : (fun x => DT pc words el v l g vb E w x ∧ LocO t ⟨8, r, i, jx, order, imm⟩ x) w1 := hC
    have z := hA.2.c1
    exact Chn.upon_pure hC (fun F hF => by (go_simp <;> exact hF)), ?_⟩
  simp only [Act.put, List.setIfInBounds_toArray, List.set_cons_succ, List.set_cons_zero]
  refine ⟨fun j w1 hj hC => by exact Chn.upon_pure hC (fun F hF => by (go_simp <;> exact hF)), ?_⟩
  simp only [Act.put, List.setIfInBounds_toArray, List.set_cons_succ, List.set_cons_zero]
  refine ⟨fun j w1 hj hC => by exact Chn.upon_pure hC (fun F hF => by (go_simp <;> exact hF)), ?_⟩
  simp only [Act.put, List.setIfInBounds_toArray, List.set_cons_succ, List.set_cons_zero]
  refine ⟨fun j w1 hj hC => by
    obtain rfl : j = 0 := Nat.le_zero.1 hj
    have hA : (fun x => DT pc words el v l g vb E w x ∧ LocO t ⟨8, r, i, jx, order, imm⟩ x) w1 := hC
    exact Chn.upon_call (C := Ph _ _ 0) (Alu.refReckon_c r (E.val (i : Int)) (E.val (jx : Int)) (show Hid _ from hvi) (show Hid _ from hvj) w1) (fun e2 w2 hh => ⟨hh.1, by rw [hh.2]; exact hC⟩) (fun F hF => by (go_simp <;> exact hF)), ?_⟩
  simp only [Act.put, List.setIfInBounds_toArray, List.set_cons_succ, List.set_cons_zero]
  refine ⟨fun j w1 hj hC => by exact Chn.upon_pure hC (fun F hF => by (go_simp <;> exact hF)), ?_⟩
  simp only [Act.put, List.setIfInBounds_toArray, List.set_cons_succ, List.set_cons_zero]
  refine ⟨fun j w1 hj hC => by exact Chn.upon_pure hC (fun F hF => by (go_simp <;> exact hF)), ?_⟩
  simp only [Act.put, List.setIfInBounds_toArray, List.set_cons_succ, List.set_cons_zero]
  refine ⟨fun j w1 hj hC => by exact Chn.upon_pure hC (fun F hF => by (go_simp <;> exact hF)), ?_⟩
  simp only [Act.put, List.setIfInBounds_toArray, List.set_cons_succ, List.set_cons_zero]
  refine ⟨fun j w1 hj hC => by exact Chn.upon_pure hC (fun F hF => by (go_simp <;> exact hF)), ?_⟩
  simp only [Act.put, List.setIfInBounds_toArray, List.set_cons_succ, List.set_cons_zero]
  refine ⟨fun w1 hC => by
    have hA : (fun x => DT pc words el v l g vb E w x ∧ LocO t ⟨8, r, i, jx, order, imm⟩ x) w1 := hC
    have e : E.define (Alu.reckonV r (E.val (i : Int)) (E.val (jx : Int))) = { E with vs := E.vs.set k (Alu.reckonV r (E.val (i : Int)) (E.val (jx : Int))) } := by unfold Dn.define; rw [hEa]
    have R7 : DT pc words el v l g vb (E.define (Alu.reckonV r (E.val (i : Int)) (E.val (jx : Int)))) w1 (w1.setCell ⟨vb, k, none⟩ (vU (Alu.reckonV r (E.val (i : Int)) (E.val (jx : Int))))) := by rw [e]; exact hA.1.1.val (Alu.reckon_in hvi hvj)
    exact chn_store 22 _ _ rfl vb k rfl _ rfl (run_cell _ 22 vb k _ _ inf22 rfl rfl (hA.1.1.valc hk) (hA.1.1.fv k)) (hA.1.then R7), ?_⟩
  simp only [Act.put, List.setIfInBounds_toArray, List.set_cons_succ, List.set_cons_zero]
  intro w5 hC
  have hC : (DT pc words el v l g vb (E.define (Alu.reckonV r (E.val (i : Int)) (E.val (jx : Int)))) w) w5 := hC
  go_wp2
  go_end0
  refine ⟨rfl, ?_⟩
  (try rw [hE])
  exact hC
end
end Go.Proofs.Ytejlmggfeejgpaa
/- The document's run: an operation, for every kind; Next, plainly. -/
namespace Go.Proofs.Ytejlmggfeejgpaa
open Go.RowKit
set_option linter.unusedVariables false
set_option linter.unusedSimpArgs false
set_option maxRecDepth 8000

/-- What an operation of a right block is, A and B of every kind. -/
structure OpFits (l : List Opr) (o : Opr) : Prop where
  fit : OpFit l o
  a : 0 ≤ o.a ∧ o.a < l.length
  b : 0 ≤ o.b ∧ o.b < l.length
theorem opB_ab {o : Opr} (h : opB o = true) : (hasP o.kind 2 = false → o.a = 0) ∧ (hasP o.kind 4 = false → o.b = 0) := by
  unfold opB at h
  simp only [Bool.and_eq_true, Bool.or_eq_true] at h
  obtain ⟨⟨⟨⟨⟨_, h2⟩, h3⟩, _⟩, _⟩, _⟩ := h
  exact ⟨fun e => by rcases h2 with h2 | h2; (rw [e] at h2; cases h2); simpa using h2, fun e => by rcases h3 with h3 | h3; (rw [e] at h3; cases h3); simpa using h3⟩
section
variable {pc words el : Int} {v : Value} {l : List Opr} {g vb : Nat} {D : Dn} {w w' : World}

theorem dOne_c (H : DocAt pc words el v l g vb D w) (hel : el = 0 ∨ el = 1) (o : Opr) (F : OpFits l o) (hat : D.at_ < l.length) : Calls Try.prog 32 #[ptr g 0, opV o] w fun e w' => e = .returned (.tuple #[]) ∧ DT pc words el v l g vb (dOne el { D with at_ := D.at_ + 1 } o) w w' := by
  obtain ⟨kind, r, a, b, order, imm⟩ := o
  have hk := F.fit.k
  rcases isK_cases hk with rfl | rfl | rfl | rfl | rfl | rfl | rfl | rfl | rfl | rfl | rfl | rfl | rfl | rfl | rfl | rfl | rfl | rfl
  · exact one_1 H F.fit F.a F.b hat
  · exact one_2 H F.fit F.a F.b hat
  · exact one_3 H F.fit F.a F.b hat
  · rcases hel with h | h
    · exact one_4_0 H h F.fit F.a F.b hat
    · exact one_4_1 H h F.fit F.a F.b hat
  · rcases hel with h | h
    · exact one_5_0 H h F.fit F.a F.b hat
    · exact one_5_1 H h F.fit F.a F.b hat
  · exact one_6 H F.fit F.a F.b hat
  · exact one_7 H F.fit F.a F.b hat
  · exact one_8 H F.fit F.a F.b hat
  · exact one_9 H F.fit F.a F.b hat
  · exact one_10 H F.fit F.a F.b hat
  · exact one_11 H F.fit F.a F.b hat
  · exact one_12 H F.fit F.a F.b hat
  · exact one_13 H F.fit F.a F.b hat
  · exact one_14 H F.fit F.a F.b hat
  · by_cases hz : D.val a = 0
    · exact one_15n H hz F.fit F.a F.b hat
    · exact one_15y H hz F.fit F.a F.b hat
  · exact one_16 H F.fit F.a F.b hat
  · exact one_17 H F.fit F.a F.b hat
  · exact one_18 H F.fit F.a F.b hat
/-- The document's run behind Next. -/
def dStep (el : Int) (l : List Opr) (D : Dn) : Dn := dOne el { D with at_ := D.at_ + 1 } (opAt l D.at_)
def dRun (el : Int) (l : List Opr) : Nat → Dn → Dn
  | 0, D => D
  | f + 1, D => if D.left = false ∧ D.waits = false then dRun el l f (dStep el l D) else D
def dNext (el : Int) (l : List Opr) (D : Dn) : Dn := dRun el l l.length D
theorem dOne_at (el : Int) (E : Dn) (o : Opr) : (dOne el E o).at_ = E.at_ := by
  unfold dOne
  split <;> (try rfl)
  · unfold Dn.setSP; split <;> rfl
  · unfold Dn.setF; split; rfl; split; rfl; split <;> rfl
  · split <;> rfl
  · unfold Dn.acc; split <;> rfl
theorem dOne_last (el : Int) (E : Dn) (o : Opr) (hk : isK o.kind = true) (h : hasP o.kind 128 = true) : (dOne el E o).left = true := by
  obtain ⟨kind, r, a, b, order, imm⟩ := o
  dsimp only at hk h
  rcases isK_cases hk with rfl | rfl | rfl | rfl | rfl | rfl | rfl | rfl | rfl | rfl | rfl | rfl | rfl | rfl | rfl | rfl | rfl | rfl
  all_goals first | rfl | (exfalso; revert h; kernel_rfl) | (exfalso; revert h; decide +kernel)
theorem dStep_at (el : Int) (l : List Opr) (D : Dn) : (dStep el l D).at_ = D.at_ + 1 := dOne_at _ _ _
/-- Where a run is: not left, and then an operation is there. -/
def DIn (l : List Opr) (D : Dn) : Prop := D.left = false → D.at_ < l.length
theorem dStep_in {el : Int} {l : List Opr} {D : Dn} (last : ∀ k, k < l.length → isK (opAt l k).kind = true ∧ (hasP (opAt l k).kind 128 = true ↔ k + 1 = l.length)) (h : DIn l D) (hl : D.left = false) : DIn l (dStep el l D) := by
  intro h2
  have h0 := h hl
  rw [dStep_at]
  rcases Nat.lt_or_ge (D.at_ + 1) l.length with h1 | h1
  · exact h1
  · exfalso
    obtain ⟨k1, k2⟩ := last _ h0
    have := dOne_last el { D with at_ := D.at_ + 1 } _ k1 (k2.2 (by omega))
    unfold dStep at h2
    rw [this] at h2; cases h2
theorem dRun_stop {el : Int} {l : List Opr} {f : Nat} {D : Dn} (h : ¬ (D.left = false ∧ D.waits = false)) : dRun el l f D = D := by
  cases f with
  | zero => rfl
  | succ f => unfold dRun; rw [if_neg h]
theorem DocAt.opsI (H : DocAt pc words el v l g vb D w) : ∃ (ra : Addr) (cap : Nat), v = .slice (some ra) l.length cap ∧ ∀ k o, l[k]? = some o → OpAt w (ra.add (k * 6)) o := H.ops.cell H.pos
theorem DocAt.w10 (H : DocAt pc words el v l g vb D w) : w.rangeAt g 56 (wnA D.w).toList := fun j u hu => by
  rw [H.cell]
  have hj : j < 10 := (List.getElem?_eq_some_iff.1 hu).1
  rw [dn_w _ _ _ _ _ _ j hj]
  rw [← Array.getElem?_toList]; exact hu
theorem run_load_wD (H : DocAt pc words el v l g vb D w) : (loadVar 49 ⟨g, 56, none⟩).run Try.prog w = .ok (wnV D.w) w := by
  have h := run_loadVar_mid w g 56 49 (wnA D.w).toList _ H.w10 Try.underlying49 rfl (by rw [Array.length_toList]; exact wn_inf _)
  rwa [Array.toArray_toList] at h
theorem wpList_load_wD {ops : Array Oper} {rest : List Oper} {o : Oper} {a : Act} {Q : Exit → Act → World → Prop} (hw : Region.wanted o (yielded ops a.tmps) = true) (x : Operand) (ho : o.op = .load 49 x)
    (hx : a.eval x = ptr g 56) (H : DocAt pc words el v l g vb D w)
    (h : wpList Try.prog ops Q rest (a.put o.dst (wnV D.w)) w) : wpList Try.prog ops Q (o :: rest) a w := by
  refine BigFrame.wpList_want hw fun K hK => ?_
  unfold Oper.wp execOp
  simp only [ho, hx, Instr.loadAt, Instr.sureAddr, Sem.run_bind, Sem.run_pure, Result.andThen_ok, run_load_wD H]
  exact hK _ _ h
theorem back_nextD {tmps : Array Value} {rb : Nat} {d : Wnt} (hp : tmps.getD 2 undef = ptr rb 0) (hg : w.heap[rb]? = some (.cells (wnA d) 49)) : (results Try.f16 tmps).run Try.prog w = .ok (.tuple #[wnV d, tmps.getD 3 undef]) w := by
  rw [results_cell_tmp rfl]
  simp [hp, asAddr, run_loadVar_row w rb 49 49 (wnA d) (0, 0) _ hg Try.underlying49 rfl (wn_inf _)]
theorem run_load27n {p : Addr} {O : Opr} (A : OpAt w p O) (n : Nat) : (loadVar 39 p).run Try.prog (w.drewN n) = .ok (opV O) (w.drewN n) := run_load42 (A.grow (below_drewN (Below.refl _ w) (n := n)))
/-- What Next answers: the want, or none. -/
theorem DT.row {D' : Dn} {x : World} (h : DT pc words el v l g vb D' w x) {rb : Nat} (hn : w.heap.size ≤ rb) (h1 : g ≠ rb) (h2 : vb ≠ rb) (ho : ∀ ra n cap, v = .slice (some ra) n cap → ra.block ≠ rb) (d : Array Value) : DT pc words el v l g vb D' w (x.setRow rb d) :=
  ⟨h.1.keep (by simp) (setRow_other _ _ _ _ h1) (setRow_other _ _ _ _ h2) (fun ra n cap e _ => setRow_other _ _ _ _ (ho ra n cap e)), ⟨h.2.os, h.2.tape, h.2.output, by simpa using h.2.size, fun k hk hf => (setRow_other _ _ _ _ (by omega)).trans (h.2.block k hk hf)⟩⟩
theorem Ops.lt {u : Value} {m : List Opr} (h : Ops w u m) (h0 : 0 < m.length) : ∀ ra n cap, u = .slice (some ra) n cap → ra.block < w.heap.size := by
  intro ra n cap e
  obtain ⟨ra', cap', e', hc⟩ := h.cell h0
  rw [e] at e'
  cases e'
  have := (hc 0 _ (opAt_some h0)).lt
  have eb : (ra.add (0 * 6)).block = ra.block := by unfold Addr.add; split <;> rfl
  rwa [eb] at this
def outW (D : Dn) : Wnt := if D.waits = true then D.w else nilW
end
end Go.Proofs.Ytejlmggfeejgpaa
/- The document's run: Take. -/
namespace Go.Proofs.Ytejlmggfeejgpaa
open Go.RowKit
set_option linter.unusedVariables false
set_option linter.unusedSimpArgs false
set_option maxRecDepth 8000

section
variable {pc words el : Int} {v : Value} {l : List Opr} {g vb : Nat} {D : Dn} {w w' : World} {o : Opr}
set_option maxHeartbeats 4000000 in
theorem take_no (H0 : DocAt pc words el v l g vb D w) (hw : D.waits = true) {k : Nat} (hk : D.at_ = k + 1) (hkl : k < l.length) (ho : l[k]? = some o) (t : Gt) (hv : U64 t.value) (hac : accB o.kind = false) : Calls Try.prog 17 #[ptr g 0, gtV t] w fun e w' => e = .returned (.bool true) ∧ DT pc words el v l g vb ({ D with waits := false }) w w' := by
  have hkk : (k : Int) < l.length := by omega
  have hm := H0.max
  have hmm : (l.length : Int) ≤ 512 := by omega
  obtain ⟨ra, cap, ev, hops⟩ := H0.opsI
  subst ev
  clear hops
  have hb := below_alloc w (.cells (gtA t) 56)
  have R : DT pc words el (.slice (some ra) l.length cap) l g vb D w (w.alloc (.cells (gtA t) 56)) := DT.from hb (H0.grow hb).here
  have G : cGt t (w.alloc (.cells (gtA t) 56)) w.heap.size := heap_alloc_new _ _
  clear hb
  go_enter Try.func17, Try.ntmps17
  go_upto_region 1 with fail
  generalize w.alloc (.cells (gtA t) 56) = w1 at *
  generalize w.heap.size = tg at *
  have z := R.1.c55
  rw [hw] at z
  have z54 := R.1.c54
  rw [hk] at z54
  have z54 : w1.cell? ⟨g, 54, none⟩ = some (vI ((k : Int) + 1)) := z54
  have f9 := R.1.fz 55
  have R2 := R.1.waits_ false
  go_upto_region 5 with ((with_reducible refine wpList_storeC rfl 4 _ _ rfl g 55 rfl (.bool false) rfl inf4 rfl rfl z f9 ?_); try simp only [Act.put])
  have G2 := R2.kept G (ne_of_type G R.1.top (by decide)) (ne_of_type G R.1.vals (by decide))
  replace R := R.then R2
  clear R2 z z54 f9 G H0
  generalize w1.setCell ⟨g, 55, none⟩ (.bool false) = w2 at *
  generalize hE : ({ D with waits := false } : Dn) = E at R
  have hH : DocAt pc words el (.slice (some ra) l.length cap) l g vb E w2 := R.1
  obtain ⟨ra', cap', ev', hops⟩ := hH.opsI
  cases ev'
  have A := hops _ _ ho
  clear hops
  have z3 := hH.c3
  have Hn := has_none w2
  go_upto_region 6 with (first | ((with_reducible refine wpList_load42 rfl _ rfl _ rfl _ A ?_); try simp only [Act.put]) | ((with_reducible refine wpList_store_new Hn rfl 39 _ _ rfl (opA o) rfl rfl (op_inf _) (by kernel_rfl) (op_one _) ?_); clear Hn; intro w3 Hn; try simp only [Act.put]))
  clear z3 A
  replace R := R.grow Hn.below
  have G3 : cGt t w3 tg := by unfold cGt; rw [Hn.below.block _ (lt_of_some G2)]; exact G2
  have L : LocO w2.heap.size o w3 := Hn.get List.mem_cons_self
  clear Hn G2
  generalize w2.heap.size = t6 at *
  have zl := L.at_
  have ka := fun x => dAcc_c o x
  rw [hac] at ka
  clear hH
  go_upto_region 7 with (first | ((with_reducible refine wpList_load42 rfl _ rfl _ rfl _ zl ?_); try simp only [Act.put]) | (go_at_call 28; (with_reducible refine (ka _).mono ?_); rintro e w4 ⟨rfl, B⟩; dsimp only))
  replace R := R.grow B
  replace L := L.grow B
  have G4 : cGt t w4 tg := by unfold cGt; rw [B.block _ (lt_of_some G3)]; exact G3
  clear zl G3 B ka
  have g0 : w4.cell? ⟨tg, 0, none⟩ = some (vU t.value) := by rw [cell_of_row _ _ _ _ _ _ G4]; rfl
  have g1 : w4.cell? ⟨tg, 1, none⟩ = some (.bool t.ok) := by rw [cell_of_row _ _ _ _ _ _ G4]; rfl
  have g2 : w4.cell? ⟨tg, 2, none⟩ = some (vI t.fault) := by rw [cell_of_row _ _ _ _ _ _ G4]; rfl
  have y0 := L.c0
  have HE := R.1
  go_wp2
  go_ret
  refine ⟨rfl, ?_⟩
  (try rw [hE])
  exact R
set_option maxHeartbeats 4000000 in
theorem take_flt (H0 : DocAt pc words el v l g vb D w) (hw : D.waits = true) {k : Nat} (hk : D.at_ = k + 1) (hkl : k < l.length) (ho : l[k]? = some o) (t : Gt) (hv : U64 t.value) (hac : accB o.kind = true) (hf : t.fault ≠ 0) : Calls Try.prog 17 #[ptr g 0, gtV t] w fun e w' => e = .returned (.bool true) ∧ DT pc words el v l g vb (({ D with waits := false } : Dn).fault) w w' := by
  have hkk : (k : Int) < l.length := by omega
  have hm := H0.max
  have hmm : (l.length : Int) ≤ 512 := by omega
  obtain ⟨ra, cap, ev, hops⟩ := H0.opsI
  subst ev
  clear hops
  have hb := below_alloc w (.cells (gtA t) 56)
  have R : DT pc words el (.slice (some ra) l.length cap) l g vb D w (w.alloc (.cells (gtA t) 56)) := DT.from hb (H0.grow hb).here
  have G : cGt t (w.alloc (.cells (gtA t) 56)) w.heap.size := heap_alloc_new _ _
  clear hb
  go_enter Try.func17, Try.ntmps17
  go_upto_region 1 with fail
  generalize w.alloc (.cells (gtA t) 56) = w1 at *
  generalize w.heap.size = tg at *
  have z := R.1.c55
  rw [hw] at z
  have z54 := R.1.c54
  rw [hk] at z54
  have z54 : w1.cell? ⟨g, 54, none⟩ = some (vI ((k : Int) + 1)) := z54
  have f9 := R.1.fz 55
  have R2 := R.1.waits_ false
  go_upto_region 5 with ((with_reducible refine wpList_storeC rfl 4 _ _ rfl g 55 rfl (.bool false) rfl inf4 rfl rfl z f9 ?_); try simp only [Act.put])
  have G2 := R2.kept G (ne_of_type G R.1.top (by decide)) (ne_of_type G R.1.vals (by decide))
  replace R := R.then R2
  clear R2 z z54 f9 G H0
  generalize w1.setCell ⟨g, 55, none⟩ (.bool false) = w2 at *
  generalize hE : ({ D with waits := false } : Dn) = E at R
  have hH : DocAt pc words el (.slice (some ra) l.length cap) l g vb E w2 := R.1
  obtain ⟨ra', cap', ev', hops⟩ := hH.opsI
  cases ev'
  have A := hops _ _ ho
  clear hops
  have z3 := hH.c3
  have Hn := has_none w2
  go_upto_region 6 with (first | ((with_reducible refine wpList_load42 rfl _ rfl _ rfl _ A ?_); try simp only [Act.put]) | ((with_reducible refine wpList_store_new Hn rfl 39 _ _ rfl (opA o) rfl rfl (op_inf _) (by kernel_rfl) (op_one _) ?_); clear Hn; intro w3 Hn; try simp only [Act.put]))
  clear z3 A
  replace R := R.grow Hn.below
  have G3 : cGt t w3 tg := by unfold cGt; rw [Hn.below.block _ (lt_of_some G2)]; exact G2
  have L : LocO w2.heap.size o w3 := Hn.get List.mem_cons_self
  clear Hn G2
  generalize w2.heap.size = t6 at *
  have zl := L.at_
  have ka := fun x => dAcc_c o x
  rw [show accB o.kind = true from hac] at ka
  clear hH
  go_upto_region 7 with (first | ((with_reducible refine wpList_load42 rfl _ rfl _ rfl _ zl ?_); try simp only [Act.put]) | (go_at_call 28; (with_reducible refine (ka _).mono ?_); rintro e w4 ⟨rfl, B⟩; dsimp only))
  replace R := R.grow B
  replace L := L.grow B
  have G4 : cGt t w4 tg := by unfold cGt; rw [B.block _ (lt_of_some G3)]; exact G3
  clear zl G3 B ka
  have g0 : w4.cell? ⟨tg, 0, none⟩ = some (vU t.value) := by rw [cell_of_row _ _ _ _ _ _ G4]; rfl
  have g1 : w4.cell? ⟨tg, 1, none⟩ = some (.bool t.ok) := by rw [cell_of_row _ _ _ _ _ _ G4]; rfl
  have g2 : w4.cell? ⟨tg, 2, none⟩ = some (vI t.fault) := by rw [cell_of_row _ _ _ _ _ _ G4]; rfl
  have y0 := L.c0
  have HE := R.1
  have e0 : (t.fault != 0) = true := by simp [hf]
  have z66 := HE.c66
  have f66 := HE.fz 66
  have R5 := HE.out_
  go_upto_region 10 with ((with_reducible refine wpList_storeC rfl 4 _ _ rfl g 66 rfl (.bool true) rfl inf4 rfl rfl z66 f66 ?_); try simp only [Act.put])
  generalize w4.setCell ⟨g, 66, none⟩ (.bool true) = w5 at *
  have H5 := R5.1
  have z67 := H5.c67
  have f67 := H5.fz 67
  have R6 := H5.flt_
  go_wp2_with ((with_reducible refine wpList_storeC rfl 4 _ _ rfl g 67 rfl (.bool true) rfl inf4 rfl rfl z67 f67 ?_); try simp only [Act.put])
  go_ret
  refine ⟨rfl, ?_⟩
  (try rw [hE])
  exact R.then (R5.then R6)
set_option maxHeartbeats 4000000 in
theorem take_ex0 (H0 : DocAt pc words el v l g vb D w) (hw : D.waits = true) {k : Nat} (hk : D.at_ = k + 1) (hkl : k < l.length) (ho : l[k]? = some o) (t : Gt) (hv : U64 t.value) (hk12 : o.kind = 12) (hf : t.fault = 0) (hok : t.ok = false) : Calls Try.prog 17 #[ptr g 0, gtV t] w fun e w' => e = .returned (.bool true) ∧ DT pc words el v l g vb ({ D with waits := false, vs := D.vs.set k 1 }) w w' := by
  have hkk : (k : Int) < l.length := by omega
  have hm := H0.max
  have hmm : (l.length : Int) ≤ 512 := by omega
  obtain ⟨ra, cap, ev, hops⟩ := H0.opsI
  subst ev
  clear hops
  have hb := below_alloc w (.cells (gtA t) 56)
  have R : DT pc words el (.slice (some ra) l.length cap) l g vb D w (w.alloc (.cells (gtA t) 56)) := DT.from hb (H0.grow hb).here
  have G : cGt t (w.alloc (.cells (gtA t) 56)) w.heap.size := heap_alloc_new _ _
  clear hb
  go_enter Try.func17, Try.ntmps17
  go_upto_region 1 with fail
  generalize w.alloc (.cells (gtA t) 56) = w1 at *
  generalize w.heap.size = tg at *
  have z := R.1.c55
  rw [hw] at z
  have z54 := R.1.c54
  rw [hk] at z54
  have z54 : w1.cell? ⟨g, 54, none⟩ = some (vI ((k : Int) + 1)) := z54
  have f9 := R.1.fz 55
  have R2 := R.1.waits_ false
  go_upto_region 5 with ((with_reducible refine wpList_storeC rfl 4 _ _ rfl g 55 rfl (.bool false) rfl inf4 rfl rfl z f9 ?_); try simp only [Act.put])
  have G2 := R2.kept G (ne_of_type G R.1.top (by decide)) (ne_of_type G R.1.vals (by decide))
  replace R := R.then R2
  clear R2 z z54 f9 G H0
  generalize w1.setCell ⟨g, 55, none⟩ (.bool false) = w2 at *
  generalize hE : ({ D with waits := false } : Dn) = E at R
  have hH : DocAt pc words el (.slice (some ra) l.length cap) l g vb E w2 := R.1
  obtain ⟨ra', cap', ev', hops⟩ := hH.opsI
  cases ev'
  have A := hops _ _ ho
  clear hops
  have z3 := hH.c3
  have Hn := has_none w2
  go_upto_region 6 with (first | ((with_reducible refine wpList_load42 rfl _ rfl _ rfl _ A ?_); try simp only [Act.put]) | ((with_reducible refine wpList_store_new Hn rfl 39 _ _ rfl (opA o) rfl rfl (op_inf _) (by kernel_rfl) (op_one _) ?_); clear Hn; intro w3 Hn; try simp only [Act.put]))
  clear z3 A
  replace R := R.grow Hn.below
  have G3 : cGt t w3 tg := by unfold cGt; rw [Hn.below.block _ (lt_of_some G2)]; exact G2
  have L : LocO w2.heap.size o w3 := Hn.get List.mem_cons_self
  clear Hn G2
  generalize w2.heap.size = t6 at *
  have zl := L.at_
  have ka := fun x => dAcc_c o x
  have hac : accB o.kind = true := by rw [hk12]; rfl
  rw [show accB o.kind = true from hac] at ka
  clear hH
  go_upto_region 7 with (first | ((with_reducible refine wpList_load42 rfl _ rfl _ rfl _ zl ?_); try simp only [Act.put]) | (go_at_call 28; (with_reducible refine (ka _).mono ?_); rintro e w4 ⟨rfl, B⟩; dsimp only))
  replace R := R.grow B
  replace L := L.grow B
  have G4 : cGt t w4 tg := by unfold cGt; rw [B.block _ (lt_of_some G3)]; exact G3
  clear zl G3 B ka
  have g0 : w4.cell? ⟨tg, 0, none⟩ = some (vU t.value) := by rw [cell_of_row _ _ _ _ _ _ G4]; rfl
  have g1 : w4.cell? ⟨tg, 1, none⟩ = some (.bool t.ok) := by rw [cell_of_row _ _ _ _ _ _ G4]; rfl
  have g2 : w4.cell? ⟨tg, 2, none⟩ = some (vI t.fault) := by rw [cell_of_row _ _ _ _ _ _ G4]; rfl
  have y0 := L.c0
  have HE := R.1
  rw [hk12] at y0
  have e0 : (t.fault != 0) = false := by simp [hf]
  have zv := HE.c53
  have zc := HE.valc hkl
  have fc := HE.fv k
  have R5 := HE.val (k := k) (u := 1) ⟨by decide, by decide⟩
  go_upto_region 13 with ((with_reducible refine wpList_storeC rfl 22 _ _ rfl vb k rfl (vU 1) rfl inf22 rfl rfl zc fc ?_); try simp only [Act.put])
  have G5 := R5.kept G4 (ne_of_type G4 HE.top (by decide)) (ne_of_type G4 HE.vals (by decide))
  clear g0 g1 g2 y0
  generalize w4.setCell ⟨vb, k, none⟩ (vU 1) = w5 at *
  have H5 := R5.1
  have g1 : w5.cell? ⟨tg, 1, none⟩ = some (.bool t.ok) := by rw [cell_of_row _ _ _ _ _ _ G5]; rfl
  rw [hok] at g1
  go_wp2
  go_ret
  refine ⟨rfl, ?_⟩
  rw [← hE] at R5
  exact R.then R5
set_option maxHeartbeats 4000000 in
theorem take_ex1 (H0 : DocAt pc words el v l g vb D w) (hw : D.waits = true) {k : Nat} (hk : D.at_ = k + 1) (hkl : k < l.length) (ho : l[k]? = some o) (t : Gt) (hv : U64 t.value) (hk12 : o.kind = 12) (hf : t.fault = 0) (hok : t.ok = true) : Calls Try.prog 17 #[ptr g 0, gtV t] w fun e w' => e = .returned (.bool true) ∧ DT pc words el v l g vb ({ D with waits := false, vs := D.vs.set k 0 }) w w' := by
  have hkk : (k : Int) < l.length := by omega
  have hm := H0.max
  have hmm : (l.length : Int) ≤ 512 := by omega
  obtain ⟨ra, cap, ev, hops⟩ := H0.opsI
  subst ev
  clear hops
  have hb := below_alloc w (.cells (gtA t) 56)
  have R : DT pc words el (.slice (some ra) l.length cap) l g vb D w (w.alloc (.cells (gtA t) 56)) := DT.from hb (H0.grow hb).here
  have G : cGt t (w.alloc (.cells (gtA t) 56)) w.heap.size := heap_alloc_new _ _
  clear hb
  go_enter Try.func17, Try.ntmps17
  go_upto_region 1 with fail
  generalize w.alloc (.cells (gtA t) 56) = w1 at *
  generalize w.heap.size = tg at *
  have z := R.1.c55
  rw [hw] at z
  have z54 := R.1.c54
  rw [hk] at z54
  have z54 : w1.cell? ⟨g, 54, none⟩ = some (vI ((k : Int) + 1)) := z54
  have f9 := R.1.fz 55
  have R2 := R.1.waits_ false
  go_upto_region 5 with ((with_reducible refine wpList_storeC rfl 4 _ _ rfl g 55 rfl (.bool false) rfl inf4 rfl rfl z f9 ?_); try simp only [Act.put])
  have G2 := R2.kept G (ne_of_type G R.1.top (by decide)) (ne_of_type G R.1.vals (by decide))
  replace R := R.then R2
  clear R2 z z54 f9 G H0
  generalize w1.setCell ⟨g, 55, none⟩ (.bool false) = w2 at *
  generalize hE : ({ D with waits := false } : Dn) = E at R
  have hH : DocAt pc words el (.slice (some ra) l.length cap) l g vb E w2 := R.1
  obtain ⟨ra', cap', ev', hops⟩ := hH.opsI
  cases ev'
  have A := hops _ _ ho
  clear hops
  have z3 := hH.c3
  have Hn := has_none w2
  go_upto_region 6 with (first | ((with_reducible refine wpList_load42 rfl _ rfl _ rfl _ A ?_); try simp only [Act.put]) | ((with_reducible refine wpList_store_new Hn rfl 39 _ _ rfl (opA o) rfl rfl (op_inf _) (by kernel_rfl) (op_one _) ?_); clear Hn; intro w3 Hn; try simp only [Act.put]))
  clear z3 A
  replace R := R.grow Hn.below
  have G3 : cGt t w3 tg := by unfold cGt; rw [Hn.below.block _ (lt_of_some G2)]; exact G2
  have L : LocO w2.heap.size o w3 := Hn.get List.mem_cons_self
  clear Hn G2
  generalize w2.heap.size = t6 at *
  have zl := L.at_
  have ka := fun x => dAcc_c o x
  have hac : accB o.kind = true := by rw [hk12]; rfl
  rw [show accB o.kind = true from hac] at ka
  clear hH
  go_upto_region 7 with (first | ((with_reducible refine wpList_load42 rfl _ rfl _ rfl _ zl ?_); try simp only [Act.put]) | (go_at_call 28; (with_reducible refine (ka _).mono ?_); rintro e w4 ⟨rfl, B⟩; dsimp only))
  replace R := R.grow B
  replace L := L.grow B
  have G4 : cGt t w4 tg := by unfold cGt; rw [B.block _ (lt_of_some G3)]; exact G3
  clear zl G3 B ka
  have g0 : w4.cell? ⟨tg, 0, none⟩ = some (vU t.value) := by rw [cell_of_row _ _ _ _ _ _ G4]; rfl
  have g1 : w4.cell? ⟨tg, 1, none⟩ = some (.bool t.ok) := by rw [cell_of_row _ _ _ _ _ _ G4]; rfl
  have g2 : w4.cell? ⟨tg, 2, none⟩ = some (vI t.fault) := by rw [cell_of_row _ _ _ _ _ _ G4]; rfl
  have y0 := L.c0
  have HE := R.1
  rw [hk12] at y0
  have e0 : (t.fault != 0) = false := by simp [hf]
  have zv := HE.c53
  have zc := HE.valc hkl
  have fc := HE.fv k
  have R5 := HE.val (k := k) (u := 1) ⟨by decide, by decide⟩
  go_upto_region 13 with ((with_reducible refine wpList_storeC rfl 22 _ _ rfl vb k rfl (vU 1) rfl inf22 rfl rfl zc fc ?_); try simp only [Act.put])
  have G5 := R5.kept G4 (ne_of_type G4 HE.top (by decide)) (ne_of_type G4 HE.vals (by decide))
  clear g0 g1 g2 y0
  generalize w4.setCell ⟨vb, k, none⟩ (vU 1) = w5 at *
  have H5 := R5.1
  have g1 : w5.cell? ⟨tg, 1, none⟩ = some (.bool t.ok) := by rw [cell_of_row _ _ _ _ _ _ G5]; rfl
  rw [hok] at g1
  have zv5 := H5.c53
  have zc5 := H5.valc hkl
  have fc5 := H5.fv k
  have R6 := H5.val (k := k) (u := 0) ⟨by decide, by decide⟩
  go_wp2_with ((with_reducible refine wpList_storeC rfl 22 _ _ rfl vb k rfl (vU 0) rfl inf22 rfl rfl zc5 fc5 ?_); try simp only [Act.put])
  go_ret
  refine ⟨rfl, ?_⟩
  have R7 := R.then (R5.then R6)
  have e : ({ E with vs := (E.vs.set k 1).set k 0 } : Dn) = { D with waits := false, vs := D.vs.set k 0 } := by rw [← hE]; simp
  have R8 : DT pc words el (.slice (some ra) l.length cap) l g vb { E with vs := (E.vs.set k 1).set k 0 } w _ := R7
  rw [e] at R8
  first | exact R8 | (rw [hk] at R8; exact R8)
set_option maxHeartbeats 4000000 in
theorem take_st (H0 : DocAt pc words el v l g vb D w) (hw : D.waits = true) {k : Nat} (hk : D.at_ = k + 1) (hkl : k < l.length) (ho : l[k]? = some o) (t : Gt) (hv : U64 t.value) (hk10 : o.kind = 10) (hf : t.fault = 0) : Calls Try.prog 17 #[ptr g 0, gtV t] w fun e w' => e = .returned (.bool true) ∧ DT pc words el v l g vb ({ D with waits := false }) w w' := by
  have hkk : (k : Int) < l.length := by omega
  have hm := H0.max
  have hmm : (l.length : Int) ≤ 512 := by omega
  obtain ⟨ra, cap, ev, hops⟩ := H0.opsI
  subst ev
  clear hops
  have hb := below_alloc w (.cells (gtA t) 56)
  have R : DT pc words el (.slice (some ra) l.length cap) l g vb D w (w.alloc (.cells (gtA t) 56)) := DT.from hb (H0.grow hb).here
  have G : cGt t (w.alloc (.cells (gtA t) 56)) w.heap.size := heap_alloc_new _ _
  clear hb
  go_enter Try.func17, Try.ntmps17
  go_upto_region 1 with fail
  generalize w.alloc (.cells (gtA t) 56) = w1 at *
  generalize w.heap.size = tg at *
  have z := R.1.c55
  rw [hw] at z
  have z54 := R.1.c54
  rw [hk] at z54
  have z54 : w1.cell? ⟨g, 54, none⟩ = some (vI ((k : Int) + 1)) := z54
  have f9 := R.1.fz 55
  have R2 := R.1.waits_ false
  go_upto_region 5 with ((with_reducible refine wpList_storeC rfl 4 _ _ rfl g 55 rfl (.bool false) rfl inf4 rfl rfl z f9 ?_); try simp only [Act.put])
  have G2 := R2.kept G (ne_of_type G R.1.top (by decide)) (ne_of_type G R.1.vals (by decide))
  replace R := R.then R2
  clear R2 z z54 f9 G H0
  generalize w1.setCell ⟨g, 55, none⟩ (.bool false) = w2 at *
  generalize hE : ({ D with waits := false } : Dn) = E at R
  have hH : DocAt pc words el (.slice (some ra) l.length cap) l g vb E w2 := R.1
  obtain ⟨ra', cap', ev', hops⟩ := hH.opsI
  cases ev'
  have A := hops _ _ ho
  clear hops
  have z3 := hH.c3
  have Hn := has_none w2
  go_upto_region 6 with (first | ((with_reducible refine wpList_load42 rfl _ rfl _ rfl _ A ?_); try simp only [Act.put]) | ((with_reducible refine wpList_store_new Hn rfl 39 _ _ rfl (opA o) rfl rfl (op_inf _) (by kernel_rfl) (op_one _) ?_); clear Hn; intro w3 Hn; try simp only [Act.put]))
  clear z3 A
  replace R := R.grow Hn.below
  have G3 : cGt t w3 tg := by unfold cGt; rw [Hn.below.block _ (lt_of_some G2)]; exact G2
  have L : LocO w2.heap.size o w3 := Hn.get List.mem_cons_self
  clear Hn G2
  generalize w2.heap.size = t6 at *
  have zl := L.at_
  have ka := fun x => dAcc_c o x
  have hac : accB o.kind = true := by rw [hk10]; rfl
  rw [show accB o.kind = true from hac] at ka
  clear hH
  go_upto_region 7 with (first | ((with_reducible refine wpList_load42 rfl _ rfl _ rfl _ zl ?_); try simp only [Act.put]) | (go_at_call 28; (with_reducible refine (ka _).mono ?_); rintro e w4 ⟨rfl, B⟩; dsimp only))
  replace R := R.grow B
  replace L := L.grow B
  have G4 : cGt t w4 tg := by unfold cGt; rw [B.block _ (lt_of_some G3)]; exact G3
  clear zl G3 B ka
  have g0 : w4.cell? ⟨tg, 0, none⟩ = some (vU t.value) := by rw [cell_of_row _ _ _ _ _ _ G4]; rfl
  have g1 : w4.cell? ⟨tg, 1, none⟩ = some (.bool t.ok) := by rw [cell_of_row _ _ _ _ _ _ G4]; rfl
  have g2 : w4.cell? ⟨tg, 2, none⟩ = some (vI t.fault) := by rw [cell_of_row _ _ _ _ _ _ G4]; rfl
  have y0 := L.c0
  have HE := R.1
  rw [hk10] at y0
  have e0 : (t.fault != 0) = false := by simp [hf]
  go_wp2
  go_ret
  refine ⟨rfl, ?_⟩
  (try rw [hE])
  exact R
set_option maxHeartbeats 4000000 in
theorem take_ld9 (H0 : DocAt pc words el v l g vb D w) (hw : D.waits = true) {k : Nat} (hk : D.at_ = k + 1) (hkl : k < l.length) (ho : l[k]? = some o) (t : Gt) (hv : U64 t.value) (hkk2 : o.kind = 9) (hf : t.fault = 0) : Calls Try.prog 17 #[ptr g 0, gtV t] w fun e w' => e = .returned (.bool true) ∧ DT pc words el v l g vb ({ D with waits := false, vs := D.vs.set k t.value }) w w' := by
  have hkk : (k : Int) < l.length := by omega
  have hm := H0.max
  have hmm : (l.length : Int) ≤ 512 := by omega
  obtain ⟨ra, cap, ev, hops⟩ := H0.opsI
  subst ev
  clear hops
  have hb := below_alloc w (.cells (gtA t) 56)
  have R : DT pc words el (.slice (some ra) l.length cap) l g vb D w (w.alloc (.cells (gtA t) 56)) := DT.from hb (H0.grow hb).here
  have G : cGt t (w.alloc (.cells (gtA t) 56)) w.heap.size := heap_alloc_new _ _
  clear hb
  go_enter Try.func17, Try.ntmps17
  go_upto_region 1 with fail
  generalize w.alloc (.cells (gtA t) 56) = w1 at *
  generalize w.heap.size = tg at *
  have z := R.1.c55
  rw [hw] at z
  have z54 := R.1.c54
  rw [hk] at z54
  have z54 : w1.cell? ⟨g, 54, none⟩ = some (vI ((k : Int) + 1)) := z54
  have f9 := R.1.fz 55
  have R2 := R.1.waits_ false
  go_upto_region 5 with ((with_reducible refine wpList_storeC rfl 4 _ _ rfl g 55 rfl (.bool false) rfl inf4 rfl rfl z f9 ?_); try simp only [Act.put])
  have G2 := R2.kept G (ne_of_type G R.1.top (by decide)) (ne_of_type G R.1.vals (by decide))
  replace R := R.then R2
  clear R2 z z54 f9 G H0
  generalize w1.setCell ⟨g, 55, none⟩ (.bool false) = w2 at *
  generalize hE : ({ D with waits := false } : Dn) = E at R
  have hH : DocAt pc words el (.slice (some ra) l.length cap) l g vb E w2 := R.1
  obtain ⟨ra', cap', ev', hops⟩ := hH.opsI
  cases ev'
  have A := hops _ _ ho
  clear hops
  have z3 := hH.c3
  have Hn := has_none w2
  go_upto_region 6 with (first | ((with_reducible refine wpList_load42 rfl _ rfl _ rfl _ A ?_); try simp only [Act.put]) | ((with_reducible refine wpList_store_new Hn rfl 39 _ _ rfl (opA o) rfl rfl (op_inf _) (by kernel_rfl) (op_one _) ?_); clear Hn; intro w3 Hn; try simp only [Act.put]))
  clear z3 A
  replace R := R.grow Hn.below
  have G3 : cGt t w3 tg := by unfold cGt; rw [Hn.below.block _ (lt_of_some G2)]; exact G2
  have L : LocO w2.heap.size o w3 := Hn.get List.mem_cons_self
  clear Hn G2
  generalize w2.heap.size = t6 at *
  have zl := L.at_
  have ka := fun x => dAcc_c o x
  have hac : accB o.kind = true := by rw [hkk2]; rfl
  rw [show accB o.kind = true from hac] at ka
  clear hH
  go_upto_region 7 with (first | ((with_reducible refine wpList_load42 rfl _ rfl _ rfl _ zl ?_); try simp only [Act.put]) | (go_at_call 28; (with_reducible refine (ka _).mono ?_); rintro e w4 ⟨rfl, B⟩; dsimp only))
  replace R := R.grow B
  replace L := L.grow B
  have G4 : cGt t w4 tg := by unfold cGt; rw [B.block _ (lt_of_some G3)]; exact G3
  clear zl G3 B ka
  have g0 : w4.cell? ⟨tg, 0, none⟩ = some (vU t.value) := by rw [cell_of_row _ _ _ _ _ _ G4]; rfl
  have g1 : w4.cell? ⟨tg, 1, none⟩ = some (.bool t.ok) := by rw [cell_of_row _ _ _ _ _ _ G4]; rfl
  have g2 : w4.cell? ⟨tg, 2, none⟩ = some (vI t.fault) := by rw [cell_of_row _ _ _ _ _ _ G4]; rfl
  have y0 := L.c0
  have HE := R.1
  rw [hkk2] at y0
  have e0 : (t.fault != 0) = false := by simp [hf]
  go_upto_region 16 with fail
  refine wp_region_still_tail 8 (by kernel_rfl) (by kernel_rfl) ?_
  replace R := R.grow (below_dr w4)
  have G5 : cGt t ({ w4 with drawn := w4.drawn + 1 } : World) tg := G4
  clear g0 g1 g2 y0 HE
  generalize ({ w4 with drawn := w4.drawn + 1 } : World) = w5 at *
  have g0 : w5.cell? ⟨tg, 0, none⟩ = some (vU t.value) := by rw [cell_of_row _ _ _ _ _ _ G5]; rfl
  have H5 := R.1
  have zv := H5.c53
  simp only [List.take_succ_cons, List.take_zero, List.drop_succ_cons, List.drop_zero]
  repeat still_step
  refine wpStill_nil ?_
  (with_reducible refine wpList_storeC rfl 22 _ _ rfl vb k rfl (vU t.value) rfl inf22 rfl rfl (H5.valc hkl) (H5.fv k) ?_)
  try simp only [Act.put]
  have R6 := R.then (H5.val (k := k) hv)
  go_wp2
  go_ret
  refine ⟨rfl, ?_⟩
  rw [← hE] at R6
  exact R6
set_option maxHeartbeats 4000000 in
theorem take_ld11 (H0 : DocAt pc words el v l g vb D w) (hw : D.waits = true) {k : Nat} (hk : D.at_ = k + 1) (hkl : k < l.length) (ho : l[k]? = some o) (t : Gt) (hv : U64 t.value) (hkk2 : o.kind = 11) (hf : t.fault = 0) : Calls Try.prog 17 #[ptr g 0, gtV t] w fun e w' => e = .returned (.bool true) ∧ DT pc words el v l g vb ({ D with waits := false, vs := D.vs.set k t.value }) w w' := by
  have hkk : (k : Int) < l.length := by omega
  have hm := H0.max
  have hmm : (l.length : Int) ≤ 512 := by omega
  obtain ⟨ra, cap, ev, hops⟩ := H0.opsI
  subst ev
  clear hops
  have hb := below_alloc w (.cells (gtA t) 56)
  have R : DT pc words el (.slice (some ra) l.length cap) l g vb D w (w.alloc (.cells (gtA t) 56)) := DT.from hb (H0.grow hb).here
  have G : cGt t (w.alloc (.cells (gtA t) 56)) w.heap.size := heap_alloc_new _ _
  clear hb
  go_enter Try.func17, Try.ntmps17
  go_upto_region 1 with fail
  generalize w.alloc (.cells (gtA t) 56) = w1 at *
  generalize w.heap.size = tg at *
  have z := R.1.c55
  rw [hw] at z
  have z54 := R.1.c54
  rw [hk] at z54
  have z54 : w1.cell? ⟨g, 54, none⟩ = some (vI ((k : Int) + 1)) := z54
  have f9 := R.1.fz 55
  have R2 := R.1.waits_ false
  go_upto_region 5 with ((with_reducible refine wpList_storeC rfl 4 _ _ rfl g 55 rfl (.bool false) rfl inf4 rfl rfl z f9 ?_); try simp only [Act.put])
  have G2 := R2.kept G (ne_of_type G R.1.top (by decide)) (ne_of_type G R.1.vals (by decide))
  replace R := R.then R2
  clear R2 z z54 f9 G H0
  generalize w1.setCell ⟨g, 55, none⟩ (.bool false) = w2 at *
  generalize hE : ({ D with waits := false } : Dn) = E at R
  have hH : DocAt pc words el (.slice (some ra) l.length cap) l g vb E w2 := R.1
  obtain ⟨ra', cap', ev', hops⟩ := hH.opsI
  cases ev'
  have A := hops _ _ ho
  clear hops
  have z3 := hH.c3
  have Hn := has_none w2
  go_upto_region 6 with (first | ((with_reducible refine wpList_load42 rfl _ rfl _ rfl _ A ?_); try simp only [Act.put]) | ((with_reducible refine wpList_store_new Hn rfl 39 _ _ rfl (opA o) rfl rfl (op_inf _) (by kernel_rfl) (op_one _) ?_); clear Hn; intro w3 Hn; try simp only [Act.put]))
  clear z3 A
  replace R := R.grow Hn.below
  have G3 : cGt t w3 tg := by unfold cGt; rw [Hn.below.block _ (lt_of_some G2)]; exact G2
  have L : LocO w2.heap.size o w3 := Hn.get List.mem_cons_self
  clear Hn G2
  generalize w2.heap.size = t6 at *
  have zl := L.at_
  have ka := fun x => dAcc_c o x
  have hac : accB o.kind = true := by rw [hkk2]; rfl
  rw [show accB o.kind = true from hac] at ka
  clear hH
  go_upto_region 7 with (first | ((with_reducible refine wpList_load42 rfl _ rfl _ rfl _ zl ?_); try simp only [Act.put]) | (go_at_call 28; (with_reducible refine (ka _).mono ?_); rintro e w4 ⟨rfl, B⟩; dsimp only))
  replace R := R.grow B
  replace L := L.grow B
  have G4 : cGt t w4 tg := by unfold cGt; rw [B.block _ (lt_of_some G3)]; exact G3
  clear zl G3 B ka
  have g0 : w4.cell? ⟨tg, 0, none⟩ = some (vU t.value) := by rw [cell_of_row _ _ _ _ _ _ G4]; rfl
  have g1 : w4.cell? ⟨tg, 1, none⟩ = some (.bool t.ok) := by rw [cell_of_row _ _ _ _ _ _ G4]; rfl
  have g2 : w4.cell? ⟨tg, 2, none⟩ = some (vI t.fault) := by rw [cell_of_row _ _ _ _ _ _ G4]; rfl
  have y0 := L.c0
  have HE := R.1
  rw [hkk2] at y0
  have e0 : (t.fault != 0) = false := by simp [hf]
  go_upto_region 16 with fail
  refine wp_region_still_tail 8 (by kernel_rfl) (by kernel_rfl) ?_
  replace R := R.grow (below_dr w4)
  have G5 : cGt t ({ w4 with drawn := w4.drawn + 1 } : World) tg := G4
  clear g0 g1 g2 y0 HE
  generalize ({ w4 with drawn := w4.drawn + 1 } : World) = w5 at *
  have g0 : w5.cell? ⟨tg, 0, none⟩ = some (vU t.value) := by rw [cell_of_row _ _ _ _ _ _ G5]; rfl
  have H5 := R.1
  have zv := H5.c53
  simp only [List.take_succ_cons, List.take_zero, List.drop_succ_cons, List.drop_zero]
  repeat still_step
  refine wpStill_nil ?_
  (with_reducible refine wpList_storeC rfl 22 _ _ rfl vb k rfl (vU t.value) rfl inf22 rfl rfl (H5.valc hkl) (H5.fv k) ?_)
  try simp only [Act.put]
  have R6 := R.then (H5.val (k := k) hv)
  go_wp2
  go_ret
  refine ⟨rfl, ?_⟩
  rw [← hE] at R6
  exact R6
set_option maxHeartbeats 2000000 in
theorem take_idle (H : DocAt pc words el v l g vb D w) (hw : D.waits = false) (t : Gt) : Calls Try.prog 17 #[ptr g 0, gtV t] w fun e w' => e = .returned (.bool false) ∧ DT pc words el v l g vb D w w' := by
  have hb := below_alloc w (.cells (gtA t) 56)
  have R : DT pc words el v l g vb D w (w.alloc (.cells (gtA t) 56)) := DT.from hb (H.grow hb).here
  have z := R.1.c55
  rw [hw] at z
  go_enter Try.func17, Try.ntmps17
  go_wp2
  go_ret
  exact ⟨rfl, R⟩
/-- The document's run behind Take. -/
def dTake (l : List Opr) (D : Dn) (t : Gt) : Dn :=
  if D.waits = false then D
  else if accB (opAt l (D.at_ - 1)).kind = false then { D with waits := false }
  else if t.fault ≠ 0 then ({ D with waits := false } : Dn).fault
  else if (opAt l (D.at_ - 1)).kind = 12 then { D with waits := false, vs := D.vs.set (D.at_ - 1) (oneV (!t.ok)) }
  else if (opAt l (D.at_ - 1)).kind = 10 then { D with waits := false }
  else { D with waits := false, vs := D.vs.set (D.at_ - 1) t.value }
theorem dTake_c (H : DocAt pc words el v l g vb D w) (t : Gt) (hv : U64 t.value) (h1 : D.waits = true → 1 ≤ D.at_ ∧ D.at_ ≤ l.length) : Calls Try.prog 17 #[ptr g 0, gtV t] w fun e w' => e = .returned (.bool D.waits) ∧ DT pc words el v l g vb (dTake l D t) w w' := by
  cases hw : D.waits with
  | false =>
    have e : dTake l D t = D := by unfold dTake; rw [if_pos hw]
    rw [e]
    exact take_idle H hw t
  | true =>
    obtain ⟨a1, a2⟩ := h1 hw
    obtain ⟨k, hk⟩ : ∃ k, D.at_ = k + 1 := ⟨D.at_ - 1, by omega⟩
    have hkl : k < l.length := by omega
    have ho : l[k]? = some (opAt l k) := opAt_some hkl
    unfold dTake
    rw [show D.at_ - 1 = k by omega]
    rw [if_neg (by rw [hw]; decide)]
    cases hac : accB (opAt l k).kind with
    | false =>
      rw [if_pos rfl]
      exact take_no H hw hk hkl ho t hv hac
    | true =>
      rw [if_neg (by decide)]
      by_cases hf : t.fault = 0
      · rw [if_neg (by simp [hf])]
        have h4 : (opAt l k).kind = 9 ∨ (opAt l k).kind = 10 ∨ (opAt l k).kind = 11 ∨ (opAt l k).kind = 12 := by
          unfold accB at hac
          simpa [or_assoc] using hac
        rcases h4 with h | h | h | h
        · rw [if_neg (by omega), if_neg (by omega)]
          exact take_ld9 H hw hk hkl ho t hv h hf
        · rw [if_neg (by omega), if_pos h]
          exact take_st H hw hk hkl ho t hv h hf
        · rw [if_neg (by omega), if_neg (by omega)]
          exact take_ld11 H hw hk hkl ho t hv h hf
        · rw [if_pos h]
          cases hok : t.ok with
          | false => exact take_ex0 H hw hk hkl ho t hv h hf hok
          | true => exact take_ex1 H hw hk hkl ho t hv h hf hok
      · rw [if_pos hf]
        exact take_flt H hw hk hkl ho t hv hac hf
end
end Go.Proofs.Ytejlmggfeejgpaa
