/- What is known: get and set. -/
import Derived.Test.YtilhjbhhgpoajaaUc
import Derived.StillTail
import Derived.StillTactics
namespace Go.Proofs.Ytilhjbhhgpoajaa
open Go.RowKit
set_option linter.unusedVariables false
set_option linter.unusedSimpArgs false
set_option maxRecDepth 8000

abbrev rgA (a r : Int) : Array Value := #[vI a, vI r]
theorem rg_inf (a r : Int) : (Try.prog.info? 93).map (·.size) = some (rgA a r).size := by
  show (Try.prog.info? 93).map (·.size) = some 2
  kernel_rfl
theorem rg_one (a r : Int) : (rgA a r).all (·.oneCell') = true := by simp [Value.oneCell']
theorem upd_run {ops : Array Oper} {rest : List Oper} {p : Oper} {a : Act} {w : World} {Q : Exit → Act → World → Prop} (hg : p.guard = none) (t : TypeId) (m x v : Operand) (ho : p.op = .mapUpdate t m x v) (mv xv vv : Value) (hm : a.eval m = mv) (hx : a.eval x = xv) (hv : a.eval v = vv) {w2 : World} (hrun : (Instr.mapUpdate t mv xv vv).run Try.prog w = .ok () w2)
    (h : wpList Try.prog ops Q rest (a.put p.dst undef) w2) : wpList Try.prog ops Q (p :: rest) a w :=
  wpList_plain hg fun _ hK => by
    unfold Oper.wp execOp
    simp only [ho, hm, hx, hv, Sem.run_bind, Sem.run_pure, Result.andThen_ok, hrun]
    exact hK _ _ h
theorem del_run {ops : Array Oper} {rest : List Oper} {p : Oper} {a : Act} {w : World} {Q : Exit → Act → World → Prop} (hg : p.guard = none) (m x : Operand) (t k : TypeId) (ho : p.op = .call { callee := .builtin .delete, args := #[m, x], argTypes := #[t, k] }) (mv xv : Value) (hm : a.eval m = mv) (hx : a.eval x = xv) {w2 : World} (hrun : (Builtin.delete_ #[t, k] p.type #[mv, xv]).run Try.prog w = .ok (.tuple #[]) w2)
    (h : wpList Try.prog ops Q rest (a.put p.dst (.tuple #[])) w2) : wpList Try.prog ops Q (p :: rest) a w :=
  wpList_plain hg fun _ hK => by
    unfold Oper.wp execOp
    simp only [ho, resolve, invoke, builtin, Sem.run_bind, Sem.run_pure, Result.andThen_ok, List.map_toArray, List.map_cons, List.map_nil, hm, hx, hrun]
    exact hK _ _ h
theorem wpList_row {ops : Array Oper} {rest : List Oper} {o : Oper} {a : Act} {w : World} {Q : Exit → Act → World → Prop} (hw : Region.wanted o (yielded ops a.tmps) = true) (t : TypeId) (x : Operand) (ho : o.op = .load t x) {b : Nat} (hx : a.eval x = ptr b 0) {d : Array Value} {T : TypeDesc} (hb : w.heap[b]? = some (.cells d t)) (hT : Try.prog.underlying t = some T) (hs : (match T with | .struct _ => true | _ => false) = true) (hi : (Try.prog.info? t).map (·.size) = some d.size)
    (h : wpList Try.prog ops Q rest (a.put o.dst (.agg d)) w) : wpList Try.prog ops Q (o :: rest) a w := by
  refine BigFrame.wpList_want hw fun K hK => ?_
  unfold Oper.wp execOp
  have h1 := run_loadVar_row w b t t d (0, 0) _ hb hT (by cases T <;> first | rfl | cases hs) hi
  simp only [ho, hx, Instr.loadAt, Instr.sureAddr, Sem.run_bind, Sem.run_pure, Result.andThen_ok, h1]
  exact hK _ _ h
theorem still_row {ops : Array Oper} {rest : List Oper} {o : Oper} {a : Act} {w : World} {Q : Act → Prop} (hg : Region.wanted o (yielded ops a.tmps) = true) (t : TypeId) (x : Operand) (ho : o.op = .load t x) {p : Addr} (hx : a.eval x = .pointer (some p)) {v : Value} (hr : (loadVar t p).run Try.prog w = .ok v w)
    (h : wpStill Try.prog ops w Q rest (a.put o.dst v)) : wpStill Try.prog ops w Q (o :: rest) a := by
  refine wpStill_step fun K hK => ?_
  rw [if_pos hg]
  unfold Oper.still execOp
  simp only [ho, hx, Instr.loadAt, Instr.sureAddr, Sem.run_bind, Sem.run_pure, Result.andThen_ok, hr, Oper.stillUpon_value]
  exact hK _ h
theorem run_reg {w : World} {b : Nat} {a r : Int} (h : w.heap[b]? = some (.cells (rgA a r) 93)) : (loadVar 93 ⟨b, 0, none⟩).run Try.prog w = .ok (.agg (rgA a r)) w := run_loadVar_row w b 93 93 (rgA a r) (0, 0) _ h Try.underlying93 rfl (rg_inf _ _)
section
variable {G : Fh} {c : Nat} {S : Fo} {u : Value} {w : World}
theorem set_c (h : FoAt G c S u w) (o : Opr) {a r : Int} (ha : SmallI a) (hr : SmallI r) (hc : c < 100000) (h0 : 0 ≤ o.a) (hl : S.laid.length ≤ 100000) : Calls Try.prog 65 #[ptr G.p 0, .agg (rgA a r), opV o] w fun e w' => e = .returned (vI S.laid.length) ∧ FT G (c + 1) (S.set a r o).1 u w w' := by
  have hb1 := below_alloc w (.cells (rgA a r) 93)
  have hb2 := below_alloc (w.alloc (.cells (rgA a r) 93)) (.cells (opA o) 45)
  have L1 : ((w.alloc (.cells (rgA a r) 93)).alloc (.cells (opA o) 45)).heap[w.heap.size]? = some (.cells (rgA a r) 93) := by rw [hb2.block _ (by simp)]; exact heap_alloc_new _ _
  have L2 : LocO (w.heap.size + 1) o ((w.alloc (.cells (rgA a r) 93)).alloc (.cells (opA o) 45)) := by have := LocO.new (w.alloc (.cells (rgA a r) 93)) o; rwa [World.size_alloc] at this
  have ap : Apart G u (w.heap.size + 1) := h.apart (Nat.le_succ _)
  have R := FM.from (below_then hb1 (Nat.le_refl _) hb2) ((h.grow hb1).grow hb2).here
  clear h hb1 hb2
  go_enter Try.func65, Try.ntmps65
  go_upto_region 1 with fail
  generalize (w.alloc (.cells (rgA a r) 93)).alloc (.cells (opA o) 45) = w1 at *
  refine wp_region_still_tail 7 (by kernel_rfl) (by kernel_rfl) ?_
  replace R := R.grow (below_dr w1)
  replace L2 := L2.grow (below_dr w1)
  replace L1 : ({ w1 with drawn := w1.drawn + 1 } : World).heap[w.heap.size]? = some (.cells (rgA a r) 93) := L1
  generalize ({ w1 with drawn := w1.drawn + 1 } : World) = w2 at *
  have z0 := R.at_.c0
  have z2 := L2.c2
  simp only [List.take_succ_cons, List.take_zero, List.drop_succ_cons, List.drop_zero]
  repeat (first | still_step | ((with_reducible refine still_row rfl _ _ rfl rfl (run_reg L1) ?_); simp only [Act.put, List.setIfInBounds_toArray, List.set_cons_succ, List.set_cons_zero]))
  refine wpStill_nil ?_
  obtain ⟨q, hq⟩ : ∃ q : Nat, o.a = q := ⟨o.a.toNat, by omega⟩
  rw [hq]
  obtain ⟨w3, q1, q2, q3, q4⟩ := R.at_.map.put ha hr hc q
  (with_reducible refine upd_run rfl _ _ _ _ rfl (.map (some G.m)) (.agg (rgA a r)) (vI q) rfl rfl rfl q1 ?_)
  simp only [Act.put, List.setIfInBounds_toArray, List.set_cons_succ, List.set_cons_zero]
  have R2 := R.at_.turn q2 q3
  have L3 : LocO (w.heap.size + 1) o w3 := R2.keeps ap L2
  replace R := R.then R2
  clear z0 z2 L1 L2 R2 q1 q2 q3 q4
  go_upto_region 2 with fail
  refine wp_region_still_tail 5 (by kernel_rfl) (by kernel_rfl) ?_
  replace R := R.grow (below_dr w3)
  replace L3 := L3.grow (below_dr w3)
  generalize ({ w3 with drawn := w3.drawn + 1 } : World) = w4 at *
  have z1 := R.at_.c1
  have A3 := run_load42 L3.at_
  simp only [List.take_succ_cons, List.take_zero, List.drop_succ_cons, List.drop_zero]
  repeat (first | still_step | ((with_reducible refine still_row rfl _ _ rfl rfl A3 ?_); simp only [Act.put, List.setIfInBounds_toArray, List.set_cons_succ, List.set_cons_zero]))
  refine wpStill_nil ?_
  have kp := put_c R.at_ o hl
  clear z1 A3 L3
  go_wp2_with (go_at_call 36; (with_reducible refine kp.mono ?_); clear kp; rintro e w5 ⟨rfl, u5, R5⟩; dsimp only)
  go_ret
  have e : (S.set a r o).1 = (({ S with known := fun x y => if x = a ∧ y = r then some q else S.known x y } : Fo).put o) := by unfold Fo.set Fo.know; rw [hq, Int.toNat_natCast]
  rw [e]
  exact ⟨rfl, u5, R.then R5⟩
end
end Go.Proofs.Ytilhjbhhgpoajaa
