/- Uc, Ud of the seat, joined. -/
import Derived.Test.YtilhjbhhgpoajaaDoorUb
import Derived.Test.YtilhjbhhgpoajaaDoorGa
import Derived.Deep.AppendLies
import Derived.StillTail
import Derived.StillTactics
/- The two closures of a go. -/
namespace Go.Proofs.YtilhjbhhgpoajaaDoor
open Go.RowKit
set_option linter.unusedVariables false
set_option linter.unusedSimpArgs false
set_option maxRecDepth 8000

theorem run_one30 (o : Opr) (w : World) : (Instr.buildSlice 23 1 #[(0, opV o)]).run Tryd.prog w = .ok (.slice (some ⟨w.heap.size, 0, none⟩) 1 1) (w.alloc (.cells (opA o) 37)) := by
  obtain ⟨i, hi, hz, hs, hby⟩ := info_parts info42
  exact run_buildSlice (P := Tryd.prog) w 23 37 1 _ _ i (opV nilO) Tryd.underlying23 hi hz (by rw [hs]; decide) (by rw [hs]; decide) (by rw [hs]; kernel_rfl)
theorem wpList_one30 {ops : Array Oper} {rest : List Oper} {p : Oper} {a : Act} {w : World} {Q : Exit → Act → World → Prop} (hg : p.guard = none) (y : Operand) (ho : p.op = .buildSlice 23 1 #[(0, y)]) (o : Opr) (hy : a.eval y = opV o)
    (h : wpList Tryd.prog ops Q rest (a.put p.dst (.slice (some ⟨w.heap.size, 0, none⟩) 1 1)) (w.alloc (.cells (opA o) 37))) : wpList Tryd.prog ops Q (p :: rest) a w :=
  wpList_plain hg fun _ hK => by
    unfold Oper.wp execOp
    simp only [ho, Sem.run_bind, List.map_toArray, List.map_cons, List.map_nil, hy, run_one30, Result.andThen_ok]
    exact hK _ _ h
theorem opF_snoc (l : List Opr) (o : Opr) : opF (l ++ [o]) = opF l ++ (opA o).toList := by simp [opF]
theorem own_slice {w : World} {base : Nat} {v : Value} {n : Nat} {xs : List Value} {t s : Nat} (h : w.ownsRow base t s v n xs) : ∃ ao cap, v = .slice ao n cap := by
  rcases h.2 with ⟨rfl, rfl⟩ | ⟨g, cap, cur, rfl, _⟩
  · exact ⟨_, _, rfl⟩
  · exact ⟨_, _, rfl⟩
theorem wpList_appO {ops : Array Oper} {rest : List Oper} {p : Oper} {a : Act} {w : World} {Q : Exit → Act → World → Prop} (hg : p.guard = none) (s x : Operand) (ho : p.op = .call { callee := .builtin .append, args := #[s, x], argTypes := #[23, 23] }) {base N : Nat} {v : Value} {l : List Opr} {o : Opr} (hs : a.eval s = v) (hx : a.eval x = .slice (some ⟨N, 0, none⟩) 1 1) (hc : w.heap[N]? = some (.cells (opA o) 37)) (O : w.ownsRow base 37 6 v l.length (opF l)) (hl : l.length ≤ 100000) (hbase : base ≤ w.heap.size)
    (h : ∀ g cap w', w'.ownsRow base 37 6 (.slice (some ⟨g, 0, none⟩) (l.length + 1) cap) (l.length + 1) (opF (l ++ [o])) → Goes (fun k => v.ownBlock = some k) w w' → (v.ownBlock = some g ∨ g = w.heap.size) → wpList Tryd.prog ops Q rest (a.put p.dst (.slice (some ⟨g, 0, none⟩) (l.length + 1) cap)) w') : wpList Tryd.prog ops Q (p :: rest) a w :=
  wpList_plain hg fun _ hK => by
    obtain ⟨i, hi, hz, hsz, hby⟩ := info_parts info42
    obtain ⟨g, cap, w', hr, q1, q2, q3, _⟩ := run_append_lies (P := Tryd.prog) (w := w) 23 p.type base 37 i (opV nilO) 6 48 Tryd.underlying23 hi hz hsz hby rfl (by decide) v l.length (opF l) O ⟨N, 0, none⟩ 1 1 (opA o).toList rfl (fun j u hj => by
      rw [Addr.add_mid, Nat.zero_add, cell_of_row _ _ _ _ _ _ hc]
      rwa [Array.getElem?_toList] at hj) (by simp [Value.oneCell']) (by decide) (by simp only [maxLen]; omega) (by omega) hbase w.heap.size rfl
    unfold Oper.wp execOp
    simp only [ho, resolve, invoke, builtin, Sem.run_bind, Sem.run_pure, Result.andThen_ok, List.map_toArray, List.map_cons, List.map_nil, hs, hx, hr]
    exact hK _ _ (h g cap w' (by rw [opF_snoc]; exact q1) (goes_grown q2 (fun k hk => hk)) q3)
theorem infOS : (Tryd.prog.info? 23).map (·.size) = some 1 := by kernel_rfl
section
variable {G : Fh} {c : Nat} {S : Fo} {u : Value} {w : World}
theorem at_c (h : FoAt G c S u w) {q : Nat} (hq : q < S.laid.length) (hl : S.laid.length ≤ 100000) : Calls Tryd.prog 27 #[vI (q : Int), ptr G.v 0] w fun e w' => e = .returned (opV (opAt S.laid q)) ∧ Below w.heap.size w w' := by
  have O := (opsC_of h.own (by simp only [maxLen]; omega)).ops
  obtain ⟨ra, cap, rfl, hops⟩ := O.cell (by omega)
  have A := hops q _ (opAt_some hq)
  have z := h.cv
  have hqi : (q : Int) < S.laid.length := by omega
  have Hn : Has w [(w.heap.size, #[vI 0, vI 0, vI 0, vI 0, vI 0, vU 0], 37)] (w.alloc (.cells #[vI 0, vI 0, vI 0, vI 0, vI 0, vU 0] 37)) := (has_none w).new _ _
  replace A := A.grow Hn.below
  replace z := (h.grow Hn.below).cv
  clear h O hops
  go_enter Tryd.func27, Tryd.ntmps27
  go_upto_region 1 with fail
  generalize w.alloc (.cells #[vI 0, vI 0, vI 0, vI 0, vI 0, vU 0] 37) = w1 at *
  go_wp2_with (first | ((with_reducible refine wpList_load42 rfl _ rfl _ rfl _ A ?_); simp only [Act.put, List.setIfInBounds_toArray, List.set_cons_succ, List.set_cons_zero]) | ((with_reducible refine wpList_store_over rfl 37 Hn (fun _ h => absurd h List.not_mem_nil) _ _ rfl (opA (opAt S.laid q)) rfl rfl (op_inf _) rfl (op_one _) ?_); clear Hn; intro w2 Hn; simp only [Act.put, List.setIfInBounds_toArray, List.set_cons_succ, List.set_cons_zero]))
  refine bodyPost_ret (results_cell_row rfl _ _ _ 37 (opA (opAt S.laid q)) (0, 0) _ rfl (Hn.get List.mem_cons_self) Tryd.underlying37 rfl (op_inf _)) rfl ?_
  exact ⟨rfl, Hn.below⟩
set_option maxHeartbeats 2000000 in
theorem put_c (h : FoAt G c S u w) (o : Opr) (hl : S.laid.length ≤ 100000) : Calls Tryd.prog 26 #[opV o, ptr G.v 0] w fun e w' => e = .returned (vI S.laid.length) ∧ FT G c (S.put o) u w w' := by
  have hb := below_alloc w (.cells (opA o) 37)
  have L : LocO w.heap.size o (w.alloc (.cells (opA o) 37)) := LocO.new w o
  have h1 := h.grow hb
  go_enter Tryd.func26, Tryd.ntmps26
  go_upto_region 1 with fail
  generalize w.alloc (.cells (opA o) 37) = w1 at *
  obtain ⟨ao, cap, rfl⟩ := own_slice h1.own
  have c1 := h1.cv
  have hN := below_alloc w1 (.cells (opA o) 37)
  have hnew : (w1.alloc (.cells (opA o) 37)).heap[w1.heap.size]? = some (.cells (opA o) 37) := heap_alloc_new _ _
  have h2 := h1.grow hN
  have hAp := L.at_
  clear L
  go_upto_region 2 with (first | ((with_reducible refine wpList_load42 rfl _ rfl _ rfl _ hAp ?_); clear hAp; simp only [Act.put, List.setIfInBounds_toArray, List.set_cons_succ, List.set_cons_zero]) | ((with_reducible refine wpList_one30 rfl _ rfl o rfl ?_); simp only [Act.put, List.setIfInBounds_toArray, List.set_cons_succ, List.set_cons_zero]) | ((with_reducible refine wpList_appO rfl _ _ rfl rfl rfl hnew h2.own hl h2.hB ?_); intro g2 cap2 w3 q1 q2 q3; have hvx := h2.varx q2; have R := h2.puts q1 q2 (fun k e hk => by (cases e; rcases q3 with q3 | q3; exact q3; exact absurd hk (by rw [q3]; exact Nat.lt_irrefl _))); clear q1 q2 q3 hnew; have cx := cell_of_row _ _ 0 _ _ _ hvx; have fx := frozen_of_row _ _ 0 _ _ hvx; simp only [Act.put, List.setIfInBounds_toArray, List.set_cons_succ, List.set_cons_zero]) | ((with_reducible refine wpList_storeC rfl 23 _ _ rfl G.v 0 rfl _ rfl infOS rfl rfl cx fx ?_); simp only [Act.put, List.setIfInBounds_toArray, List.set_cons_succ, List.set_cons_zero]))
  replace R := FM.from hb (FM.from hN R)
  have c3 := cell_of_row _ _ 0 _ _ _ (heap_setCell_same w3 G.v 0 _ 23 (.slice (some ⟨g2, 0, none⟩) (S.laid.length + 1) cap2) hvx)
  clear cx fx hvx h h1 h2 c1 hN hb
  have hw : wrap64 (S.laid.length : Int) = S.laid.length := by unfold wrap64; omega
  go_wp2
  go_ret
  exact ⟨rfl, _, R⟩
end
end Go.Proofs.YtilhjbhhgpoajaaDoor
/- What is known: get and set. -/
namespace Go.Proofs.YtilhjbhhgpoajaaDoor
open Go.RowKit
set_option linter.unusedVariables false
set_option linter.unusedSimpArgs false
set_option maxRecDepth 8000

abbrev rgA (a r : Int) : Array Value := #[vI a, vI r]
theorem rg_inf (a r : Int) : (Tryd.prog.info? 75).map (·.size) = some (rgA a r).size := by
  show (Tryd.prog.info? 75).map (·.size) = some 2
  kernel_rfl
theorem rg_one (a r : Int) : (rgA a r).all (·.oneCell') = true := by simp [Value.oneCell']
theorem upd_run {ops : Array Oper} {rest : List Oper} {p : Oper} {a : Act} {w : World} {Q : Exit → Act → World → Prop} (hg : p.guard = none) (t : TypeId) (m x v : Operand) (ho : p.op = .mapUpdate t m x v) (mv xv vv : Value) (hm : a.eval m = mv) (hx : a.eval x = xv) (hv : a.eval v = vv) {w2 : World} (hrun : (Instr.mapUpdate t mv xv vv).run Tryd.prog w = .ok () w2)
    (h : wpList Tryd.prog ops Q rest (a.put p.dst undef) w2) : wpList Tryd.prog ops Q (p :: rest) a w :=
  wpList_plain hg fun _ hK => by
    unfold Oper.wp execOp
    simp only [ho, hm, hx, hv, Sem.run_bind, Sem.run_pure, Result.andThen_ok, hrun]
    exact hK _ _ h
theorem del_run {ops : Array Oper} {rest : List Oper} {p : Oper} {a : Act} {w : World} {Q : Exit → Act → World → Prop} (hg : p.guard = none) (m x : Operand) (t k : TypeId) (ho : p.op = .call { callee := .builtin .delete, args := #[m, x], argTypes := #[t, k] }) (mv xv : Value) (hm : a.eval m = mv) (hx : a.eval x = xv) {w2 : World} (hrun : (Builtin.delete_ #[t, k] p.type #[mv, xv]).run Tryd.prog w = .ok (.tuple #[]) w2)
    (h : wpList Tryd.prog ops Q rest (a.put p.dst (.tuple #[])) w2) : wpList Tryd.prog ops Q (p :: rest) a w :=
  wpList_plain hg fun _ hK => by
    unfold Oper.wp execOp
    simp only [ho, resolve, invoke, builtin, Sem.run_bind, Sem.run_pure, Result.andThen_ok, List.map_toArray, List.map_cons, List.map_nil, hm, hx, hrun]
    exact hK _ _ h
theorem wpList_row {ops : Array Oper} {rest : List Oper} {o : Oper} {a : Act} {w : World} {Q : Exit → Act → World → Prop} (hw : Region.wanted o (yielded ops a.tmps) = true) (t : TypeId) (x : Operand) (ho : o.op = .load t x) {b : Nat} (hx : a.eval x = ptr b 0) {d : Array Value} {T : TypeDesc} (hb : w.heap[b]? = some (.cells d t)) (hT : Tryd.prog.underlying t = some T) (hs : (match T with | .struct _ => true | _ => false) = true) (hi : (Tryd.prog.info? t).map (·.size) = some d.size)
    (h : wpList Tryd.prog ops Q rest (a.put o.dst (.agg d)) w) : wpList Tryd.prog ops Q (o :: rest) a w := by
  refine BigFrame.wpList_want hw fun K hK => ?_
  unfold Oper.wp execOp
  have h1 := run_loadVar_row w b t t d (0, 0) _ hb hT (by cases T <;> first | rfl | cases hs) hi
  simp only [ho, hx, Instr.loadAt, Instr.sureAddr, Sem.run_bind, Sem.run_pure, Result.andThen_ok, h1]
  exact hK _ _ h
theorem still_row {ops : Array Oper} {rest : List Oper} {o : Oper} {a : Act} {w : World} {Q : Act → Prop} (hg : Region.wanted o (yielded ops a.tmps) = true) (t : TypeId) (x : Operand) (ho : o.op = .load t x) {p : Addr} (hx : a.eval x = .pointer (some p)) {v : Value} (hr : (loadVar t p).run Tryd.prog w = .ok v w)
    (h : wpStill Tryd.prog ops w Q rest (a.put o.dst v)) : wpStill Tryd.prog ops w Q (o :: rest) a := by
  refine wpStill_step fun K hK => ?_
  rw [if_pos hg]
  unfold Oper.still execOp
  simp only [ho, hx, Instr.loadAt, Instr.sureAddr, Sem.run_bind, Sem.run_pure, Result.andThen_ok, hr, Oper.stillUpon_value]
  exact hK _ h
theorem run_reg {w : World} {b : Nat} {a r : Int} (h : w.heap[b]? = some (.cells (rgA a r) 75)) : (loadVar 75 ⟨b, 0, none⟩).run Tryd.prog w = .ok (.agg (rgA a r)) w := run_loadVar_row w b 75 75 (rgA a r) (0, 0) _ h Tryd.underlying75 rfl (rg_inf _ _)
section
variable {G : Fh} {c : Nat} {S : Fo} {u : Value} {w : World}
theorem set_c (h : FoAt G c S u w) (o : Opr) {a r : Int} (ha : SmallI a) (hr : SmallI r) (hc : c < 100000) (h0 : 0 ≤ o.a) (hl : S.laid.length ≤ 100000) : Calls Tryd.prog 35 #[ptr G.p 0, .agg (rgA a r), opV o] w fun e w' => e = .returned (vI S.laid.length) ∧ FT G (c + 1) (S.set a r o).1 u w w' := by
  have hb1 := below_alloc w (.cells (rgA a r) 75)
  have hb2 := below_alloc (w.alloc (.cells (rgA a r) 75)) (.cells (opA o) 37)
  have L1 : ((w.alloc (.cells (rgA a r) 75)).alloc (.cells (opA o) 37)).heap[w.heap.size]? = some (.cells (rgA a r) 75) := by rw [hb2.block _ (by simp)]; exact heap_alloc_new _ _
  have L2 : LocO (w.heap.size + 1) o ((w.alloc (.cells (rgA a r) 75)).alloc (.cells (opA o) 37)) := by have := LocO.new (w.alloc (.cells (rgA a r) 75)) o; rwa [World.size_alloc] at this
  have ap : Apart G u (w.heap.size + 1) := h.apart (Nat.le_succ _)
  have R := FM.from (below_then hb1 (Nat.le_refl _) hb2) ((h.grow hb1).grow hb2).here
  clear h hb1 hb2
  go_enter Tryd.func35, Tryd.ntmps35
  go_upto_region 1 with fail
  generalize (w.alloc (.cells (rgA a r) 75)).alloc (.cells (opA o) 37) = w1 at *
  refine wp_region_still_tail 7 (by kernel_rfl) (by kernel_rfl) ?_
  replace R := R.grow (below_dr w1)
  replace L2 := L2.grow (below_dr w1)
  replace L1 : ({ w1 with drawn := w1.drawn + 1 } : World).heap[w.heap.size]? = some (.cells (rgA a r) 75) := L1
  generalize ({ w1 with drawn := w1.drawn + 1 } : World) = w2 at *
  have z0 := R.at_.c0
  have z2 := L2.c2
  simp only [List.take_succ_cons, List.take_zero, List.drop_succ_cons, List.drop_zero]
  repeat (first | still_step | ((with_reducible refine still_row rfl _ _ rfl rfl (run_reg L1) ?_); simp only [Act.put, List.setIfInBounds_toArray, List.set_cons_succ, List.set_cons_zero]))
  refine wpStill_nil ?_
  obtain ⟨q, hq⟩ : ∃ q : Nat, o.a = q := ⟨o.a.toNat, by omega⟩
  rw [hq]
  obtain ⟨w3, q1, q2, q3, q4⟩ := R.at_.map.put ha hr hc q
  (with_reducible refine upd_run rfl _ _ _ _ rfl (.map (some G.m)) (.agg (rgA a r)) (vI q) rfl rfl rfl q1 ?_)
  simp only [Act.put, List.setIfInBounds_toArray, List.set_cons_succ, List.set_cons_zero]
  have R2 := R.at_.turn q2 q3
  have L3 : LocO (w.heap.size + 1) o w3 := R2.keeps ap L2
  replace R := R.then R2
  clear z0 z2 L1 L2 R2 q1 q2 q3 q4
  go_upto_region 2 with fail
  refine wp_region_still_tail 5 (by kernel_rfl) (by kernel_rfl) ?_
  replace R := R.grow (below_dr w3)
  replace L3 := L3.grow (below_dr w3)
  generalize ({ w3 with drawn := w3.drawn + 1 } : World) = w4 at *
  have z1 := R.at_.c1
  have A3 := run_load42 L3.at_
  simp only [List.take_succ_cons, List.take_zero, List.drop_succ_cons, List.drop_zero]
  repeat (first | still_step | ((with_reducible refine still_row rfl _ _ rfl rfl A3 ?_); simp only [Act.put, List.setIfInBounds_toArray, List.set_cons_succ, List.set_cons_zero]))
  refine wpStill_nil ?_
  have kp := put_c R.at_ o hl
  clear z1 A3 L3
  go_wp2_with (go_at_call 26; (with_reducible refine kp.mono ?_); clear kp; rintro e w5 ⟨rfl, u5, R5⟩; dsimp only)
  go_ret
  have e : (S.set a r o).1 = (({ S with known := fun x y => if x = a ∧ y = r then some q else S.known x y } : Fo).put o) := by unfold Fo.set Fo.know; rw [hq, Int.toNat_natCast]
  rw [e]
  exact ⟨rfl, u5, R.then R5⟩
end
end Go.Proofs.YtilhjbhhgpoajaaDoor
