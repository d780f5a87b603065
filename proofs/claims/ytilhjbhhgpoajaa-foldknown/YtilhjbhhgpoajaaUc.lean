/- The two closures of a go. -/
import Derived.Test.YtilhjbhhgpoajaaUb
import Derived.Test.YtilhjbhhgpoajaaGa
import Derived.Deep.AppendLies
namespace Go.Proofs.Ytilhjbhhgpoajaa
open Go.RowKit
set_option linter.unusedVariables false
set_option linter.unusedSimpArgs false
set_option maxRecDepth 8000

theorem run_one30 (o : Opr) (w : World) : (Instr.buildSlice 23 1 #[(0, opV o)]).run Try.prog w = .ok (.slice (some ⟨w.heap.size, 0, none⟩) 1 1) (w.alloc (.cells (opA o) 45)) := by
  obtain ⟨i, hi, hz, hs, hby⟩ := info_parts info42
  exact run_buildSlice (P := Try.prog) w 23 45 1 _ _ i (opV nilO) Try.underlying23 hi hz (by rw [hs]; decide) (by rw [hs]; decide) (by rw [hs]; kernel_rfl)
theorem wpList_one30 {ops : Array Oper} {rest : List Oper} {p : Oper} {a : Act} {w : World} {Q : Exit → Act → World → Prop} (hg : p.guard = none) (y : Operand) (ho : p.op = .buildSlice 23 1 #[(0, y)]) (o : Opr) (hy : a.eval y = opV o)
    (h : wpList Try.prog ops Q rest (a.put p.dst (.slice (some ⟨w.heap.size, 0, none⟩) 1 1)) (w.alloc (.cells (opA o) 45))) : wpList Try.prog ops Q (p :: rest) a w :=
  wpList_plain hg fun _ hK => by
    unfold Oper.wp execOp
    simp only [ho, Sem.run_bind, List.map_toArray, List.map_cons, List.map_nil, hy, run_one30, Result.andThen_ok]
    exact hK _ _ h
theorem opF_snoc (l : List Opr) (o : Opr) : opF (l ++ [o]) = opF l ++ (opA o).toList := by simp [opF]
theorem own_slice {w : World} {base : Nat} {v : Value} {n : Nat} {xs : List Value} {t s : Nat} (h : w.ownsRow base t s v n xs) : ∃ ao cap, v = .slice ao n cap := by
  rcases h.2 with ⟨rfl, rfl⟩ | ⟨g, cap, cur, rfl, _⟩
  · exact ⟨_, _, rfl⟩
  · exact ⟨_, _, rfl⟩
theorem wpList_appO {ops : Array Oper} {rest : List Oper} {p : Oper} {a : Act} {w : World} {Q : Exit → Act → World → Prop} (hg : p.guard = none) (s x : Operand) (ho : p.op = .call { callee := .builtin .append, args := #[s, x], argTypes := #[23, 23] }) {base N : Nat} {v : Value} {l : List Opr} {o : Opr} (hs : a.eval s = v) (hx : a.eval x = .slice (some ⟨N, 0, none⟩) 1 1) (hc : w.heap[N]? = some (.cells (opA o) 45)) (O : w.ownsRow base 45 6 v l.length (opF l)) (hl : l.length ≤ 100000) (hbase : base ≤ w.heap.size)
    (h : ∀ g cap w', w'.ownsRow base 45 6 (.slice (some ⟨g, 0, none⟩) (l.length + 1) cap) (l.length + 1) (opF (l ++ [o])) → Goes (fun k => v.ownBlock = some k) w w' → (v.ownBlock = some g ∨ g = w.heap.size) → wpList Try.prog ops Q rest (a.put p.dst (.slice (some ⟨g, 0, none⟩) (l.length + 1) cap)) w') : wpList Try.prog ops Q (p :: rest) a w :=
  wpList_plain hg fun _ hK => by
    obtain ⟨i, hi, hz, hsz, hby⟩ := info_parts info42
    obtain ⟨g, cap, w', hr, q1, q2, q3, _⟩ := run_append_lies (P := Try.prog) (w := w) 23 p.type base 45 i (opV nilO) 6 48 Try.underlying23 hi hz hsz hby rfl (by decide) v l.length (opF l) O ⟨N, 0, none⟩ 1 1 (opA o).toList rfl (fun j u hj => by
      rw [Addr.add_mid, Nat.zero_add, cell_of_row _ _ _ _ _ _ hc]
      rwa [Array.getElem?_toList] at hj) (by simp [Value.oneCell']) (by decide) (by simp only [maxLen]; omega) (by omega) hbase w.heap.size rfl
    unfold Oper.wp execOp
    simp only [ho, resolve, invoke, builtin, Sem.run_bind, Sem.run_pure, Result.andThen_ok, List.map_toArray, List.map_cons, List.map_nil, hs, hx, hr]
    exact hK _ _ (h g cap w' (by rw [opF_snoc]; exact q1) (goes_grown q2 (fun k hk => hk)) q3)
theorem infOS : (Try.prog.info? 23).map (·.size) = some 1 := by kernel_rfl
section
variable {G : Fh} {c : Nat} {S : Fo} {u : Value} {w : World}
theorem at_c (h : FoAt G c S u w) {q : Nat} (hq : q < S.laid.length) (hl : S.laid.length ≤ 100000) : Calls Try.prog 37 #[vI (q : Int), ptr G.v 0] w fun e w' => e = .returned (opV (opAt S.laid q)) ∧ Below w.heap.size w w' := by
  have O := (opsC_of h.own (by simp only [maxLen]; omega)).ops
  obtain ⟨ra, cap, rfl, hops⟩ := O.cell (by omega)
  have A := hops q _ (opAt_some hq)
  have z := h.cv
  have hqi : (q : Int) < S.laid.length := by omega
  have Hn : Has w [(w.heap.size, #[vI 0, vI 0, vI 0, vI 0, vI 0, vU 0], 45)] (w.alloc (.cells #[vI 0, vI 0, vI 0, vI 0, vI 0, vU 0] 45)) := (has_none w).new _ _
  replace A := A.grow Hn.below
  replace z := (h.grow Hn.below).cv
  clear h O hops
  go_enter Try.func37, Try.ntmps37
  go_upto_region 1 with fail
  generalize w.alloc (.cells #[vI 0, vI 0, vI 0, vI 0, vI 0, vU 0] 45) = w1 at *
  go_wp2_with (first | ((with_reducible refine wpList_load42 rfl _ rfl _ rfl _ A ?_); simp only [Act.put, List.setIfInBounds_toArray, List.set_cons_succ, List.set_cons_zero]) | ((with_reducible refine wpList_store_over rfl 45 Hn (fun _ h => absurd h List.not_mem_nil) _ _ rfl (opA (opAt S.laid q)) rfl rfl (op_inf _) rfl (op_one _) ?_); clear Hn; intro w2 Hn; simp only [Act.put, List.setIfInBounds_toArray, List.set_cons_succ, List.set_cons_zero]))
  refine bodyPost_ret (results_cell_row rfl _ _ _ 45 (opA (opAt S.laid q)) (0, 0) _ rfl (Hn.get List.mem_cons_self) Try.underlying45 rfl (op_inf _)) rfl ?_
  exact ⟨rfl, Hn.below⟩
set_option maxHeartbeats 2000000 in
theorem put_c (h : FoAt G c S u w) (o : Opr) (hl : S.laid.length ≤ 100000) : Calls Try.prog 36 #[opV o, ptr G.v 0] w fun e w' => e = .returned (vI S.laid.length) ∧ FT G c (S.put o) u w w' := by
  have hb := below_alloc w (.cells (opA o) 45)
  have L : LocO w.heap.size o (w.alloc (.cells (opA o) 45)) := LocO.new w o
  have h1 := h.grow hb
  go_enter Try.func36, Try.ntmps36
  go_upto_region 1 with fail
  generalize w.alloc (.cells (opA o) 45) = w1 at *
  obtain ⟨ao, cap, rfl⟩ := own_slice h1.own
  have c1 := h1.cv
  have hN := below_alloc w1 (.cells (opA o) 45)
  have hnew : (w1.alloc (.cells (opA o) 45)).heap[w1.heap.size]? = some (.cells (opA o) 45) := heap_alloc_new _ _
  have h2 := h1.grow hN
  have hAp := L.at_
  clear L
  go_upto_region 2 with (first | ((with_reducible refine wpList_load42 rfl _ rfl _ rfl _ hAp ?_); clear hAp; simp only [Act.put, List.setIfInBounds_toArray, List.set_cons_succ, List.set_cons_zero]) | ((with_reducible refine wpList_one30 rfl _ rfl o rfl ?_); simp only [Act.put, List.setIfInBounds_toArray, List.set_cons_succ, List.set_cons_zero]) | ((with_reducible refine wpList_appO rfl _ _ rfl rfl rfl hnew h2.own hl h2.hB ?_); intro g2 cap2 w3 q1 q2 q3; have hvx := h2.varx q2; have R := h2.puts q1 q2 (fun k e hk => by (cases e; rcases q3 with q3 | q3; exact q3; exact absurd hk (by rw [q3]; exact Nat.lt_irrefl _))); clear q1 q2 q3 hnew; have cx := cell_of_row _ _ 0 _ _ _ hvx; have fx := frozen_of_row _ _ 0 _ _ hvx; simp only [Act.put, List.setIfInBounds_toArray, List.set_cons_succ, List.set_cons_zero]) | ((with_reducible refine wpList_storeC rfl 23 _ _ rfl G.v 0 rfl _ rfl infOS rfl rfl cx fx ?_); simp only [Act.put, List.setIfInBounds_toArray, List.set_cons_succ, List.set_cons_zero]))
  replace R := FM.from hb (FM.from hN R)
  have c3 := cell_of_row _ _ 0 _ _ _ (heap_setCell_same w3 G.v 0 _ 23 (.slice (some ⟨g2, 0, none⟩) (S.laid.length + 1) cap2) hvx)
  clear cx fx hvx h h1 h2 c1 hN hb
  have hw : wrap64 (S.laid.length : Int) = S.laid.length := by unfold wrap64; omega
  go_wp2
  go_ret
  exact ⟨rfl, _, R⟩
end
end Go.Proofs.Ytilhjbhhgpoajaa
