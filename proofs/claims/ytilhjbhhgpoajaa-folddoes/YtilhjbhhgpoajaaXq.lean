/- We, Wf, Wg, Wh of the seat, joined. -/
import Derived.Test.YtilhjbhhgpoajaaXo
import Derived.Test.YtilhjbhhgpoajaaWa
import Derived.Laws.CopyOwn
import Derived.Laws.CopyRow
/- Same: two blocks with the same head. -/
namespace Go.Proofs.Ytilhjbhhgpoajaa
open Go.RowKit
set_option linter.unusedVariables false
set_option linter.unusedSimpArgs false
set_option maxRecDepth 8000

section
variable {l m : List Opr} {w : World} {v u : Value} {pc words el : Int}
/-- Same's two blocks. -/
structure SmW (w : World) (pc words el : Int) (v u : Value) (l m : List Opr) (b1 b2 : Nat) (x : World) : Prop where
  r1 : x.heap[b1]? = some (.cells (blA pc words el v) 25)
  r2 : x.heap[b2]? = some (.cells (blA pc words el u) 25)
  o1 : Ops x v l
  o2 : Ops x u m
  below : Below w.heap.size w x
theorem SmW.grow {b1 b2 : Nat} {x y : World} (h : SmW w pc words el v u l m b1 b2 x) (hb : Below x.heap.size x y) : SmW w pc words el v u l m b1 b2 y :=
  ⟨keepRow h.r1 hb, keepRow h.r2 hb, h.o1.grow hb, h.o2.grow hb, below_then h.below (Nat.le_refl _) hb⟩
theorem smW_first (O1 : Ops w v l) (O2 : Ops w u m) : SmW w pc words el v u l m w.heap.size (w.heap.size + 1) ((w.alloc (.cells (blA pc words el v) 25)).alloc (.cells (blA pc words el u) 25)) := by
  have hb1 := below_alloc w (.cells (blA pc words el v) 25)
  have hb2 := below_alloc (w.alloc (.cells (blA pc words el v) 25)) (.cells (blA pc words el u) 25)
  refine ⟨keepRow (heap_alloc_new _ _) hb2, ?_, (O1.grow hb1).grow hb2, (O2.grow hb1).grow hb2, below_then hb1 (Nat.le_refl _) hb2⟩
  have := heap_alloc_new (w.alloc (.cells (blA pc words el v) 25)) (.cells (blA pc words el u) 25)
  rw [World.size_alloc] at this; exact this
set_option maxHeartbeats 4000000 in
theorem same_c (O1 : Ops w v l) (O2 : Ops w u m) : Calls Try.prog 12 #[blV pc words el v, blV pc words el u] w fun e w' => e = .returned (.bool (decide (l = m))) ∧ Below w.heap.size w w' := by
  have S0 := smW_first (pc := pc) (words := words) (el := el) O1 O2
  have hm1 := O1.max
  have hm2 := O2.max
  simp only [maxLen] at hm1 hm2
  obtain ⟨a1, c1, rfl⟩ := O1.len
  obtain ⟨a2, c2, rfl⟩ := O2.len
  clear O1 O2
  go_enter Try.func12, Try.ntmps12
  go_upto_region 1 with fail
  generalize (w.alloc (.cells (blA pc words el (.slice a1 l.length c1)) 25)).alloc (.cells (blA pc words el (.slice a2 m.length c2)) 25) = x1 at *
  generalize w.heap.size + 1 = b2 at *
  generalize hb1 : w.heap.size = b1 at S0
  replace hb1 := show Hid _ from hb1
  have z10 : x1.cell? ⟨b1, 0, none⟩ = some (vU pc) := by rw [cell_of_row _ _ _ _ _ _ S0.r1]; rfl
  have z11 : x1.cell? ⟨b1, 1, none⟩ = some (vI words) := by rw [cell_of_row _ _ _ _ _ _ S0.r1]; rfl
  have z12 : x1.cell? ⟨b1, 2, none⟩ = some (vI el) := by rw [cell_of_row _ _ _ _ _ _ S0.r1]; rfl
  have z13 : x1.cell? ⟨b1, 3, none⟩ = some (.slice a1 l.length c1) := by rw [cell_of_row _ _ _ _ _ _ S0.r1]; rfl
  have z20 : x1.cell? ⟨b2, 0, none⟩ = some (vU pc) := by rw [cell_of_row _ _ _ _ _ _ S0.r2]; rfl
  have z21 : x1.cell? ⟨b2, 1, none⟩ = some (vI words) := by rw [cell_of_row _ _ _ _ _ _ S0.r2]; rfl
  have z22 : x1.cell? ⟨b2, 2, none⟩ = some (vI el) := by rw [cell_of_row _ _ _ _ _ _ S0.r2]; rfl
  have z23 : x1.cell? ⟨b2, 3, none⟩ = some (.slice a2 m.length c2) := by rw [cell_of_row _ _ _ _ _ _ S0.r2]; rfl
  by_cases hl : l.length = m.length
  · have hb : (((l.length : Nat) : Int) != (m.length : Int)) = false := by rw [hl]; simp
    replace hl := show Hid _ from hl
    go_upto_region 3 with fail
    clear z10 z11 z12 z13 z20 z21 z22 z23
    replace hl := hl.out
    have E0 : Hid (∀ j, j < 0 → opAt l j = opAt m j) := fun j h => absurd h (by omega)
    replace hl := show Hid _ from hl
    go_upto_region 4 with fail
    go_loopw [5] (fun s5 wr => ∃ i : Nat, s5 = .int .i64 i ∧ i ≤ l.length ∧ SmW w pc words el (.slice a1 l.length c1) (.slice a2 m.length c2) l m b1 b2 wr ∧ Hid (∀ j, j < i → opAt l j = opAt m j)) (fun s5 _ => l.length - (intOf s5).toNat)
    case atStart => exact ⟨0, rfl, Nat.zero_le _, S0, E0⟩
    case round =>
      clear S0
      obtain ⟨i, rfl, hi, S, hE⟩ := hrel
      clear E0
      have z13 : wr.cell? ⟨b1, 3, none⟩ = some (.slice a1 l.length c1) := by rw [cell_of_row _ _ _ _ _ _ S.r1]; rfl
      by_cases hlt : (i : Int) < l.length
      · have hil : i < l.length := by omega
        have hlt2 : (i : Int) < m.length := by have := hl.out; omega
        obtain ⟨ra, ca, e1, h1⟩ := S.o1.cell (by omega)
        cases e1
        obtain ⟨rb, cb, e2, h2⟩ := S.o2.cell (by omega)
        cases e2
        have A1 := h1 i _ (opAt_some hil)
        have A2 := h2 i _ (opAt_some (by omega))
        clear h1 h2
        go_upto_region 6 with fail
        clear z13
        refine wp_region_still_tail 10 (by kernel_rfl) (by kernel_rfl) ?_
        replace S := S.grow (below_dr wr)
        replace A1 := run_load42 (A1.grow (below_dr wr))
        replace A2 := run_load42 (A2.grow (below_dr wr))
        generalize ({ wr with drawn := wr.drawn + 1 } : World) = w2 at *
        have z13 : w2.cell? ⟨b1, 3, none⟩ = some (.slice (some ra) l.length c1) := by rw [cell_of_row _ _ _ _ _ _ S.r1]; rfl
        have z23 : w2.cell? ⟨b2, 3, none⟩ = some (.slice (some rb) m.length c2) := by rw [cell_of_row _ _ _ _ _ _ S.r2]; rfl
        simp only [List.take_succ_cons, List.take_zero, List.drop_succ_cons, List.drop_zero]
        repeat (first | still_step | ((with_reducible refine still_row rfl _ _ rfl rfl A1 ?_); simp only [Act.put, List.setIfInBounds_toArray, List.set_cons_succ, List.set_cons_zero]) | ((with_reducible refine still_row rfl _ _ rfl rfl A2 ?_); simp only [Act.put, List.setIfInBounds_toArray, List.set_cons_succ, List.set_cons_zero]))
        refine wpStill_nil ?_
        clear z13 z23 A1 A2
        cases hd : decide (opAt l i = opAt m i) with
        | true =>
          go_wp2_with ((with_reducible refine wpList_neqO rfl _ _ rfl _ _ rfl rfl _ hd ?_); simp only [Act.put, List.setIfInBounds_toArray, List.set_cons_succ, List.set_cons_zero])
          go_roundw
          case rel =>
            refine ⟨i + 1, by go_num, by omega, S, fun j hj => ?_⟩
            rcases Nat.lt_or_ge j i with h | h
            · exact hE.out j h
            · obtain rfl : j = i := by omega
              exact of_decide_eq_true hd
          case measure => simp [intOf]; omega
        | false =>
          have hno : decide (l = m) = false := by
            rw [decide_eq_false_iff_not]
            intro e
            subst e
            exact absurd rfl (of_decide_eq_false hd)
          go_wp2_with ((with_reducible refine wpList_neqO rfl _ _ rfl _ _ rfl rfl _ hd ?_); simp only [Act.put, List.setIfInBounds_toArray, List.set_cons_succ, List.set_cons_zero])
          go_ret
          exact ⟨by first | rfl | (rw [hno]; rfl), S.below⟩
      · have hyes : decide (l = m) = true := decide_eq_true (list_eq_of hl.out (fun j hj => hE.out j (by omega)))
        have B := S.below
        clear hE S
        go_wp2
        go_ret
        exact ⟨by first | rfl | (rw [hyes]; rfl), B⟩
  · have hb : (((l.length : Nat) : Int) != (m.length : Int)) = true := by simp; omega
    have hno : decide (l = m) = false := by
      rw [decide_eq_false_iff_not]
      exact fun e => hl (by rw [e])
    go_wp2
    go_ret
    exact ⟨by first | rfl | (rw [hno]; rfl), S0.below⟩
end
end Go.Proofs.Ytilhjbhhgpoajaa
/- copied and still: small laws. -/
namespace Go.Proofs.Ytilhjbhhgpoajaa
open Go.RowKit
set_option linter.unusedVariables false
set_option linter.unusedSimpArgs false
set_option maxRecDepth 8000

def m7 : Opr := ⟨-7, 0, 0, 0, 0, 0⟩
theorem inf23 : (Try.prog.info? 23).map (·.size) = some 1 := by kernel_rfl
theorem opF_app (l m : List Opr) : opF (l ++ m) = opF l ++ opF m := by unfold opF; rw [List.flatMap_append]
theorem opF_one (o : Opr) : opF [o] = (opA o).toList := by simp [opF]
section
variable {w : World} {l : List Opr} {v : Value}
theorem run_mk6 (w : World) (n : Nat) (hn : (n : Int) * 48 ≤ 140737488351232) : (Instr.makeSlice 23 (vI ((n : Int) + 1)) (vI ((n : Int) + 1))).run Try.prog w = .ok (.slice (some ⟨w.heap.size, 0, none⟩) (n + 1) (n + 1)) (w.alloc (.cells (madeCells (opV nilO).cells ((n + 1) * 6)) 45)) := by
  obtain ⟨i, hi, hz, hs, hby⟩ := info_parts info42
  have hr := run_make (P := Try.prog) w 23 45 i (opV nilO) Try.underlying23 hi hz .i64 .i64 ((n : Int) + 1) ((n : Int) + 1) (by omega) (Int.le_refl _) (by rw [hby]; omega) (by omega)
  rw [hs, show ((n : Int) + 1).toNat = n + 1 by omega] at hr
  exact hr
theorem wpList_mk6 {ops : Array Oper} {rest : List Oper} {o : Oper} {a : Act} {w : World} {Q : Exit → Act → World → Prop} (hg : o.guard = none) (x y : Operand) (ho : o.op = .makeSlice 23 x y) (n : Nat) (hn : (n : Int) * 48 ≤ 140737488351232) (hx : a.eval x = vI ((n : Int) + 1)) (hy : a.eval y = vI ((n : Int) + 1))
    (h : wpList Try.prog ops Q rest (a.put o.dst (.slice (some ⟨w.heap.size, 0, none⟩) (n + 1) (n + 1))) (w.alloc (.cells (madeCells (opV nilO).cells ((n + 1) * 6)) 45))) : wpList Try.prog ops Q (o :: rest) a w :=
  wpList_plain hg fun _ hK => by
    unfold Oper.wp execOp
    simp only [ho, Sem.run_bind, hx, hy, run_mk6 w n hn, Result.andThen_ok]
    exact hK _ _ h
theorem run_cp6 {w : World} {g : Nat} {cur : Array Value} (O : Ops w v l) (hg : w.heap[g]? = some (.cells cur 45)) (hs : cur.size = (l.length + 1) * 6) (ty : TypeId) : ∃ w', (Builtin.copy_ #[23, 23] ty #[.slice (some ⟨g, 0, none⟩) (l.length + 1) (l.length + 1), v]).run Try.prog w = .ok (vI l.length) w' ∧ w'.heap[g]? = some (.cells (opF l ++ cur.toList.drop (l.length * 6)).toArray 45) ∧ ∀ B w0, B ≤ g → Below B w0 w → Below B w0 w' := by
  obtain ⟨i, h1, h2, h3, h4⟩ := info_parts info42
  obtain ⟨ao, cap, rfl⟩ := O.len
  have hmin : Nat.min l.length (l.length + 1) = l.length := Nat.min_eq_left (Nat.le_succ _)
  cases ao with
  | none =>
    obtain rfl : l = [] := by
      cases l with
      | nil => rfl
      | cons p l => obtain ⟨ra, c2, e2, _⟩ := O.cell (by simp); cases e2
    refine ⟨w, ?_, ?_, fun _ _ _ h => h⟩
    · simp [Builtin.copy_, run_underlying Try.underlying23, Builtin.lenOf, Builtin.firstCells, sizeOf, typeInfo, h1, storeCells]
      rfl
    · simpa [opF] using hg
  | some ra =>
    have hsrc : ∀ j u, (opF l)[j]? = some u → w.cell? (ra.add j) = some u := fun j u hu => by
      have h0 : 0 < l.length := by
        cases l with
        | nil => simp [opF] at hu
        | cons p l => simp
      exact O.flat h0 j u hu
    have hl := run_loadCells_list (P := Try.prog) w ra (opF l) hsrc
    rw [opF_len] at hl
    have hst := run_storeCells_at (P := Try.prog) g 0 45 (opF l) 0 cur w hg (by rw [opF_len, hs]; omega) (one_opF l)
    refine ⟨_, ?_, setRow_heap _ _ _ _ _ _ hg, fun B w0 hB hb => _root_.Go.below_setRow hb hB _⟩
    · simp only [Builtin.copy_, run_underlying Try.underlying23, Builtin.lenOf, Builtin.firstCells, sizeOf, typeInfo, h1, h3, Sem.run_bind, Sem.run_pure, Result.andThen_ok, List.getElem?_toArray, List.getElem?_cons_zero, List.getElem?_cons_succ, hmin, hl]
      simp [h1, h3, hl, hst, opF_len]
      try rfl
theorem wpList_cp6 {ops : Array Oper} {rest : List Oper} {o : Oper} {a : Act} {w : World} {Q : Exit → Act → World → Prop} (hgd : o.guard = none) (d s : Operand) (ho : o.op = .call { callee := .builtin .copy, args := #[d, s], argTypes := #[23, 23] }) {g : Nat} {cur : Array Value} (O : Ops w v l) (hg : w.heap[g]? = some (.cells cur 45)) (hsz : cur.size = (l.length + 1) * 6) (hd : a.eval d = .slice (some ⟨g, 0, none⟩) (l.length + 1) (l.length + 1)) (hs : a.eval s = v)
    (h : ∀ w', w'.heap[g]? = some (.cells (opF l ++ cur.toList.drop (l.length * 6)).toArray 45) → (∀ B w0, B ≤ g → Below B w0 w → Below B w0 w') → wpList Try.prog ops Q rest (a.put o.dst (vI l.length)) w') : wpList Try.prog ops Q (o :: rest) a w := by
  obtain ⟨w', hr, q1, q2⟩ := run_cp6 O hg hsz o.type
  refine wpList_plain hgd fun K hK => ?_
  unfold Oper.wp
  simp [execOp, ho, resolve, invoke, builtin, hd, hs, hr, Result.andThen]
  exact hK _ _ (h w' q1 q2)
theorem run_st7 {w : World} {g : Nat} {T : List Value} (hg : w.heap[g]? = some (.cells (opF l ++ T).toArray 45)) (hT : T.length = 6) : (storeVar 45 ⟨g, l.length * 6, none⟩ (opV m7)).run Try.prog w = .ok () (w.setRow g (opF (l ++ [m7])).toArray) := by
  have := run_storeCells_at (P := Try.prog) g (l.length * 6) 45 (opA m7).toList 0 _ w hg (by simp [opF_len, hT]) (fun v hv => by
    have := Array.all_eq_true_iff_forall_mem.1 (op_one m7) v (by simpa using hv); exact this)
  have e6 : (opA m7).toList.length = 6 := rfl
  rw [e6] at this
  simp only [Nat.add_zero] at this
  have e1 : ((opF l ++ T).toArray.toList.take (l.length * 6) ++ (opA m7).toList ++ (opF l ++ T).toArray.toList.drop (l.length * 6 + 6)) = opF (l ++ [m7]) := by
    rw [opF_app, opF_one, List.toList_toArray, List.take_append_of_le_length (by rw [opF_len]; omega), List.take_of_length_le (by rw [opF_len]; omega), List.drop_of_length_le (by simp [opF_len, hT]), List.append_nil]
  rw [e1] at this
  have hin := op_inf m7
  cases hq : Try.prog.info? 45 with
  | none => simp [hq] at hin
  | some inf =>
    have hs : inf.size = 6 := by simpa [hq] using hin
    simp [storeVar, sizeOf, typeInfo, hq, Value.cells, hs, this]
theorem wpList_st7 {ops : Array Oper} {rest : List Oper} {p : Oper} {a : Act} {w : World} {Q : Exit → Act → World → Prop} (hgd : p.guard = none) (x y : Operand) (ho : p.op = .store 45 x y) {g : Nat} {T : List Value} (hx : a.eval x = ptr g (l.length * 6)) (hy : a.eval y = opV m7) (hg : w.heap[g]? = some (.cells (opF l ++ T).toArray 45)) (hT : T.length = 6)
    (h : wpList Try.prog ops Q rest (a.put p.dst undef) (w.setRow g (opF (l ++ [m7])).toArray)) : wpList Try.prog ops Q (p :: rest) a w := by
  refine wpList_plain hgd fun K hK => ?_
  unfold Oper.wp execOp
  simp only [ho, hx, hy, Instr.storeAt, Instr.sureAddr, Sem.run_bind, Sem.run_pure, Result.andThen_ok, run_st7 hg hT]
  exact hK _ _ h
theorem m7_ops {w : World} {g : Nat} (h : w.heap[g]? = some (.cells (opF (l ++ [m7])).toArray 45)) (hm : l.length ≤ maxLen) : Ops w (.slice (some ⟨g, 0, none⟩) l.length (l.length + 1)) l ∧ w.cell? ⟨g, l.length * 6, none⟩ = some (vI (-7)) := by
  have hc : ∀ j, w.cell? ⟨g, j, none⟩ = (opF (l ++ [m7]))[j]? := fun j => by rw [cell_of_row _ _ _ _ _ _ h]; simp
  refine ⟨⟨⟨_, _, rfl⟩, hm, fun _ => ⟨_, _, rfl, fun i o ho => ?_⟩⟩, ?_⟩
  · rw [Addr.add_mid, Nat.zero_add]
    have hil := (List.getElem?_eq_some_iff.1 ho).1
    have ho' : (l ++ [m7])[i]? = some o := by rw [List.getElem?_append_left hil]; exact ho
    have q := fun j hj => (hc (i * 6 + j)).trans (opF_get ho' j hj)
    exact ⟨lt_of_some h, q 0 (by decide), q 1 (by decide), q 2 (by decide), q 3 (by decide), q 4 (by decide), q 5 (by decide)⟩
  · have ho' : (l ++ [m7])[l.length]? = some m7 := by simp
    exact (hc (l.length * 6 + 0)).trans (opF_get ho' 0 (by decide))
end
end Go.Proofs.Ytilhjbhhgpoajaa
/- copied. -/
namespace Go.Proofs.Ytilhjbhhgpoajaa
open Go.RowKit
set_option linter.unusedVariables false
set_option linter.unusedSimpArgs false
set_option maxRecDepth 8000

section
variable {w : World} {l : List Opr} {v : Value} {pc words el : Int}
theorem zb_size (v : Value) : (#[vU 0, vI 0, vI 0, .slice none 0 0] : Array Value).size = (blA pc words el v).size := rfl
theorem bl_put3 (v u : Value) : (blA pc words el v).setIfInBounds 3 u = blA pc words el u := rfl
set_option maxHeartbeats 4000000 in
theorem copied_c (O : Ops w v l) (hl : l.length * 48 ≤ 140737488351232) : Calls Try.prog 8 #[blV pc words el v] w fun e w' => ∃ g, e = .returned (blV pc words el (.slice (some ⟨g, 0, none⟩) l.length (l.length + 1))) ∧ w'.heap[g]? = some (.cells (opF (l ++ [m7])).toArray 45) ∧ w.heap.size ≤ g ∧ Below w.heap.size w w' := by
  have hb1 := below_alloc w (.cells (blA pc words el v) 25)
  have hb2 := below_alloc (w.alloc (.cells (blA pc words el v) 25)) (.cells #[vU 0, vI 0, vI 0, .slice none 0 0] 25)
  have hB := below_then hb1 (Nat.le_refl _) hb2
  have r1 : ((w.alloc (.cells (blA pc words el v) 25)).alloc (.cells #[vU 0, vI 0, vI 0, .slice none 0 0] 25)).heap[w.heap.size]? = some (.cells (blA pc words el v) 25) := keepRow (heap_alloc_new _ _) hb2
  have r2 : ((w.alloc (.cells (blA pc words el v) 25)).alloc (.cells #[vU 0, vI 0, vI 0, .slice none 0 0] 25)).heap[w.heap.size + 1]? = some (.cells #[vU 0, vI 0, vI 0, .slice none 0 0] 25) := by
    have := heap_alloc_new (w.alloc (.cells (blA pc words el v) 25)) (.cells #[vU 0, vI 0, vI 0, .slice none 0 0] 25)
    rw [World.size_alloc] at this
    exact this
  have O1 := O.grow hB
  have hmx := O.max
  simp only [maxLen] at hmx
  obtain ⟨a0, c0, rfl⟩ := O.len
  clear hb1 hb2 O
  have hnb : (l.length : Int) * 48 ≤ 140737488351232 := by omega
  go_enter Try.func8, Try.ntmps8
  go_upto_region 1 with fail
  generalize (w.alloc (.cells (blA pc words el (.slice a0 l.length c0)) 25)).alloc (.cells #[vU 0, vI 0, vI 0, .slice none 0 0] 25) = w1 at *
  generalize ht : w.heap.size = t at r1 r2
  have hlt1 : t + 1 < w1.heap.size := lt_of_some r2
  replace ht := show Hid _ from ht
  have z3 : w1.cell? ⟨t, 3, none⟩ = some (.slice a0 l.length c0) := by rw [cell_of_row _ _ _ _ _ _ r1]; rfl
  go_upto_region 2 with ((with_reducible refine wpList_mk6 rfl _ _ rfl l.length hnb rfl rfl ?_); simp only [Act.put, List.setIfInBounds_toArray, List.set_cons_succ, List.set_cons_zero])
  have hba := below_alloc w1 (.cells (madeCells (opV nilO).cells ((l.length + 1) * 6)) 45)
  have rg : (w1.alloc (.cells (madeCells (opV nilO).cells ((l.length + 1) * 6)) 45)).heap[w1.heap.size]? = some (.cells (madeCells (opV nilO).cells ((l.length + 1) * 6)) 45) := heap_alloc_new _ _
  have hsz : (madeCells (opV nilO).cells ((l.length + 1) * 6)).size = (l.length + 1) * 6 := size_madeCells _ _
  replace O1 := O1.grow hba
  replace r1 := keepRow r1 hba
  replace r2 := keepRow r2 hba
  have hlo := hB.size
  replace hB := below_then hB (Nat.le_refl _) hba
  clear hba z3
  generalize w1.alloc (.cells (madeCells (opV nilO).cells ((l.length + 1) * 6)) 45) = w2 at *
  generalize madeCells (opV nilO).cells ((l.length + 1) * 6) = cur at *
  generalize w1.heap.size = g at *
  have z3 : w2.cell? ⟨t, 3, none⟩ = some (.slice a0 l.length c0) := by rw [cell_of_row _ _ _ _ _ _ r1]; rfl
  go_upto_region 3 with ((with_reducible refine wpList_cp6 rfl _ _ rfl O1 rg hsz rfl rfl ?_); intro w3 rg3 hb3; simp only [Act.put, List.setIfInBounds_toArray, List.set_cons_succ, List.set_cons_zero])
  have hgt1 : t ≠ g := by omega
  have hgt2 : t + 1 ≠ g := by omega
  have hbg : Below g w2 w3 := hb3 g w2 (Nat.le_refl _) (Below.refl _ _)
  replace r1 : w3.heap[t]? = some (.cells (blA pc words el (.slice a0 l.length c0)) 25) := by rw [hbg.block t (by omega)]; exact r1
  replace r2 : w3.heap[t + 1]? = some (.cells #[vU 0, vI 0, vI 0, .slice none 0 0] 25) := by rw [hbg.block (t + 1) (by omega)]; exact r2
  replace hB := hb3 _ _ hlo hB
  have hT : (cur.toList.drop (l.length * 6)).length = 6 := by simp [hsz]; omega
  clear O1 rg hsz hb3 hbg z3
  have z3 : w3.cell? ⟨t, 3, none⟩ = some (.slice a0 l.length c0) := by rw [cell_of_row _ _ _ _ _ _ r1]; rfl
  go_upto_region 4 with (first | ((with_reducible refine wpList_built rfl _ _ rfl (opA m7) (by kernel_rfl) ?_); simp only [Act.put, List.setIfInBounds_toArray, List.set_cons_succ, List.set_cons_zero]) | ((refine wpList_st7 rfl _ _ rfl (g := g) (by first | rfl | simp [Act.eval, Addr.add]) rfl rg3 hT ?_); simp only [Act.put, List.setIfInBounds_toArray, List.set_cons_succ, List.set_cons_zero]))
  have r7 : (w3.setRow g (opF (l ++ [m7])).toArray).heap[g]? = some (.cells (opF (l ++ [m7])).toArray 45) := setRow_heap _ _ _ _ _ _ rg3
  replace r1 : (w3.setRow g (opF (l ++ [m7])).toArray).heap[t]? = some (.cells (blA pc words el (.slice a0 l.length c0)) 25) := by rw [setRow_other _ _ _ _ hgt1]; exact r1
  replace r2 : (w3.setRow g (opF (l ++ [m7])).toArray).heap[t + 1]? = some (.cells #[vU 0, vI 0, vI 0, .slice none 0 0] 25) := by rw [setRow_other _ _ _ _ hgt2]; exact r2
  replace hB := _root_.Go.below_setRow hB hlo (opF (l ++ [m7])).toArray
  clear rg3 hT z3
  generalize w3.setRow g (opF (l ++ [m7])).toArray = w4 at *
  have z3 : w4.cell? ⟨t, 3, none⟩ = some (.slice a0 l.length c0) := by rw [cell_of_row _ _ _ _ _ _ r1]; rfl
  have f3 : w4.frozen? ⟨t, 3, none⟩ = false := frozen_of_row _ _ _ _ _ r1
  go_upto_region 5 with ((with_reducible refine wpList_storeC rfl 23 _ _ rfl t 3 rfl (.slice (some ⟨g, 0, none⟩) l.length (l.length + 1)) rfl inf23 rfl rfl z3 f3 ?_); simp only [Act.put, List.setIfInBounds_toArray, List.set_cons_succ, List.set_cons_zero])
  have hlow : w.heap.size ≤ t := by have := ht.out; omega
  have r1' : (w4.setCell ⟨t, 3, none⟩ (.slice (some ⟨g, 0, none⟩) l.length (l.length + 1))).heap[t]? = some (.cells (blA pc words el (.slice (some ⟨g, 0, none⟩) l.length (l.length + 1))) 25) := by
    rw [heap_setCell_same w4 t 3 _ 25 _ r1, bl_put3]
  have r2' : (w4.setCell ⟨t, 3, none⟩ (.slice (some ⟨g, 0, none⟩) l.length (l.length + 1))).heap[t + 1]? = some (.cells #[vU 0, vI 0, vI 0, .slice none 0 0] 25) := by rw [Below.heap_setCell _ _ _ _ (show t + 1 ≠ t by omega)]; exact r2
  have r7' : (w4.setCell ⟨t, 3, none⟩ (.slice (some ⟨g, 0, none⟩) l.length (l.length + 1))).heap[g]? = some (.cells (opF (l ++ [m7])).toArray 45) := by rw [Below.heap_setCell _ _ _ _ (Ne.symm hgt1)]; exact r7
  have hB' : Below w.heap.size w (w4.setCell ⟨t, 3, none⟩ (.slice (some ⟨g, 0, none⟩) l.length (l.length + 1))) := hB.setCell hlow _
  clear r1 r2 r7 hB z3 f3
  generalize w4.setCell ⟨t, 3, none⟩ (.slice (some ⟨g, 0, none⟩) l.length (l.length + 1)) = w5 at *
  go_wp2_with (first | ((with_reducible refine wpList_load_if rfl 25 _ rfl _ rfl 25 _ (0, 0) _ r1' Try.underlying25 rfl (bl_inf _ _ _ _) ?_); simp only [Act.put, List.setIfInBounds_toArray, List.set_cons_succ, List.set_cons_zero]) | ((with_reducible refine wpList_store_row rfl 25 _ _ rfl (t + 1) (blA pc words el (.slice (some ⟨g, 0, none⟩) l.length (l.length + 1))) rfl rfl 25 _ r2' (bl_inf _ _ _ _) rfl (blk_one _ _ _ _ rfl) ?_); simp only [Act.put, List.setIfInBounds_toArray, List.set_cons_succ, List.set_cons_zero]))
  refine bodyPost_ret (back25 rfl _ _ (t + 1) rfl (setRow_heap _ _ _ _ _ _ r2')) rfl ?_
  refine ⟨g, rfl, ?_, hlo, _root_.Go.below_setRow hB' (by omega) _⟩
  rw [setRow_other _ _ _ _ (Ne.symm hgt2)]; exact r7'
end
end Go.Proofs.Ytilhjbhhgpoajaa
/- still. -/
namespace Go.Proofs.Ytilhjbhhgpoajaa
open Go.RowKit
set_option linter.unusedVariables false
set_option linter.unusedSimpArgs false
set_option maxRecDepth 8000

section
variable {w : World} {l : List Opr} {v : Value} {pc words el : Int}
set_option maxHeartbeats 4000000 in
theorem still_c {g : Nat} (hl : l.length * 48 ≤ 140737488351232) (h : w.heap[g]? = some (.cells (opF (l ++ [m7])).toArray 45)) (O : Ops w v l) : Calls Try.prog 11 #[blV pc words el (.slice (some ⟨g, 0, none⟩) l.length (l.length + 1)), blV pc words el v] w fun e w' => e = .returned (.bool true) ∧ Below w.heap.size w w' := by
  have hm : l.length ≤ maxLen := by simp only [maxLen]; omega
  have hnb : (l.length : Int) * 48 ≤ 140737488351232 := by omega
  have S0 := smW_first (pc := pc) (words := words) (el := el) (m7_ops h hm).1 O
  have rg := keepRow (keepRow h (below_alloc w (.cells (blA pc words el (.slice (some ⟨g, 0, none⟩) l.length (l.length + 1))) 25))) (below_alloc _ (.cells (blA pc words el v) 25))
  obtain ⟨a2, c2, rfl⟩ := O.len
  clear h O
  go_enter Try.func11, Try.ntmps11
  go_upto_region 1 with fail
  generalize (w.alloc (.cells (blA pc words el (.slice (some ⟨g, 0, none⟩) l.length (l.length + 1))) 25)).alloc (.cells (blA pc words el (.slice a2 l.length c2)) 25) = x1 at *
  generalize w.heap.size + 1 = b2 at *
  generalize hb1 : w.heap.size = b1 at S0
  replace hb1 := show Hid _ from hb1
  have ks := same_c (pc := pc) (words := words) (el := el) S0.o1 S0.o2
  rw [show decide (l = l) = true by simp] at ks
  have q1 := S0.r1
  have q2 := S0.r2
  go_upto_region 2 with (first | ((with_reducible refine wpList_load_if rfl 25 _ rfl _ rfl 25 _ (0, 0) _ q1 Try.underlying25 rfl (bl_inf _ _ _ _) ?_); simp only [Act.put, List.setIfInBounds_toArray, List.set_cons_succ, List.set_cons_zero]) | ((with_reducible refine wpList_load_if rfl 25 _ rfl _ rfl 25 _ (0, 0) _ q2 Try.underlying25 rfl (bl_inf _ _ _ _) ?_); simp only [Act.put, List.setIfInBounds_toArray, List.set_cons_succ, List.set_cons_zero]) | (go_at_call 12; (with_reducible refine ks.mono ?_); clear ks; rintro e x2 ⟨rfl, B⟩; dsimp only))
  replace S0 := S0.grow B
  replace rg := keepRow rg B
  clear B q1 q2
  refine wp_region_still_tail 17 (by kernel_rfl) (by kernel_rfl) ?_
  replace S0 := S0.grow (below_dr x2)
  replace rg := keepRow rg (below_dr x2)
  generalize ({ x2 with drawn := x2.drawn + 1 } : World) = x3 at *
  have z13 : x3.cell? ⟨b1, 3, none⟩ = some (.slice (some ⟨g, 0, none⟩) l.length (l.length + 1)) := by rw [cell_of_row _ _ _ _ _ _ S0.r1]; rfl
  have z23 : x3.cell? ⟨b2, 3, none⟩ = some (.slice a2 l.length c2) := by rw [cell_of_row _ _ _ _ _ _ S0.r2]; rfl
  have z7 := (m7_ops rg hm).2
  have hB := S0.below
  clear S0 rg
  have hw : IntKind.i64.wrap ((l.length : Int) + 1) = (l.length : Int) + 1 := by simp only [IntKind.wrap, IntKind.signed, IntKind.bits]; simp; omega
  have h00 : (0 : Int) ≤ (l.length : Int) + 1 := by omega
  have h01 : (l.length : Int) < (l.length : Int) + 1 := by omega
  have ht : ((l.length : Int) + 1).toNat = l.length + 1 := by omega
  simp only [List.take_succ_cons, List.take_zero, List.drop_succ_cons, List.drop_zero]
  repeat still_step
  first | refine wpStill_nil ?_ | still_step
  go_wp2
  go_ret
  exact ⟨rfl, hB⟩
end
end Go.Proofs.Ytilhjbhhgpoajaa
