/- late, lates; Fetch. -/
import Derived.Test.YtjkjbcnafpljoaaVc
import Derived.Test.YtjkjbcnafpljoaaEq
namespace Go.Proofs.Ytjkjbcnafpljoaa
open Go.RowKit
set_option linter.unusedVariables false
set_option linter.unusedSimpArgs false

/-- The pair of memories. -/
def WB (wb g h : Nat) (w : World) : Prop := w.heap[wb]? = some (.cells #[ptr g 0, ptr h 0] 40)
theorem WB.c0 {wb g h : Nat} {w : World} (H : WB wb g h w) : w.cell? ⟨wb, 0, none⟩ = some (ptr g 0) := by rw [cell_of_row _ _ _ _ _ _ H]; rfl
theorem WB.c1 {wb g h : Nat} {w : World} (H : WB wb g h w) : w.cell? ⟨wb, 1, none⟩ = some (ptr h 0) := by rw [cell_of_row _ _ _ _ _ _ H]; rfl
theorem WB.grow {wb g h : Nat} {w w' : World} (H : WB wb g h w) (hb : Below w.heap.size w w') : WB wb g h w' := by
  unfold WB
  rw [hb.block _ (lt_of_some H)]; exact H
theorem inf102s : (Try.prog.info? 102).map (·.size) = some 4 := by kernel_rfl
theorem wpList_ld102 {ops : Array Oper} {rest : List Oper} {o : Oper} {a : Act} {w : World} {Q : Exit → Act → World → Prop} (hgd : o.guard = none) (x : Operand) (ho : o.op = .load 102 x) (b k : Nat) (hx : a.eval x = ptr b k) (s : R4) (hr : ∀ (j : Nat) y, s.row[j]? = some y → w.cell? ⟨b, k + j, none⟩ = some y)
    (h : wpList Try.prog ops Q rest (a.put o.dst (.agg #[vI s.c, vU s.a, vU s.v, vI s.s])) w) : wpList Try.prog ops Q (o :: rest) a w :=
  wpList_load_mid hgd 102 x ho b k hx s.row _ hr Try.underlying102 rfl inf102s h
theorem rel_load59 {G : World → World → Prop} (hG : ∀ w, G w w) {w : World} {o : Oper} {a : Act} (x : Operand) (ho : o.op = .load 59 x) (b k : Nat) (hx : a.eval x = ptr b k) (s : Lt) (hr : w.rangeAt b k [vU s.a, vU s.v, vI s.t]) (hi : (Try.prog.info? 59).map (·.size) = some 3) : Rel.relUpon Try.prog G (fun v _ => v = s.val) w ((execOp a.eval o).run Try.prog w) := by
  unfold execOp
  simp only [ho, hx, Instr.loadAt, Instr.sureAddr, Sem.run_bind, Sem.run_pure, Result.andThen_ok, run_loadVar_mid w b k 59 _ _ hr Try.underlying59 rfl hi]
  exact ⟨hG w, rfl⟩
set_option maxRecDepth 4000 in
theorem late_c (wb g h : Nat) (X : Doc) (L : DocLay) (s : Lt) (k : Nat) (x : R4) (w : World) (H : DocAt h X L w) (B : WB wb g h w) (hx : X.all[k]? = some x) (hn : X.all.length < 1000000) : Calls Try.prog 41 #[ptr wb 0, s.val, vI ((k : Int) + 1)] w fun e w' => e = .returned (.bool (eqL s ⟨x.a, x.v, (k : Int) + 1⟩)) ∧ Below w.heap.size w w' := by
  have hk : k < X.all.length := (List.getElem?_eq_some_iff.1 hx).1
  go_enter Try.func41, Try.ntmps41
  go_upto_region 1 with fail
  have hB := below_alloc w (.cells s.cells 59)
  have hs : (w.alloc (.cells s.cells 59)).heap[w.heap.size]? = some (.cells s.cells 59) := heap_alloc_new _ _
  have H1 := H.grow hB
  have B1 := B.grow hB
  generalize hsz : w.heap.size = q at hs hB ⊢
  generalize hy : World.alloc w _ = y
  have hy' : w.alloc (.cells s.cells 59) = y := hy
  rw [hy'] at hs hB H1 B1
  clear hy hy'
  obtain ⟨b, cap, ea, hrow⟩ := H1.row hx
  have c1 := B1.c1
  have c3 := H1.c3
  rw [ea] at c3
  have wk : IntKind.i64.wrap ((k : Int) + 1 - 1) = k := by rw [IntKind.wrap_i64]; omega
  have wk2 : IntKind.i64.wrap (k : Int) = k := by rw [IntKind.wrap_i64]; omega
  have hk0 : (0 : Int) ≤ k := by omega
  have hk1 : (k : Int) < X.all.length := by omega
  clear ea
  go_upto_region 2 with ((with_reducible refine wpList_ld102 rfl _ rfl b (k * 4) rfl x hrow ?_); simp only [Act.put, List.setIfInBounds_toArray, List.set_cons_succ, List.set_cons_zero])
  have hB2 := below_alloc y (.cells #[vI x.c, vU x.a, vU x.v, vI x.s] 102)
  have hq : (y.alloc (.cells #[vI x.c, vU x.a, vU x.v, vI x.s] 102)).heap[q]? = some (.cells s.cells 59) := by rw [hB2.block q (lt_of_some hs)]; exact hs
  have hx2 : (y.alloc (.cells #[vI x.c, vU x.a, vU x.v, vI x.s] 102)).heap[y.heap.size]? = some (.cells #[vI x.c, vU x.a, vU x.v, vI x.s] 102) := heap_alloc_new _ _
  generalize y.heap.size = q2 at hx2 ⊢
  generalize hy : World.alloc y _ = y2
  have hy' : y.alloc (.cells #[vI x.c, vU x.a, vU x.v, vI x.s] 102) = y2 := hy
  rw [hy'] at hq hB2 hx2
  clear hy hy'
  have d0 : y2.cell? ⟨q, 0, none⟩ = some (vU s.a) := by rw [cell_of_row _ _ _ _ _ _ hq]; rfl
  have d1 : y2.cell? ⟨q, 1, none⟩ = some (vU s.v) := by rw [cell_of_row _ _ _ _ _ _ hq]; rfl
  have d2 : y2.cell? ⟨q, 2, none⟩ = some (vI s.t) := by rw [cell_of_row _ _ _ _ _ _ hq]; rfl
  have e1 : y2.cell? ⟨q2, 1, none⟩ = some (vU x.a) := by rw [cell_of_row _ _ _ _ _ _ hx2]; rfl
  have e2 : y2.cell? ⟨q2, 2, none⟩ = some (vU x.v) := by rw [cell_of_row _ _ _ _ _ _ hx2]; rfl
  go_wp2_with ((with_reducible refine wpList_eql_lt rfl _ _ rfl s.a s.v s.t x.a x.v ((k : Int) + 1) rfl rfl ?_); simp only [Act.put, List.setIfInBounds_toArray, List.set_cons_succ, List.set_cons_zero])
  go_ret
  refine ⟨rfl, ?_⟩
  rw [← hsz] at hB
  exact below_then hB (Nat.le_refl _) hB2
/-- A store of a row told out. -/
def outL : Lt := ⟨0, 0, -1⟩
theorem flatL_out (l : List Lt) (k : Nat) (s : Lt) : (((flatL l).set (k * 3) (vU s.a)).set (k * 3 + 1) (vU s.v)).set (k * 3 + 2) (vI s.t) = flatL (l.set k s) := by
  induction l generalizing k with
  | nil => rfl
  | cons a l ih =>
    cases k with
    | zero => rfl
    | succ k =>
      have e0 : (k + 1) * 3 = (k * 3) + 3 := by omega
      have e2 : flatL (a :: l) = [vU a.a, vU a.v, vI a.t] ++ flatL l := rfl
      rw [e0, e2, List.set_append_right _ _ (by simp)]
      rw [show k * 3 + 3 + 1 = (k * 3 + 1) + 3 by omega, List.set_append_right _ _ (by simp)]
      rw [show k * 3 + 3 + 2 = (k * 3 + 2) + 3 by omega, List.set_append_right _ _ (by simp)]
      simp only [List.length_cons, List.length_nil, Nat.zero_add, Nat.reduceAdd, Nat.add_sub_cancel]
      rw [ih]
      rfl
theorem own_out {w : World} {base n cap b : Nat} {l : List Lt} (R : w.ownsRow base 59 3 (.slice (some ⟨b, 0, none⟩) n cap) n (flatL l)) (k : Nat) (s : Lt) : (w.setCells b (k * 3) [vU s.a, vU s.v, vI s.t]).ownsRow base 59 3 (.slice (some ⟨b, 0, none⟩) n cap) n (flatL (l.set k s)) := by
  have h1 := (R.stored (k * 3) (vU s.a)).1
  have h2 := (h1.stored (k * 3 + 1) (vU s.v)).1
  have h3 := (h2.stored (k * 3 + 2) (vI s.t)).1
  rw [flatL_out] at h3
  exact h3
theorem goes_setCells {F : Nat → Prop} {b : Nat} (hb : F b) : ∀ (vs : List Value) (o : Nat) (w : World), Goes F w (w.setCells b o vs)
  | [], _, w => Goes.refl _ _
  | v :: r, o, w => (goes_setCell w hb o v).trans (goes_setCells hb r (o + 1) _) fun _ _ e => e
theorem own_kind {w : World} {base size n : Nat} {e : TypeId} {v : Value} {xs : List Value} (R : w.ownsRow base e size v n xs) {b : Nat} (hb : v.ownBlock = some b) : ∃ C, b < w.heap.size ∧ w.heap[b]? = some (.cells C e) := by
  rcases R.2 with ⟨rfl, _⟩ | ⟨g, cap, cur, rfl, _, hg, _⟩
  · cases hb
  · obtain rfl : g = b := by simpa [Value.ownBlock] using hb
    exact ⟨cur, lt_of_some hg, hg⟩
theorem inf59s : (Try.prog.info? 59).map (·.size) = some 3 := by kernel_rfl
theorem wpList_st59 {ops : Array Oper} {rest : List Oper} {o : Oper} {a : Act} {w : World} {Q : Exit → Act → World → Prop} (hgd : o.guard = none) (x y : Operand) (ho : o.op = .store 59 x y) (b k : Nat) (hx : a.eval x = ptr b k) (z1 z2 z3 : Int) (hy : a.eval y = .agg #[vU z1, vU z2, vI z3]) (ht : w.there b k 3)
    (h : wpList Try.prog ops Q rest (a.put o.dst undef) (w.setCells b k [vU z1, vU z2, vI z3])) : wpList Try.prog ops Q (o :: rest) a w :=
  wpList_store_mid hgd 59 x y ho b k #[vU z1, vU z2, vI z3] hx hy ht inf59s (one3 _ _ _) h
set_option maxRecDepth 4000 in
set_option maxHeartbeats 1000000 in
theorem lates_c (wb g h : Nat) (X : Doc) (L : DocLay) (l : List Lt) (ts : List Int) (la ta : Option Addr) (lc tc b1 b2 n : Nat) (w : World) (H : DocAt h X L w) (B : WB wb g h w) (hn : X.all.length < 1000000) (hl1 : l.length = n) (hl2 : ts.length = n) (hn2 : n < 1000000)
    (R1 : w.ownsRow b1 59 3 (.slice la n lc) n (flatL l)) (R2 : w.ownsRow b2 3 1 (.slice ta n tc) n (ts.map vI))
    (hok : ∀ (i : Nat) (s : Lt), l[i]? = some s → ∃ (k : Nat) (x : R4), ts[i]? = some ((k : Int) + 1) ∧ X.all[k]? = some x ∧ s = (⟨x.a, x.v, (k : Int) + 1⟩ : Lt)) : Calls Try.prog 43 #[ptr wb 0, .slice la n lc, .slice ta n tc] w fun e w' => e = .returned (.bool true) ∧ Goes (fun k => (Value.slice la n lc).ownBlock = some k) w w' := by
  go_enter Try.func43, Try.ntmps43
  go_wp2
  go_loopw [7] (fun s7 wr => ∃ i : Nat, i ≤ n ∧ s7 = .int .i64 i ∧ Hid (∃ m : List Lt, m.length = n ∧ (∀ j, i ≤ j → m[j]? = l[j]?) ∧ DocAt h X L wr ∧ WB wb g h wr ∧ wr.ownsRow b1 59 3 (.slice la n lc) n (flatL m) ∧ wr.ownsRow b2 3 1 (.slice ta n tc) n (ts.map vI) ∧ Goes (fun k => (Value.slice la n lc).ownBlock = some k) w wr)) (fun s7 _ => n - (intOf s7).toNat)
  case atStart => exact ⟨0, Nat.zero_le _, rfl, l, hl1, fun _ _ => rfl, H, B, R1, R2, Goes.refl _ _⟩
  case round =>
    obtain ⟨i, hi, rfl, hH⟩ := hrel
    obtain ⟨m, hm, hsame, H1, B1, Q1, Q2, G⟩ := hH.out
    clear hH H B R1 R2
    by_cases hlt : (i : Int) < n
    · have hi0 : (0 : Int) ≤ i := by omega
      have hx : l[i]? = some l[i] := List.getElem?_eq_getElem (by omega)
      obtain ⟨k, x, ht, hk, hs⟩ := hok i _ hx
      have hmi := hsame i (Nat.le_refl _)
      rw [hx] at hmi
      generalize l[i] = s at hx hs hmi
      obtain ⟨lb, lcap, e1, _, _, _, hc1, hf1⟩ := own_addr Q1 (by omega)
      obtain ⟨tb, tcap, e2, _, _, _, hc2, _⟩ := own_addr Q2 (by omega)
      simp only [Value.slice.injEq] at e1 e2
      obtain ⟨rfl, -, -⟩ := e1
      obtain ⟨rfl, -, -⟩ := e2
      have zt := hc2 i (by omega)
      rw [List.getElem?_map, ht] at zt
      obtain ⟨g0, g1, g2⟩ := flatL_get hmi
      have z0 := hc1 (i * 3) (by omega)
      have z1 := hc1 (i * 3 + 1) (by omega)
      have z2 := hc1 (i * 3 + 2) (by omega)
      rw [g0] at z0
      rw [g1] at z1
      rw [g2] at z2
      have he : eqL s ⟨x.a, x.v, (k : Int) + 1⟩ = true := by rw [hs]; exact eqL_refl _
      have rg : ∀ y, Below wr.heap.size wr y → y.rangeAt lb (i * 3) [vU s.a, vU s.v, vI s.t] := fun y hy j u hj => by
        match j with
        | 0 => simp at hj; subst hj; rw [Nat.add_zero, hy.cell (World.block_lt_of_cell? wr _ z0)]; exact z0
        | 1 => simp at hj; subst hj; rw [hy.cell (World.block_lt_of_cell? wr _ z1)]; exact z1
        | 2 => simp at hj; subst hj; rw [hy.cell (World.block_lt_of_cell? wr _ z2)]; exact z2
        | j + 3 => simp at hj
      have rt : ∀ y, Below wr.heap.size wr y → y.cell? ⟨tb, i, none⟩ = some (vI ((k : Int) + 1)) := fun y hy => by rw [hy.cell (World.block_lt_of_cell? wr _ zt)]; exact zt
      clear z0 z1 z2 zt hc1 hc2 hx hmi hs g0 g1 g2
      go_upto_region 6 with fail
      refine Rel.wp_region_rel Rel.Grows (fun y => Below wr.heap.size wr y) [.inl (ptr wb 0), .inl (.slice (some ⟨lb, 0, none⟩) n lc), .inl (vI i), .inl (ptr lb (i * 3)), .inl s.val, .inl (.slice (some ⟨tb, 0, none⟩) n tc), .inl (vI i), .inl (ptr tb i), .inl (vI ((k : Int) + 1)), .inl (.bool true), .inl (.bool true)] (by kernel_rfl) (by kernel_rfl) (fun a b h1 h2 => below_then h1 (Nat.le_refl _) h2) ⟨rfl, rfl, rfl, Nat.le_refl _, fun _ _ => rfl⟩ ?_ ?_
      · intro k hk
        simp only [List.mem_cons, List.not_mem_nil, or_false] at hk
        rcases hk with rfl | rfl | rfl | rfl | rfl | rfl | rfl | rfl | rfl | rfl | rfl <;> trivial
      iterate 4
        refine ⟨fun w1 hC hF => by (go_simp <;> exact Below.refl _ _), ?_⟩
        simp only [Act.put, List.setIfInBounds_toArray, List.set_cons_succ, List.set_cons_zero]
      refine ⟨fun w1 hC hF => rel_load59 (fun w => Below.refl _ _) _ rfl lb (i * 3) rfl s (rg w1 hC) inf59s, ?_⟩
      simp only [Act.put, List.setIfInBounds_toArray, List.set_cons_succ, List.set_cons_zero]
      iterate 3
        refine ⟨fun w1 hC hF => by (go_simp <;> exact Below.refl _ _), ?_⟩
        simp only [Act.put, List.setIfInBounds_toArray, List.set_cons_succ, List.set_cons_zero]
      refine ⟨fun w1 hC hF => by
        have zt := rt w1 hC
        go_simp <;> exact Below.refl _ _, ?_⟩
      simp only [Act.put, List.setIfInBounds_toArray, List.set_cons_succ, List.set_cons_zero]
      refine ⟨fun w1 hC hF => by
        go_simp
        refine (late_c wb g h X L s k x w1 (H1.grow hC) (B1.grow hC) hk hn).mono ?_
        rintro e w'' ⟨rfl, hb⟩
        rw [he]
        exact ⟨rfl, hb⟩, ?_⟩
      simp only [Act.put, List.setIfInBounds_toArray, List.set_cons_succ, List.set_cons_zero]
      refine ⟨fun w1 hC hF => by (go_simp <;> exact Below.refl _ _), ?_⟩
      simp only [Act.put, List.setIfInBounds_toArray, List.set_cons_succ, List.set_cons_zero]
      intro y hC hF
      clear hF rg rt
      have Y1 : y.ownsRow b1 59 3 (.slice (some ⟨lb, 0, none⟩) n lc) n (flatL m) := own_of_block Q1 fun k hk => hC.block k (Q1.lt k hk).2
      have Y2 : y.ownsRow b2 3 1 (.slice (some ⟨tb, 0, none⟩) n tc) n (ts.map vI) := own_of_block Q2 fun k hk => hC.block k (Q2.lt k hk).2
      have Y3 := H1.grow hC
      have Y4 := B1.grow hC
      obtain ⟨lb', lcap', e1, _, _, _, hc1, hf1⟩ := own_addr Y1 (by omega)
      simp only [Value.slice.injEq, Option.some.injEq, Addr.mk.injEq] at e1
      obtain ⟨⟨rfl, -⟩, -, -⟩ := e1
      have hth : y.there lb (i * 3) 3 := fun j hj => by
        have hm3 : (flatL m).length = n * 3 := by rw [len_flatL, hm]
        rw [hc1 (i * 3 + j) (by omega)]
        exact ⟨by simp; omega, hf1 _⟩
      have hlt59 : lb < y.heap.size := (Y1.lt lb rfl).2
      have Z1 := own_out Y1 i outL
      have Z2 : (y.setCells lb (i * 3) [vU 0, vU 0, vI (-1)]).ownsRow b2 3 1 (.slice (some ⟨tb, 0, none⟩) n tc) n (ts.map vI) := own_of_block Y2 fun k hk => (goes_setCells (F := fun k => k = lb) rfl _ _ y).block k (Y2.lt k hk).2 (fun e => by
        subst e
        obtain ⟨C, ⟨_, hC2⟩⟩ := own_kind Y1 rfl
        exact own_ne hC2 Y2 (by decide) hk)
      have Z3 : DocAt h X L (y.setCells lb (i * 3) [vU 0, vU 0, vI (-1)]) := Y3.keep fun k hk => (goes_setCells (F := fun k => k = lb) rfl _ _ y).block k (Y3.lt hk) (fun e => by subst e; exact Y3.notRow Y1 (by decide) rfl hk)
      have Z4 : WB wb g h (y.setCells lb (i * 3) [vU 0, vU 0, vI (-1)]) := by
        unfold WB
        rw [(goes_setCells (F := fun k => k = lb) rfl _ _ y).block wb (lt_of_some Y4) (fun e => own_ne Y4 Y1 (by decide) (by rw [e]; rfl))]
        exact Y4
      have Z5 : Goes (fun k => (Value.slice (some ⟨lb, 0, none⟩) n lc).ownBlock = some k) w (y.setCells lb (i * 3) [vU 0, vU 0, vI (-1)]) := (G.grow hC).trans (goes_setCells (F := fun k => k = lb) rfl _ _ y) fun k hk e => by rw [e]; rfl
      go_wp2_with ((with_reducible refine wpList_st59 rfl _ _ rfl lb (i * 3) rfl 0 0 (-1) rfl hth ?_); simp only [Act.put, List.setIfInBounds_toArray, List.set_cons_succ, List.set_cons_zero])
      go_roundw
      case rel => exact ⟨i + 1, by omega, by go_num, m.set i outL, by rw [List.length_set]; exact hm, fun j hj => by rw [List.getElem?_set, if_neg (by omega)]; exact hsame j (by omega), Z3, Z4, Z1, Z2, Z5⟩
      case measure => simp [intOf]; omega
    · obtain rfl : i = n := by omega
      go_wp2
      go_ret
      exact ⟨rfl, G⟩
end Go.Proofs.Ytjkjbcnafpljoaa
