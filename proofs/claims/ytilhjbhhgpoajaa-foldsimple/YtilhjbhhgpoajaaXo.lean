/- Um, Un, Uo of the seat, joined. -/
import Derived.Test.YtilhjbhhgpoajaaUl
import Derived.Test.YtilhjbhhgpoajaaXw
/- Two rows of operations compared. -/
namespace Go.Proofs.Ytilhjbhhgpoajaa
open Go.RowKit
set_option linter.unusedVariables false
set_option linter.unusedSimpArgs false
set_option maxRecDepth 8000

theorem wpList_neqO {ops : Array Oper} {rest : List Oper} {o : Oper} {a : Act} {w : World} {Q : Exit → Act → World → Prop} (hw : Region.wanted o (yielded ops a.tmps) = true) (x y : Operand) (ho : o.op = .binOp .neq 45 x y 45)
    (c d : Opr) (hx : a.eval x = opV c) (hy : a.eval y = opV d) (b : Bool) (hb : decide (c = d) = b) (h : wpList Try.prog ops Q rest (a.put o.dst (.bool (!b))) w) : wpList Try.prog ops Q (o :: rest) a w := by
  refine BigFrame.wpList_want hw fun K hK => ?_
  have he := op_eq c d w
  rw [hb] at he
  unfold Oper.wp execOp
  simp only [ho, hx, hy, Sem.run_bind, run_eqGuard_agg w _ _ _ _ _ _ guard42, Result.andThen_ok, run_neq_struct, he]
  exact hK _ _ h
theorem list_eq_of {l m : List Opr} (hl : l.length = m.length) (h : ∀ j, j < l.length → opAt l j = opAt m j) : l = m := by
  apply List.ext_getElem hl
  intro j h1 h2
  have := h j h1
  unfold opAt at this
  rw [List.getElem?_eq_getElem h1, List.getElem?_eq_getElem h2] at this
  exact this
theorem below_dr' {w x : World} (h : Below w.heap.size w x) : Below w.heap.size w { x with drawn := x.drawn + 1 } := h.trans ((below_dr x).mono h.size)
section
variable {l m : List Opr} {w : World} {v u : Value}
set_option maxHeartbeats 4000000 in
theorem equal_c (O1 : Ops w v l) (O2 : Ops w u m) : Calls Try.prog 24 #[v, u] w fun e w' => e = .returned (.bool (decide (l = m))) ∧ Below w.heap.size w w' := by
  have hm1 := O1.max
  have hm2 := O2.max
  simp only [maxLen] at hm1 hm2
  obtain ⟨a1, c1, rfl⟩ := O1.len
  obtain ⟨a2, c2, rfl⟩ := O2.len
  by_cases hl : l.length = m.length
  · have hb : (((l.length : Nat) : Int) != (m.length : Int)) = false := by rw [hl]; simp
    have E0 : Hid (Below w.heap.size w w ∧ ∀ j, j < 0 → opAt l j = opAt m j) := ⟨Below.refl _ _, fun j h => absurd h (by omega)⟩
    go_enter Try.func24, Try.ntmps24
    go_upto_region 3 with fail
    go_wp2
    go_loopw [13] (fun s13 wr => ∃ i : Nat, s13 = .int .i64 i ∧ i ≤ l.length ∧ Hid (Below w.heap.size w wr ∧ ∀ j, j < i → opAt l j = opAt m j)) (fun s13 _ => l.length - (intOf s13).toNat)
    case atStart => exact ⟨0, rfl, Nat.zero_le _, E0⟩
    case round =>
      obtain ⟨i, rfl, hi, hE⟩ := hrel
      clear E0
      by_cases hlt : (i : Int) < l.length
      · have hil : i < l.length := by omega
        have hlt2 : (i : Int) < m.length := by omega
        obtain ⟨ra, ca, e1, h1⟩ := O1.cell (by omega)
        cases e1
        obtain ⟨rb, cb, e2, h2⟩ := O2.cell (by omega)
        cases e2
        have A1 := (h1 i _ (opAt_some hil)).grow hE.out.1
        have A2 := (h2 i _ (opAt_some (by omega))).grow hE.out.1
        replace hl := show Hid _ from hl
        go_upto_region 6 with fail
        refine wp_region_still_tail 8 (by kernel_rfl) (by kernel_rfl) ?_
        replace A1 := run_load42 (A1.grow (below_dr wr))
        replace A2 := run_load42 (A2.grow (below_dr wr))
        have hE2 : Hid (Below w.heap.size w { wr with drawn := wr.drawn + 1 } ∧ ∀ j, j < i → opAt l j = opAt m j) := ⟨below_dr' hE.out.1, hE.out.2⟩
        clear hE
        generalize ({ wr with drawn := wr.drawn + 1 } : World) = w2 at *
        simp only [List.take_succ_cons, List.take_zero, List.drop_succ_cons, List.drop_zero]
        repeat (first | still_step | ((with_reducible refine still_row rfl _ _ rfl rfl A1 ?_); simp only [Act.put, List.setIfInBounds_toArray, List.set_cons_succ, List.set_cons_zero]) | ((with_reducible refine still_row rfl _ _ rfl rfl A2 ?_); simp only [Act.put, List.setIfInBounds_toArray, List.set_cons_succ, List.set_cons_zero]))
        refine wpStill_nil ?_
        cases hd : decide (opAt l i = opAt m i) with
        | true =>
          go_wp2_with ((with_reducible refine wpList_neqO rfl _ _ rfl _ _ rfl rfl _ hd ?_); simp only [Act.put, List.setIfInBounds_toArray, List.set_cons_succ, List.set_cons_zero])
          go_roundw
          case rel =>
            refine ⟨i + 1, by go_num, by omega, hE2.out.1, fun j hj => ?_⟩
            rcases Nat.lt_or_ge j i with h | h
            · exact hE2.out.2 j h
            · obtain rfl : j = i := by omega
              exact of_decide_eq_true hd
          case measure => simp [intOf]; omega
        | false =>
          have hno : decide (l = m) = false := by
            rw [decide_eq_false_iff_not]
            intro e
            subst e
            exact absurd rfl (of_decide_eq_false hd)
          go_wp2_with ((with_reducible refine wpList_neqO rfl _ _ rfl _ _ rfl rfl _ hd ?_); simp only [Act.put, List.setIfInBounds_toArray, List.set_cons_succ, List.set_cons_zero])
          go_ret
          exact ⟨by first | rfl | (rw [hno]; rfl), hE2.out.1⟩
      · have hyes : decide (l = m) = true := decide_eq_true (list_eq_of hl (fun j hj => hE.out.2 j (by omega)))
        have B := hE.out.1
        clear hE
        go_wp2
        go_ret
        exact ⟨by first | rfl | (rw [hyes]; rfl), B⟩
  · have hb : (((l.length : Nat) : Int) != (m.length : Int)) = true := by simp; omega
    have hno : decide (l = m) = false := by
      rw [decide_eq_false_iff_not]
      exact fun e => hl (by rw [e])
    go_enter Try.func24, Try.ntmps24
    go_wp2
    go_ret
    exact ⟨by first | rfl | (rw [hno]; rfl), Below.refl _ _⟩
end
end Go.Proofs.Ytilhjbhhgpoajaa
/- Step. -/
namespace Go.Proofs.Ytilhjbhhgpoajaa
open Go.RowKit
set_option linter.unusedVariables false
set_option linter.unusedSimpArgs false
set_option maxRecDepth 8000

theorem Ops.keepF {w w' : World} {v : Value} {l : List Opr} (h : Ops w v l) (hs : ∀ k, k < w.heap.size → k < w'.heap.size) (hb : ∀ ra n cap, v = .slice (some ra) n cap → ra.block < w.heap.size → w'.heap[ra.block]? = w.heap[ra.block]?) : Ops w' v l :=
  ⟨h.len, h.max, fun h0 => by
    obtain ⟨ra, cap, e, hc⟩ := h.cell h0
    refine ⟨ra, cap, e, fun i o ho => ?_⟩
    have A := hc i o ho
    have eb : (ra.add (i * 6)).block = ra.block := by unfold Addr.add; split <;> rfl
    have lt := A.lt
    exact A.keep (hs _ lt) (by rw [eb] at lt ⊢; exact hb ra _ cap e lt)⟩
theorem results_cell_tmp2 {fn : Func} {p u z : Tmp} {ty : TypeId} (h : fn.results = #[.cell p ty, .tmp u, .tmp z]) (tmps : Array Value) (P : Program) (w : World) :
    (results fn tmps).run P w =
      ((asAddr (tmps.getD p undef)).run P w).andThen fun a w₁ => ((loadVar ty a).run P w₁).andThen fun v w₂ => .ok (.tuple #[v, tmps.getD u undef, tmps.getD z undef]) w₂ := by
  simp only [results, h]
  simp [Sem.run_bind, Result.andThen]
theorem back_step {tmps : Array Value} {w : World} {rb : Nat} {pc words el : Int} {v : Value} (hp : tmps.getD 2 undef = ptr rb 0) (hg : w.heap[rb]? = some (.cells (blA pc words el v) 25)) : (results Try.f10 tmps).run Try.prog w = .ok (.tuple #[blV pc words el v, tmps.getD 3 undef, tmps.getD 4 undef]) w := by
  rw [results_cell_tmp2 rfl]
  simp [hp, asAddr, run_loadVar_row w rb 25 25 (blA pc words el v) (0, 0) _ hg Try.underlying25 rfl (bl_inf _ _ _ _)]
/-- What Step holds in its last row. -/
structure StB (w : World) (pc words el : Int) (v : Value) (l : List Opr) (u : Value) (m : List Opr) (t : Nat) (x : World) : Prop where
  below : Below w.heap.size w x
  lo : w.heap.size ≤ t
  row : x.heap[t]? = some (.cells (blA pc words el v) 25)
  ops : Ops x v l
  own : x.ownsRow w.heap.size 45 6 u m.length (opF m)
  max : m.length ≤ maxLen
  far : ∀ ra n cap, v = .slice (some ra) n cap → ra.block < w.heap.size
theorem StB.grow {w : World} {pc words el : Int} {v : Value} {l : List Opr} {u : Value} {m : List Opr} {t : Nat} {x y : World} (h : StB w pc words el v l u m t x) (hb : Below x.heap.size x y) : StB w pc words el v l u m t y :=
  ⟨below_then h.below (Nat.le_refl _) hb, h.lo, keepRow h.row hb, h.ops.grow hb, own_of_block h.own (fun k hk => hb.block k (h.own.lt k hk).2), h.max, h.far⟩
theorem StB.new {w : World} {pc words el : Int} {v : Value} {l : List Opr} {u : Value} {m : List Opr} {t : Nat} {x : World} (h : StB w pc words el v l u m t x) : Ops x u m := (opsC_of h.own h.max).ops
theorem StB.one {w : World} {pc words el : Int} {v : Value} {l : List Opr} {u : Value} {m : List Opr} {t : Nat} {x : World} (h : StB w pc words el v l u m t x) : u.oneCell' = true := (opsC_of h.own h.max).one
def StC (w : World) (pc words el : Int) (v : Value) (l : List Opr) (u : Value) (m : List Opr) (t : Nat) : Nat → World → Prop
  | 0, x => StB w pc words el v l u m t x ∧ x.heap[t + 1]? = some (.cells #[vU 0, vI 0, vI 0, .slice none 0 0] 25)
  | 1, x => StB w pc words el v l u m t x ∧ x.heap[t + 1]? = some (.cells #[vU 0, vI 0, vI 0, .slice none 0 0] 25)
  | _, x => StB w pc words el v l u m t x ∧ x.heap[t + 1]? = some (.cells (blA pc words el u) 25)
section
variable {w x y : World} {pc words el : Int} {v u : Value} {l m : List Opr} {t : Nat}
theorem stC_base {j : Nat} (h : StC w pc words el v l u m t j x) : StB w pc words el v l u m t x := match j, h with
  | 0, h => h.1
  | 1, h => h.1
  | _ + 2, h => h.1
theorem stC_grow (h : StC w pc words el v l u m t 0 x) (hb : Below x.heap.size x y) : StC w pc words el v l u m t 1 y := ⟨h.1.grow hb, keepRow h.2 hb⟩
theorem stC_end (h : StC w pc words el v l u m t 1 x) : StC w pc words el v l u m t 2 (x.setRow (t + 1) (blA pc words el u)) := by
  obtain ⟨h1, h2⟩ := h
  have hn : ∀ k, u.ownBlock = some k → k ≠ t + 1 := fun k hk e => own_ne h2 h1.own (by decide) (e ▸ hk)
  have hb : Below w.heap.size w (x.setRow (t + 1) (blA pc words el u)) := below_setRow h1.below (by have := h1.lo; omega)
  refine ⟨⟨hb, h1.lo, ?_, h1.ops.keepF (fun k hk => by simpa using hk) (fun ra n cap e hk => setRow_other _ _ _ _ (by have := h1.far ra n cap e; have := h1.lo; omega)), own_of_block h1.own (fun k hk => setRow_other _ _ _ _ (hn k hk)), h1.max, h1.far⟩, setRow_heap _ _ _ _ _ _ h2⟩
  rw [setRow_other _ _ _ _ (by omega)]; exact h1.row
theorem upon_builtB {j : Nat} {ao : Option Addr} {n cap : Nat} {o : Oper} {a : Act} (hC : StC w pc words el v l (.slice ao n cap) m t j x) {p q r s : Operand} (ho : o.op = .build 25 #[(0, p), (1, q), (2, r), (3, s)] := by rfl) (hp : a.eval p = vU pc := by rfl) (hq : a.eval q = vI words := by rfl) (hr : a.eval r = vI el := by rfl) (hs : a.eval s = .slice ao n cap := by rfl) : Chn.upon Try.prog (fun z w' => z = blV pc words el (.slice ao n cap) ∧ StC w pc words el v l (.slice ao n cap) m t j w') x ((execOp a.eval o).run Try.prog x) := by
  have hb := run_build (P := Try.prog) x 25 #[(0, vU pc), (1, vI words), (2, vI el), (3, .slice ao n cap)] (blA pc words el (.slice ao n cap)) (by kernel_rfl)
  unfold execOp
  simp only [ho, Sem.run_bind, List.map_toArray, List.map_cons, List.map_nil, hp, hq, hr, hs, hb, Result.andThen_ok]
  exact ⟨rfl, hC⟩
theorem ops_lt {w : World} {u : Value} {m : List Opr} (h : Ops w u m) (h0 : 0 < m.length) : ∀ ra n cap, u = .slice (some ra) n cap → ra.block < w.heap.size := by
  intro ra n cap e
  obtain ⟨ra', cap', e', hc⟩ := h.cell h0
  rw [e] at e'
  cases e'
  have := (hc 0 _ (opAt_some h0)).lt
  have eb : (ra.add (0 * 6)).block = ra.block := by unfold Addr.add; split <;> rfl
  rwa [eb] at this
set_option maxHeartbeats 4000000 in
theorem step_c_all (hpc : 0 ≤ pc) (O : Ops w v l) (hu : ∀ k, U64 (opAt l k).imm) (hcap : ∀ ao n cap, v = .slice ao n cap → n ≤ cap) : Calls Try.prog 10 #[blV pc words el v] w fun e w' => Below w.heap.size w w' ∧
    ((rightB pc words el l = false ∧ e = .returned (.tuple #[blV 0 0 0 (.slice none 0 0), .bool false, vI 4])) ∨
     (rightB pc words el l = true ∧ ∃ u, e = .returned (.tuple #[blV pc words el u, .bool (!(decide (layAll l = l))), vI 0]) ∧ w'.ownsRow w.heap.size 45 6 u (layAll l).length (opF (layAll l)))) := by
  have hb1 := below_alloc w (.cells (blA pc words el v) 25)
  have hb2 := below_alloc (w.alloc (.cells (blA pc words el v) 25)) (.cells #[vU 0, vI 0, vI 0, .slice none 0 0] 25)
  have hB := below_then hb1 (Nat.le_refl _) hb2
  have r1 : ((w.alloc (.cells (blA pc words el v) 25)).alloc (.cells #[vU 0, vI 0, vI 0, .slice none 0 0] 25)).heap[w.heap.size]? = some (.cells (blA pc words el v) 25) := keepRow (heap_alloc_new _ _) hb2
  have r2 : ((w.alloc (.cells (blA pc words el v) 25)).alloc (.cells #[vU 0, vI 0, vI 0, .slice none 0 0] 25)).heap[w.heap.size + 1]? = some (.cells #[vU 0, vI 0, vI 0, .slice none 0 0] 25) := by
    have := heap_alloc_new (w.alloc (.cells (blA pc words el v) 25)) (.cells #[vU 0, vI 0, vI 0, .slice none 0 0] 25)
    rw [World.size_alloc] at this
    exact this
  have O1 := O.grow hB
  have kr := right_c (words := words) (el := el) hpc O1 (fun k => (hu k).1) hcap
  clear hb1 hb2
  go_enter Try.func10, Try.ntmps10
  go_upto_region 1 with fail
  generalize (w.alloc (.cells (blA pc words el v) 25)).alloc (.cells #[vU 0, vI 0, vI 0, .slice none 0 0] 25) = w1 at *
  generalize ht : w.heap.size = t at r1 r2
  cases hR : rightB pc words el l with
  | false =>
    rw [hR] at kr
    go_wp2_with (first | ((with_reducible refine wpList_load_if rfl 25 _ rfl _ rfl 25 _ (0, 0) _ r1 Try.underlying25 rfl (bl_inf _ _ _ _) ?_); simp only [Act.put, List.setIfInBounds_toArray, List.set_cons_succ, List.set_cons_zero]) | (go_at_call 22; (with_reducible refine kr.mono ?_); clear kr; rintro e w2 ⟨rfl, B2⟩; dsimp only; replace r2 := keepRow r2 B2; replace hB := below_then hB (Nat.le_refl _) B2) | ((with_reducible refine wpList_built rfl 25 _ rfl (blA 0 0 0 (.slice none 0 0)) (by kernel_rfl) ?_); simp only [Act.put, List.setIfInBounds_toArray, List.set_cons_succ, List.set_cons_zero]) | ((with_reducible refine wpList_store_row rfl 25 _ _ rfl (t + 1) (blA 0 0 0 (.slice none 0 0)) rfl rfl 25 _ r2 (bl_inf _ _ _ _) rfl (blk_one _ _ _ _ rfl) ?_); simp only [Act.put, List.setIfInBounds_toArray, List.set_cons_succ, List.set_cons_zero]))
    refine bodyPost_ret (back_step rfl (setRow_heap _ _ _ _ _ _ r2)) rfl ?_
    exact ⟨below_setRow hB (by omega), .inl ⟨hR, rfl⟩⟩
  | true =>
    have hfar := ops_lt O (right_first hR).1
    rw [hR] at kr
    go_upto_region 3 with (first | ((with_reducible refine wpList_load_if rfl 25 _ rfl _ rfl 25 _ (0, 0) _ r1 Try.underlying25 rfl (bl_inf _ _ _ _) ?_); simp only [Act.put, List.setIfInBounds_toArray, List.set_cons_succ, List.set_cons_zero]) | (go_at_call 22; (with_reducible refine kr.mono ?_); clear kr; rintro e w2 ⟨rfl, B2⟩; dsimp only))
    replace r1 := keepRow r1 B2
    replace r2 := keepRow r2 B2
    replace O1 := O1.grow B2
    replace hB := below_then hB (Nat.le_refl _) B2
    clear B2
    have z3 : w2.cell? ⟨t, 3, none⟩ = some v := by rw [cell_of_row _ _ _ _ _ _ r1]; rfl
    have ka := layAnew_c O1 hR hu
    go_upto_region 4 with (go_at_call 23; (with_reducible refine ka.mono ?_); clear ka; rintro e w3 ⟨u, rfl, hown, B3⟩; dsimp only)
    have hml : (layAll l).length ≤ maxLen := by
      obtain ⟨_, _, e, h1, h2⟩ := own_len hown
      omega
    have hBase : StB w pc words el v l u (layAll l) t w3 := ⟨below_then hB (Nat.le_refl _) B3, by omega, keepRow r1 B3, O1.grow B3, own_mono hown hB.size, hml, hfar⟩
    have hZ : w3.heap[t + 1]? = some (.cells #[vU 0, vI 0, vI 0, .slice none 0 0] 25) := keepRow r2 B3
    obtain ⟨ao, cap, rfl⟩ := own_slice hown
    clear r1 r2 O1 hB z3 B3 hown O
    have hst0 : StC w pc words el v l (.slice ao (layAll l).length cap) (layAll l) t 0 ({ w3 with drawn := w3.drawn + 1 } : World) := ⟨hBase.grow (below_dr w3), keepRow hZ (below_dr w3)⟩
    have hst : (StC w pc words el v l (.slice ao (layAll l).length cap) (layAll l) t) 0 _ := hst0
    refine Chn.wp_region_chainL (StC w pc words el v l (.slice ao (layAll l).length cap) (layAll l) t) [11, 13] [2, 2, 2, 2, 2, 2, 2, 2, 2, 2, 2, 2, 2, 2, 2, 2] [ptr t 0, vU pc, ptr t 1, vI words, ptr t 2, vI el, .slice ao (layAll l).length cap, blV pc words el (.slice ao (layAll l).length cap), .slice ao (layAll l).length cap, ptr t 3, v, .bool (decide (layAll l = l)), .bool (!(decide (layAll l = l))), undef, .bool (!(decide (layAll l = l))), vI 0] (by kernel_rfl) (by kernel_rfl) (by kernel_rfl) (by kernel_rfl) (by kernel_rfl) hst ?_
    clear hst
    refine ⟨fun j w1 hj hC => by exact Chn.upon_pure hC (fun F hF => by (go_simp <;> exact hF)), ?_⟩
    simp only [Act.put, List.setIfInBounds_toArray, List.set_cons_succ, List.set_cons_zero]
    refine ⟨fun j w1 hj hC => by
      have z := (show w1.cell? ⟨t, 0, none⟩ = some (vU pc) by rw [cell_of_row _ _ _ _ _ _ (stC_base hC).row]; rfl)
      exact Chn.upon_pure hC (fun F hF => by (go_simp <;> exact hF)), ?_⟩
    simp only [Act.put, List.setIfInBounds_toArray, List.set_cons_succ, List.set_cons_zero]
    refine ⟨fun j w1 hj hC => by exact Chn.upon_pure hC (fun F hF => by (go_simp <;> exact hF)), ?_⟩
    simp only [Act.put, List.setIfInBounds_toArray, List.set_cons_succ, List.set_cons_zero]
    refine ⟨fun j w1 hj hC => by
      have z := (show w1.cell? ⟨t, 1, none⟩ = some (vI words) by rw [cell_of_row _ _ _ _ _ _ (stC_base hC).row]; rfl)
      exact Chn.upon_pure hC (fun F hF => by (go_simp <;> exact hF)), ?_⟩
    simp only [Act.put, List.setIfInBounds_toArray, List.set_cons_succ, List.set_cons_zero]
    refine ⟨fun j w1 hj hC => by exact Chn.upon_pure hC (fun F hF => by (go_simp <;> exact hF)), ?_⟩
    simp only [Act.put, List.setIfInBounds_toArray, List.set_cons_succ, List.set_cons_zero]
    refine ⟨fun j w1 hj hC => by
      have z := (show w1.cell? ⟨t, 2, none⟩ = some (vI el) by rw [cell_of_row _ _ _ _ _ _ (stC_base hC).row]; rfl)
      exact Chn.upon_pure hC (fun F hF => by (go_simp <;> exact hF)), ?_⟩
    simp only [Act.put, List.setIfInBounds_toArray, List.set_cons_succ, List.set_cons_zero]
    refine ⟨fun j w1 hj hC => by exact Chn.upon_pure hC (fun F hF => by (go_simp <;> exact hF)), ?_⟩
    simp only [Act.put, List.setIfInBounds_toArray, List.set_cons_succ, List.set_cons_zero]
    refine ⟨fun j w1 hj hC => by
      exact upon_builtB hC, ?_⟩
    simp only [Act.put, List.setIfInBounds_toArray, List.set_cons_succ, List.set_cons_zero]
    refine ⟨fun j w1 hj hC => by exact Chn.upon_pure hC (fun F hF => by (go_simp <;> exact hF)), ?_⟩
    simp only [Act.put, List.setIfInBounds_toArray, List.set_cons_succ, List.set_cons_zero]
    refine ⟨fun j w1 hj hC => by exact Chn.upon_pure hC (fun F hF => by (go_simp <;> exact hF)), ?_⟩
    simp only [Act.put, List.setIfInBounds_toArray, List.set_cons_succ, List.set_cons_zero]
    refine ⟨fun j w1 hj hC => by
      have z := (show w1.cell? ⟨t, 3, none⟩ = some (v) by rw [cell_of_row _ _ _ _ _ _ (stC_base hC).row]; rfl)
      exact Chn.upon_pure hC (fun F hF => by (go_simp <;> exact hF)), ?_⟩
    simp only [Act.put, List.setIfInBounds_toArray, List.set_cons_succ, List.set_cons_zero]
    refine ⟨fun w1 hC => by
      exact Chn.upon_call (C := (StC w pc words el v l (.slice ao (layAll l).length cap) (layAll l) t) 1) (equal_c (stC_base hC).new (stC_base hC).ops) (fun e2 w2 hh => ⟨hh.1, stC_grow hC hh.2⟩) (fun F hF => by (go_simp <;> exact hF)), ?_⟩
    simp only [Act.put, List.setIfInBounds_toArray, List.set_cons_succ, List.set_cons_zero]
    refine ⟨fun j w1 hj hC => by exact Chn.upon_pure hC (fun F hF => by (go_simp <;> exact hF)), ?_⟩
    simp only [Act.put, List.setIfInBounds_toArray, List.set_cons_succ, List.set_cons_zero]
    refine ⟨fun w1 hC => by
      exact chn_store 25 _ _ rfl (t + 1) 0 rfl _ rfl (run_storeVar_row w1 (t + 1) 25 25 _ (blA pc words el (.slice ao (layAll l).length cap)) hC.2 (bl_inf _ _ _ _) rfl (blk_one _ _ _ _ (stC_base hC).one)) (stC_end hC), ?_⟩
    simp only [Act.put, List.setIfInBounds_toArray, List.set_cons_succ, List.set_cons_zero]
    refine ⟨fun j w1 hj hC => by exact Chn.upon_pure hC (fun F hF => by (go_simp <;> exact hF)), ?_⟩
    simp only [Act.put, List.setIfInBounds_toArray, List.set_cons_succ, List.set_cons_zero]
    refine ⟨fun j w1 hj hC => by exact Chn.upon_pure hC (fun F hF => by (go_simp <;> exact hF)), ?_⟩
    simp only [Act.put, List.setIfInBounds_toArray, List.set_cons_succ, List.set_cons_zero]
    intro w5 hC
    refine Rel.then_normal ?_
    obtain ⟨hb5, hz5⟩ : StC w pc words el v l (.slice ao (layAll l).length cap) (layAll l) t 2 w5 := hC
    go_wp2
    refine bodyPost_ret (back_step rfl hz5) rfl ?_
    exact ⟨hb5.below, .inr ⟨hR, _, rfl, hb5.own⟩⟩
theorem step_c (hpc : 0 ≤ pc) (O : Ops w v l) (hu : ∀ k, U64 (opAt l k).imm) (hcap : ∀ ao n cap, v = .slice ao n cap → n ≤ cap) (hfar : ∀ ra n cap, v = .slice (some ra) n cap → ra.block < w.heap.size) : Calls Try.prog 10 #[blV pc words el v] w fun e w' => Below w.heap.size w w' ∧
    ((rightB pc words el l = false ∧ e = .returned (.tuple #[blV 0 0 0 (.slice none 0 0), .bool false, vI 4])) ∨
     (rightB pc words el l = true ∧ ∃ u, e = .returned (.tuple #[blV pc words el u, .bool (!(decide (layAll l = l))), vI 0]) ∧ w'.ownsRow w.heap.size 45 6 u (layAll l).length (opF (layAll l)))) := step_c_all hpc O hu hcap
end
end Go.Proofs.Ytilhjbhhgpoajaa
/- Block. -/
namespace Go.Proofs.Ytilhjbhhgpoajaa
open Go.RowKit
set_option linter.unusedVariables false
set_option linter.unusedSimpArgs false
set_option maxRecDepth 8000

theorem back_block {tmps : Array Value} {w : World} {rb : Nat} {pc words el : Int} {v : Value} (hp : tmps.getD 2 undef = ptr rb 0) (hg : w.heap[rb]? = some (.cells (blA pc words el v) 25)) : (results Try.f9 tmps).run Try.prog w = .ok (.tuple #[blV pc words el v, tmps.getD 3 undef]) w := by
  rw [results_cell_tmp rfl]
  simp [hp, asAddr, run_loadVar_row w rb 25 25 (blA pc words el v) (0, 0) _ hg Try.underlying25 rfl (bl_inf _ _ _ _)]
section
variable {w : World} {pc words el : Int} {v : Value} {l : List Opr}
set_option maxHeartbeats 4000000 in
theorem block_c_all (hpc : 0 ≤ pc) (O : Ops w v l) (hu : ∀ k, U64 (opAt l k).imm) (hcap : ∀ ao n cap, v = .slice ao n cap → n ≤ cap) : Calls Try.prog 9 #[blV pc words el v] w fun e w' => Below w.heap.size w w' ∧
    ((rightB pc words el l = false ∧ e = .returned (.tuple #[blV 0 0 0 (.slice none 0 0), vI 4])) ∨
     (rightB pc words el l = true ∧ ∃ u, e = .returned (.tuple #[blV pc words el u, vI 0]) ∧ w'.ownsRow w.heap.size 45 6 u (layAll l).length (opF (layAll l)))) := by
  have hb1 := below_alloc w (.cells (blA pc words el v) 25)
  have hb2 := below_alloc (w.alloc (.cells (blA pc words el v) 25)) (.cells #[vU 0, vI 0, vI 0, .slice none 0 0] 25)
  have hB := below_then hb1 (Nat.le_refl _) hb2
  have r1 : ((w.alloc (.cells (blA pc words el v) 25)).alloc (.cells #[vU 0, vI 0, vI 0, .slice none 0 0] 25)).heap[w.heap.size]? = some (.cells (blA pc words el v) 25) := keepRow (heap_alloc_new _ _) hb2
  have r2 : ((w.alloc (.cells (blA pc words el v) 25)).alloc (.cells #[vU 0, vI 0, vI 0, .slice none 0 0] 25)).heap[w.heap.size + 1]? = some (.cells #[vU 0, vI 0, vI 0, .slice none 0 0] 25) := by
    have := heap_alloc_new (w.alloc (.cells (blA pc words el v) 25)) (.cells #[vU 0, vI 0, vI 0, .slice none 0 0] 25)
    rw [World.size_alloc] at this
    exact this
  have O1 := O.grow hB
  have ks := step_c_all (words := words) (el := el) hpc O1 hu hcap
  obtain ⟨ao, cap, rfl⟩ := O.len
  clear hb1 hb2
  go_enter Try.func9, Try.ntmps9
  go_upto_region 1 with fail
  generalize (w.alloc (.cells (blA pc words el (.slice ao l.length cap)) 25)).alloc (.cells #[vU 0, vI 0, vI 0, .slice none 0 0] 25) = w1 at *
  generalize ht : w.heap.size = t at r1 r2
  have hlt1 : t + 1 < w1.heap.size := lt_of_some r2
  replace ht := show Hid _ from ht
  cases hR : rightB pc words el l with
  | false =>
    replace hR := show Hid _ from hR
    go_upto_region 2 with (first | ((with_reducible refine wpList_load_if rfl 25 _ rfl _ rfl 25 _ (0, 0) _ r1 Try.underlying25 rfl (bl_inf _ _ _ _) ?_); simp only [Act.put, List.setIfInBounds_toArray, List.set_cons_succ, List.set_cons_zero]) | (go_at_call 10; (with_reducible refine ks.mono ?_); clear ks; rintro e w2 ⟨B2, ⟨hr, rfl⟩ | ⟨hr, _⟩⟩; rotate_left; (exfalso; rw [hR.out] at hr; cases hr); dsimp only; have Hn := has_none w2) | ((with_reducible refine wpList_store_new Hn rfl 25 _ _ rfl (blA 0 0 0 (.slice none 0 0)) rfl rfl (bl_inf _ _ _ _) (by kernel_rfl) (blk_one _ _ _ _ rfl) ?_); clear Hn; intro w3 Hn; simp only [Act.put, List.setIfInBounds_toArray, List.set_cons_succ, List.set_cons_zero]))
    have zb : w3.heap[w2.heap.size]? = some (.cells (blA 0 0 0 (.slice none 0 0)) 25) := Hn.get List.mem_cons_self
    replace r1 := keepRow (keepRow r1 B2) Hn.below
    replace r2 := keepRow (keepRow r2 B2) Hn.below
    replace hB := below_then (below_then hB (Nat.le_refl _) B2) (Nat.le_refl _) Hn.below
    clear Hn B2 O1 O hr
    generalize w2.heap.size = t4 at *
    have z3 : w3.cell? ⟨t, 3, none⟩ = some (.slice ao l.length cap) := by rw [cell_of_row _ _ _ _ _ _ r1]; rfl
    go_wp2
    refine wp_loop_rounds 2 ?_
    rw [rounds_succ]
    rcases Decidable.em ((0 : Int) < l.length) with h | h
    all_goals
      go_wp2_with (first | ((with_reducible refine wpList_load_if rfl 25 _ rfl _ rfl 25 _ (0, 0) _ zb Try.underlying25 rfl (bl_inf _ _ _ _) ?_); simp only [Act.put, List.setIfInBounds_toArray, List.set_cons_succ, List.set_cons_zero]) | ((with_reducible refine wpList_store_row rfl 25 _ _ rfl (t + 1) (blA 0 0 0 (.slice none 0 0)) rfl rfl 25 _ r2 (bl_inf _ _ _ _) rfl (blk_one _ _ _ _ rfl) ?_); simp only [Act.put, List.setIfInBounds_toArray, List.set_cons_succ, List.set_cons_zero]))
      refine bodyPost_ret (back_block rfl (setRow_heap _ _ _ _ _ _ r2)) rfl ?_
      exact ⟨below_setRow hB (by have := ht.out; omega), .inl ⟨hR.out, rfl⟩⟩
  | true =>
    obtain ⟨rm, hlm, hum⟩ := right_layAll hR hu
    obtain ⟨h0, h512, -⟩ := right_first hR
    obtain ⟨hm0, hm512, -⟩ := right_first rm
    have hidem := layAll_idem hR hu
    replace hR := show Hid _ from hR
    go_upto_region 2 with (first | ((with_reducible refine wpList_load_if rfl 25 _ rfl _ rfl 25 _ (0, 0) _ r1 Try.underlying25 rfl (bl_inf _ _ _ _) ?_); simp only [Act.put, List.setIfInBounds_toArray, List.set_cons_succ, List.set_cons_zero]) | (go_at_call 10; (with_reducible refine ks.mono ?_); clear ks; rintro e w2 ⟨B2, ⟨hr, _⟩ | ⟨hr, u, rfl, hown⟩⟩; (exfalso; rw [hR.out] at hr; cases hr); dsimp only; have Hn := has_none w2; have hone : u.oneCell' = true := (opsC_of hown (by simp only [maxLen]; omega)).one) | ((with_reducible refine wpList_store_new Hn rfl 25 _ _ rfl (blA pc words el u) rfl rfl (bl_inf _ _ _ _) (by kernel_rfl) (blk_one _ _ _ _ hone) ?_); clear Hn; intro w3 Hn; simp only [Act.put, List.setIfInBounds_toArray, List.set_cons_succ, List.set_cons_zero]))
    have zb : w3.heap[w2.heap.size]? = some (.cells (blA pc words el u) 25) := Hn.get List.mem_cons_self
    replace r1 := keepRow (keepRow r1 B2) Hn.below
    replace r2 := keepRow (keepRow r2 B2) Hn.below
    have hown3 : w3.ownsRow w1.heap.size 45 6 u (layAll l).length (opF (layAll l)) := own_of_block hown (fun k hk => Hn.below.block k (hown.lt k hk).2)
    have hlow : w.heap.size ≤ w1.heap.size := hB.size
    replace hB := below_then (below_then hB (Nat.le_refl _) B2) (Nat.le_refl _) Hn.below
    have hne2 : w2.heap.size ≠ t + 1 := fun e => by have := B2.size; omega
    have ht4lo : w.heap.size ≤ w2.heap.size := Nat.le_trans hlow B2.size
    clear Hn B2 O1 O hown hr
    generalize w2.heap.size = t4 at *
    have z3 : w3.cell? ⟨t, 3, none⟩ = some (.slice ao l.length cap) := by rw [cell_of_row _ _ _ _ _ _ r1]; rfl
    have hl0 : (0 : Int) < l.length := by omega
    cases hch : decide (layAll l = l) with
    | true =>
      go_wp2
      refine wp_loop_rounds 2 ?_
      rw [rounds_succ]
      go_wp2_with (first | ((with_reducible refine wpList_load_if rfl 25 _ rfl _ rfl 25 _ (0, 0) _ zb Try.underlying25 rfl (bl_inf _ _ _ _) ?_); simp only [Act.put, List.setIfInBounds_toArray, List.set_cons_succ, List.set_cons_zero]) | ((with_reducible refine wpList_store_row rfl 25 _ _ rfl (t + 1) (blA pc words el u) rfl rfl 25 _ r2 (bl_inf _ _ _ _) rfl (blk_one _ _ _ _ hone) ?_); simp only [Act.put, List.setIfInBounds_toArray, List.set_cons_succ, List.set_cons_zero]))
      refine bodyPost_ret (back_block rfl (setRow_heap _ _ _ _ _ _ r2)) rfl ?_
      have hn : ∀ k, u.ownBlock = some k → k ≠ t + 1 := fun k hk e => own_ne r2 hown3 (by decide) (e ▸ hk)
      exact ⟨below_setRow hB (by have := ht.out; omega), .inr ⟨hR.out, u, rfl, own_mono (own_of_block hown3 (fun k hk => setRow_other _ _ _ _ (hn k hk))) hlow⟩⟩
    | false =>
      have OC := opsC_of hown3 (by simp only [maxLen]; omega)
      have ks := step_c (words := words) (el := el) hpc OC.ops hum OC.cap (fun ra n c e => (hown3.lt ra.block (by rw [e]; rfl)).2)
      rw [hidem, show (!(decide (layAll l = layAll l))) = false by simp] at ks
      go_wp2
      refine wp_loop_rounds 2 ?_
      rw [rounds_succ]
      go_upto_region 6 with (first | ((with_reducible refine wpList_load_if rfl 25 _ rfl _ rfl 25 _ (0, 0) _ zb Try.underlying25 rfl (bl_inf _ _ _ _) ?_); simp only [Act.put, List.setIfInBounds_toArray, List.set_cons_succ, List.set_cons_zero]) | (go_at_call 10; (with_reducible refine ks.mono ?_); clear ks; rintro e w5 ⟨B5, ⟨hr, _⟩ | ⟨hr, u2, rfl, hown5⟩⟩; (exfalso; rw [rm] at hr; cases hr); dsimp only; clear hr; have zb5 := keepRow zb B5; have hone5 : u2.oneCell' = true := (opsC_of hown5 (by simp only [maxLen]; omega)).one) | ((with_reducible refine wpList_store_row rfl 25 _ _ rfl t4 (blA pc words el u2) rfl rfl 25 _ zb5 (bl_inf _ _ _ _) rfl (blk_one _ _ _ _ hone5) ?_); simp only [Act.put, List.setIfInBounds_toArray, List.set_cons_succ, List.set_cons_zero]))
      have hn4 : ∀ k, u2.ownBlock = some k → k ≠ t4 := fun k hk e => own_ne zb5 hown5 (by decide) (e ▸ hk)
      have hlow5 : w.heap.size ≤ w3.heap.size := hB.size
      have ht4 : w.heap.size ≤ t4 := ht4lo
      have hown6 : (w5.setRow t4 (blA pc words el u2)).ownsRow w3.heap.size 45 6 u2 (layAll l).length (opF (layAll l)) := own_of_block hown5 (fun k hk => setRow_other _ _ _ _ (hn4 k hk))
      have z6 : (w5.setRow t4 (blA pc words el u2)).heap[t4]? = some (.cells (blA pc words el u2) 25) := setRow_heap _ _ _ _ _ _ zb5
      have r6 : (w5.setRow t4 (blA pc words el u2)).heap[t + 1]? = some (.cells #[vU 0, vI 0, vI 0, .slice none 0 0] 25) := by rw [setRow_other _ _ _ _ (Ne.symm hne2)]; exact keepRow r2 B5
      have hB6 : Below w.heap.size w (w5.setRow t4 (blA pc words el u2)) := below_setRow (below_then hB (Nat.le_refl _) B5) ht4
      clear zb5 B5 hown5 hn4 zb r1 r2 z3 hown3 hone hB OC
      generalize w5.setRow t4 (blA pc words el u2) = w6 at *
      go_wp2
      rw [rounds_succ]
      rcases Decidable.em ((1 : Int) < l.length) with h | h
      all_goals
        go_wp2_with (first | ((with_reducible refine wpList_load_if rfl 25 _ rfl _ rfl 25 _ (0, 0) _ z6 Try.underlying25 rfl (bl_inf _ _ _ _) ?_); simp only [Act.put, List.setIfInBounds_toArray, List.set_cons_succ, List.set_cons_zero]) | ((with_reducible refine wpList_store_row rfl 25 _ _ rfl (t + 1) (blA pc words el u2) rfl rfl 25 _ r6 (bl_inf _ _ _ _) rfl (blk_one _ _ _ _ hone5) ?_); simp only [Act.put, List.setIfInBounds_toArray, List.set_cons_succ, List.set_cons_zero]))
        refine bodyPost_ret (back_block rfl (setRow_heap _ _ _ _ _ _ r6)) rfl ?_
        have hn : ∀ k, u2.ownBlock = some k → k ≠ t + 1 := fun k hk e => own_ne r6 hown6 (by decide) (e ▸ hk)
        exact ⟨below_setRow hB6 (by have := ht.out; omega), .inr ⟨hR.out, u2, rfl, own_mono (own_of_block hown6 (fun k hk => setRow_other _ _ _ _ (hn k hk))) hlow5⟩⟩
theorem block_c (hpc : 0 ≤ pc) (O : Ops w v l) (hu : ∀ k, U64 (opAt l k).imm) (hcap : ∀ ao n cap, v = .slice ao n cap → n ≤ cap) (hfar : ∀ ra n cap, v = .slice (some ra) n cap → ra.block < w.heap.size) : Calls Try.prog 9 #[blV pc words el v] w fun e w' => Below w.heap.size w w' ∧
    ((rightB pc words el l = false ∧ e = .returned (.tuple #[blV 0 0 0 (.slice none 0 0), vI 4])) ∨
     (rightB pc words el l = true ∧ ∃ u, e = .returned (.tuple #[blV pc words el u, vI 0]) ∧ w'.ownsRow w.heap.size 45 6 u (layAll l).length (opF (layAll l)))) := block_c_all hpc O hu hcap
end
end Go.Proofs.Ytilhjbhhgpoajaa
