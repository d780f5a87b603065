/- Lj, Lk of the seat, joined. -/
import Derived.Test.YtejlmggfeejgpaaDoorLi
import Derived.StillTactics
import Derived.StillTailTactics
/- The examples: twice, same. -/
namespace Go.Proofs.YtejlmggfeejgpaaDoor
open Go.RowKit
set_option linter.unusedVariables false
set_option linter.unusedSimpArgs false
set_option maxRecDepth 8000

def twL : List Opr := [⟨14, 0, 0, 0, 0, 64⟩, ⟨1, 0, 0, 0, 0, 1⟩, ⟨3, 0, 1, 0, 0, 0⟩, ⟨1, 0, 0, 0, 0, 2⟩, ⟨3, 0, 3, 0, 0, 0⟩, ⟨16, 0, 0, 0, 0, 68⟩]
def twM : List Opr := [⟨14, 0, 0, 0, 0, 64⟩, ⟨1, 0, 0, 0, 0, 2⟩, ⟨3, 0, 1, 0, 0, 0⟩, ⟨16, 0, 0, 0, 0, 68⟩]
def twA : Array Value := #[vI 14, vI 0, vI 0, vI 0, vI 0, vU 64, vI 1, vI 0, vI 0, vI 0, vI 0, vU 1, vI 3, vI 0, vI 1, vI 0, vI 0, vU 0, vI 1, vI 0, vI 0, vI 0, vI 0, vU 2, vI 3, vI 0, vI 3, vI 0, vI 0, vU 0, vI 16, vI 0, vI 0, vI 0, vI 0, vU 68]
def twS : List Bool := [true, false, false, true, true, true]
theorem tw_seen : seenL twL = twS := by decide +kernel
theorem tw_dead : deadL twL = twM := by decide +kernel
theorem tw_right : rightB 64 1 1 twL = true := by decide +kernel
theorem tw_u (k : Nat) : U64 (opAt twL k).imm := by
  match k with
  | 0 => exact ⟨by decide, by decide⟩
  | 1 => exact ⟨by decide, by decide⟩
  | 2 => exact ⟨by decide, by decide⟩
  | 3 => exact ⟨by decide, by decide⟩
  | 4 => exact ⟨by decide, by decide⟩
  | 5 => exact ⟨by decide, by decide⟩
  | k + 6 => exact ⟨by show (0 : Int) ≤ 0; decide, by show (0 : Int) < _; decide⟩
theorem run_tw (w : World) : (Instr.buildSlice 23 6 #[(0, .agg #[vI 14, vI 0, vI 0, vI 0, vI 0, vU 64]), (1, .agg #[vI 1, vI 0, vI 0, vI 0, vI 0, vU 1]), (2, .agg #[vI 3, vI 0, vI 1, vI 0, vI 0, vU 0]), (3, .agg #[vI 1, vI 0, vI 0, vI 0, vI 0, vU 2]), (4, .agg #[vI 3, vI 0, vI 3, vI 0, vI 0, vU 0]), (5, .agg #[vI 16, vI 0, vI 0, vI 0, vI 0, vU 68])]).run Tryd.prog w = .ok (.slice (some ⟨w.heap.size, 0, none⟩) 6 6) (w.alloc (.cells twA 33)) := by
  obtain ⟨i, hi, hz, hs, hby⟩ := info_parts info42
  exact run_buildSlice (P := Tryd.prog) w 23 33 6 _ _ i (opV nilO) Tryd.underlying23 hi hz (by rw [hs]; decide) (by rw [hs]; decide) (by rw [hs]; kernel_rfl)
theorem wpList_tw {ops : Array Oper} {rest : List Oper} {p : Oper} {a : Act} {w : World} {Q : Exit → Act → World → Prop} (hg : p.guard = none) (x0 x1 x2 x3 x4 x5 : Operand) (ho : p.op = .buildSlice 23 6 #[(0, x0), (1, x1), (2, x2), (3, x3), (4, x4), (5, x5)])
    (h0 : a.eval x0 = .agg #[vI 14, vI 0, vI 0, vI 0, vI 0, vU 64])
    (h1 : a.eval x1 = .agg #[vI 1, vI 0, vI 0, vI 0, vI 0, vU 1])
    (h2 : a.eval x2 = .agg #[vI 3, vI 0, vI 1, vI 0, vI 0, vU 0])
    (h3 : a.eval x3 = .agg #[vI 1, vI 0, vI 0, vI 0, vI 0, vU 2])
    (h4 : a.eval x4 = .agg #[vI 3, vI 0, vI 3, vI 0, vI 0, vU 0])
    (h5 : a.eval x5 = .agg #[vI 16, vI 0, vI 0, vI 0, vI 0, vU 68])
    (h : wpList Tryd.prog ops Q rest (a.put p.dst (.slice (some ⟨w.heap.size, 0, none⟩) 6 6)) (w.alloc (.cells twA 33))) : wpList Tryd.prog ops Q (p :: rest) a w :=
  wpList_plain hg fun _ hK => by
    unfold Oper.wp execOp
    simp only [ho, Sem.run_bind, List.map_toArray, List.map_cons, List.map_nil, h0, h1, h2, h3, h4, h5, run_tw, Result.andThen_ok]
    exact hK _ _ h
theorem tw_ops {w : World} {b : Nat} (h : w.heap[b]? = some (.cells twA 33)) : Ops w (.slice (some ⟨b, 0, none⟩) 6 6) twL := by
  have hc : ∀ j, w.cell? ⟨b, j, none⟩ = twA[j]? := fun j => by rw [cell_of_row _ _ _ _ _ _ h]
  refine ⟨⟨_, _, rfl⟩, by decide, fun _ => ⟨_, _, rfl, fun i o ho => ?_⟩⟩
  rw [Addr.add_mid, Nat.zero_add]
  match i, ho with
  | 0, ho => cases ho; exact ⟨lt_of_some h, hc 0, hc 1, hc 2, hc 3, hc 4, hc 5⟩
  | 1, ho => cases ho; exact ⟨lt_of_some h, hc 6, hc 7, hc 8, hc 9, hc 10, hc 11⟩
  | 2, ho => cases ho; exact ⟨lt_of_some h, hc 12, hc 13, hc 14, hc 15, hc 16, hc 17⟩
  | 3, ho => cases ho; exact ⟨lt_of_some h, hc 18, hc 19, hc 20, hc 21, hc 22, hc 23⟩
  | 4, ho => cases ho; exact ⟨lt_of_some h, hc 24, hc 25, hc 26, hc 27, hc 28, hc 29⟩
  | 5, ho => cases ho; exact ⟨lt_of_some h, hc 30, hc 31, hc 32, hc 33, hc 34, hc 35⟩
  | i + 6, ho => simp [twL] at ho
theorem back25 {fn : Func} {p : Tmp} {pc words el : Int} {v : Value} (h : fn.results = #[.cell p 25]) (tmps : Array Value) (w : World) (g : Nat) (hp : tmps.getD p undef = ptr g 0) (H : w.heap[g]? = some (.cells (blA pc words el v) 25)) : (results fn tmps).run Tryd.prog w = .ok (blV pc words el v) w :=
  results_cell_row h tmps w g 25 (blA pc words el v) (0, 0) _ hp H Tryd.underlying25 rfl (bl_inf _ _ _ _)
theorem bl_sz (v u : Value) : (blA 0 0 0 v).size = (blA 64 1 1 u).size := rfl
theorem sl_one (b n m : Nat) : (Value.slice (some ⟨b, 0, none⟩) n m).oneCell' = true := rfl
set_option maxHeartbeats 2000000 in
theorem tw_c (w : World) : Calls Tryd.prog 10 #[] w fun e w' => ∃ b, e = .returned (blV 64 1 1 (.slice (some ⟨b, 0, none⟩) 6 6)) ∧ w'.heap[b]? = some (.cells twA 33) ∧ Below w.heap.size w w' := by
  have hrow : (w.alloc (.cells (blA 0 0 0 (.slice none 0 0)) 25)).heap[w.heap.size]? = some (.cells (blA 0 0 0 (.slice none 0 0)) 25) := heap_alloc_new _ _
  have hb := below_alloc w (.cells (blA 0 0 0 (.slice none 0 0)) 25)
  go_enter Tryd.func10, Tryd.ntmps10
  go_upto_region 1 with fail
  generalize w.alloc (.cells (blA 0 0 0 (.slice none 0 0)) 25) = w1 at *
  have hr2 : (w1.alloc (.cells twA 33)).heap[w.heap.size]? = some (.cells (blA 0 0 0 (.slice none 0 0)) 25) := by rw [Below.heap_alloc _ _ _ (lt_of_some hrow)]; exact hrow
  have hx : (w1.alloc (.cells twA 33)).heap[w1.heap.size]? = some (.cells twA 33) := heap_alloc_new _ _
  have hb2 := below_then hb (Nat.le_refl _) (below_alloc w1 (.cells twA 33))
  have hne : w.heap.size ≠ w1.heap.size := Nat.ne_of_lt (lt_of_some hrow)
  go_wp2_with (first | ((with_reducible refine wpList_tw rfl _ _ _ _ _ _ rfl rfl rfl rfl rfl rfl rfl ?_); simp only [Act.put, List.setIfInBounds_toArray, List.set_cons_succ, List.set_cons_zero]; generalize w1.alloc (.cells twA 33) = w2 at *) | ((with_reducible refine wpList_store_row rfl 25 _ _ rfl w.heap.size (blA 64 1 1 (.slice (some ⟨w1.heap.size, 0, none⟩) 6 6)) rfl rfl 25 _ hr2 (bl_inf _ _ _ _) (bl_sz _ _) (blk_one _ _ _ _ (sl_one _ _ _)) ?_); simp only [Act.put, List.setIfInBounds_toArray, List.set_cons_succ, List.set_cons_zero]))
  refine bodyPost_ret (back25 rfl _ _ w.heap.size rfl (setRow_heap _ _ _ _ _ _ hr2)) rfl ?_
  refine ⟨w1.heap.size, rfl, ?_, below_setRow hb2 (Nat.le_refl _)⟩
  rw [setRow_other _ _ _ _ (Ne.symm hne)]; exact hx
theorem sl6_cap (b : Nat) : ∀ ao n cap, Value.slice (some ⟨b, 0, none⟩) 6 6 = .slice ao n cap → n ≤ cap := fun _ _ _ e => by cases e; exact Nat.le_refl _
theorem twSeen_c {w : World} {b : Nat} (h : w.heap[b]? = some (.cells twA 33)) : Calls Tryd.prog 8 #[blV 64 1 1 (.slice (some ⟨b, 0, none⟩) 6 6)] w fun e w' => ∃ g, e = .returned (.tuple #[.slice (some ⟨g, 0, none⟩) 6 6, vI 0]) ∧ w'.heap[g]? = some (.cells (boC twS []) 4) ∧ Below w.heap.size w w' := by
  refine (seen_c (pc := 64) (words := 1) (el := 1) (by decide) (tw_ops h) (fun k => (tw_u k).1) (sl6_cap b)).mono ?_
  rintro e w' ⟨B, ⟨hr, _⟩ | ⟨_, g, _, rfl, hg⟩⟩
  · rw [tw_right] at hr; cases hr
  · rw [tw_seen] at hg
    exact ⟨g, rfl, hg, B⟩
theorem twBlock_c {w : World} {b : Nat} (h : w.heap[b]? = some (.cells twA 33)) : Calls Tryd.prog 5 #[blV 64 1 1 (.slice (some ⟨b, 0, none⟩) 6 6)] w fun e w' => ∃ g cap, e = .returned (.tuple #[blV 64 1 1 (.slice (some ⟨g, 0, none⟩) 4 cap), vI 0]) ∧ OpAt w' ⟨g, 12, none⟩ ⟨3, 0, 1, 0, 0, 0⟩ ∧ Below w.heap.size w w' := by
  refine (block_c (pc := 64) (words := 1) (el := 1) (by decide) (tw_ops h) tw_u (sl6_cap b)).mono ?_
  rintro e w' ⟨B, ⟨hr, _⟩ | ⟨_, u, rfl, ho⟩⟩
  · rw [tw_right] at hr; cases hr
  · rw [tw_dead] at ho
    obtain ⟨g, cap, rfl, _⟩ := own_addr ho (by decide)
    obtain ⟨ra, cap', e', hc⟩ := (opsC_of ho (by decide)).ops.cell (by decide)
    cases e'
    exact ⟨g, cap, rfl, hc 2 ⟨3, 0, 1, 0, 0, 0⟩ rfl, B⟩
theorem u_nil : U64 nilO.imm := ⟨by decide, by decide⟩
theorem nilSeen_c (w : World) : Calls Tryd.prog 8 #[blV 0 0 0 (.slice none 0 0)] w fun e w' => e = .returned (.tuple #[.slice none 0 0, vI 4]) ∧ Below w.heap.size w w' := by
  refine (seen_c (l := []) (pc := 0) (words := 0) (el := 0) (by decide) ⟨⟨none, 0, rfl⟩, Nat.zero_le _, fun h => absurd h (by decide)⟩ (fun k => by show 0 ≤ (opAt [] k).imm; unfold opAt; rw [List.getElem?_nil]; exact u_nil.1) (fun ao n cap e => by cases e; exact Nat.le_refl _)).mono ?_
  rintro e w' ⟨B, ⟨_, rfl⟩ | ⟨hr, _⟩⟩
  · exact ⟨rfl, B⟩
  · exact absurd hr (by decide)
/-- Two rows of truths compared. -/
theorem boolL_eq {L M : List Bool} (hl : L.length = M.length) (h : ∀ j, j < L.length → L.getD j false = M.getD j false) : L = M := by
  apply List.ext_getElem hl
  intro j h1 h2
  have := h j h1
  simpa [List.getD, h1, h2] using this
set_option maxHeartbeats 4000000 in
theorem sameL_c {w : World} {a b c1 c2 : Nat} {L M : List Bool} {R R2 : List Value} (h1 : w.heap[a]? = some (.cells (boC L R) 4)) (h2 : w.heap[b]? = some (.cells (boC M R2) 4)) (hl1 : L.length ≤ 512) (hl2 : M.length ≤ 512) : Calls Tryd.prog 11 #[.slice (some ⟨a, 0, none⟩) L.length c1, .slice (some ⟨b, 0, none⟩) M.length c2] w fun e w' => e = .returned (.bool (decide (L = M))) ∧ Below w.heap.size w w' := by
  by_cases hl : L.length = M.length
  · have hb : (((L.length : Nat) : Int) != (M.length : Int)) = false := by rw [hl]; simp
    replace hl := show Hid _ from hl
    have E0 : Hid (∀ j, j < 0 → L.getD j false = M.getD j false) := fun j h => absurd h (by omega)
    go_enter Tryd.func11, Tryd.ntmps11
    go_upto_region 4 with fail
    go_loopw [5] (fun s5 wr => ∃ i : Nat, s5 = .int .i64 i ∧ i ≤ L.length ∧ wr.heap[a]? = some (.cells (boC L R) 4) ∧ wr.heap[b]? = some (.cells (boC M R2) 4) ∧ Below w.heap.size w wr ∧ Hid (∀ j, j < i → L.getD j false = M.getD j false)) (fun s5 _ => L.length - (intOf s5).toNat)
    case atStart => exact ⟨0, rfl, Nat.zero_le _, h1, h2, Below.refl _ _, E0⟩
    case round =>
      clear h1 h2 E0
      obtain ⟨i, rfl, hi, h1, h2, B, hE⟩ := hrel
      by_cases hlt : (i : Int) < L.length
      · have hil : i < L.length := by omega
        have hlt2 : (i : Int) < M.length := by have := hl.out; omega
        have z1 := bo_cell h1 hil
        have z2 := bo_cell h2 (show i < M.length by omega)
        have B2 := below_then B (Nat.le_refl _) (below_dr wr)
        have hd : (L.getD i false != M.getD i false) = !(decide (L.getD i false = M.getD i false)) := by cases L.getD i false <;> cases M.getD i false <;> rfl
        by_cases he : L.getD i false = M.getD i false
        · rw [← he] at z2
          generalize hx : L.getD i false = x at *
          have hx : Hid (L.getD i false = x) := hx
          have he : Hid (x = M.getD i false) := he
          clear hd
          go_upto_region 6 with fail
          refine wp_region_still_tail 8 (by kernel_rfl) (by kernel_rfl) ?_
          have z1 : ({ wr with drawn := wr.drawn + 1 } : World).cell? ⟨a, i, none⟩ = _ := z1
          have z2 : ({ wr with drawn := wr.drawn + 1 } : World).cell? ⟨b, i, none⟩ = _ := z2
          replace h1 : ({ wr with drawn := wr.drawn + 1 } : World).heap[a]? = some (.cells (boC L R) 4) := h1
          replace h2 : ({ wr with drawn := wr.drawn + 1 } : World).heap[b]? = some (.cells (boC M R2) 4) := h2
          generalize ({ wr with drawn := wr.drawn + 1 } : World) = w2 at *
          simp only [List.take_succ_cons, List.take_zero, List.drop_succ_cons, List.drop_zero]
          repeat still_step
          refine wpStill_nil ?_
          go_wp2
          go_roundw
          case rel =>
            refine ⟨i + 1, by go_num, by omega, h1, h2, B2, fun j hj => ?_⟩
            rcases Nat.lt_or_ge j i with h | h
            · exact hE.out j h
            · obtain rfl : j = i := by omega
              exact hx.out.trans he.out
          case measure => simp [intOf]; omega
        · have hno : decide (L = M) = false := by
            rw [decide_eq_false_iff_not]
            intro e
            subst e
            exact he rfl
          cases hx : L.getD i false <;> cases hy : M.getD i false
          · exact absurd (hx.trans hy.symm) he
          · rw [hx] at z1; rw [hy] at z2
            clear hx hy hd he
            go_upto_region 6 with fail
            refine wp_region_still_tail 8 (by kernel_rfl) (by kernel_rfl) ?_
            have z1 : ({ wr with drawn := wr.drawn + 1 } : World).cell? ⟨a, i, none⟩ = _ := z1
            have z2 : ({ wr with drawn := wr.drawn + 1 } : World).cell? ⟨b, i, none⟩ = _ := z2
            replace h1 : ({ wr with drawn := wr.drawn + 1 } : World).heap[a]? = some (.cells (boC L R) 4) := h1
            replace h2 : ({ wr with drawn := wr.drawn + 1 } : World).heap[b]? = some (.cells (boC M R2) 4) := h2
            generalize ({ wr with drawn := wr.drawn + 1 } : World) = w2 at *
            simp only [List.take_succ_cons, List.take_zero, List.drop_succ_cons, List.drop_zero]
            repeat still_step
            refine wpStill_nil ?_
            go_wp2
            go_ret
            exact ⟨by first | rfl | (rw [hno]; rfl), B2⟩
          · rw [hx] at z1; rw [hy] at z2
            clear hx hy hd he
            go_upto_region 6 with fail
            refine wp_region_still_tail 8 (by kernel_rfl) (by kernel_rfl) ?_
            have z1 : ({ wr with drawn := wr.drawn + 1 } : World).cell? ⟨a, i, none⟩ = _ := z1
            have z2 : ({ wr with drawn := wr.drawn + 1 } : World).cell? ⟨b, i, none⟩ = _ := z2
            replace h1 : ({ wr with drawn := wr.drawn + 1 } : World).heap[a]? = some (.cells (boC L R) 4) := h1
            replace h2 : ({ wr with drawn := wr.drawn + 1 } : World).heap[b]? = some (.cells (boC M R2) 4) := h2
            generalize ({ wr with drawn := wr.drawn + 1 } : World) = w2 at *
            simp only [List.take_succ_cons, List.take_zero, List.drop_succ_cons, List.drop_zero]
            repeat still_step
            refine wpStill_nil ?_
            go_wp2
            go_ret
            exact ⟨by first | rfl | (rw [hno]; rfl), B2⟩
          · exact absurd (hx.trans hy.symm) he
      · have hyes : decide (L = M) = true := decide_eq_true (boolL_eq hl.out (fun j hj => hE.out j (by omega)))
        clear hE
        go_wp2
        go_ret
        exact ⟨by first | rfl | (rw [hyes]; rfl), B⟩
  · have hb : (((L.length : Nat) : Int) != (M.length : Int)) = true := by simp; omega
    have hno : decide (L = M) = false := by
      rw [decide_eq_false_iff_not]
      exact fun e => hl (by rw [e])
    go_enter Tryd.func11, Tryd.ntmps11
    go_wp2
    go_ret
    exact ⟨by first | rfl | (rw [hno]; rfl), Below.refl _ _⟩
end Go.Proofs.YtejlmggfeejgpaaDoor
/- The examples. -/
namespace Go.Proofs.YtejlmggfeejgpaaDoor
open Go.RowKit
set_option linter.unusedVariables false
set_option linter.unusedSimpArgs false
set_option maxRecDepth 8000

theorem run_twS (w : World) : (Instr.buildSlice 34 6 #[(0, .bool true), (1, .bool false), (2, .bool false), (3, .bool true), (4, .bool true), (5, .bool true)]).run Tryd.prog w = .ok (.slice (some ⟨w.heap.size, 0, none⟩) 6 6) (w.alloc (.cells (boC twS []) 4)) := by
  obtain ⟨i, hi, hz, hs, hby⟩ := info_parts info4q
  exact run_buildSlice (P := Tryd.prog) w 34 4 6 _ _ i (.bool false) Tryd.underlying34 hi hz (by rw [hs]; decide) (by rw [hs]; decide) (by rw [hs]; kernel_rfl)
theorem wpList_twS {ops : Array Oper} {rest : List Oper} {p : Oper} {a : Act} {w : World} {Q : Exit → Act → World → Prop} (hg : p.guard = none) (x0 x1 x2 x3 x4 x5 : Operand) (ho : p.op = .buildSlice 34 6 #[(0, x0), (1, x1), (2, x2), (3, x3), (4, x4), (5, x5)])
    (h0 : a.eval x0 = .bool true) (h1 : a.eval x1 = .bool false) (h2 : a.eval x2 = .bool false) (h3 : a.eval x3 = .bool true) (h4 : a.eval x4 = .bool true) (h5 : a.eval x5 = .bool true)
    (h : wpList Tryd.prog ops Q rest (a.put p.dst (.slice (some ⟨w.heap.size, 0, none⟩) 6 6)) (w.alloc (.cells (boC twS []) 4))) : wpList Tryd.prog ops Q (p :: rest) a w :=
  wpList_plain hg fun _ hK => by
    unfold Oper.wp execOp
    simp only [ho, Sem.run_bind, List.map_toArray, List.map_cons, List.map_nil, h0, h1, h2, h3, h4, h5, run_twS, Result.andThen_ok]
    exact hK _ _ h
theorem wpList_eqlO {ops : Array Oper} {rest : List Oper} {o : Oper} {a : Act} {w : World} {Q : Exit → Act → World → Prop} (hw : Region.wanted o (yielded ops a.tmps) = true) (x y : Operand) (ho : o.op = .binOp .eql 33 x y 33)
    (c d : Opr) (hx : a.eval x = opV c) (hy : a.eval y = opV d) (b : Bool) (hb : decide (c = d) = b) (h : wpList Tryd.prog ops Q rest (a.put o.dst (.bool b)) w) : wpList Tryd.prog ops Q (o :: rest) a w := by
  refine BigFrame.wpList_want hw fun K hK => ?_
  have he := op_eq c d w
  rw [hb] at he
  unfold Oper.wp execOp
  simp only [ho, hx, hy, Sem.run_bind, run_eqGuard_agg w _ _ _ _ _ _ guard42, Result.andThen_ok, run_eql_struct, he]
  exact hK _ _ h
theorem wpList_builtW {ops : Array Oper} {rest : List Oper} {o : Oper} {a : Act} {w : World} {Q : Exit → Act → World → Prop} (hw : Region.wanted o (yielded ops a.tmps) = true) (t : TypeId) (parts : Array (Nat × Operand)) (ho : o.op = .build t parts)
    (cs : Array Value) (hf : Tryd.prog.built t (parts.map fun (i, x) => (i, a.eval x)).toList = some cs)
    (h : wpList Tryd.prog ops Q rest (a.put o.dst (.agg cs)) w) : wpList Tryd.prog ops Q (o :: rest) a w := by
  refine BigFrame.wpList_want hw fun K hK => ?_
  exact wp_build t parts ho (by rw [hf]; rfl) (hK _ _ (by rw [hf]; exact h))
set_option maxHeartbeats 8000000 in
theorem examples_c (w : World) : Calls Tryd.prog 4 #[] w fun e w' => e = .returned (.bool true) ∧ Below w.heap.size w w' := by
  have ks := fun x => tw_c x
  have kn := fun x => nilSeen_c x
  go_enter Tryd.func4, Tryd.ntmps4
  go_upto_region 2 with (first | (go_at_call 10; (with_reducible refine (ks _).mono ?_); rintro e w1 ⟨b1, rfl, hb1, B1⟩; dsimp only; have kb := twSeen_c hb1) | (go_at_call 8; (with_reducible refine kb.mono ?_); clear kb; rintro e w2 ⟨g, rfl, hg, B2⟩; dsimp only))
  replace B1 := below_then B1 (Nat.le_refl _) B2
  clear B2 hb1
  go_upto_region 3 with (first | (go_at_call 10; (with_reducible refine (ks _).mono ?_); clear ks; rintro e w3 ⟨b3, rfl, hb3, B3⟩; dsimp only; have kb := twBlock_c hb3) | (go_at_call 5; (with_reducible refine kb.mono ?_); clear kb; rintro e w4 ⟨g4, cap4, rfl, A4, B4⟩; dsimp only; have Hn := has_none w4) | ((with_reducible refine wpList_store_new Hn rfl 25 _ _ rfl (blA 64 1 1 (.slice (some ⟨g4, 0, none⟩) 4 cap4)) rfl rfl (bl_inf _ _ _ _) (by kernel_rfl) (blk_one _ _ _ _ rfl) ?_); clear Hn; intro w5 Hn; simp only [Act.put, List.setIfInBounds_toArray, List.set_cons_succ, List.set_cons_zero]))
  have rb : w5.heap[w4.heap.size]? = some (.cells (blA 64 1 1 (.slice (some ⟨g4, 0, none⟩) 4 cap4)) 25) := Hn.get List.mem_cons_self
  replace A4 := A4.grow Hn.below
  replace hg := keepRow (keepRow (keepRow hg B3) B4) Hn.below
  replace B1 := below_then (below_then (below_then B1 (Nat.le_refl _) B3) (Nat.le_refl _) B4) (Nat.le_refl _) Hn.below
  clear Hn B3 B4 hb3
  generalize w4.heap.size = t3 at *
  go_upto_region 4 with (first | ((with_reducible refine wpList_built rfl 25 _ rfl (blA 0 0 0 (.slice none 0 0)) (by kernel_rfl) ?_); simp only [Act.put, List.setIfInBounds_toArray, List.set_cons_succ, List.set_cons_zero]) | (go_at_call 8; (with_reducible refine (kn _).mono ?_); clear kn; rintro e w6 ⟨rfl, B6⟩; dsimp only))
  replace A4 := A4.grow B6
  replace hg := keepRow hg B6
  replace rb := keepRow rb B6
  replace B1 := below_then B1 (Nat.le_refl _) B6
  clear B6
  have b7 := below_alloc w6 (.cells (boC twS []) 4)
  have km : Calls Tryd.prog 11 #[.slice (some ⟨g, 0, none⟩) 6 6, .slice (some ⟨w6.heap.size, 0, none⟩) 6 6] (w6.alloc (.cells (boC twS []) 4)) fun e w' => e = .returned (.bool true) ∧ Below (w6.alloc (.cells (boC twS []) 4)).heap.size (w6.alloc (.cells (boC twS []) 4)) w' := sameL_c (c1 := 6) (c2 := 6) (keepRow hg b7) (heap_alloc_new w6 (.cells (boC twS []) 4)) (by decide) (by decide)
  replace A4 := A4.grow b7
  replace rb := keepRow rb b7
  replace B1 := below_then B1 (Nat.le_refl _) b7
  clear b7 hg
  go_upto_region 5 with (first | ((with_reducible refine wpList_twS rfl _ _ _ _ _ _ rfl rfl rfl rfl rfl rfl rfl ?_); simp only [Act.put, List.setIfInBounds_toArray, List.set_cons_succ, List.set_cons_zero]; generalize w6.alloc (.cells (boC twS []) 4) = w7 at *) | (go_at_call 11; (with_reducible refine km.mono ?_); clear km; rintro e w8 ⟨rfl, B8⟩; dsimp only))
  replace A4 := A4.grow B8
  replace rb := keepRow rb B8
  replace B1 := below_then B1 (Nat.le_refl _) B8
  clear B8
  have z3 : w8.cell? ⟨t3, 3, none⟩ = some (.slice (some ⟨g4, 0, none⟩) 4 cap4) := by rw [cell_of_row _ _ _ _ _ _ rb]; rfl
  clear rb
  go_wp2_with (first | ((with_reducible refine wpList_load42 rfl _ rfl _ rfl _ A4 ?_); simp only [Act.put, List.setIfInBounds_toArray, List.set_cons_succ, List.set_cons_zero]) | ((with_reducible refine wpList_builtW rfl 33 _ rfl (opA ⟨3, 0, 1, 0, 0, 0⟩) (by kernel_rfl) ?_); simp only [Act.put, List.setIfInBounds_toArray, List.set_cons_succ, List.set_cons_zero]) | ((with_reducible refine wpList_eqlO rfl _ _ rfl ⟨3, 0, 1, 0, 0, 0⟩ ⟨3, 0, 1, 0, 0, 0⟩ rfl rfl true (by decide) ?_); simp only [Act.put, List.setIfInBounds_toArray, List.set_cons_succ, List.set_cons_zero]))
  go_ret
  exact ⟨rfl, B1⟩
end Go.Proofs.YtejlmggfeejgpaaDoor
