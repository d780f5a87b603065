/- same. -/
import Derived.Test.YtfgbhdcoemkdoaaDoorTc
import Derived.Test.YtfgbhdcoemkdoaaDoorSg
import Derived.ChangeKeysEq
import Derived.Laws.StructEq
namespace Go.Proofs.YtfgbhdcoemkdoaaDoor
open Go.RowKit
set_option linter.unusedVariables false
set_option linter.unusedSimpArgs false
set_option maxRecDepth 8000

def eqP (a b c d : Int) : Bool := (a == c) && (b == d)
theorem part_i (xs : Array Value) (k : Nat) (v : Value) (w : World) (h : xs[k]? = some v) : (part 3 xs k).run Tryd.prog w = .ok v w := by
  simp [part, isAgg, run_underlying Tryd.underlying3, h]
theorem cells3 : Tryd.prog.cellsOf 3 = 1 := by kernel_rfl
theorem guard60 : Tryd.prog.eqGuardType Tryd.prog.depth 60 = false := by kernel_rfl
theorem pair_eq (a b c d : Int) (w : World) : (Op.equalIn 10000 60 (.agg #[vI a, vI b]) (.agg #[vI c, vI d])).run Tryd.prog w = .ok (eqP a b c d) w := by
  obtain ⟨i, h1, _⟩ := infI
  rw [run_equalIn_array w 9999 _ _ Tryd.underlying60 h1, cells3, show List.range 2 = [0, 1] from rfl]
  have ea : (Op.equalIn 9999 3 (vI a) (vI c)).run Tryd.prog w = .ok (a == c) w := run_equalIn_int w 9998 3 .i64 .i64 a c Tryd.underlying3
  have eb : (Op.equalIn 9999 3 (vI b) (vI d)).run Tryd.prog w = .ok (b == d) w := run_equalIn_int w 9998 3 .i64 .i64 b d Tryd.underlying3
  unfold eqP
  simp only [Op.eqItems, Sem.run_bind, part_i #[vI a, vI b] (0 * 1) (vI a) _ rfl, part_i #[vI c, vI d] (0 * 1) (vI c) _ rfl, Result.andThen_ok, ea]
  cases (a == c)
  · simp
  · simp only [Op.eqItems, Bool.not_true, Bool.false_eq_true, if_false, Sem.run_bind, part_i #[vI a, vI b] (1 * 1) (vI b) _ rfl, part_i #[vI c, vI d] (1 * 1) (vI d) _ rfl, Result.andThen_ok, eb]
    cases (b == d) <;> simp
theorem chn_neq60 {o : Oper} {s : Act} {w : World} {C : World → Prop} (x y : Operand) (ho : o.op = .binOp .neq 60 x y 60) (a b c d : Int) (hx : s.eval x = .agg #[vI a, vI b]) (hy : s.eval y = .agg #[vI c, vI d]) (hC : C w) : Chn.upon Tryd.prog (fun v w' => v = .bool (!eqP a b c d) ∧ C w') w ((execOp s.eval o).run Tryd.prog w) := by
  have he := pair_eq a b c d w
  unfold execOp
  simp only [ho, hx, hy, Sem.run_bind, run_eqGuard_agg w _ _ _ _ _ _ guard60, Result.andThen_ok, run_neq_struct, he]
  exact ⟨rfl, hC⟩
theorem wpList_eql60 {ops : Array Oper} {rest : List Oper} {o : Oper} {s : Act} {w : World} {Q : Exit → Act → World → Prop} (hw : Region.wanted o (yielded ops s.tmps) = true) (x y : Operand) (ho : o.op = .binOp .eql 60 x y 60)
    (a b c d : Int) (hx : s.eval x = .agg #[vI a, vI b]) (hy : s.eval y = .agg #[vI c, vI d]) (h : wpList Tryd.prog ops Q rest (s.put o.dst (.bool (eqP a b c d))) w) : wpList Tryd.prog ops Q (o :: rest) s w := by
  refine BigFrame.wpList_want hw fun K hK => ?_
  have he := pair_eq a b c d w
  unfold Oper.wp execOp
  simp only [ho, hx, hy, Sem.run_bind, run_eqGuard_agg w _ _ _ _ _ _ guard60, Result.andThen_ok, run_eql_struct, he]
  exact hK _ _ h
theorem flatP_get {l : List (Nat × Nat)} {k : Nat} {p : Nat × Nat} (h : l[k]? = some p) : (flatP l)[k * 2]? = some (vI p.1) ∧ (flatP l)[k * 2 + 1]? = some (vI p.2) := by
  induction l generalizing k with
  | nil => simp at h
  | cons q l ih =>
    cases k with
    | zero =>
      simp at h
      subst h
      exact ⟨rfl, rfl⟩
    | succ k =>
      have := ih (k := k) (by simpa using h)
      have e : (k + 1) * 2 = k * 2 + 1 + 1 := by omega
      rw [e]
      exact this
/-- A row of pairs read. -/
theorem own_pair {base n b cap : Nat} {l : List (Nat × Nat)} {w : World} (R : w.ownsRow base 60 2 (.slice (some ⟨b, 0, none⟩) n cap) n (flatP l)) {k : Nat} {p : Nat × Nat} (h : l[k]? = some p) : w.rangeAt b (k * 2) [vI p.1, vI p.2] := by
  have hk := (List.getElem?_eq_some_iff.1 h).1
  have hl : (flatP l).length = n * 2 := R.1
  rw [flatP_len] at hl
  intro j v hv
  match j, hv with
  | 0, hv =>
    rw [R.cellAt (k * 2 + 0) (by omega), Nat.add_zero, (flatP_get h).1]; exact hv
  | 1, hv =>
    rw [R.cellAt (k * 2 + 1) (by omega), (flatP_get h).2]; exact hv
theorem inf60 : (Tryd.prog.info? 60).map (·.size) = some 2 := by kernel_rfl
theorem chn_ld60 {o : Oper} {a : Act} {w : World} {C : World → Prop} (x : Operand) (ho : o.op = .load 60 x) (b k : Nat) (hx : a.eval x = ptr b k) (c d : Int) (hr : w.rangeAt b k [vI c, vI d]) (hC : C w) : Chn.upon Tryd.prog (fun v w' => v = .agg #[vI c, vI d] ∧ C w') w ((execOp a.eval o).run Tryd.prog w) := by
  unfold execOp
  simp only [ho, hx, Instr.loadAt, Instr.sureAddr, Sem.run_bind, Sem.run_pure, Result.andThen_ok, run_loadVar_mid w b k 60 _ _ hr Tryd.underlying60 rfl inf60]
  exact ⟨rfl, hC⟩
theorem own_grow {base n size : Nat} {e : TypeId} {v : Value} {xs : List Value} {w w' : World} (R : w.ownsRow base e size v n xs) (hb : Below w.heap.size w w') : w'.ownsRow base e size v n xs := own_of_block R fun k hk => hb.block k (R.lt k hk).2
theorem own_slice {base n size : Nat} {e : TypeId} {v : Value} {xs : List Value} {w : World} (R : w.ownsRow base e size v n xs) (hn : 0 < n) : ∃ b cap, v = .slice (some ⟨b, 0, none⟩) n cap := by
  obtain ⟨b, cap, e, _⟩ := own_addr R hn
  exact ⟨b, cap, e⟩
set_option maxHeartbeats 2000000 in
theorem same_c {b1 b2 : Nat} {v1 v2 : Value} {l1 l2 : List (Nat × Nat)} {w : World} (R1 : w.ownsRow b1 60 2 v1 l1.length (flatP l1)) (R2 : w.ownsRow b2 60 2 v2 l2.length (flatP l2)) : Calls Tryd.prog 36 #[v1, v2] w fun e w' => e = .returned (.bool (decide (l1 = l2))) ∧ Below w.heap.size w w' := by
  obtain ⟨ao1, c1, e1, _, _⟩ := own_len R1
  obtain ⟨ao2, c2, e2, _, _⟩ := own_len R2
  by_cases hl : l1.length = l2.length
  · have hne : ((l1.length : Int) != (l2.length : Int)) = false := by simp [hl]
    have hmx : l1.length ≤ maxLen := by obtain ⟨_, _, e, h1, h2⟩ := own_len R1; omega
    simp only [maxLen] at hmx
    replace hl := show Hid _ from hl
    rw [e1, e2]
    go_enter Tryd.func36, Tryd.ntmps36
    go_wp2
    go_loopw [5] (fun s5 wr => ∃ i : Nat, i ≤ l1.length ∧ s5 = vI i ∧ Hid (Below w.heap.size w wr ∧ ∀ k, k < i → l1[k]? = l2[k]?)) (fun s5 _ => l1.length - (intOf s5).toNat)
    case atStart => exact ⟨0, Nat.zero_le _, rfl, Below.refl _ _, fun k h => by omega⟩
    case round =>
      obtain ⟨i, hi, rfl, hH⟩ := hrel
      obtain ⟨hB, hS⟩ := hH.out
      clear hH
      replace hS := show Hid _ from hS
      by_cases hlt : (i : Int) < l1.length
      · obtain ⟨g1, k1, f1⟩ := own_slice R1 (by omega)
        obtain ⟨g2, k2, f2⟩ := own_slice R2 (by have := hl.out; omega)
        rw [e1] at f1
        rw [e2] at f2
        cases f1
        cases f2
        have hil2 : i < l2.length := by have := hl.out; omega
        have hp : l1[i]? = some l1[i] := List.getElem?_eq_getElem (by omega)
        have hq : l2[i]? = some l2[i] := List.getElem?_eq_getElem (by have := hl.out; omega)
        generalize l1[i] = p at hp
        generalize l2[i] = q at hq
        have hlt2 : (i : Int) < l2.length := by have := hl.out; omega
        have RA := own_pair (e1 ▸ R1) hp
        have RB := own_pair (e2 ▸ R2) hq
        have hpq := show Hid _ from (⟨hp, hq⟩ : _ ∧ _)
        have hRA : ∀ w1, Below wr.heap.size wr w1 → w1.rangeAt g1 (i * 2) [vI p.1, vI p.2] := fun w1 hw => own_pair (own_grow (e1 ▸ R1) (hB.trans (hw.mono hB.size))) hp
        have hRB : ∀ w1, Below wr.heap.size wr w1 → w1.rangeAt g2 (i * 2) [vI q.1, vI q.2] := fun w1 hw => own_pair (own_grow (e2 ▸ R2) (hB.trans (hw.mono hB.size))) hq
        clear RA RB hp hq
        go_upto_region 6 with fail
        have hst : (StC wr (fun _ => False)) 0 { wr with drawn := wr.drawn + 1 } := Rel.below_draws (n := 1) (Below.refl _ _)
        refine Chn.wp_region_chainL (StC wr (fun _ => False)) [] [0, 0, 0, 0, 0, 0, 0, 0, 0] [.slice (some ⟨g1, 0, none⟩) l1.length c1, vI i, ptr g1 (i * 2), .agg #[vI p.1, vI p.2], .slice (some ⟨g2, 0, none⟩) l2.length c2, vI i, ptr g2 (i * 2), .agg #[vI q.1, vI q.2], .bool (!eqP p.1 p.2 q.1 q.2)] (by kernel_rfl) (by kernel_rfl) (by kernel_rfl) (by kernel_rfl) (by kernel_rfl) hst ?_
        clear hst
        refine ⟨fun j w1 hj hC => by exact Chn.upon_pure hC (fun F hF => by (go_simp <;> exact hF)), ?_⟩
        simp only [Act.put, List.setIfInBounds_toArray, List.set_cons_succ, List.set_cons_zero]
        refine ⟨fun j w1 hj hC => by exact Chn.upon_pure hC (fun F hF => by (go_simp <;> exact hF)), ?_⟩
        simp only [Act.put, List.setIfInBounds_toArray, List.set_cons_succ, List.set_cons_zero]
        refine ⟨fun j w1 hj hC => by exact Chn.upon_pure hC (fun F hF => by (go_simp <;> exact hF)), ?_⟩
        simp only [Act.put, List.setIfInBounds_toArray, List.set_cons_succ, List.set_cons_zero]
        refine ⟨fun j w1 hj hC => by exact chn_ld60 (C := (StC wr (fun _ => False)) j) _ rfl g1 (i * 2) rfl p.1 p.2 (hRA w1 (stC_low hj hC)) hC, ?_⟩
        simp only [Act.put, List.setIfInBounds_toArray, List.set_cons_succ, List.set_cons_zero]
        refine ⟨fun j w1 hj hC => by exact Chn.upon_pure hC (fun F hF => by (go_simp <;> exact hF)), ?_⟩
        simp only [Act.put, List.setIfInBounds_toArray, List.set_cons_succ, List.set_cons_zero]
        refine ⟨fun j w1 hj hC => by exact Chn.upon_pure hC (fun F hF => by (go_simp <;> exact hF)), ?_⟩
        simp only [Act.put, List.setIfInBounds_toArray, List.set_cons_succ, List.set_cons_zero]
        refine ⟨fun j w1 hj hC => by exact Chn.upon_pure hC (fun F hF => by (go_simp <;> exact hF)), ?_⟩
        simp only [Act.put, List.setIfInBounds_toArray, List.set_cons_succ, List.set_cons_zero]
        refine ⟨fun j w1 hj hC => by exact chn_ld60 (C := (StC wr (fun _ => False)) j) _ rfl g2 (i * 2) rfl q.1 q.2 (hRB w1 (stC_low hj hC)) hC, ?_⟩
        simp only [Act.put, List.setIfInBounds_toArray, List.set_cons_succ, List.set_cons_zero]
        refine ⟨fun j w1 hj hC => by exact chn_neq60 (C := (StC wr (fun _ => False)) j) _ _ rfl p.1 p.2 q.1 q.2 rfl rfl hC, ?_⟩
        simp only [Act.put, List.setIfInBounds_toArray, List.set_cons_succ, List.set_cons_zero]
        intro w5 hC
        have hB5 : Below w.heap.size w w5 := hB.trans (Below.mono (show Below wr.heap.size wr w5 from hC) hB.size)
        clear hC hRA hRB
        cases hz : eqP p.1 p.2 q.1 q.2 with
        | true =>
          have epq : p = q := by
            simp only [eqP, Bool.and_eq_true, beq_iff_eq] at hz
            exact Prod.ext (by omega) (by omega)
          replace epq := show Hid _ from epq
          go_wp2
          go_roundw
          case rel => exact ⟨i + 1, by omega, by go_num, hB5, fun k hk => by
            by_cases e : k = i
            · subst e; rw [hpq.out.1, hpq.out.2, epq.out]
            · exact hS.out k (by omega)⟩
          case measure => simp [intOf]; omega
        | false =>
          have hnl : l1 ≠ l2 := fun e => by
            have h1 := hpq.out
            rw [e] at h1
            have : p = q := Option.some.inj (h1.1.symm.trans h1.2)
            rw [this] at hz
            simp [eqP] at hz
          have hdec : decide (l1 = l2) = false := decide_eq_false hnl
          go_wp2
          go_ret
          exact ⟨by first | rfl | (rw [hdec]; rfl), hB5⟩
      · obtain rfl : i = l1.length := by omega
        have heq : l1 = l2 := List.ext_getElem? fun k => by
          by_cases hk : k < l1.length
          · exact hS.out k hk
          · rw [List.getElem?_eq_none (by omega), List.getElem?_eq_none (by have := hl.out; omega)]
        have hdec : decide (l1 = l2) = true := decide_eq_true heq
        replace heq := show Hid _ from heq
        go_wp2
        go_ret
        exact ⟨by first | rfl | (rw [hdec]; rfl), hB⟩
  · have hne : ((l1.length : Int) != (l2.length : Int)) = true := by simp; omega
    have hdec : decide (l1 = l2) = false := decide_eq_false fun e => hl (by rw [e])
    rw [e1, e2]
    clear hl
    go_enter Tryd.func36, Tryd.ntmps36
    go_wp2
    go_ret
    exact ⟨by first | rfl | (rw [hdec]; rfl), Below.refl _ _⟩
end Go.Proofs.YtfgbhdcoemkdoaaDoor
