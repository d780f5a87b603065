/- The document's Of; is a relation the document's? -/
import Derived.Test.YtfgbhdcoemkdoaaDoorWc
import Derived.Test.YtfgbhdcoemkdoaaDoorVb
namespace Go.Proofs.YtfgbhdcoemkdoaaDoor
open Go.RowKit
set_option linter.unusedVariables false
set_option linter.unusedSimpArgs false
set_option maxRecDepth 8000

open Rlw
def DOfP (n : Int) (ps : List (Int × Int)) (w : World) (e : Ending) (w' : World) : Prop := Below w.heap.size w w' ∧
  ((newE n ≠ 0 ∧ e = .returned (.tuple #[.pointer none, vI (newE n)])) ∨
   (∃ m : Nat, n = m ∧ newE n = 0 ∧ ((ofOk m ps = false ∧ e = .returned (.tuple #[.pointer none, vI 1])) ∨ (ofOk m ps = true ∧ ∃ r, e = .returned (.tuple #[ptr r 0, vI 0]) ∧ RefAt r m (ofR ps) w'))))
theorem ofOk_no {m i : Nat} {ps : List (Int × Int)} {p : Int × Int} (h : ps[i]? = some p) (hin : okP m p = false) : ofOk m ps = false := by
  unfold ofOk
  rw [Bool.eq_false_iff]
  intro h2
  have := List.all_eq_true.1 h2 p (List.mem_iff_getElem?.2 ⟨i, h⟩)
  rw [hin] at this; cases this
theorem ofOk_up {m i : Nat} {ps : List (Int × Int)} {p : Int × Int} (h : ps[i]? = some p) (hin : okP m p = true) (hok : ofOk m (ps.take i) = true) : ofOk m (ps.take (i + 1)) = true := by
  rw [take_snoc h, ofOk, List.all_append]
  rw [ofOk] at hok
  rw [hok]; simpa using hin
set_option maxHeartbeats 4000000 in
theorem docOf_c (n : Int) {v : Value} {ps : List (Int × Int)} {w : World} (hv : Prs w v ps) : Calls Tryd.prog 9 #[vI n, v] w (DOfP n ps w) := by
  by_cases hn : newE n = 0
  · have hn' := show Hid _ from hn
    obtain ⟨m, rfl, hm⟩ := new_nat hn
    clear hn
    have hx := docNew_ok hm w
    obtain ⟨ao, cap, ev⟩ := hv.len
    have hmax := hv.max
    simp only [maxLen] at hmax
    go_enter Tryd.func9, Tryd.ntmps9
    go_upto_region 2 with (first | (go_at_call 40; (with_reducible refine hx.mono ?_); rintro e w1 ⟨t, rfl, HX, hx1, hB1⟩; dsimp only))
    clear hx
    have hD0 : DI w t m (ofR (ps.take 0)) w1 := ⟨HX, hB1, hx1⟩
    clear HX hB1 hx1
    rw [ev]
    go_wp2
    go_loopw [7, 8] (fun s7 s8 wr => ∃ i : Nat, i ≤ ps.length ∧ s8 = vI i ∧ ((s7 = vI 0 ∧ Hid (DI w t m (ofR (ps.take i)) wr ∧ ofOk m (ps.take i) = true)) ∨ (s7 = vI 1 ∧ Hid (Below w.heap.size w wr ∧ ofOk m ps = false)))) (fun _ s8 _ => ps.length - (intOf s8).toNat)
    case atStart => exact ⟨0, Nat.zero_le _, rfl, .inl ⟨rfl, hD0, rfl⟩⟩
    case round =>
      clear hD0
      obtain ⟨i, hi, rfl, hH⟩ := hrel
      rcases hH with ⟨rfl, hH⟩ | ⟨rfl, hH⟩
      · obtain ⟨hD, hok⟩ := hH.out
        clear hH
        replace hok := show Hid _ from hok
        by_cases hlt : (i : Int) < ps.length
        · obtain ⟨ra, cap2, ev2, hcell⟩ := hv.cell (by omega)
          have hpi : ps[i]? = some ps[i] := List.getElem?_eq_getElem (by omega)
          have hp0 := hcell i _ hpi
          generalize ps[i] = p at hp0 hpi
          clear hcell
          have hp := hp0.low (B := 0) hD.low
          rw [ev] at ev2
          cases ev2
          subst ev
          replace hpi := show Hid _ from hpi
          go_upto_region 5 with fail
          have hst : (StC wr (fun w1 => DI w t m (addP m (ofR (ps.take i)) p.1 p.2) w1)) 0 { wr with drawn := wr.drawn + 1 } := Rel.below_draws (n := 1) (Below.refl _ _)
          refine Chn.wp_region_chainL (StC wr (fun w1 => DI w t m (addP m (ofR (ps.take i)) p.1 p.2) w1)) [11] [1, 1, 1, 1, 1, 0, 1, 1, 1, 1, 0, 1, 1] [ptr t 0, .slice (some ra) ps.length cap, vI i, .pointer (some (ra.add (i * 2))), .pointer (some (ra.add (i * 2))), vI p.1, .slice (some ra) ps.length cap, vI i, .pointer (some (ra.add (i * 2))), .pointer (some ⟨(ra.add (i * 2)).block, (ra.add (i * 2)).off + 1, none⟩), vI p.2, vI (addE m p.1 p.2), vI (addE m p.1 p.2)] (by kernel_rfl) (by kernel_rfl) (by kernel_rfl) (by kernel_rfl) (by kernel_rfl) hst ?_
          clear hst
          refine ⟨fun j w1 hj hC => by exact Chn.upon_pure hC (fun F hF => by (go_simp <;> exact hF)), ?_⟩
          simp only [Act.put, List.setIfInBounds_toArray, List.set_cons_succ, List.set_cons_zero]
          refine ⟨fun j w1 hj hC => by exact Chn.upon_pure hC (fun F hF => by (go_simp <;> exact hF)), ?_⟩
          simp only [Act.put, List.setIfInBounds_toArray, List.set_cons_succ, List.set_cons_zero]
          refine ⟨fun j w1 hj hC => by exact Chn.upon_pure hC (fun F hF => by (go_simp <;> exact hF)), ?_⟩
          simp only [Act.put, List.setIfInBounds_toArray, List.set_cons_succ, List.set_cons_zero]
          refine ⟨fun j w1 hj hC => by exact Chn.upon_pure hC (fun F hF => by (go_simp <;> exact hF)), ?_⟩
          simp only [Act.put, List.setIfInBounds_toArray, List.set_cons_succ, List.set_cons_zero]
          refine ⟨fun j w1 hj hC => by exact Chn.upon_pure hC (fun F hF => by (go_simp <;> exact hF)), ?_⟩
          simp only [Act.put, List.setIfInBounds_toArray, List.set_cons_succ, List.set_cons_zero]
          refine ⟨fun j w1 hj hC => by
            have z := (hp.grow (stC_low hj hC)).1
            exact Chn.upon_pure hC (fun F hF => by (go_simp <;> exact hF)), ?_⟩
          simp only [Act.put, List.setIfInBounds_toArray, List.set_cons_succ, List.set_cons_zero]
          refine ⟨fun j w1 hj hC => by exact Chn.upon_pure hC (fun F hF => by (go_simp <;> exact hF)), ?_⟩
          simp only [Act.put, List.setIfInBounds_toArray, List.set_cons_succ, List.set_cons_zero]
          refine ⟨fun j w1 hj hC => by exact Chn.upon_pure hC (fun F hF => by (go_simp <;> exact hF)), ?_⟩
          simp only [Act.put, List.setIfInBounds_toArray, List.set_cons_succ, List.set_cons_zero]
          refine ⟨fun j w1 hj hC => by exact Chn.upon_pure hC (fun F hF => by (go_simp <;> exact hF)), ?_⟩
          simp only [Act.put, List.setIfInBounds_toArray, List.set_cons_succ, List.set_cons_zero]
          refine ⟨fun j w1 hj hC => by exact Chn.upon_pure hC (fun F hF => by (go_simp <;> exact hF)), ?_⟩
          simp only [Act.put, List.setIfInBounds_toArray, List.set_cons_succ, List.set_cons_zero]
          refine ⟨fun j w1 hj hC => by
            have z := (hp.grow (stC_low hj hC)).2
            exact Chn.upon_pure hC (fun F hF => by (go_simp <;> exact hF)), ?_⟩
          simp only [Act.put, List.setIfInBounds_toArray, List.set_cons_succ, List.set_cons_zero]
          refine ⟨fun w1 hC => by
            exact Chn.upon_call (C := (StC wr (fun w1 => DI w t m (addP m (ofR (ps.take i)) p.1 p.2) w1)) 1) (docAdd_p (hD.grow hC).row p.1 p.2) (fun e2 w2 hh => ⟨hh.1, hh.2.1, (hD.grow hC).low.trans (hh.2.2.below (hD.grow hC).low.size (fun k hk => by rw [hk]; exact hD.own)), hD.own⟩) (fun F hF => by (go_simp <;> exact hF)), ?_⟩
          simp only [Act.put, List.setIfInBounds_toArray, List.set_cons_succ, List.set_cons_zero]
          refine ⟨fun j w1 hj hC => by exact Chn.upon_pure hC (fun F hF => by (go_simp <;> exact hF)), ?_⟩
          simp only [Act.put, List.setIfInBounds_toArray, List.set_cons_succ, List.set_cons_zero]
          intro w5 hC
          have hD2 : DI w t m (addP m (ofR (ps.take i)) p.1 p.2) w5 := hC
          clear hC hD hp hp0
          cases hin : okP m p with
          | true =>
            have hin' : (inB m p.1 && inB m p.2) = true := hin
            have e1 : addE m p.1 p.2 = 0 := by unfold addE; rw [hin', if_pos rfl]
            have e2 : addP m (ofR (ps.take i)) p.1 p.2 = ofR (ps.take (i + 1)) := by unfold addP; rw [hin', if_pos rfl, take_snoc hpi.out, ofR_snoc]
            have hok2 := ofOk_up hpi.out hin hok.out
            rw [e2] at hD2
            rw [e1]
            replace hin := show Hid _ from hin
            clear hin' e1 e2
            replace hok2 := show Hid _ from hok2
            go_wp2
            go_roundw
            case rel => exact ⟨i + 1, by omega, by go_num, .inl ⟨rfl, hD2, hok2.out⟩⟩
            case measure => simp [intOf]; omega
          | false =>
            have hin' : (inB m p.1 && inB m p.2) = false := hin
            have e1 : addE m p.1 p.2 = 1 := by unfold addE; rw [hin', if_neg (by decide)]
            have hno := show Hid _ from ofOk_no hpi.out hin
            rw [e1]
            replace hin := show Hid _ from hin
            clear hin' e1
            go_wp2
            go_roundw
            case rel => exact ⟨i + 1, by omega, by go_num, .inr ⟨rfl, hD2.low, hno.out⟩⟩
            case measure => simp [intOf]; omega
        · obtain rfl : i = ps.length := by omega
          rw [List.take_length] at hD
          rw [List.take_length] at hok
          go_wp2
          go_ret2
          exact ⟨hD.low, .inr ⟨m, rfl, hn'.out, .inr ⟨hok.out, t, rfl, hD.row⟩⟩⟩
      · obtain ⟨hB, hno⟩ := hH.out
        clear hH
        replace hno := show Hid _ from hno
        by_cases hlt : (i : Int) < ps.length
        · go_wp2
          go_ret2
          exact ⟨hB, .inr ⟨m, rfl, hn'.out, .inl ⟨hno.out, rfl⟩⟩⟩
        · go_wp2
          go_ret2
          exact ⟨hB, .inr ⟨m, rfl, hn'.out, .inl ⟨hno.out, rfl⟩⟩⟩
  · have hx := docNew_bad hn w
    have hne := newE_ne hn
    have hne2 : ((newE n) == 0) = false := by simpa using hn
    have hn' := show Hid _ from hn
    obtain ⟨ao, cap, ev⟩ := hv.len
    rw [ev]
    have hdec : decide (newE n = 0) = false := decide_eq_false hn
    go_enter Tryd.func9, Tryd.ntmps9
    go_upto_region 2 with (first | (go_at_call 40; (with_reducible refine hx.mono ?_); rintro e w ⟨rfl, rfl⟩; dsimp only))
    go_wp2
    go_loop [7, 8] (fun s7 s8 => s7 = vI (newE n) ∧ s8 = vI 0) (fun _ _ => 0)
    case atStart => exact ⟨rfl, rfl⟩
    case round =>
      obtain ⟨rfl, rfl⟩ := hrel
      by_cases hlt : (0 : Int) < ps.length
      · go_wp2
        go_ret2
        exact ⟨Below.refl _ _, .inl ⟨hn'.out, rfl⟩⟩
      · go_wp2
        go_ret2
        exact ⟨Below.refl _ _, .inl ⟨hn'.out, rfl⟩⟩
theorem own_two {base n b cap : Nat} {xs : List Value} {w : World} (R : w.ownsRow base 60 2 (.slice (some ⟨b, 0, none⟩) n cap) n xs) {k : Nat} (hk : k < n) (x y : Value) : ∃ ys, (w.setCells b (k * 2) [x, y]).ownsRow base 60 2 (.slice (some ⟨b, 0, none⟩) n cap) n ys ∧ Below base w (w.setCells b (k * 2) [x, y]) ∧ w.there b (k * 2) 2 := by
  have h1 := (R.stored (k * 2) x).1
  have h2 := (h1.stored (k * 2 + 1) y).1
  have hlt := (R.lt b rfl).1
  refine ⟨_, h2, ?_, fun j hj => ⟨?_, R.frozenAt _⟩⟩
  · have b1 : Below base w (w.setCell ⟨b, k * 2, none⟩ x) := (Below.refl _ w).setCell (p := ⟨b, k * 2, none⟩) hlt x
    exact b1.setCell (p := ⟨b, k * 2 + 1, none⟩) hlt y
  · have hl : xs.length = n * 2 := R.1
    rw [R.cellAt _ (by omega), List.getElem?_eq_getElem (by omega)]
    rfl
theorem wpList_put60 {ops : Array Oper} {rest : List Oper} {o : Oper} {a : Act} {w : World} {Q : Exit → Act → World → Prop} (hgd : o.guard = none) (x y : Operand) (ho : o.op = .store 60 x y) {base n b cap : Nat} {xs : List Value} (R : w.ownsRow base 60 2 (.slice (some ⟨b, 0, none⟩) n cap) n xs) {k : Nat} (hk : k < n) (hx : a.eval x = .pointer (some ⟨b, k * 2, none⟩)) (hy : a.eval y = .agg #[vI (-1), vI (-1)])
    (h : ∀ ys w', w'.ownsRow base 60 2 (.slice (some ⟨b, 0, none⟩) n cap) n ys → Below base w w' → wpList Tryd.prog ops Q rest (a.put o.dst undef) w') : wpList Tryd.prog ops Q (o :: rest) a w := by
  obtain ⟨ys, h1, h2, h3⟩ := own_two R hk (vI (-1)) (vI (-1))
  exact wpList_store_mid hgd 60 x y ho b (k * 2) #[vI (-1), vI (-1)] hx hy h3 (by kernel_rfl) (by simp [Value.oneCell']) (h ys _ h1 h2)
set_option maxHeartbeats 4000000 in
theorem is_c {r x n : Nat} {R : Nat → Nat → Bool} {w : World} (H : RelAt r n R w) (K : RefAt x n R w) (hT : Tab w) : Calls Tryd.prog 11 #[ptr r 0, ptr x 0] w fun e w' => e = .returned (.bool true) ∧ Below w.heap.size w w' := by
  have hp := pairs_r H hT
  have hle := H.le
  go_enter Tryd.func11, Tryd.ntmps11
  go_upto_region 4 with (first | (go_at_call 37; (with_reducible refine hp.mono ?_); rintro e w1 ⟨v1, rfl, hP1, hB1⟩; dsimp only))
  clear hp
  have hd := docPairs_c (K.grow hB1)
  go_upto_region 5 with (first | (go_at_call 43; (with_reducible refine hd.mono ?_); rintro e w2 ⟨v2, rfl, hP2⟩; have hsm := same_y rfl (own_grow hP1 hP2.low) hP2.row; dsimp only) | (go_at_call 36; (with_reducible refine hsm.mono ?_); rintro e w3 ⟨rfl, hB3⟩; dsimp only))
  have hG13 : Below w1.heap.size w1 w3 := hP2.low.trans (hB3.mono hP2.low.size)
  have hP3 := own_grow hP1 hG13
  have hB3' : Below w.heap.size w w3 := hB1.trans (hG13.mono hB1.size)
  have hpl : (prsN n n R).length ≤ 4096 := Nat.le_trans (length_prs n R n) (Nat.le_trans (Nat.mul_le_mul hle hle) (by decide))
  clear hd hsm hP2 hB3 hG13 hP1 hB1
  generalize hL : (prsN n n R).length = L at hP3 hpl
  replace hL := show Hid _ from hL
  obtain ⟨ao, cap, ev, _, _⟩ := own_len hP3
  subst ev
  go_wp2
  go_loopw [7] (fun s7 wr => ∃ i : Nat, i ≤ L ∧ s7 = vI i ∧ Hid (∃ xs, wr.ownsRow w.heap.size 60 2 (.slice ao L cap) L xs ∧ Below w.heap.size w wr)) (fun s7 _ => 5000 - (intOf s7).toNat)
  case atStart => exact ⟨0, Nat.zero_le _, rfl, _, hP3, hB3'⟩
  case round =>
    clear hP3 hB3'
    obtain ⟨i, hi, rfl, hH⟩ := hrel
    obtain ⟨xs, hX, hB⟩ := hH.out
    clear hH
    by_cases hlt : (i : Int) < L
    · obtain ⟨g, cap2, eg⟩ := own_slice hX (by omega)
      cases eg
      have hil : i < L := by omega
      go_wp2_with (first | (refine wpList_put60 (by rfl) _ _ (by rfl) hX (k := i) hil (by rfl) (by rfl) ?_; intro ys w9 hY hBY; simp only [Act.put, List.setIfInBounds_toArray, List.set_cons_succ, List.set_cons_zero]))
      go_roundw
      case rel => exact ⟨i + 1, by omega, by go_num, ys, hY, hB.trans (hBY.mono (Nat.le_refl _))⟩
      case measure => simp [intOf]; omega
    · have HR := H.grow hB
      have HX := K.grow hB
      have hp := pairs_r HR (hT.grow hB)
      clear hX
      go_upto_region 10 with (first | (go_at_call 37; (with_reducible refine hp.mono ?_); rintro e w6 ⟨v6, rfl, hP6, hB6⟩; have hd := docPairs_c (HX.grow hB6); dsimp only) | (go_at_call 43; (with_reducible refine hd.mono ?_); rintro e w7 ⟨v7, rfl, hP7⟩; have hsm := same_y rfl (own_grow hP6 hP7.low) hP7.row; dsimp only) | (go_at_call 36; (with_reducible refine hsm.mono ?_); rintro e w8 ⟨rfl, hB8⟩; dsimp only))
      have G1 : Below wr.heap.size wr w8 := (hB6.trans (hP7.low.mono hB6.size)).trans (hB8.mono (Nat.le_trans hB6.size hP7.low.size))
      clear hp hd hsm hP6 hP7 hB6 hB8
      replace HR := HR.grow G1
      replace HX := HX.grow G1
      replace hB := hB.trans (G1.mono hB.size)
      clear G1
      have hst : (StC w8 (fun _ => False)) 0 { w8 with drawn := w8.drawn + 1 } := Rel.below_draws (n := 1) (Below.refl _ _)
      refine Chg.wp_region_chainG (StC w8 (fun _ => False)) [] [0, 0, 0, 0, 0, 0, 0, 0, 0, 0, 0, 0, 0, 0] [.bool true, .bool true, .bool true, .bool true, .bool true, ptr r 0, vI n, ptr x 0, ptr x 0, ptr x 0, vI n, .bool true, .bool true, .bool true] (by kernel_rfl) (by kernel_rfl) (by kernel_rfl) (by kernel_rfl) (by kernel_rfl) hst ?_
      clear hst
      refine ⟨fun j w1 hj hC => Chg.uponW_yes (by rfl) (by exact Chn.upon_pure hC (fun F hF => by (go_simp <;> exact hF))), ?_⟩
      simp only [Act.put, List.setIfInBounds_toArray, List.set_cons_succ, List.set_cons_zero]
      refine ⟨fun j w1 hj hC => Chg.uponW_yes (by rfl) (by exact Chn.upon_pure hC (fun F hF => by (go_simp <;> exact hF))), ?_⟩
      simp only [Act.put, List.setIfInBounds_toArray, List.set_cons_succ, List.set_cons_zero]
      refine ⟨fun j w1 hj hC => Chg.uponW_yes (by rfl) (by exact Chn.upon_pure hC (fun F hF => by (go_simp <;> exact hF))), ?_⟩
      simp only [Act.put, List.setIfInBounds_toArray, List.set_cons_succ, List.set_cons_zero]
      refine ⟨fun j w1 hj hC => Chg.uponW_yes (by rfl) (by exact Chn.upon_pure hC (fun F hF => by (go_simp <;> exact hF))), ?_⟩
      simp only [Act.put, List.setIfInBounds_toArray, List.set_cons_succ, List.set_cons_zero]
      refine ⟨fun j w1 hj hC => Chg.uponW_yes (by rfl) (by exact Chn.upon_pure hC (fun F hF => by (go_simp <;> exact hF))), ?_⟩
      simp only [Act.put, List.setIfInBounds_toArray, List.set_cons_succ, List.set_cons_zero]
      refine ⟨fun j w1 hj hC => Chg.uponW_yes (by rfl) (by exact Chn.upon_pure hC (fun F hF => by (go_simp <;> exact hF))), ?_⟩
      simp only [Act.put, List.setIfInBounds_toArray, List.set_cons_succ, List.set_cons_zero]
      refine ⟨fun j w1 hj hC => Chg.uponW_yes (by rfl) (by
        exact Chn.upon_call (C := (StC w8 (fun _ => False)) j) (size_c ((HR.grow (stC_low0 hC))).row) (fun e2 w2 hh => ⟨hh.1, by rw [hh.2]; exact hC⟩) (fun F hF => by (go_simp <;> exact hF))), ?_⟩
      simp only [Act.put, List.setIfInBounds_toArray, List.set_cons_succ, List.set_cons_zero]
      refine ⟨fun j w1 hj hC => Chg.uponW_yes (by rfl) (by exact Chn.upon_pure hC (fun F hF => by (go_simp <;> exact hF))), ?_⟩
      simp only [Act.put, List.setIfInBounds_toArray, List.set_cons_succ, List.set_cons_zero]
      refine ⟨fun j w1 hj hC => Chg.uponW_yes (by rfl) (by exact Chn.upon_pure hC (fun F hF => by (go_simp <;> exact hF))), ?_⟩
      simp only [Act.put, List.setIfInBounds_toArray, List.set_cons_succ, List.set_cons_zero]
      refine ⟨fun j w1 hj hC => Chg.uponW_yes (by rfl) (by exact Chn.upon_pure hC (fun F hF => by (go_simp <;> exact hF))), ?_⟩
      simp only [Act.put, List.setIfInBounds_toArray, List.set_cons_succ, List.set_cons_zero]
      refine ⟨fun j w1 hj hC => Chg.uponW_yes (by rfl) (by
        have z := (HX.grow (stC_low0 hC)).c0
        exact Chn.upon_pure hC (fun F hF => by (go_simp <;> exact hF))), ?_⟩
      simp only [Act.put, List.setIfInBounds_toArray, List.set_cons_succ, List.set_cons_zero]
      refine ⟨fun j w1 hj hC => Chg.uponW_yes (by rfl) (by exact Chn.upon_pure hC (fun F hF => by (go_simp <;> exact hF))), ?_⟩
      simp only [Act.put, List.setIfInBounds_toArray, List.set_cons_succ, List.set_cons_zero]
      refine ⟨fun j w1 hj hC => Chg.uponW_yes (by rfl) (by exact Chn.upon_pure hC (fun F hF => by (go_simp <;> exact hF))), ?_⟩
      simp only [Act.put, List.setIfInBounds_toArray, List.set_cons_succ, List.set_cons_zero]
      refine ⟨fun j w1 hj hC => Chg.uponW_yes (by rfl) (by exact Chn.upon_pure hC (fun F hF => by (go_simp <;> exact hF))), ?_⟩
      simp only [Act.put, List.setIfInBounds_toArray, List.set_cons_succ, List.set_cons_zero]
      intro w5 hC
      have hB5 : Below w8.heap.size w8 w5 := hC
      clear hC
      go_wp2
      go_ret
      exact ⟨rfl, hB.trans (hB5.mono hB.size)⟩
end Go.Proofs.YtfgbhdcoemkdoaaDoor
