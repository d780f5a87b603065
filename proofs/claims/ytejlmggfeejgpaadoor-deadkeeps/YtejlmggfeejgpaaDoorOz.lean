/- DeadKeeps: the walk. -/
import Derived.Test.YtejlmggfeejgpaaDoorOa
import Derived.Test.YtejlmggfeejgpaaDoorXo
import Derived.Test.YtejlmggfeejgpaaDoorNt
namespace Go.Proofs.YtejlmggfeejgpaaDoor
open Go.RowKit
set_option linter.unusedVariables false
set_option linter.unusedSimpArgs false
set_option maxRecDepth 8000

theorem wpList_neqO {ops : Array Oper} {rest : List Oper} {o : Oper} {a : Act} {w : World} {Q : Exit → Act → World → Prop} (hw : Region.wanted o (yielded ops a.tmps) = true) (x y : Operand) (ho : o.op = .binOp .neq 33 x y 33)
    (c d : Opr) (hx : a.eval x = opV c) (hy : a.eval y = opV d) (b : Bool) (hb : decide (c = d) = b) (h : wpList Tryd.prog ops Q rest (a.put o.dst (.bool (!b))) w) : wpList Tryd.prog ops Q (o :: rest) a w := by
  refine BigFrame.wpList_want hw fun K hK => ?_
  have he := op_eq c d w
  rw [hb] at he
  unfold Oper.wp execOp
  simp only [ho, hx, hy, Sem.run_bind, run_eqGuard_agg w _ _ _ _ _ _ guard42, Result.andThen_ok, run_neq_struct, he]
  exact hK _ _ h
theorem list_eq_of {l m : List Opr} (hl : l.length = m.length) (h : ∀ j, j < l.length → opAt l j = opAt m j) : l = m := by
  apply List.ext_getElem hl
  intro j h1 h2
  have := h j h1
  unfold opAt at this
  rw [List.getElem?_eq_getElem h1, List.getElem?_eq_getElem h2] at this
  exact this
theorem below_dr' {w x : World} (h : Below w.heap.size w x) : Below w.heap.size w { x with drawn := x.drawn + 1 } := h.trans ((below_dr x).mono h.size)
theorem still_row {ops : Array Oper} {rest : List Oper} {o : Oper} {a : Act} {w : World} {Q : Act → Prop} (hg : Region.wanted o (yielded ops a.tmps) = true) (t : TypeId) (x : Operand) (ho : o.op = .load t x) {p : Addr} (hx : a.eval x = .pointer (some p)) {v : Value} (hr : (loadVar t p).run Tryd.prog w = .ok v w)
    (h : wpStill Tryd.prog ops w Q rest (a.put o.dst v)) : wpStill Tryd.prog ops w Q (o :: rest) a := by
  refine wpStill_step fun K hK => ?_
  rw [if_pos hg]
  unfold Oper.still execOp
  simp only [ho, hx, Instr.loadAt, Instr.sureAddr, Sem.run_bind, Sem.run_pure, Result.andThen_ok, hr, Oper.stillUpon_value]
  exact hK _ h

/-- What DeadKeeps holds. -/
structure DkW (w : World) (pc words el : Int) (v : Value) (l : List Opr) (b1 ab B0 : Nat) (ua : Value) (x : World) : Prop where
  r1 : x.heap[b1]? = some (.cells (blA pc words el v) 25)
  ra : x.heap[ab]? = some (.cells (blA pc words el ua) 25)
  ops : Ops x v l
  own : x.ownsRow B0 33 6 ua (deadL l).length (opF (deadL l))
  below : Below w.heap.size w x
section
variable {w x y : World} {pc words el : Int} {v ua : Value} {l : List Opr} {b1 ab B0 : Nat}
theorem DkW.grow (h : DkW w pc words el v l b1 ab B0 ua x) (hb : Below x.heap.size x y) : DkW w pc words el v l b1 ab B0 ua y :=
  ⟨keepRow h.r1 hb, keepRow h.ra hb, h.ops.grow hb, own_grow6 h.own hb, below_then h.below (Nat.le_refl _) hb⟩
theorem DkW.opa (h : DkW w pc words el v l b1 ab B0 ua x) (hm : (deadL l).length ≤ maxLen) : OpsC x ua (deadL l) := opsC_of h.own hm
end
section
variable {w : World} {pc words el : Int} {v : Value} {l : List Opr}
set_option maxHeartbeats 16000000 in
theorem keeps_walk (hpc : 0 ≤ pc) (O : Ops w v l) (hu : ∀ k, U64 (opAt l k).imm) (hcap : ∀ ao n cap, v = .slice ao n cap → n ≤ cap) (ht : Tab w) : Calls Tryd.prog 3 #[blV pc words el v] w fun e w' => e = .returned (.bool true) ∧ Below w.heap.size w w' := by
  have himm : ∀ k, 0 ≤ (opAt l k).imm := fun k => (hu k).1
  have hb := below_alloc w (.cells (blA pc words el v) 25)
  have r1 : (w.alloc (.cells (blA pc words el v) 25)).heap[w.heap.size]? = some (.cells (blA pc words el v) 25) := heap_alloc_new _ _
  have O1 := O.grow hb
  clear O
  replace ht := show Hid _ from ht
  go_enter Tryd.func3, Tryd.ntmps3
  go_upto_region 1 with fail
  generalize w.alloc (.cells (blA pc words el v) 25) = w1 at *
  generalize hb1 : w.heap.size = b1 at r1 ⊢
  clear hb1
  go_upto_region 2 with (first | (go_at_call 4; (with_reducible refine (examples_c _).mono ?_); rintro e w2 ⟨rfl, B⟩; dsimp only))
  replace hb := below_then hb (Nat.le_refl _) B
  replace r1 := keepRow r1 B
  replace O1 := O1.grow B
  clear B
  have kb := block_c (words := words) (el := el) hpc O1 hu hcap
  cases hR : rightB pc words el l with
  | false =>
    replace hR := show Hid _ from hR
    go_upto_region 3 with (first | ((with_reducible refine wpList_load_if rfl 25 _ rfl _ rfl 25 _ (0, 0) _ r1 Tryd.underlying25 rfl (bl_inf _ _ _ _) ?_); simp only [Act.put, List.setIfInBounds_toArray, List.set_cons_succ, List.set_cons_zero]) | (go_at_call 5; (with_reducible refine kb.mono ?_); clear kb; rintro e w7 ⟨B, ⟨hr, rfl⟩ | ⟨hr, _⟩⟩; rotate_left; (exfalso; rw [hR.out] at hr; cases hr); dsimp only; clear hr; have Hn := has_none w7) | ((with_reducible refine wpList_store_new Hn rfl 25 _ _ rfl (blA 0 0 0 (.slice none 0 0)) rfl rfl (bl_inf _ _ _ _) (by kernel_rfl) (blk_one _ _ _ _ rfl) ?_); clear Hn; intro w8 Hn; simp only [Act.put, List.setIfInBounds_toArray, List.set_cons_succ, List.set_cons_zero]))
    replace r1 := keepRow (keepRow r1 B) Hn.below
    replace O1 := (O1.grow B).grow Hn.below
    replace hb := below_then (below_then hb (Nat.le_refl _) B) (Nat.le_refl _) Hn.below
    have ra : w8.heap[w7.heap.size]? = some (.cells (blA 0 0 0 (.slice none 0 0)) 25) := Hn.get List.mem_cons_self
    generalize w7.heap.size = ab at *
    clear B Hn
    have kr := right_c (words := words) (el := el) hpc O1 himm hcap
    rw [hR.out] at kr
    go_wp2_with (first | ((with_reducible refine wpList_load_if rfl 25 _ rfl _ rfl 25 _ (0, 0) _ r1 Tryd.underlying25 rfl (bl_inf _ _ _ _) ?_); simp only [Act.put, List.setIfInBounds_toArray, List.set_cons_succ, List.set_cons_zero]) | (go_at_call 6; (with_reducible refine kr.mono ?_); clear kr; rintro e w9 ⟨rfl, B⟩; dsimp only; replace ra := keepRow ra B; have za : w9.cell? ⟨ab, 3, none⟩ = some (.slice none 0 0) := (by rw [cell_of_row _ _ _ _ _ _ ra]; rfl); replace hb := below_then hb (Nat.le_refl _) B; clear B))
    go_ret
    exact ⟨rfl, hb⟩
  | true =>
    obtain ⟨rm, hms, hml, hum⟩ := dead_right hR hu
    obtain ⟨h0, h512, -⟩ := right_lens hR
    obtain ⟨m0, m512, -⟩ := right_lens rm
    have hmm : (deadL l).length ≤ maxLen := by simp only [maxLen]; omega
    have hd2 := dead_same hms
    have hkd := kept_dead hR
    replace hR := show Hid _ from hR
    replace rm := show Hid _ from rm
    replace hms := show Hid _ from hms
    replace hd2 := show Hid _ from hd2
    replace hkd := show Hid _ from hkd
    replace hmm := show Hid _ from hmm
    have hsz0 := hb.size
    go_upto_region 3 with (first | ((with_reducible refine wpList_load_if rfl 25 _ rfl _ rfl 25 _ (0, 0) _ r1 Tryd.underlying25 rfl (bl_inf _ _ _ _) ?_); simp only [Act.put, List.setIfInBounds_toArray, List.set_cons_succ, List.set_cons_zero]) | (go_at_call 5; (with_reducible refine kb.mono ?_); clear kb; rintro e w7 ⟨B, ⟨hr, _⟩ | ⟨hr, ua, rfl, hown⟩⟩; (exfalso; rw [hR.out] at hr; cases hr); dsimp only; clear hr; have Hn := has_none w7; have hone : ua.oneCell' = true := (opsC_of hown hmm.out).one) | ((with_reducible refine wpList_store_new Hn rfl 25 _ _ rfl (blA pc words el ua) rfl rfl (bl_inf _ _ _ _) (by kernel_rfl) (blk_one _ _ _ _ hone) ?_); clear Hn; intro w8 Hn; simp only [Act.put, List.setIfInBounds_toArray, List.set_cons_succ, List.set_cons_zero]))
    have Y : DkW w pc words el v l b1 w7.heap.size w2.heap.size ua w8 := ⟨keepRow (keepRow r1 B) Hn.below, Hn.get List.mem_cons_self, (O1.grow B).grow Hn.below, own_grow6 hown Hn.below, below_then (below_then hb (Nat.le_refl _) B) (Nat.le_refl _) Hn.below⟩
    generalize w7.heap.size = ab at *
    generalize w2.heap.size = B0 at *
    clear B Hn r1 O1 hown hone hb hsz0
    go_upto_region 5 with fail
    have ra := Y.ra
    have k1 := kept_c (pc := pc) (words := words) (el := el) (Y.opa hmm.out).ops m512
    rw [hkd.out] at k1
    go_upto_region 6 with (first | ((with_reducible refine wpList_load_if rfl 25 _ rfl _ rfl 25 _ (0, 0) _ ra Tryd.underlying25 rfl (bl_inf _ _ _ _) ?_); simp only [Act.put, List.setIfInBounds_toArray, List.set_cons_succ, List.set_cons_zero]) | (go_at_call 7; (with_reducible refine k1.mono ?_); clear k1; rintro e x2 ⟨ux, rfl, hx, B⟩; dsimp only))
    replace Y := Y.grow B
    clear ra B
    have r1 := Y.r1
    have k2 := kept_c (pc := pc) (words := words) (el := el) Y.ops h512
    go_upto_region 7 with (first | ((with_reducible refine wpList_load_if rfl 25 _ rfl _ rfl 25 _ (0, 0) _ r1 Tryd.underlying25 rfl (bl_inf _ _ _ _) ?_); simp only [Act.put, List.setIfInBounds_toArray, List.set_cons_succ, List.set_cons_zero]) | (go_at_call 7; (with_reducible refine k2.mono ?_); clear k2; rintro e x3 ⟨uy, rfl, hy, B⟩; dsimp only))
    replace Y := Y.grow B
    have hk5 : (keptL l).length ≤ 512 := by have := kept_le l; omega
    have hkm : (keptL l).length ≤ maxLen := by simp only [maxLen]; omega
    have Ox := (opsC_of (own_grow6 hx B) hkm).ops
    have Oy := (opsC_of hy hkm).ops
    clear r1 B hx hy
    obtain ⟨xo, xc, rfl⟩ := Ox.len
    obtain ⟨yo, yc, rfl⟩ := Oy.len
    obtain ⟨ao, ac, rfl⟩ := (Y.opa hmm.out).ops.len
    obtain ⟨bo, bc, rfl⟩ := Y.ops.len
    have ra := Y.ra
    have k3 := right_c (words := words) (el := el) hpc (Y.opa hmm.out).ops (fun k => (hum k).1) (Y.opa hmm.out).cap
    rw [rm.out] at k3
    have hle : ¬ ((l.length : Int) < (deadL l).length) := by omega
    have hle2 : ((deadL l).length : Int) ≤ l.length := by omega
    go_upto_region 9 with (first | ((with_reducible refine wpList_load_if rfl 25 _ rfl _ rfl 25 _ (0, 0) _ ra Tryd.underlying25 rfl (bl_inf _ _ _ _) ?_); simp only [Act.put, List.setIfInBounds_toArray, List.set_cons_succ, List.set_cons_zero]) | (go_at_call 6; (with_reducible refine k3.mono ?_); clear k3; rintro e x4 ⟨rfl, B⟩; dsimp only; replace Y := Y.grow B; replace Ox := Ox.grow B; replace Oy := Oy.grow B; clear B ra; have za0 : x4.cell? ⟨ab, 0, none⟩ = some (vU pc) := (by rw [cell_of_row _ _ _ _ _ _ Y.ra]; rfl); have za1 : x4.cell? ⟨ab, 1, none⟩ = some (vI words) := (by rw [cell_of_row _ _ _ _ _ _ Y.ra]; rfl); have za2 : x4.cell? ⟨ab, 2, none⟩ = some (vI el) := (by rw [cell_of_row _ _ _ _ _ _ Y.ra]; rfl); have za3 : x4.cell? ⟨ab, 3, none⟩ = some (.slice ao (deadL l).length ac) := (by rw [cell_of_row _ _ _ _ _ _ Y.ra]; rfl); have zb0 : x4.cell? ⟨b1, 0, none⟩ = some (vU pc) := (by rw [cell_of_row _ _ _ _ _ _ Y.r1]; rfl); have zb1 : x4.cell? ⟨b1, 1, none⟩ = some (vI words) := (by rw [cell_of_row _ _ _ _ _ _ Y.r1]; rfl); have zb2 : x4.cell? ⟨b1, 2, none⟩ = some (vI el) := (by rw [cell_of_row _ _ _ _ _ _ Y.r1]; rfl); have zb3 : x4.cell? ⟨b1, 3, none⟩ = some (.slice bo l.length bc) := (by rw [cell_of_row _ _ _ _ _ _ Y.r1]; rfl)))
    clear za0 za1 za2 za3 zb0 zb1 zb2 zb3 hle hle2
    generalize hK : keptL l = K at *
    replace hK := show Hid _ from hK
    go_upto_region 10 with fail
    go_loopw [8] (fun s8 wr => ∃ i : Nat, i ≤ K.length ∧ s8 = vI i ∧ DkW w pc words el (.slice bo l.length bc) l b1 ab B0 (.slice ao (deadL l).length ac) wr ∧ Ops wr (.slice xo K.length xc) K ∧ Ops wr (.slice yo K.length yc) K) (fun s8 _ => ((K.length : Int) - intOf s8).toNat)
    case atStart => exact ⟨0, Nat.zero_le _, rfl, Y, Ox, Oy⟩
    case round =>
      clear Y Ox Oy
      obtain ⟨i, hi, rfl, Y, Ox, Oy⟩ := hrel
      by_cases hlt : (i : Int) < K.length
      · have hil : i < K.length := by omega
        obtain ⟨pa, ca, e1, h1⟩ := Ox.cell (by omega)
        cases e1
        obtain ⟨pb, cb, e2, h2⟩ := Oy.cell (by omega)
        cases e2
        have A1 := h1 i _ (opAt_some hil)
        have A2 := h2 i _ (opAt_some hil)
        clear h1 h2
        go_upto_region 12 with fail
        refine wp_region_still_tail 8 (by kernel_rfl) (by kernel_rfl) ?_
        replace Y := Y.grow (below_dr wr)
        replace Ox := Ox.grow (below_dr wr)
        replace Oy := Oy.grow (below_dr wr)
        replace A1 := run_load42 (A1.grow (below_dr wr))
        replace A2 := run_load42 (A2.grow (below_dr wr))
        generalize ({ wr with drawn := wr.drawn + 1 } : World) = w5 at *
        simp only [List.take_succ_cons, List.take_zero, List.drop_succ_cons, List.drop_zero]
        iterate 3 still_step
        (refine still_row rfl _ _ rfl rfl A1 ?_); simp only [Act.put, List.setIfInBounds_toArray, List.set_cons_succ, List.set_cons_zero]
        iterate 3 still_step
        (refine still_row rfl _ _ rfl rfl A2 ?_); simp only [Act.put, List.setIfInBounds_toArray, List.set_cons_succ, List.set_cons_zero]
        refine wpStill_nil ?_
        clear A1 A2
        have hd : decide (opAt K i = opAt K i) = true := by simp
        go_wp2_with ((with_reducible refine wpList_neqO rfl _ _ rfl _ _ rfl rfl _ hd ?_); simp only [Act.put, List.setIfInBounds_toArray, List.set_cons_succ, List.set_cons_zero])
        go_roundw
        case rel => exact ⟨i + 1, by omega, by go_num, Y, Ox, Oy⟩
        case measure => simp [intOf]; try omega
      · clear Ox Oy
        have ra := Y.ra
        have ks := seen_c (words := words) (el := el) hpc (Y.opa hmm.out).ops (fun k => (hum k).1) (Y.opa hmm.out).cap
        go_upto_region 15 with (first | ((with_reducible refine wpList_load_if rfl 25 _ rfl _ rfl 25 _ (0, 0) _ ra Tryd.underlying25 rfl (bl_inf _ _ _ _) ?_); simp only [Act.put, List.setIfInBounds_toArray, List.set_cons_succ, List.set_cons_zero]) | (go_at_call 8; (with_reducible refine ks.mono ?_); clear ks; rintro e w6 ⟨B, ⟨hr, _⟩ | ⟨hr, g, _, rfl, rg⟩⟩; (exfalso; rw [rm.out] at hr; cases hr); dsimp only; clear hr))
        replace Y := Y.grow B
        clear ra B hlt hi
        go_upto_region 16 with fail
        go_loopw [11] (fun s11 wr => ∃ i : Nat, i ≤ (deadL l).length ∧ s11 = vI i ∧ DkW w pc words el (.slice bo l.length bc) l b1 ab B0 (.slice ao (deadL l).length ac) wr ∧ wr.heap[g]? = some (.cells (boC (seenL (deadL l)) []) 4)) (fun s11 _ => (((deadL l).length : Int) - intOf s11).toNat)
        case atStart => exact ⟨0, Nat.zero_le _, rfl, Y, rg⟩
        case round =>
          clear Y rg
          obtain ⟨i, hi, rfl, Y, rg⟩ := hrel
          by_cases hlt : (i : Int) < (deadL l).length
          · have hil : i < (deadL l).length := by omega
            have z := bo_cell rg (k := i) (by rw [seenL_len]; exact hil)
            have hs : (seenL (deadL l)).getD i false = true := all_seen hms.out hil
            rw [hs] at z
            clear hs
            go_wp2
            go_roundw
            case rel => exact ⟨i + 1, by omega, by go_num, Y, rg⟩
            case measure => simp [intOf]; try omega
          · clear rg
            have ra := Y.ra
            have kb := block_c (words := words) (el := el) hpc (Y.opa hmm.out).ops hum (Y.opa hmm.out).cap
            rw [hd2.out] at kb
            go_upto_region 21 with (first | ((with_reducible refine wpList_load_if rfl 25 _ rfl _ rfl 25 _ (0, 0) _ ra Tryd.underlying25 rfl (bl_inf _ _ _ _) ?_); simp only [Act.put, List.setIfInBounds_toArray, List.set_cons_succ, List.set_cons_zero]) | (go_at_call 5; (with_reducible refine kb.mono ?_); clear kb; rintro e y7 ⟨B, ⟨hr, _⟩ | ⟨hr, u2, rfl, hown⟩⟩; (exfalso; rw [rm.out] at hr; cases hr); dsimp only; clear hr; have Hn := has_none y7; have hone : u2.oneCell' = true := (opsC_of hown hmm.out).one) | ((with_reducible refine wpList_store_new Hn rfl 25 _ _ rfl (blA pc words el u2) rfl rfl (bl_inf _ _ _ _) (by kernel_rfl) (blk_one _ _ _ _ hone) ?_); clear Hn; intro y8 Hn; simp only [Act.put, List.setIfInBounds_toArray, List.set_cons_succ, List.set_cons_zero]))
            replace Y := (Y.grow B).grow Hn.below
            have r2 : y8.heap[y7.heap.size]? = some (.cells (blA pc words el u2) 25) := Hn.get List.mem_cons_self
            have C2 := (opsC_of hown hmm.out).grow Hn.below
            generalize y7.heap.size = b2 at *
            clear ra B Hn hown hone
            have kt := textR_c (words := words) (el := el) hpc C2.ops hum C2.cap rm.out (Tab.grow ht.out Y.below)
            go_upto_region 22 with (first | ((with_reducible refine wpList_load_if rfl 25 _ rfl _ rfl 25 _ (0, 0) _ r2 Tryd.underlying25 rfl (bl_inf _ _ _ _) ?_); simp only [Act.put, List.setIfInBounds_toArray, List.set_cons_succ, List.set_cons_zero]) | (go_at_call 9; (with_reducible refine kt.mono ?_); clear kt; rintro e y9 ⟨rfl, B⟩; dsimp only))
            replace Y := Y.grow B
            clear r2 B C2
            have ra := Y.ra
            have kt := textR_c (words := words) (el := el) hpc (Y.opa hmm.out).ops hum (Y.opa hmm.out).cap rm.out (Tab.grow ht.out Y.below)
            generalize linesS digS digS (deadL l) (deadL l).length = S at *
            go_upto_region 23 with (first | ((with_reducible refine wpList_load_if rfl 25 _ rfl _ rfl 25 _ (0, 0) _ ra Tryd.underlying25 rfl (bl_inf _ _ _ _) ?_); simp only [Act.put, List.setIfInBounds_toArray, List.set_cons_succ, List.set_cons_zero]) | (go_at_call 9; (with_reducible refine kt.mono ?_); clear kt; rintro e z9 ⟨rfl, B⟩; dsimp only))
            replace Y := Y.grow B
            clear ra B
            have za3 : z9.cell? ⟨ab, 3, none⟩ = some (.slice ao (deadL l).length ac) := by rw [cell_of_row _ _ _ _ _ _ Y.ra]; rfl
            have hB := Y.below
            clear Y
            go_wp2
            go_ret
            exact ⟨by first | rfl | simp, hB⟩
end
end Go.Proofs.YtejlmggfeejgpaaDoor
