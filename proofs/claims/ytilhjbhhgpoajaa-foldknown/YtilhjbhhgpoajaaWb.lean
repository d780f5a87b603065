/- FoldKnown: the walk. -/
import Derived.Test.YtilhjbhhgpoajaaWa
namespace Go.Proofs.Ytilhjbhhgpoajaa
open Go.RowKit
set_option linter.unusedVariables false
set_option linter.unusedSimpArgs false
set_option maxRecDepth 8000

def knL (kind a b : Int) : List Opr := [⟨14, 0, 0, 0, 0, 64⟩, ⟨1, 0, 0, 0, 0, a⟩, ⟨3, 5, 1, 0, 0, 0⟩, ⟨1, 0, 0, 0, 0, b⟩, ⟨2, 5, 0, 0, 0, 0⟩, ⟨8, kind, 4, 3, 0, 0⟩, ⟨3, 0, 5, 0, 0, 0⟩, ⟨16, 0, 0, 0, 0, 68⟩]
def knM (kind a b : Int) : List Opr := [⟨14, 0, 0, 0, 0, 64⟩, ⟨1, 0, 0, 0, 0, a⟩, ⟨3, 5, 1, 0, 0, 0⟩, ⟨1, 0, 0, 0, 0, b⟩, ⟨1, 0, 0, 0, 0, Alu.reckonV kind a b⟩, ⟨3, 0, 4, 0, 0, 0⟩, ⟨16, 0, 0, 0, 0, 68⟩]
def knA (kind a b : Int) : Array Value := #[vI 14, vI 0, vI 0, vI 0, vI 0, vU 64, vI 1, vI 0, vI 0, vI 0, vI 0, vU a, vI 3, vI 5, vI 1, vI 0, vI 0, vU 0, vI 1, vI 0, vI 0, vI 0, vI 0, vU b, vI 2, vI 5, vI 0, vI 0, vI 0, vU 0, vI 8, vI kind, vI 4, vI 3, vI 0, vU 0, vI 3, vI 0, vI 5, vI 0, vI 0, vU 0, vI 16, vI 0, vI 0, vI 0, vI 0, vU 68]
theorem kn_lay (kind a b : Int) : layAll (knL kind a b) = knM kind a b := by kernel_rfl
theorem kn_right {kind a b : Int} (h : Alu.kindB kind = true) : rightB 64 1 1 (knL kind a b) = true := by
  have h' : 1 ≤ kind ∧ kind ≤ 15 := of_decide_eq_true h
  have e5 : okAt (knL kind a b) 5 = true := by
    have e0 : opAt (knL kind a b) 5 = ⟨8, kind, 4, 3, 0, 0⟩ := rfl
    have e1 : opB ⟨8, kind, 4, 3, 0, 0⟩ = true := by
      simp [opB, rangeB, hp8_1, hp8_2, hp8_4, hp8_8, hp8_16]; exact h'
    have e3 : usesL ⟨8, kind, 4, 3, 0, 0⟩ = [4, 3] := by
      unfold usesL
      show (if hasP 8 2 = true then [(4 : Int)] else []) ++ (if hasP 8 4 = true then [(3 : Int)] else []) = _
      rw [hp8_2, hp8_4]; rfl
    have e2 : [(4 : Int), 3].all (defB (knL kind a b) 5) = true := by kernel_rfl
    have e4 : isK 8 = true := by kernel_rfl
    have e5 : (hasP 8 128 == decide (5 + 1 = (knL kind a b).length)) = true := by kernel_rfl
    unfold okAt
    rw [e0, e1, e3, e2]
    show (isK 8 && (hasP 8 128 == decide (5 + 1 = (knL kind a b).length)) && true && true) = true
    rw [e4, e5]; rfl
  unfold rightB
  rw [Bool.and_eq_true]
  refine ⟨by kernel_rfl, List.all_eq_true.2 fun k hk => ?_⟩
  have hk : k < 8 := List.mem_range.1 hk
  match k, hk with
  | 0, _ => show okAt (knL kind a b) 0 = true; kernel_rfl
  | 1, _ => show okAt (knL kind a b) 1 = true; kernel_rfl
  | 2, _ => show okAt (knL kind a b) 2 = true; kernel_rfl
  | 3, _ => show okAt (knL kind a b) 3 = true; kernel_rfl
  | 4, _ => show okAt (knL kind a b) 4 = true; kernel_rfl
  | 5, _ => exact e5
  | 6, _ => show okAt (knL kind a b) 6 = true; kernel_rfl
  | 7, _ => show okAt (knL kind a b) 7 = true; kernel_rfl
  | k + 8, h => exact absurd h (by omega)
theorem kn_not {kind a b : Int} (h : Alu.kindB kind = false) : rightB 64 1 1 (knL kind a b) = false := by
  cases e : rightB 64 1 1 (knL kind a b) with
  | false => rfl
  | true =>
    have P := right_ok e (show 5 < (knL kind a b).length from (by show 5 < 8; decide))
    have hr := P.op
    have hr : opB ⟨8, kind, 4, 3, 0, 0⟩ = true := hr
    have h' := of_decide_eq_false h
    simp [opB, rangeB] at hr
    exact absurd ⟨by omega, by omega⟩ h'
theorem kn_u {kind a b : Int} (ha : U64 a) (hb : U64 b) (k : Nat) : U64 (opAt (knL kind a b) k).imm := by
  match k with
  | 0 => exact ⟨by show (0 : Int) ≤ 64; decide, by show (64 : Int) < 18446744073709551616; decide⟩
  | 1 => exact ha
  | 2 => exact ⟨by show (0 : Int) ≤ 0; decide, by show (0 : Int) < 18446744073709551616; decide⟩
  | 3 => exact hb
  | 4 => exact ⟨by show (0 : Int) ≤ 0; decide, by show (0 : Int) < 18446744073709551616; decide⟩
  | 5 => exact ⟨by show (0 : Int) ≤ 0; decide, by show (0 : Int) < 18446744073709551616; decide⟩
  | 6 => exact ⟨by show (0 : Int) ≤ 0; decide, by show (0 : Int) < 18446744073709551616; decide⟩
  | 7 => exact ⟨by show (0 : Int) ≤ 68; decide, by show (68 : Int) < 18446744073709551616; decide⟩
  | k + 8 => exact ⟨by show (0 : Int) ≤ 0; decide, by show (0 : Int) < _; decide⟩
theorem run_kn23 (kind a b : Int) (w : World) : (Instr.buildSlice 23 8 #[(0, .agg #[vI 14, vI 0, vI 0, vI 0, vI 0, vU 64]), (1, .agg #[vI 1, vI 0, vI 0, vI 0, vI 0, vU a]), (2, .agg #[vI 3, vI 5, vI 1, vI 0, vI 0, vU 0]), (3, .agg #[vI 1, vI 0, vI 0, vI 0, vI 0, vU b]), (4, .agg #[vI 2, vI 5, vI 0, vI 0, vI 0, vU 0]), (5, .agg #[vI 8, vI kind, vI 4, vI 3, vI 0, vU 0]), (6, .agg #[vI 3, vI 0, vI 5, vI 0, vI 0, vU 0]), (7, .agg #[vI 16, vI 0, vI 0, vI 0, vI 0, vU 68])]).run Try.prog w = .ok (.slice (some ⟨w.heap.size, 0, none⟩) 8 8) (w.alloc (.cells (knA kind a b) 45)) := by
  obtain ⟨i, hi, hz, hs, hby⟩ := info_parts info42
  exact run_buildSlice (P := Try.prog) w 23 45 8 _ _ i (opV nilO) Try.underlying23 hi hz (by rw [hs]; decide) (by rw [hs]; decide) (by rw [hs]; kernel_rfl)
theorem wpList_kn23 {ops : Array Oper} {rest : List Oper} {p : Oper} {ac : Act} {w : World} {Q : Exit → Act → World → Prop} (kind a b : Int) (hg : p.guard = none) (x0 x1 x2 x3 x4 x5 x6 x7 : Operand) (ho : p.op = .buildSlice 23 8 #[(0, x0), (1, x1), (2, x2), (3, x3), (4, x4), (5, x5), (6, x6), (7, x7)])
    (h0 : ac.eval x0 = .agg #[vI 14, vI 0, vI 0, vI 0, vI 0, vU 64])
    (h1 : ac.eval x1 = .agg #[vI 1, vI 0, vI 0, vI 0, vI 0, vU a])
    (h2 : ac.eval x2 = .agg #[vI 3, vI 5, vI 1, vI 0, vI 0, vU 0])
    (h3 : ac.eval x3 = .agg #[vI 1, vI 0, vI 0, vI 0, vI 0, vU b])
    (h4 : ac.eval x4 = .agg #[vI 2, vI 5, vI 0, vI 0, vI 0, vU 0])
    (h5 : ac.eval x5 = .agg #[vI 8, vI kind, vI 4, vI 3, vI 0, vU 0])
    (h6 : ac.eval x6 = .agg #[vI 3, vI 0, vI 5, vI 0, vI 0, vU 0])
    (h7 : ac.eval x7 = .agg #[vI 16, vI 0, vI 0, vI 0, vI 0, vU 68])
    (h : wpList Try.prog ops Q rest (ac.put p.dst (.slice (some ⟨w.heap.size, 0, none⟩) 8 8)) (w.alloc (.cells (knA kind a b) 45))) : wpList Try.prog ops Q (p :: rest) ac w :=
  wpList_plain hg fun _ hK => by
    unfold Oper.wp execOp
    simp only [ho, Sem.run_bind, List.map_toArray, List.map_cons, List.map_nil, h0, h1, h2, h3, h4, h5, h6, h7, run_kn23, Result.andThen_ok]
    exact hK _ _ h
theorem kn_ops {kind a b : Int} {w : World} {g : Nat} (h : w.heap[g]? = some (.cells (knA kind a b) 45)) : Ops w (.slice (some ⟨g, 0, none⟩) 8 8) (knL kind a b) := by
  have hc : ∀ j, w.cell? ⟨g, j, none⟩ = (knA kind a b)[j]? := fun j => by rw [cell_of_row _ _ _ _ _ _ h]
  refine ⟨⟨_, _, rfl⟩, by show (8 : Nat) ≤ maxLen; decide, fun _ => ⟨_, _, rfl, fun i o ho => ?_⟩⟩
  rw [Addr.add_mid, Nat.zero_add]
  match i, ho with
  | 0, ho => cases ho; exact ⟨lt_of_some h, hc 0, hc 1, hc 2, hc 3, hc 4, hc 5⟩
  | 1, ho => cases ho; exact ⟨lt_of_some h, hc 6, hc 7, hc 8, hc 9, hc 10, hc 11⟩
  | 2, ho => cases ho; exact ⟨lt_of_some h, hc 12, hc 13, hc 14, hc 15, hc 16, hc 17⟩
  | 3, ho => cases ho; exact ⟨lt_of_some h, hc 18, hc 19, hc 20, hc 21, hc 22, hc 23⟩
  | 4, ho => cases ho; exact ⟨lt_of_some h, hc 24, hc 25, hc 26, hc 27, hc 28, hc 29⟩
  | 5, ho => cases ho; exact ⟨lt_of_some h, hc 30, hc 31, hc 32, hc 33, hc 34, hc 35⟩
  | 6, ho => cases ho; exact ⟨lt_of_some h, hc 36, hc 37, hc 38, hc 39, hc 40, hc 41⟩
  | 7, ho => cases ho; exact ⟨lt_of_some h, hc 42, hc 43, hc 44, hc 45, hc 46, hc 47⟩
  | i + 8, ho => simp [knL] at ho
theorem sl8_cap (g : Nat) : ∀ ao n cap, Value.slice (some ⟨g, 0, none⟩) 8 8 = .slice ao n cap → n ≤ cap := fun _ _ _ e => by cases e; exact Nat.le_refl _
theorem wpList_eqlO {ops : Array Oper} {rest : List Oper} {o : Oper} {a : Act} {w : World} {Q : Exit → Act → World → Prop} (hw : Region.wanted o (yielded ops a.tmps) = true) (x y : Operand) (ho : o.op = .binOp .eql 45 x y 45)
    (c d : Opr) (hx : a.eval x = opV c) (hy : a.eval y = opV d) (b : Bool) (hb : decide (c = d) = b) (h : wpList Try.prog ops Q rest (a.put o.dst (.bool b)) w) : wpList Try.prog ops Q (o :: rest) a w := by
  refine BigFrame.wpList_want hw fun K hK => ?_
  have he := op_eq c d w
  rw [hb] at he
  unfold Oper.wp execOp
  simp only [ho, hx, hy, Sem.run_bind, run_eqGuard_agg w _ _ _ _ _ _ guard42, Result.andThen_ok, run_eql_struct, he]
  exact hK _ _ h
/-- FoldKnown's loop: what it looks at. -/
structure KnW (kind a b : Int) (gg cap t : Nat) (w x : World) : Prop where
  ops : Ops x (.slice (some ⟨gg, 0, none⟩) 7 cap) (knM kind a b)
  row : x.heap[t]? = some (.cells (blA 64 1 1 (.slice (some ⟨gg, 0, none⟩) 7 cap)) 25)
  below : Below w.heap.size w x
theorem KnW.grow {kind a b : Int} {gg cap t : Nat} {w x y : World} (h : KnW kind a b gg cap t w x) (hb : Below x.heap.size x y) : KnW kind a b gg cap t w y := ⟨h.ops.grow hb, keepRow h.row hb, below_then h.below (Nat.le_refl _) hb⟩
theorem KnW.c3 {kind a b : Int} {gg cap t : Nat} {w x : World} (h : KnW kind a b gg cap t w x) : x.cell? ⟨t, 3, none⟩ = some (.slice (some ⟨gg, 0, none⟩) 7 cap) := by rw [cell_of_row _ _ _ _ _ _ h.row]; rfl
theorem KnW.at {kind a b : Int} {gg cap t : Nat} {w x : World} (h : KnW kind a b gg cap t w x) {i : Nat} {o : Opr} (ho : (knM kind a b)[i]? = some o) : OpAt x ⟨gg, i * 6, none⟩ o := by
  obtain ⟨ra, c, e, hc⟩ := h.ops.cell (by show 0 < 7; decide)
  cases e
  have := hc i o ho
  rwa [Addr.add_mid, Nat.zero_add] at this
set_option maxHeartbeats 8000000 in
theorem known_c (c : Cor) (kind a b : Int) (ha : U64 a) (hb : U64 b) (w : World) : Calls Try.prog 5 #[c.val, vI kind, vU a, vU b] w fun e w' => e = .returned (.bool true) ∧ Below w.heap.size w w' := by
  have hb0 := below_alloc w (.cells c.cells 29)
  go_enter Try.func5, Try.ntmps5
  go_upto_region 1 with fail
  generalize w.alloc (.cells c.cells 29) = w1 at *
  go_upto_region 2 with (first | (go_at_call 6; (with_reducible refine (examples_c _).mono ?_); rintro e w2 ⟨rfl, B2⟩; dsimp only))
  replace hb0 := below_then hb0 (Nat.le_refl _) B2
  clear B2
  have hx : (w2.alloc (.cells (knA kind a b) 45)).heap[w2.heap.size]? = some (.cells (knA kind a b) 45) := heap_alloc_new _ _
  have hb3 := below_then hb0 (Nat.le_refl _) (below_alloc w2 (.cells (knA kind a b) 45))
  have sl1 : (Value.slice (some ⟨w2.heap.size, 0, none⟩) 8 8).oneCell' = true := rfl
  have Hn := has_none (w2.alloc (.cells (knA kind a b) 45))
  go_upto_region 3 with (first | ((with_reducible refine wpList_kn23 kind a b rfl _ _ _ _ _ _ _ _ rfl rfl rfl rfl rfl rfl rfl rfl rfl ?_); simp only [Act.put, List.setIfInBounds_toArray, List.set_cons_succ, List.set_cons_zero]; generalize w2.alloc (.cells (knA kind a b) 45) = w3 at *) | ((with_reducible refine wpList_store_new Hn rfl 25 _ _ rfl (blA 64 1 1 (.slice (some ⟨w2.heap.size, 0, none⟩) 8 8)) rfl rfl (bl_inf _ _ _ _) (by kernel_rfl) (blk_one _ _ _ _ sl1) ?_); clear Hn; intro w4 Hn; simp only [Act.put, List.setIfInBounds_toArray, List.set_cons_succ, List.set_cons_zero]))
  have r4 : w4.heap[w3.heap.size]? = some (.cells (blA 64 1 1 (.slice (some ⟨w2.heap.size, 0, none⟩) 8 8)) 25) := Hn.get List.mem_cons_self
  have hx4 := keepRow hx Hn.below
  have hb4 := below_then hb3 (Nat.le_refl _) Hn.below
  clear Hn hx hb3 hb0 sl1
  generalize w2.heap.size = g at *
  generalize w3.heap.size = t10 at *
  have kb := block_c (pc := 64) (words := 1) (el := 1) (by decide) (kn_ops hx4) (kn_u ha hb) (sl8_cap g) (fun ra n cap e => by cases e; exact lt_of_some hx4)
  have kr := fun x => Alu.Reckon_c kind a b ha hb x
  have h4 : ((4 : Int) == 4) = true := rfl
  cases hK : Alu.kindB kind with
  | false =>
    have hR := kn_not (a := a) (b := b) hK
    have hE : Alu.kindE kind = 1 := by unfold Alu.kindE; rw [hK]; rfl
    rw [hE] at kr
    clear hE hK
    replace hR := show Hid _ from hR
    generalize Alu.reckonV kind a b = V at *
    go_upto_region 4 with (first | ((with_reducible refine wpList_load_if rfl 25 _ rfl _ rfl 25 _ (0, 0) _ r4 Try.underlying25 rfl (bl_inf _ _ _ _) ?_); simp only [Act.put, List.setIfInBounds_toArray, List.set_cons_succ, List.set_cons_zero]) | (go_at_call 9; (with_reducible refine kb.mono ?_); clear kb; rintro e w5 ⟨B5, ⟨hr, rfl⟩ | ⟨hr, _⟩⟩; rotate_left; (exfalso; rw [hR.out] at hr; cases hr); dsimp only; clear hr; have Hn := has_none w5) | ((with_reducible refine wpList_store_new Hn rfl 25 _ _ rfl (blA 0 0 0 (.slice none 0 0)) rfl rfl (bl_inf _ _ _ _) (by kernel_rfl) (blk_one _ _ _ _ rfl) ?_); clear Hn; intro w6 Hn; simp only [Act.put, List.setIfInBounds_toArray, List.set_cons_succ, List.set_cons_zero]))
    have hb6 := below_then (below_then hb4 (Nat.le_refl _) B5) (Nat.le_refl _) Hn.below
    clear Hn B5 hb4 r4 hx4
    go_wp2_with (go_at_call 16; (with_reducible refine (kr _).mono ?_); clear kr; rintro e w7 ⟨rfl, B7⟩; dsimp only)
    go_ret
    exact ⟨rfl, below_then hb6 (Nat.le_refl _) B7⟩
  | true =>
    have hR := kn_right (a := a) (b := b) hK
    have hE : Alu.kindE kind = 0 := by unfold Alu.kindE; rw [hK]; rfl
    rw [hE] at kr
    clear hE hK
    replace hR := show Hid _ from hR
    rw [kn_lay] at kb
    have hl7 : (knM kind a b).length = 7 := rfl
    go_upto_region 4 with (first | ((with_reducible refine wpList_load_if rfl 25 _ rfl _ rfl 25 _ (0, 0) _ r4 Try.underlying25 rfl (bl_inf _ _ _ _) ?_); simp only [Act.put, List.setIfInBounds_toArray, List.set_cons_succ, List.set_cons_zero]) | (go_at_call 9; (with_reducible refine kb.mono ?_); clear kb; rintro e w5 ⟨B5, ⟨hr, _⟩ | ⟨hr, u, rfl, hown⟩⟩; (exfalso; rw [hR.out] at hr; cases hr); dsimp only; clear hr; have Hn := has_none w5; have hone : u.oneCell' = true := (opsC_of hown (by rw [hl7]; simp only [maxLen]; omega)).one) | ((with_reducible refine wpList_store_new Hn rfl 25 _ _ rfl (blA 64 1 1 u) rfl rfl (bl_inf _ _ _ _) (by kernel_rfl) (blk_one _ _ _ _ hone) ?_); clear Hn; intro w6 Hn; simp only [Act.put, List.setIfInBounds_toArray, List.set_cons_succ, List.set_cons_zero]))
    have hb6 := below_then (below_then hb4 (Nat.le_refl _) B5) (Nat.le_refl _) Hn.below
    have r6 : w6.heap[w5.heap.size]? = some (.cells (blA 64 1 1 u) 25) := Hn.get List.mem_cons_self
    have hown6 : w6.ownsRow w4.heap.size 45 6 u (knM kind a b).length (opF (knM kind a b)) := own_of_block hown (fun k hk => Hn.below.block k (hown.lt k hk).2)
    clear Hn B5 hb4 r4 hx4 hown
    generalize w5.heap.size = t11 at *
    go_upto_region 5 with (go_at_call 16; (with_reducible refine (kr _).mono ?_); clear kr; rintro e w7 ⟨rfl, B7⟩; dsimp only)
    have hb7 := below_then hb6 (Nat.le_refl _) B7
    have r7 := keepRow r6 B7
    have hown7 : w7.ownsRow w4.heap.size 45 6 u (knM kind a b).length (opF (knM kind a b)) := own_of_block hown6 (fun k hk => B7.block k (hown6.lt k hk).2)
    clear hb6 r6 hown6 B7
    obtain ⟨gg, cap, rfl, -, hc2, -, -, -⟩ := own_addr hown7 (by rw [hl7]; decide)
    have O7 := (opsC_of hown7 (by rw [hl7]; simp only [maxLen]; omega)).ops
    have K7 : KnW kind a b gg cap t11 w w7 := ⟨O7, r7, hb7⟩
    clear hown7 O7 r7 hb7 hone hl7
    go_wp2_with fail
    refine wp_loop_rounds 7 ?_
    rw [rounds_succ]
    have A := K7.at (i := 0) (o := ⟨14, 0, 0, 0, 0, 64⟩) rfl
    have z := K7.c3
    have Hn := has_none w7
    go_upto_region 13 with (first | ((with_reducible refine wpList_load42 rfl _ rfl _ rfl _ A ?_); simp only [Act.put, List.setIfInBounds_toArray, List.set_cons_succ, List.set_cons_zero]) | ((with_reducible refine wpList_store_new Hn rfl 45 _ _ rfl (opA ⟨14, 0, 0, 0, 0, 64⟩) rfl rfl (op_inf _) (by kernel_rfl) (op_one _) ?_); clear Hn; intro y0 Hn; simp only [Act.put, List.setIfInBounds_toArray, List.set_cons_succ, List.set_cons_zero]))
    have L : LocO w7.heap.size ⟨14, 0, 0, 0, 0, 64⟩ y0 := Hn.get List.mem_cons_self
    have K0_ := K7.grow Hn.below
    clear A z Hn K7
    have c0 := L.c0
    have c1 := L.c1
    have c2 := L.c2
    generalize w7.heap.size = t16 at *
    go_wp2
    clear L c0 c1 c2
    rw [rounds_succ]
    have A := K0_.at (i := 1) (o := ⟨1, 0, 0, 0, 0, a⟩) rfl
    have z := K0_.c3
    have Hn := has_none y0
    go_upto_region 13 with (first | ((with_reducible refine wpList_load42 rfl _ rfl _ rfl _ A ?_); simp only [Act.put, List.setIfInBounds_toArray, List.set_cons_succ, List.set_cons_zero]) | ((with_reducible refine wpList_store_new Hn rfl 45 _ _ rfl (opA ⟨1, 0, 0, 0, 0, a⟩) rfl rfl (op_inf _) (by kernel_rfl) (op_one _) ?_); clear Hn; intro y1 Hn; simp only [Act.put, List.setIfInBounds_toArray, List.set_cons_succ, List.set_cons_zero]))
    have L : LocO y0.heap.size ⟨1, 0, 0, 0, 0, a⟩ y1 := Hn.get List.mem_cons_self
    have K1_ := K0_.grow Hn.below
    clear A z Hn K0_
    have c0 := L.c0
    have c1 := L.c1
    have c2 := L.c2
    generalize y0.heap.size = t16 at *
    go_wp2
    clear L c0 c1 c2
    rw [rounds_succ]
    have A := K1_.at (i := 2) (o := ⟨3, 5, 1, 0, 0, 0⟩) rfl
    have z := K1_.c3
    have Hn := has_none y1
    go_upto_region 13 with (first | ((with_reducible refine wpList_load42 rfl _ rfl _ rfl _ A ?_); simp only [Act.put, List.setIfInBounds_toArray, List.set_cons_succ, List.set_cons_zero]) | ((with_reducible refine wpList_store_new Hn rfl 45 _ _ rfl (opA ⟨3, 5, 1, 0, 0, 0⟩) rfl rfl (op_inf _) (by kernel_rfl) (op_one _) ?_); clear Hn; intro y2 Hn; simp only [Act.put, List.setIfInBounds_toArray, List.set_cons_succ, List.set_cons_zero]))
    have L : LocO y1.heap.size ⟨3, 5, 1, 0, 0, 0⟩ y2 := Hn.get List.mem_cons_self
    have K2_ := K1_.grow Hn.below
    clear A z Hn K1_
    have c0 := L.c0
    have c1 := L.c1
    have c2 := L.c2
    generalize y1.heap.size = t16 at *
    go_wp2
    clear L c0 c1 c2
    rw [rounds_succ]
    have A := K2_.at (i := 3) (o := ⟨1, 0, 0, 0, 0, b⟩) rfl
    have z := K2_.c3
    have Hn := has_none y2
    go_upto_region 13 with (first | ((with_reducible refine wpList_load42 rfl _ rfl _ rfl _ A ?_); simp only [Act.put, List.setIfInBounds_toArray, List.set_cons_succ, List.set_cons_zero]) | ((with_reducible refine wpList_store_new Hn rfl 45 _ _ rfl (opA ⟨1, 0, 0, 0, 0, b⟩) rfl rfl (op_inf _) (by kernel_rfl) (op_one _) ?_); clear Hn; intro y3 Hn; simp only [Act.put, List.setIfInBounds_toArray, List.set_cons_succ, List.set_cons_zero]))
    have L : LocO y2.heap.size ⟨1, 0, 0, 0, 0, b⟩ y3 := Hn.get List.mem_cons_self
    have K3_ := K2_.grow Hn.below
    clear A z Hn K2_
    have c0 := L.c0
    have c1 := L.c1
    have c2 := L.c2
    generalize y2.heap.size = t16 at *
    go_wp2
    clear L c0 c1 c2
    rw [rounds_succ]
    have A := K3_.at (i := 4) (o := ⟨1, 0, 0, 0, 0, Alu.reckonV kind a b⟩) rfl
    have z := K3_.c3
    have Hn := has_none y3
    go_upto_region 13 with (first | ((with_reducible refine wpList_load42 rfl _ rfl _ rfl _ A ?_); simp only [Act.put, List.setIfInBounds_toArray, List.set_cons_succ, List.set_cons_zero]) | ((with_reducible refine wpList_store_new Hn rfl 45 _ _ rfl (opA ⟨1, 0, 0, 0, 0, Alu.reckonV kind a b⟩) rfl rfl (op_inf _) (by kernel_rfl) (op_one _) ?_); clear Hn; intro y4 Hn; simp only [Act.put, List.setIfInBounds_toArray, List.set_cons_succ, List.set_cons_zero]))
    have L : LocO y3.heap.size ⟨1, 0, 0, 0, 0, Alu.reckonV kind a b⟩ y4 := Hn.get List.mem_cons_self
    have K4_ := K3_.grow Hn.below
    clear A z Hn K3_
    have c0 := L.c0
    have c1 := L.c1
    have c2 := L.c2
    generalize y3.heap.size = t16 at *
    go_wp2
    clear L c0 c1 c2
    rw [rounds_succ]
    have A := K4_.at (i := 5) (o := ⟨3, 0, 4, 0, 0, 0⟩) rfl
    have z := K4_.c3
    have Hn := has_none y4
    go_upto_region 13 with (first | ((with_reducible refine wpList_load42 rfl _ rfl _ rfl _ A ?_); simp only [Act.put, List.setIfInBounds_toArray, List.set_cons_succ, List.set_cons_zero]) | ((with_reducible refine wpList_store_new Hn rfl 45 _ _ rfl (opA ⟨3, 0, 4, 0, 0, 0⟩) rfl rfl (op_inf _) (by kernel_rfl) (op_one _) ?_); clear Hn; intro y5 Hn; simp only [Act.put, List.setIfInBounds_toArray, List.set_cons_succ, List.set_cons_zero]))
    have L : LocO y4.heap.size ⟨3, 0, 4, 0, 0, 0⟩ y5 := Hn.get List.mem_cons_self
    have K5_ := K4_.grow Hn.below
    clear A z Hn K4_
    have c0 := L.c0
    have c1 := L.c1
    have c2 := L.c2
    generalize y4.heap.size = t16 at *
    have z := K5_.c3
    have A := K5_.at (i := 4) (o := ⟨1, 0, 0, 0, 0, Alu.reckonV kind a b⟩) rfl
    generalize Alu.reckonV kind a b = V at *
    go_wp2_with (first | ((with_reducible refine wpList_load42 rfl _ rfl _ rfl _ A ?_); simp only [Act.put, List.setIfInBounds_toArray, List.set_cons_succ, List.set_cons_zero]) | ((with_reducible refine wpList_built rfl 45 _ rfl (opA ⟨1, 0, 0, 0, 0, V⟩) (by kernel_rfl) ?_); simp only [Act.put, List.setIfInBounds_toArray, List.set_cons_succ, List.set_cons_zero]) | ((with_reducible refine wpList_eqlO rfl _ _ rfl ⟨1, 0, 0, 0, 0, V⟩ ⟨1, 0, 0, 0, 0, V⟩ rfl rfl true (by simp) ?_); simp only [Act.put, List.setIfInBounds_toArray, List.set_cons_succ, List.set_cons_zero]))
    go_ret
    exact ⟨rfl, K5_.below⟩
end Go.Proofs.Ytilhjbhhgpoajaa
