/- A line is told. -/
import Derived.Test.YtilhjbhhgpoajaaDoorIc
namespace Go.Proofs.YtilhjbhhgpoajaaDoor
open Go.RowKit
set_option linter.unusedVariables false
set_option linter.unusedSimpArgs false
set_option maxRecDepth 8000

/-- How a line is told, by the digits of numbers. -/
def fld (o : Opr) : Nat → Int × Int
  | 0 => (1, o.r)
  | 1 => (2, o.a)
  | 2 => (4, o.b)
  | _ => (8, o.order)
def lineS (dI : Int → ByteArray) (o : Opr) : Nat → ByteArray
  | 0 => nameV o.kind
  | i + 1 => if hasP o.kind (fld o i).1 = true then lineS dI o i ++ (⟨#[32]⟩ ++ dI (fld o i).2) else lineS dI o i
def toldS (dI dU : Int → ByteArray) (o : Opr) : ByteArray := if hasP o.kind 16 = true then lineS dI o 4 ++ (⟨#[32]⟩ ++ dU o.imm) else lineS dI o 4
def fldA (o : Opr) : Array Value := #[vI 1, vI o.r, vI 2, vI o.a, vI 4, vI o.b, vI 8, vI o.order]
theorem info85 : (Tryd.prog.info? 67).map (fun i => (i.zero, i.size, i.bytes)) = some (some (.agg #[vI 0, vI 0]), 2, 16) := by kernel_rfl
theorem run_four86 (o : Opr) (w : World) : (Instr.buildSlice 68 4 #[(0, .agg #[vI 1, vI o.r]), (1, .agg #[vI 2, vI o.a]), (2, .agg #[vI 4, vI o.b]), (3, .agg #[vI 8, vI o.order])]).run Tryd.prog w = .ok (.slice (some ⟨w.heap.size, 0, none⟩) 4 4) (w.alloc (.cells (fldA o) 67)) := by
  obtain ⟨i, hi, hz, hs, hby⟩ := info_parts info85
  exact run_buildSlice (P := Tryd.prog) w 68 67 4 _ _ i (.agg #[vI 0, vI 0]) Tryd.underlying68 hi hz (by rw [hs]; decide) (by rw [hs]; decide) (by rw [hs]; kernel_rfl)
theorem wpList_four86 {ops : Array Oper} {rest : List Oper} {p : Oper} {a : Act} {w : World} {Q : Exit → Act → World → Prop} (hg : p.guard = none) (x0 x1 x2 x3 : Operand) (ho : p.op = .buildSlice 68 4 #[(0, x0), (1, x1), (2, x2), (3, x3)]) (o : Opr) (h0 : a.eval x0 = .agg #[vI 1, vI o.r]) (h1 : a.eval x1 = .agg #[vI 2, vI o.a]) (h2 : a.eval x2 = .agg #[vI 4, vI o.b]) (h3 : a.eval x3 = .agg #[vI 8, vI o.order])
    (h : wpList Tryd.prog ops Q rest (a.put p.dst (.slice (some ⟨w.heap.size, 0, none⟩) 4 4)) (w.alloc (.cells (fldA o) 67))) : wpList Tryd.prog ops Q (p :: rest) a w :=
  wpList_plain hg fun _ hK => by
    unfold Oper.wp execOp
    simp only [ho, Sem.run_bind, List.map_toArray, List.map_cons, List.map_nil, h0, h1, h2, h3, run_four86, Result.andThen_ok]
    exact hK _ _ h
theorem run_cat (p q : ByteArray) (hl : p.size + q.size ≤ 100000) (w : World) : (binOp .add 9 (.string p) (.string q)).run Tryd.prog w = .ok (.string (p ++ q)) w := by
  have hs : (p ++ q).size ≤ 9223372036854775807 := by rw [ByteArray.size_append]; omega
  have hn : ¬ 9223372036854775807 < p.size + q.size := by omega
  go_simp
theorem exec_cat {o : Oper} {a : Act} {w : World} {x y : Operand} (ho : o.op = .binOp .add 9 x y 9) (p q : ByteArray) (hx : a.eval x = .string p) (hy : a.eval y = .string q) (hl : p.size + q.size ≤ 100000) : (execOp a.eval o).run Tryd.prog w = .ok (.value (.string (p ++ q))) w := by
  have hgd : (eqGuard .add 9 x y (.string p) (.string q)).run Tryd.prog w = .ok () w := by kernel_rfl
  unfold execOp
  simp only [ho, hx, hy, Sem.run_bind, hgd, run_cat p q hl, Result.andThen_ok, Sem.run_pure]
theorem wpList_cat {ops : Array Oper} {rest : List Oper} {o : Oper} {a : Act} {w : World} {Q : Exit → Act → World → Prop} (hw : o.guard = none) (x y : Operand) (ho : o.op = .binOp .add 9 x y 9)
    (p q : ByteArray) (hx : a.eval x = .string p) (hy : a.eval y = .string q) (hl : p.size + q.size ≤ 100000)
    (h : wpList Tryd.prog ops Q rest (a.put o.dst (.string (p ++ q))) w) : wpList Tryd.prog ops Q (o :: rest) a w := by
  refine wpList_plain hw fun K hK => ?_
  unfold Oper.wp
  rw [exec_cat ho p q hx hy hl]
  exact hK _ _ h
/-- Numbers are told. -/
structure Tells (w : World) (o : Opr) (dI dU : Int → ByteArray) : Prop where
  si : ∀ n, (dI n).size ≤ 32
  su : ∀ n, (dU n).size ≤ 32
  i : ∀ k, k < 4 → hasP o.kind (fld o k).1 = true → ∀ w1, Below w.heap.size w w1 → Calls Tryd.prog 17 #[vI (fld o k).2] w1 fun e w' => e = .returned (.string (dI (fld o k).2)) ∧ Below w1.heap.size w1 w'
  u : hasP o.kind 16 = true → ∀ w1, Below w.heap.size w w1 → Calls Tryd.prog 32 #[vU o.imm, vI 10] w1 fun e w' => e = .returned (.string (dU o.imm)) ∧ Below w1.heap.size w1 w'
theorem fld_cells (o : Opr) : ∀ k, k < 4 → (fldA o)[k * 2]? = some (vI (fld o k).1) ∧ (fldA o)[k * 2 + 1]? = some (vI (fld o k).2)
  | 0, _ => ⟨rfl, rfl⟩
  | 1, _ => ⟨rfl, rfl⟩
  | 2, _ => ⟨rfl, rfl⟩
  | 3, _ => ⟨rfl, rfl⟩
  | k + 4, h => absurd h (by omega)
theorem inf85 (a b : Value) : (Tryd.prog.info? 67).map (·.size) = some (#[a, b] : Array Value).size := by
  show (Tryd.prog.info? 67).map (·.size) = some 2
  kernel_rfl
theorem one85 (a b : Int) : (#[vI a, vI b] : Array Value).all (·.oneCell') = true := by simp [Value.oneCell']
theorem name_size (k : Int) : (nameV k).size ≤ 7 := by
  unfold nameV nam
  split <;> decide
theorem line_size {dI : Int → ByteArray} {o : Opr} (hd : ∀ n, (dI n).size ≤ 32) : ∀ i, (lineS dI o i).size ≤ 7 + 33 * i
  | 0 => name_size _
  | i + 1 => by
    have ih := line_size (o := o) hd i
    have := hd (fld o i).2
    unfold lineS
    split
    · rw [ByteArray.size_append, ByteArray.size_append]
      show _ + (1 + _) ≤ _
      omega
    · omega
theorem told_no {dI dU : Int → ByteArray} {o : Opr} (h : hasP o.kind 16 = false) : toldS dI dU o = lineS dI o 4 := by unfold toldS; rw [if_neg (by rw [h]; decide)]
theorem told_yes {dI dU : Int → ByteArray} {o : Opr} (h : hasP o.kind 16 = true) : toldS dI dU o = lineS dI o 4 ++ (⟨#[32]⟩ ++ dU o.imm) := by unfold toldS; rw [if_pos h]
theorem hs_1 (q : ByteArray) (h : q.size ≤ 32) : (⟨#[32]⟩ : ByteArray).size + q.size ≤ 100000 := by
  have e : (⟨#[32]⟩ : ByteArray).size = 1 := rfl
  rw [e]; omega
theorem hs_2 (p q : ByteArray) (hp : p.size ≤ 200) (h : q.size ≤ 32) : p.size + ((⟨#[32]⟩ : ByteArray) ++ q).size ≤ 100000 := by
  have e : (⟨#[32]⟩ : ByteArray).size = 1 := rfl
  rw [ByteArray.size_append, e]; omega
set_option maxHeartbeats 4000000 in
theorem ttold_c (o : Opr) (hk : isK o.kind = true) {dI dU : Int → ByteArray} {w : World} (T : Tells w o dI dU) : Calls Tryd.prog 18 #[opV o] w fun e w' => e = .returned (.string (toldS dI dU o)) ∧ Below w.heap.size w w' := by
  have H := (has_none w).new 37 (opA o)
  go_enter Tryd.func18, Tryd.ntmps18
  go_upto_region 2 with (first | (go_at_call 21; refine (shapeOf_c _ hk _).mono ?_; rintro e wS ⟨rfl, B⟩; dsimp only; replace H := H.grow B; clear B) | ((with_reducible refine wpList_store_new H rfl 54 _ _ rfl _ rfl rfl (sh_inf2 _ _) (two_size _ _ _ _) (sh_one2 _ _) ?_); clear H; intro w1 H; try simp only [Act.put]))
  have z0 := H.at List.mem_cons_self 0 _ rfl
  have c1 : w1.cell? ⟨w.heap.size, 1, none⟩ = some (vI o.r) := H.at (List.mem_cons_of_mem _ List.mem_cons_self) 1 _ rfl
  have c2 : w1.cell? ⟨w.heap.size, 2, none⟩ = some (vI o.a) := H.at (List.mem_cons_of_mem _ List.mem_cons_self) 2 _ rfl
  have c3 : w1.cell? ⟨w.heap.size, 3, none⟩ = some (vI o.b) := H.at (List.mem_cons_of_mem _ List.mem_cons_self) 3 _ rfl
  have c4 : w1.cell? ⟨w.heap.size, 4, none⟩ = some (vI o.order) := H.at (List.mem_cons_of_mem _ List.mem_cons_self) 4 _ rfl
  have H4 := H.new 67 (fldA o)
  go_wp2_with (first | ((with_reducible refine wpList_four86 rfl _ _ _ _ rfl o rfl rfl rfl rfl ?_); simp only [Act.put, List.setIfInBounds_toArray, List.set_cons_succ, List.set_cons_zero]; clear z0 c1 c2 c3 c4 H))
  generalize w1.heap.size = rb at *
  generalize wS.heap.size = sb at *
  generalize w1.alloc (.cells (fldA o) 67) = w2 at *
  generalize hL : [(rb, fldA o, 67), (sb, #[Value.string (nameV o.kind), vI (partsV o.kind)], 54), (w.heap.size, opA o, 37)] = L at *
  have m1 : (rb, fldA o, 67) ∈ L := by rw [← hL]; exact List.mem_cons_self
  have m2 : (sb, #[Value.string (nameV o.kind), vI (partsV o.kind)], 54) ∈ L := by rw [← hL]; exact List.mem_cons_of_mem _ List.mem_cons_self
  have m3 : (w.heap.size, opA o, 37) ∈ L := by rw [← hL]; exact List.mem_cons_of_mem _ (List.mem_cons_of_mem _ List.mem_cons_self)
  clear hL
  go_loopw [4, 26] (fun s4 s26 wr => ∃ i : Nat, i ≤ 4 ∧ s26 = vI i ∧ s4 = .string (lineS dI o i) ∧ Has w L wr) (fun _ s26 _ => (4 - intOf s26).toNat)
  case atStart => exact ⟨0, by decide, rfl, rfl, H4⟩
  case round =>
    clear H4
    obtain ⟨i, hi, rfl, rfl, H⟩ := hrel
    by_cases hlt : (i : Int) < 4
    · have hi4 : i < 4 := by omega
      obtain ⟨q1, q2⟩ := fld_cells o i hi4
      have z1 := H.at m1 _ _ q1
      have z2 := H.at m1 _ _ q2
      clear q1 q2
      have hfi : fld o i = ((fld o i).1, (fld o i).2) := rfl
      have hline : lineS dI o (i + 1) = if hasP o.kind (fld o i).1 = true then lineS dI o i ++ (⟨#[32]⟩ ++ dI (fld o i).2) else lineS dI o i := rfl
      have Ti := T.i i hi4
      have s1 := T.si (fld o i).2
      have s2 := line_size (o := o) T.si i
      have hs1 := hs_1 _ s1
      have hs2 := hs_2 _ _ (Nat.le_trans s2 (by omega)) s1
      clear s1 s2
      generalize (fld o i).1 = m at *
      generalize (fld o i).2 = v at *
      clear hfi
      cases hv : hasP o.kind m with
      | false =>
        rw [hv, if_neg (by decide)] at hline
        go_wp2_with (first | ((with_reducible refine wpList_store_new H rfl 67 _ _ rfl _ rfl rfl (inf85 _ _) (two_size _ _ _ _) (one85 _ _) ?_); clear H; intro w3 H; have x0 : w3.cell? ⟨wr.heap.size, 0, none⟩ = some (vI m) := H.at List.mem_cons_self 0 _ rfl; try simp only [Act.put]) | ((with_reducible refine wpList_load_if rfl 54 _ rfl _ rfl 54 _ (0, 0) _ (H.get (List.mem_cons_of_mem _ m2)) Tryd.underlying54 rfl (sh_inf2 _ _) ?_); simp only [Act.put, List.setIfInBounds_toArray, List.set_cons_succ, List.set_cons_zero]) | (go_at_call 22; refine (hasK_c _ _ _).mono ?_; rintro e w4 ⟨rfl, B⟩; dsimp only; replace H := H.grow B; clear B; simp only [hv]))
        go_roundw
        case rel => exact ⟨i + 1, by omega, by simp, by rw [hline], ⟨H.below, fun p hp => H.box p (List.mem_cons_of_mem _ hp)⟩⟩
        case measure => simp [intOf]; omega
      | true =>
        rw [hv, if_pos rfl] at hline
        go_wp2_with (first | ((with_reducible refine wpList_store_new H rfl 67 _ _ rfl _ rfl rfl (inf85 _ _) (two_size _ _ _ _) (one85 _ _) ?_); clear H; intro w3 H; have x0 : w3.cell? ⟨wr.heap.size, 0, none⟩ = some (vI m) := H.at List.mem_cons_self 0 _ rfl; try simp only [Act.put]) | ((with_reducible refine wpList_load_if rfl 54 _ rfl _ rfl 54 _ (0, 0) _ (H.get (List.mem_cons_of_mem _ m2)) Tryd.underlying54 rfl (sh_inf2 _ _) ?_); simp only [Act.put, List.setIfInBounds_toArray, List.set_cons_succ, List.set_cons_zero]) | (go_at_call 22; refine (hasK_c _ _ _).mono ?_; rintro e w4 ⟨rfl, B⟩; dsimp only; replace H := H.grow B; clear B; have x1 : w4.cell? ⟨wr.heap.size, 1, none⟩ = some (vI v) := H.at List.mem_cons_self 1 _ rfl; have k22 := Ti hv w4 H.below; simp only [hv]) | (go_at_call 17; (with_reducible refine k22.mono ?_); clear k22; rintro e w5 ⟨rfl, B⟩; dsimp only; replace H := H.grow B; clear B) | ((with_reducible refine wpList_cat rfl _ _ rfl _ _ rfl rfl hs1 ?_); simp only [Act.put, List.setIfInBounds_toArray, List.set_cons_succ, List.set_cons_zero]) | ((with_reducible refine wpList_cat rfl _ _ rfl _ _ rfl rfl hs2 ?_); simp only [Act.put, List.setIfInBounds_toArray, List.set_cons_succ, List.set_cons_zero]))
        go_roundw
        case rel => exact ⟨i + 1, by omega, by simp, by rw [hline], ⟨H.below, fun p hp => H.box p (List.mem_cons_of_mem _ hp)⟩⟩
        case measure => simp [intOf]; omega
    · have hno := fun h => told_no (dI := dI) (dU := dU) (o := o) h
      have hye := fun h => told_yes (dI := dI) (dU := dU) (o := o) h
      have hie : i = 4 := by omega
      subst hie
      have x5 := H.at m3 5 _ rfl
      have s1 := T.su o.imm
      have s2 := line_size (o := o) T.si 4
      have hs1 := hs_1 _ s1
      have hs2 := hs_2 _ _ (Nat.le_trans s2 (by decide)) s1
      clear s1 s2
      cases hu : hasP o.kind 16 with
      | false =>
        generalize lineS dI o 4 = l4 at *
        go_wp2_with (first | ((with_reducible refine wpList_load_if rfl 54 _ rfl _ rfl 54 _ (0, 0) _ (H.get m2) Tryd.underlying54 rfl (sh_inf2 _ _) ?_); simp only [Act.put, List.setIfInBounds_toArray, List.set_cons_succ, List.set_cons_zero]) | (go_at_call 22; refine (hasK_c _ _ _).mono ?_; rintro e w4 ⟨rfl, B⟩; dsimp only; replace H := H.grow B; clear B; simp only [hu]))
        go_ret
        first | exact ⟨rfl, H.below⟩ | exact ⟨by rw [hno hu], H.below⟩
      | true =>
        generalize lineS dI o 4 = l4 at *
        go_wp2_with (first | ((with_reducible refine wpList_load_if rfl 54 _ rfl _ rfl 54 _ (0, 0) _ (H.get m2) Tryd.underlying54 rfl (sh_inf2 _ _) ?_); simp only [Act.put, List.setIfInBounds_toArray, List.set_cons_succ, List.set_cons_zero]) | (go_at_call 22; refine (hasK_c _ _ _).mono ?_; rintro e w4 ⟨rfl, B⟩; dsimp only; replace H := H.grow B; clear B; have x6 : w4.cell? ⟨w.heap.size, 5, none⟩ = some (vU o.imm) := H.at m3 5 _ rfl; have k40 := T.u hu w4 H.below; simp only [hu]) | (go_at_call 32; (with_reducible refine k40.mono ?_); clear k40; rintro e w5 ⟨rfl, B⟩; dsimp only; replace H := H.grow B; clear B) | ((with_reducible refine wpList_cat rfl _ _ rfl _ _ rfl rfl hs1 ?_); simp only [Act.put, List.setIfInBounds_toArray, List.set_cons_succ, List.set_cons_zero]) | ((with_reducible refine wpList_cat rfl _ _ rfl _ _ rfl rfl hs2 ?_); simp only [Act.put, List.setIfInBounds_toArray, List.set_cons_succ, List.set_cons_zero]))
        go_ret
        first | exact ⟨rfl, H.below⟩ | exact ⟨by rw [hye hu], H.below⟩
end Go.Proofs.YtilhjbhhgpoajaaDoor
