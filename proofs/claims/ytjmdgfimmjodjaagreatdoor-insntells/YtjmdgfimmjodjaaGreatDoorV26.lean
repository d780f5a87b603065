/- Rows of texts, and what is known of the numbers of an instruction that is right. -/
import Derived.Test.YtjmdgfimmjodjaaGreatDoorV25
import Derived.Test.YtjmdgfimmjodjaaGreatDoorV19
namespace Go.Proofs.YtjmdgfimmjodjaaGreatDoor
open Go.RowKit Go.Rel

def inS (s : Span) : Prop := -9223372036854775808 ≤ s.lo ∧ s.hi ≤ 9223372036854775807
theorem inS_bif {b : Bool} {x y : Span} (hx : inS x) (hy : inS y) : inS (bif b then x else y) := by cases b <;> assumption
theorem inS_up {n : Int} (h : n ≤ 9223372036854775807) : inS (upToS n) := ⟨by show (-9223372036854775808 : Int) ≤ 0; decide, h⟩
theorem inS_zero : inS zeroS := ⟨by decide, by decide⟩
theorem inS_br (m : Int) : inS (brS m) := inS_bif ⟨by decide, by decide⟩ (inS_bif ⟨by decide, by decide⟩ ⟨by decide, by decide⟩)
theorem inS_imm (op sub : Int) : inS (immS op sub) := inS_bif (inS_up (by decide)) (inS_bif (inS_up (by decide)) (inS_bif (inS_up (by decide)) (inS_bif (inS_bif ⟨by decide, by decide⟩ ⟨by decide, by decide⟩) (inS_bif (inS_br _) (inS_bif (inS_br _) (inS_bif (inS_br _) (inS_bif ⟨by decide, by decide⟩ (inS_bif ⟨by decide, by decide⟩ (inS_bif (inS_up (by decide)) (inS_bif (inS_up (by decide)) inS_zero))))))))))
theorem inS_imm2 (op : Int) : inS (imm2S op) := inS_bif (inS_up (by decide)) inS_zero
theorem inS_amount (op : Int) : inS (amountS op) := inS_bif ⟨by decide, by decide⟩ (inS_bif (inS_up (by decide)) (inS_bif (inS_up (by decide)) (inS_bif ⟨by decide, by decide⟩ (inS_bif ⟨by decide, by decide⟩ inS_zero))))
structure Num (i : Ins) : Prop where
  i0 : -9223372036854775808 ≤ i.imm
  i1 : i.imm ≤ 9223372036854775807
  j0 : -9223372036854775808 ≤ i.imm2
  j1 : i.imm2 ≤ 9223372036854775807
  k0 : -9223372036854775808 ≤ i.amount
  k1 : i.amount ≤ 9223372036854775807
  y0 : -9223372036854775808 ≤ i.sys
  y1 : i.sys ≤ 9223372036854775807
theorem sys_in {op n : Int} (h : rightSysB op n = true) : -9223372036854775808 ≤ n ∧ n ≤ 9223372036854775807 := by
  unfold rightSysB at h
  cases hq : (op != 31 && op != 32) <;> rw [hq] at h
  · simp only [cond_false, sysB, Bool.or_eq_true, beq_iff_eq] at h
    omega
  · simp only [cond_true, beq_iff_eq] at h
    omega
theorem num_of {i : Ins} (R : rightB i = true) : Num i := by
  have F := fits R
  have a := inS_imm i.op i.sub
  have b := inS_imm2 i.op
  have c := inS_amount i.op
  have d := sys_in F.y
  exact ⟨Int.le_trans a.1 F.i0, Int.le_trans F.i1 a.2, Int.le_trans b.1 F.j0, Int.le_trans F.j1 b.2, Int.le_trans c.1 F.k0, Int.le_trans F.k1 c.2, d.1, d.2⟩

/-- The instruction's box, and the table of powers of ten. -/
structure OneT (i : Ins) (w0 w : World) : Prop where
  one : One i w0 w
  tab : Tab w
theorem OneT.grow {i : Ins} {w0 w w' : World} (h : OneT i w0 w) (hb : Below w.heap.size w w') : OneT i w0 w' := ⟨h.one.grow hb, h.tab.grow hb⟩
theorem OneT.up (i : Ins) (w0 : World) : Up Grows (fun w => OneT i w0 w) := fun _ _ h hb => h.grow hb
theorem below_drawn (w : World) : Below w.heap.size w { w with drawn := w.drawn + 1 } := ⟨rfl, rfl, rfl, Nat.le_refl _, fun _ _ => rfl⟩
theorem OneT.drew {i : Ins} {w0 w : World} (h : OneT i w0 w) : OneT i w0 { w with drawn := w.drawn + 1 } := h.grow (below_drawn w)
theorem oneT_start (i : Ins) (w : World) (T : Tab w) : OneT i w (w.alloc (.cells i.cells 23)) := ⟨one_start i w, T.grow (below_alloc _ _)⟩
theorem OneT.size {i : Ins} {w0 w : World} (h : OneT i w0 w) : w0.heap.size ≤ w.heap.size := h.one.below.size

theorem str_info : ∃ i0, Tryz.prog.info? 9 = some i0 ∧ i0.zero = some (.string ⟨#[]⟩) ∧ i0.size = 1 ∧ i0.bytes = 16 := by
  have h : (Tryz.prog.info? 9).map (fun i => (i.zero, i.size, i.bytes)) = some (some (.string ⟨#[]⟩), 1, 16) := by kernel_rfl
  cases hq : Tryz.prog.info? 9 with
  | none => rw [hq] at h; cases h
  | some i =>
    rw [hq] at h
    simp only [Option.map_some, Option.some.injEq, Prod.mk.injEq] at h
    exact ⟨i, rfl, h.1, h.2.1, h.2.2⟩

theorem wpList_append_rows {ops : Array Oper} {rest : List Oper} {o : Oper} {a : Act} {w : World} {Q : Exit → Act → World → Prop} (hgd : o.guard = none) (s x : Operand)
    (ho : o.op = .call { callee := .builtin .append, args := #[s, x], argTypes := #[43, 43] }) (w0 : World) (xs ys : List Tx) (v u : Value) (hs : a.eval s = v) (hx : a.eval x = u)
    (hv : RowT w0.heap.size xs v w) (hu : RowT w0.heap.size ys u w) (hb : Below w0.heap.size w0 w) (hlen : xs.length + ys.length ≤ 1000)
    (h : ∀ v' w', RowT w0.heap.size (xs ++ ys) v' w' → Below w0.heap.size w0 w' → wpList Tryz.prog ops Q rest (a.put o.dst v') w') : wpList Tryz.prog ops Q (o :: rest) a w := by
  obtain ⟨i0, hi, hz0, hz1, hz2⟩ := str_info
  have cat : ∀ v' w', w'.ownsRow w0.heap.size 9 1 v' (xs.length + ys.length) (xs.map strV ++ ys.map strV) → RowT w0.heap.size (xs ++ ys) v' w' := fun v' w' h => by
    show w'.ownsRow _ _ _ _ _ _
    rw [List.length_append, List.map_append]
    exact h
  rcases hu.2 with ⟨rfl, h0⟩ | ⟨g, cap, cur, rfl, hg, hc, hcap, -⟩
  · have hy : ys = [] := List.length_eq_zero_iff.1 h0
    subst hy
    refine wpList_append_own_none hgd s x 43 ho w0.heap.size 9 i0 1 Tryz.underlying43 hi v xs.length _ hs hv hx (h v w ?_ hb)
    rw [List.append_nil]
    exact hv
  · refine wpList_append_own w hgd s x 43 ho w0.heap.size 9 i0 (.string ⟨#[]⟩) 1 16 Tryz.underlying43 hi hz0 hz1 hz2 rfl (by decide) v xs.length _ hs hv ⟨g, 0, none⟩ ys.length cap (ys.map strV) hx (by simp) (World.ownsRow.cells hu rfl) ?_ (by unfold maxLen; omega) (by omega) hb.size ?_
    · intro q hq
      obtain ⟨y, -, rfl⟩ := List.mem_map.1 hq
      rfl
    · intro v' w' h1 hgrow _
      exact h v' w' (cat v' w' h1) (hb.grown hgrow hb.size (fun b hb' => (World.ownsRow.lt hv b hb').1))
theorem row_at (w : World) (xs : List Tx) (h1 : xs.length ≤ 1000) (base : Nat) (hb : base ≤ w.heap.size) (b : Nat) (h : b = w.heap.size) : RowT base xs (.slice (some ⟨b, 0, none⟩) xs.length xs.length) (w.alloc (.cells (xs.map strV).toArray 9)) := by
  subst h; exact row_new w xs h1 base hb
theorem le1 {x : Tx} (hx : x.length ≤ 100) : ∀ z ∈ [x], z.length ≤ 100 := fun z hz => by simp at hz; rw [hz]; exact hx
theorem le2 {x y : Tx} (hx : x.length ≤ 100) (hy : y.length ≤ 100) : ∀ z ∈ [x, y], z.length ≤ 100 := fun z hz => by
  simp at hz
  rcases hz with rfl | rfl <;> assumption
theorem le3 {x y t : Tx} (hx : x.length ≤ 100) (hy : y.length ≤ 100) (ht : t.length ≤ 100) : ∀ z ∈ [x, y, t], z.length ≤ 100 := fun z hz => by
  simp at hz
  rcases hz with rfl | rfl | rfl <;> assumption
end Go.Proofs.YtjmdgfimmjodjaaGreatDoor
/- How an instruction is written, as the document's own answer writes it: laws, and the way up to the parts. -/
namespace Go.Proofs.YtjmdgfimmjodjaaGreatDoor
open Go.RowKit Go.Rel

/-- Two texts put together. -/
theorem wpList_cat {ops : Array Oper} {rest : List Oper} {o : Oper} {a : Act} {w : World} {Q : Exit → Act → World → Prop} (hw : Region.wanted o (yielded ops a.tmps) = true) (x y : Operand) (ho : o.op = .binOp .add 9 x y 9)
    (p q : Tx) (hx : a.eval x = strV p) (hy : a.eval y = strV q) (hl : p.length + q.length ≤ 100000)
    (h : wpList Tryz.prog ops Q rest (a.put o.dst (strV (p ++ q))) w) : wpList Tryz.prog ops Q (o :: rest) a w := by
  refine BigFrame.wpList_want hw fun K hK => ?_
  have e : (execOp a.eval o).run Tryz.prog w = .ok (.value (strV (p ++ q))) w := by
    unfold execOp
    simp only [ho, hx, hy]
    have hc := str_cat p q
    go_simp
    omega
  unfold Oper.wp
  rw [e]
  exact hK _ _ h
/-- The parts put behind a word, as the document's loop does. -/
def accT (wd : Tx) (xs : List Tx) : Nat → Tx
  | 0 => wd
  | k + 1 => ((if k = 0 then accT wd xs k else accT wd xs k ++ [44]) ++ [32]) ++ xs.getD k []
theorem accT_le {wd : Tx} {xs : List Tx} (hw : wd.length ≤ 8) (hx : ∀ k, (xs.getD k []).length ≤ 100) : ∀ k, (accT wd xs k).length ≤ 8 + 102 * k
  | 0 => by simpa [accT] using hw
  | k + 1 => by
    have ih := accT_le hw hx k
    have := hx k
    unfold accT
    by_cases h : k = 0
    · rw [if_pos h]; simp only [List.length_append, List.length_cons, List.length_nil]; omega
    · rw [if_neg h]; simp only [List.length_append, List.length_cons, List.length_nil]; omega
set_option maxRecDepth 8000 in
set_option maxHeartbeats 1000000 in
theorem rText_no (i : Ins) (hR : rightB i = false) (w : World) : Calls Tryz.prog 10 #[i.val] w fun e w' => e = .returned (.tuple #[strV [], .bool false]) ∧ Below w.heap.size w w' := by
  have H1 := one_start i w
  go_enter Tryz.func10, Tryz.ntmps10
  go_upto_region 2 with (first | (refine wpList_load_if rfl 23 _ rfl w.heap.size rfl 23 _ (0, 0) _ H1.box Tryz.underlying23 rfl (by kernel_rfl) ?_; simp only [Act.put, List.setIfInBounds_toArray, List.set_cons_succ, List.set_cons_zero]) | (go_at_call 5; refine (rright_c i _).mono ?_; rw [hR]; rintro e w2 ⟨rfl, hb2⟩; replace H1 := H1.grow hb2; clear hb2; dsimp only))
  go_wp2
  go_ret2
  exact ⟨rfl, H1.below⟩
end Go.Proofs.YtjmdgfimmjodjaaGreatDoor
/- Instructions' words, Op by Op, as the document's own answer writes them: contracts. -/
namespace Go.Proofs.YtjmdgfimmjodjaaGreatDoor
open Go.RowKit Go.Rel
set_option linter.unusedVariables false
set_option maxRecDepth 8000 in
set_option maxHeartbeats 2000000 in
theorem wd_1 (sub rd rn rm ra imm imm2 amount shift cond sys : Int) (flags minus not link : Bool) (hR : rightB ⟨1, sub, rd, rn, rm, ra, imm, imm2, amount, shift, cond, sys, flags, minus, not, link⟩ = true) (w : World) :
    Calls Tryz.prog 35 #[Ins.val ⟨1, sub, rd, rn, rm, ra, imm, imm2, amount, shift, cond, sys, flags, minus, not, link⟩] w fun e w' => e = .returned (strV (wordV ⟨1, sub, rd, rn, rm, ra, imm, imm2, amount, shift, cond, sys, flags, minus, not, link⟩)) ∧ Below w.heap.size w w' := by
  clear hR
  all_goals
    cases flags <;> cases minus
  all_goals
    go_enter Tryz.func35, Tryz.ntmps35
    go_wp2
    go_ret
    exact ⟨rfl, by repeat (first | exact Below.refl _ _ | apply below_more)⟩
set_option maxRecDepth 8000 in
set_option maxHeartbeats 2000000 in
theorem wd_2 (sub rd rn rm ra imm imm2 amount shift cond sys : Int) (flags minus not link : Bool) (hR : rightB ⟨2, sub, rd, rn, rm, ra, imm, imm2, amount, shift, cond, sys, flags, minus, not, link⟩ = true) (w : World) :
    Calls Tryz.prog 35 #[Ins.val ⟨2, sub, rd, rn, rm, ra, imm, imm2, amount, shift, cond, sys, flags, minus, not, link⟩] w fun e w' => e = .returned (strV (wordV ⟨2, sub, rd, rn, rm, ra, imm, imm2, amount, shift, cond, sys, flags, minus, not, link⟩)) ∧ Below w.heap.size w w' := by
  clear hR
  all_goals
    cases flags <;> cases minus
  all_goals
    go_enter Tryz.func35, Tryz.ntmps35
    go_wp2
    go_ret
    exact ⟨rfl, by repeat (first | exact Below.refl _ _ | apply below_more)⟩
set_option maxRecDepth 8000 in
set_option maxHeartbeats 2000000 in
theorem wd_3 (sub rd rn rm ra imm imm2 amount shift cond sys : Int) (flags minus not link : Bool) (hR : rightB ⟨3, sub, rd, rn, rm, ra, imm, imm2, amount, shift, cond, sys, flags, minus, not, link⟩ = true) (w : World) :
    Calls Tryz.prog 35 #[Ins.val ⟨3, sub, rd, rn, rm, ra, imm, imm2, amount, shift, cond, sys, flags, minus, not, link⟩] w fun e w' => e = .returned (strV (wordV ⟨3, sub, rd, rn, rm, ra, imm, imm2, amount, shift, cond, sys, flags, minus, not, link⟩)) ∧ Below w.heap.size w w' := by
  have G := fits hR
  have s0 : 0 ≤ sub := Int.le_trans (show (0 : Int) ≤ (subS 3).lo by decide) G.s0
  have s1 : sub ≤ 2 := Int.le_trans G.s1 (show (subS 3).hi ≤ 2 by decide)
  clear G hR
  rcases (by omega : sub = 0 ∨ sub = 1 ∨ sub = 2) with rfl | rfl | rfl
  all_goals
    cases flags <;> cases not
  all_goals
    go_enter Tryz.func35, Tryz.ntmps35
    go_wp2
    go_ret
    exact ⟨rfl, by repeat (first | exact Below.refl _ _ | apply below_more)⟩
set_option maxRecDepth 8000 in
set_option maxHeartbeats 2000000 in
theorem wd_4 (sub rd rn rm ra imm imm2 amount shift cond sys : Int) (flags minus not link : Bool) (hR : rightB ⟨4, sub, rd, rn, rm, ra, imm, imm2, amount, shift, cond, sys, flags, minus, not, link⟩ = true) (w : World) :
    Calls Tryz.prog 35 #[Ins.val ⟨4, sub, rd, rn, rm, ra, imm, imm2, amount, shift, cond, sys, flags, minus, not, link⟩] w fun e w' => e = .returned (strV (wordV ⟨4, sub, rd, rn, rm, ra, imm, imm2, amount, shift, cond, sys, flags, minus, not, link⟩)) ∧ Below w.heap.size w w' := by
  have G := fits hR
  have s0 : 0 ≤ sub := Int.le_trans (show (0 : Int) ≤ (subS 4).lo by decide) G.s0
  have s1 : sub ≤ 2 := Int.le_trans G.s1 (show (subS 4).hi ≤ 2 by decide)
  clear G hR
  rcases (by omega : sub = 0 ∨ sub = 1 ∨ sub = 2) with rfl | rfl | rfl
  all_goals
    cases flags <;> cases not
  all_goals
    go_enter Tryz.func35, Tryz.ntmps35
    go_wp2
    go_ret
    exact ⟨rfl, by repeat (first | exact Below.refl _ _ | apply below_more)⟩
set_option maxRecDepth 8000 in
set_option maxHeartbeats 2000000 in
theorem wd_5 (sub rd rn rm ra imm imm2 amount shift cond sys : Int) (flags minus not link : Bool) (hR : rightB ⟨5, sub, rd, rn, rm, ra, imm, imm2, amount, shift, cond, sys, flags, minus, not, link⟩ = true) (w : World) :
    Calls Tryz.prog 35 #[Ins.val ⟨5, sub, rd, rn, rm, ra, imm, imm2, amount, shift, cond, sys, flags, minus, not, link⟩] w fun e w' => e = .returned (strV (wordV ⟨5, sub, rd, rn, rm, ra, imm, imm2, amount, shift, cond, sys, flags, minus, not, link⟩)) ∧ Below w.heap.size w w' := by
  have G := fits hR
  have s0 : 0 ≤ sub := Int.le_trans (show (0 : Int) ≤ (subS 5).lo by decide) G.s0
  have s1 : sub ≤ 3 := Int.le_trans G.s1 (show (subS 5).hi ≤ 3 by decide)
  clear G hR
  rcases (by omega : sub = 0 ∨ sub = 1 ∨ sub = 2 ∨ sub = 3) with rfl | rfl | rfl | rfl
  all_goals
    cases flags
  all_goals
    go_enter Tryz.func35, Tryz.ntmps35
    go_wp2
    go_ret
    exact ⟨rfl, by repeat (first | exact Below.refl _ _ | apply below_more)⟩
end Go.Proofs.YtjmdgfimmjodjaaGreatDoor
/- Instructions' words, Op by Op, as the document's own answer writes them: contracts. -/
namespace Go.Proofs.YtjmdgfimmjodjaaGreatDoor
open Go.RowKit Go.Rel
set_option linter.unusedVariables false
theorem cond_short {k : Int} (h0 : 0 ≤ k) (h1 : k ≤ 15) : (condT k).length ≤ 2 := by
  rcases (by omega : k = 0 ∨ k = 1 ∨ k = 2 ∨ k = 3 ∨ k = 4 ∨ k = 5 ∨ k = 6 ∨ k = 7 ∨ k = 8 ∨ k = 9 ∨ k = 10 ∨ k = 11 ∨ k = 12 ∨ k = 13 ∨ k = 14 ∨ k = 15) with rfl | rfl | rfl | rfl | rfl | rfl | rfl | rfl | rfl | rfl | rfl | rfl | rfl | rfl | rfl | rfl <;> decide
set_option maxRecDepth 8000 in
set_option maxHeartbeats 2000000 in
theorem wd_6 (S D N M A I J U F C Y : Int) (flags X O L : Bool) (hR : rightB ⟨6, S, D, N, M, A, I, J, U, F, C, Y, flags, X, O, L⟩ = true) (w : World) :
    Calls Tryz.prog 35 #[Ins.val ⟨6, S, D, N, M, A, I, J, U, F, C, Y, flags, X, O, L⟩] w fun e w' => e = .returned (strV (wordV ⟨6, S, D, N, M, A, I, J, U, F, C, Y, flags, X, O, L⟩)) ∧ Below w.heap.size w w' := by
  have G := fits hR
  have s0 : 0 ≤ S := Int.le_trans (show (0 : Int) ≤ (subS 6).lo by decide) G.s0
  have s1 : S ≤ 2 := Int.le_trans G.s1 (show (subS 6).hi ≤ 2 by decide)
  clear G hR
  rcases (by omega : S = 0 ∨ S = 1 ∨ S = 2) with rfl | rfl | rfl
  all_goals
    cases flags
  all_goals
    go_enter Tryz.func35, Tryz.ntmps35
    go_wp2
    go_ret
    exact ⟨rfl, by repeat (first | exact Below.refl _ _ | apply below_more)⟩
set_option maxRecDepth 8000 in
set_option maxHeartbeats 2000000 in
theorem wd_7 (S D N M A I J U F C Y : Int) (flags X O L : Bool) (hR : rightB ⟨7, S, D, N, M, A, I, J, U, F, C, Y, flags, X, O, L⟩ = true) (w : World) :
    Calls Tryz.prog 35 #[Ins.val ⟨7, S, D, N, M, A, I, J, U, F, C, Y, flags, X, O, L⟩] w fun e w' => e = .returned (strV (wordV ⟨7, S, D, N, M, A, I, J, U, F, C, Y, flags, X, O, L⟩)) ∧ Below w.heap.size w w' := by
  have G := fits hR
  have s0 : 0 ≤ S := Int.le_trans (show (0 : Int) ≤ (subS 7).lo by decide) G.s0
  have s1 : S ≤ 3 := Int.le_trans G.s1 (show (subS 7).hi ≤ 3 by decide)
  clear G hR
  rcases (by omega : S = 0 ∨ S = 1 ∨ S = 2 ∨ S = 3) with rfl | rfl | rfl | rfl
  all_goals
    cases flags
  all_goals
    go_enter Tryz.func35, Tryz.ntmps35
    go_wp2
    go_ret
    exact ⟨rfl, by repeat (first | exact Below.refl _ _ | apply below_more)⟩
set_option maxRecDepth 8000 in
set_option maxHeartbeats 2000000 in
theorem wd_8 (S D N M A I J U F C Y : Int) (flags X O L : Bool) (hR : rightB ⟨8, S, D, N, M, A, I, J, U, F, C, Y, flags, X, O, L⟩ = true) (w : World) :
    Calls Tryz.prog 35 #[Ins.val ⟨8, S, D, N, M, A, I, J, U, F, C, Y, flags, X, O, L⟩] w fun e w' => e = .returned (strV (wordV ⟨8, S, D, N, M, A, I, J, U, F, C, Y, flags, X, O, L⟩)) ∧ Below w.heap.size w w' := by
  clear hR
  all_goals
    cases flags <;> cases X
  all_goals
    go_enter Tryz.func35, Tryz.ntmps35
    go_wp2
    go_ret
    exact ⟨rfl, by repeat (first | exact Below.refl _ _ | apply below_more)⟩
set_option maxRecDepth 8000 in
set_option maxHeartbeats 2000000 in
theorem wd_9 (S D N M A I J U F C Y : Int) (flags X O L : Bool) (hR : rightB ⟨9, S, D, N, M, A, I, J, U, F, C, Y, flags, X, O, L⟩ = true) (w : World) :
    Calls Tryz.prog 35 #[Ins.val ⟨9, S, D, N, M, A, I, J, U, F, C, Y, flags, X, O, L⟩] w fun e w' => e = .returned (strV (wordV ⟨9, S, D, N, M, A, I, J, U, F, C, Y, flags, X, O, L⟩)) ∧ Below w.heap.size w w' := by
  have G := fits hR
  have s0 : 0 ≤ S := Int.le_trans (show (0 : Int) ≤ (subS 9).lo by decide) G.s0
  have s1 : S ≤ 1 := Int.le_trans G.s1 (show (subS 9).hi ≤ 1 by decide)
  clear G hR
  rcases (by omega : S = 0 ∨ S = 1) with rfl | rfl
  all_goals
    cases flags
  all_goals
    go_enter Tryz.func35, Tryz.ntmps35
    go_wp2
    go_ret
    exact ⟨rfl, by repeat (first | exact Below.refl _ _ | apply below_more)⟩
set_option maxRecDepth 8000 in
set_option maxHeartbeats 2000000 in
theorem wd_10 (S D N M A I J U F C Y : Int) (flags X O L : Bool) (hR : rightB ⟨10, S, D, N, M, A, I, J, U, F, C, Y, flags, X, O, L⟩ = true) (w : World) :
    Calls Tryz.prog 35 #[Ins.val ⟨10, S, D, N, M, A, I, J, U, F, C, Y, flags, X, O, L⟩] w fun e w' => e = .returned (strV (wordV ⟨10, S, D, N, M, A, I, J, U, F, C, Y, flags, X, O, L⟩)) ∧ Below w.heap.size w w' := by
  have G := fits hR
  have s0 : 0 ≤ S := Int.le_trans (show (0 : Int) ≤ (subS 10).lo by decide) G.s0
  have s1 : S ≤ 3 := Int.le_trans G.s1 (show (subS 10).hi ≤ 3 by decide)
  clear G hR
  rcases (by omega : S = 0 ∨ S = 1 ∨ S = 2 ∨ S = 3) with rfl | rfl | rfl | rfl
  all_goals
    cases flags
  all_goals
    go_enter Tryz.func35, Tryz.ntmps35
    go_wp2
    go_ret
    exact ⟨rfl, by repeat (first | exact Below.refl _ _ | apply below_more)⟩
set_option maxRecDepth 8000 in
set_option maxHeartbeats 2000000 in
theorem wd_11 (S D N M A I J U F C Y : Int) (flags X O L : Bool) (hR : rightB ⟨11, S, D, N, M, A, I, J, U, F, C, Y, flags, X, O, L⟩ = true) (w : World) :
    Calls Tryz.prog 35 #[Ins.val ⟨11, S, D, N, M, A, I, J, U, F, C, Y, flags, X, O, L⟩] w fun e w' => e = .returned (strV (wordV ⟨11, S, D, N, M, A, I, J, U, F, C, Y, flags, X, O, L⟩)) ∧ Below w.heap.size w w' := by
  have G := fits hR
  have s0 : 0 ≤ S := Int.le_trans (show (0 : Int) ≤ (subS 11).lo by decide) G.s0
  have s1 : S ≤ 1 := Int.le_trans G.s1 (show (subS 11).hi ≤ 1 by decide)
  clear G hR
  rcases (by omega : S = 0 ∨ S = 1) with rfl | rfl
  all_goals
    cases flags
  all_goals
    go_enter Tryz.func35, Tryz.ntmps35
    go_wp2
    go_ret
    exact ⟨rfl, by repeat (first | exact Below.refl _ _ | apply below_more)⟩
set_option maxRecDepth 8000 in
set_option maxHeartbeats 2000000 in
theorem wd_12 (S D N M A I J U F C Y : Int) (flags X O L : Bool) (hR : rightB ⟨12, S, D, N, M, A, I, J, U, F, C, Y, flags, X, O, L⟩ = true) (w : World) :
    Calls Tryz.prog 35 #[Ins.val ⟨12, S, D, N, M, A, I, J, U, F, C, Y, flags, X, O, L⟩] w fun e w' => e = .returned (strV (wordV ⟨12, S, D, N, M, A, I, J, U, F, C, Y, flags, X, O, L⟩)) ∧ Below w.heap.size w w' := by
  clear hR
  all_goals
    cases flags <;> cases L
  all_goals
    go_enter Tryz.func35, Tryz.ntmps35
    go_wp2
    go_ret
    exact ⟨rfl, by repeat (first | exact Below.refl _ _ | apply below_more)⟩
set_option maxRecDepth 8000 in
set_option maxHeartbeats 2000000 in
theorem wd_13 (S D N M A I J U F C Y : Int) (flags X O L : Bool) (hR : rightB ⟨13, S, D, N, M, A, I, J, U, F, C, Y, flags, X, O, L⟩ = true) (w : World) :
    Calls Tryz.prog 35 #[Ins.val ⟨13, S, D, N, M, A, I, J, U, F, C, Y, flags, X, O, L⟩] w fun e w' => e = .returned (strV (wordV ⟨13, S, D, N, M, A, I, J, U, F, C, Y, flags, X, O, L⟩)) ∧ Below w.heap.size w w' := by
  have G := fits hR
  have c0 : 0 ≤ C := G.c0
  have c1 : C ≤ 15 := Int.le_trans G.c1 (show (condS 13).hi ≤ 15 by decide)
  have hl : (condT C).length ≤ 2 := cond_short c0 c1
  clear G hR
  all_goals
    cases flags
  all_goals
    go_enter Tryz.func35, Tryz.ntmps35
    go_wp2_with (go_at_call 34; refine (rcond_c C c0 c1 _).mono ?_; rintro e w' ⟨rfl, rfl⟩)
    go_ret
    exact ⟨congrArg Ending.returned (congrArg Value.string (str_cat [98, 46] _)), by repeat (first | exact Below.refl _ _ | apply below_more)⟩
set_option maxRecDepth 8000 in
set_option maxHeartbeats 2000000 in
theorem wd_14 (S D N M A I J U F C Y : Int) (flags X O L : Bool) (hR : rightB ⟨14, S, D, N, M, A, I, J, U, F, C, Y, flags, X, O, L⟩ = true) (w : World) :
    Calls Tryz.prog 35 #[Ins.val ⟨14, S, D, N, M, A, I, J, U, F, C, Y, flags, X, O, L⟩] w fun e w' => e = .returned (strV (wordV ⟨14, S, D, N, M, A, I, J, U, F, C, Y, flags, X, O, L⟩)) ∧ Below w.heap.size w w' := by
  clear hR
  all_goals
    cases flags <;> cases O
  all_goals
    go_enter Tryz.func35, Tryz.ntmps35
    go_wp2
    go_ret
    exact ⟨rfl, by repeat (first | exact Below.refl _ _ | apply below_more)⟩
set_option maxRecDepth 8000 in
set_option maxHeartbeats 2000000 in
theorem wd_15 (S D N M A I J U F C Y : Int) (flags X O L : Bool) (hR : rightB ⟨15, S, D, N, M, A, I, J, U, F, C, Y, flags, X, O, L⟩ = true) (w : World) :
    Calls Tryz.prog 35 #[Ins.val ⟨15, S, D, N, M, A, I, J, U, F, C, Y, flags, X, O, L⟩] w fun e w' => e = .returned (strV (wordV ⟨15, S, D, N, M, A, I, J, U, F, C, Y, flags, X, O, L⟩)) ∧ Below w.heap.size w w' := by
  clear hR
  all_goals
    cases flags <;> cases O
  all_goals
    go_enter Tryz.func35, Tryz.ntmps35
    go_wp2
    go_ret
    exact ⟨rfl, by repeat (first | exact Below.refl _ _ | apply below_more)⟩
set_option maxRecDepth 8000 in
set_option maxHeartbeats 2000000 in
theorem wd_16 (S D N M A I J U F C Y : Int) (flags X O L : Bool) (hR : rightB ⟨16, S, D, N, M, A, I, J, U, F, C, Y, flags, X, O, L⟩ = true) (w : World) :
    Calls Tryz.prog 35 #[Ins.val ⟨16, S, D, N, M, A, I, J, U, F, C, Y, flags, X, O, L⟩] w fun e w' => e = .returned (strV (wordV ⟨16, S, D, N, M, A, I, J, U, F, C, Y, flags, X, O, L⟩)) ∧ Below w.heap.size w w' := by
  have G := fits hR
  have s0 : 0 ≤ S := Int.le_trans (show (0 : Int) ≤ (subS 16).lo by decide) G.s0
  have s1 : S ≤ 2 := Int.le_trans G.s1 (show (subS 16).hi ≤ 2 by decide)
  clear G hR
  rcases (by omega : S = 0 ∨ S = 1 ∨ S = 2) with rfl | rfl | rfl
  all_goals
    cases flags
  all_goals
    go_enter Tryz.func35, Tryz.ntmps35
    go_wp2
    go_ret
    exact ⟨rfl, by repeat (first | exact Below.refl _ _ | apply below_more)⟩
end Go.Proofs.YtjmdgfimmjodjaaGreatDoor
