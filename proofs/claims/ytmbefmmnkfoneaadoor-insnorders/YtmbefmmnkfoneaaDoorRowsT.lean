/- Rows of texts, and what is known of the numbers of an instruction that is right. -/
import Derived.Test.YtmbefmmnkfoneaaDoorStrs
namespace Go.Proofs.YtmbefmmnkfoneaaDoor
open Go.RowKit Go.Rel

def inS (s : Span) : Prop := -9223372036854775808 ≤ s.lo ∧ s.hi ≤ 9223372036854775807
theorem inS_bif {b : Bool} {x y : Span} (hx : inS x) (hy : inS y) : inS (bif b then x else y) := by cases b <;> assumption
theorem inS_up {n : Int} (h : n ≤ 9223372036854775807) : inS (upToS n) := ⟨by show (-9223372036854775808 : Int) ≤ 0; decide, h⟩
theorem inS_zero : inS zeroS := ⟨by decide, by decide⟩
theorem inS_br (m : Int) : inS (brS m) := inS_bif ⟨by decide, by decide⟩ (inS_bif ⟨by decide, by decide⟩ ⟨by decide, by decide⟩)
theorem inS_imm (op sub : Int) : inS (immS op sub) := inS_bif (inS_up (by decide)) (inS_bif (inS_up (by decide)) (inS_bif (inS_up (by decide)) (inS_bif (inS_bif ⟨by decide, by decide⟩ ⟨by decide, by decide⟩) (inS_bif (inS_br _) (inS_bif (inS_br _) (inS_bif (inS_br _) (inS_bif ⟨by decide, by decide⟩ (inS_bif ⟨by decide, by decide⟩ (inS_bif (inS_up (by decide)) (inS_bif (inS_up (by decide)) inS_zero))))))))))
theorem inS_imm2 (op : Int) : inS (imm2S op) := inS_bif (inS_up (by decide)) inS_zero
theorem inS_amount (op : Int) : inS (amountS op) := inS_bif ⟨by decide, by decide⟩ (inS_bif (inS_up (by decide)) (inS_bif (inS_up (by decide)) (inS_bif ⟨by decide, by decide⟩ (inS_bif ⟨by decide, by decide⟩ inS_zero))))
structure Num (i : Ins) : Prop where
  i0 : -9223372036854775808 ≤ i.imm
  i1 : i.imm ≤ 9223372036854775807
  j0 : -9223372036854775808 ≤ i.imm2
  j1 : i.imm2 ≤ 9223372036854775807
  k0 : -9223372036854775808 ≤ i.amount
  k1 : i.amount ≤ 9223372036854775807
  y0 : -9223372036854775808 ≤ i.sys
  y1 : i.sys ≤ 9223372036854775807
theorem sys_in {op n : Int} (h : rightSysB op n = true) : -9223372036854775808 ≤ n ∧ n ≤ 9223372036854775807 := by
  unfold rightSysB at h
  cases hq : (op != 31 && op != 32) <;> rw [hq] at h
  · simp only [cond_false, sysB, Bool.or_eq_true, beq_iff_eq] at h
    omega
  · simp only [cond_true, beq_iff_eq] at h
    omega
theorem num_of {i : Ins} (R : rightB i = true) : Num i := by
  have F := fits R
  have a := inS_imm i.op i.sub
  have b := inS_imm2 i.op
  have c := inS_amount i.op
  have d := sys_in F.y
  exact ⟨Int.le_trans a.1 F.i0, Int.le_trans F.i1 a.2, Int.le_trans b.1 F.j0, Int.le_trans F.j1 b.2, Int.le_trans c.1 F.k0, Int.le_trans F.k1 c.2, d.1, d.2⟩

/-- The instruction's box, and the table of powers of ten. -/
structure OneT (i : Ins) (w0 w : World) : Prop where
  one : One i w0 w
  tab : Tab w
theorem OneT.grow {i : Ins} {w0 w w' : World} (h : OneT i w0 w) (hb : Below w.heap.size w w') : OneT i w0 w' := ⟨h.one.grow hb, h.tab.grow hb⟩
theorem OneT.up (i : Ins) (w0 : World) : Up Grows (fun w => OneT i w0 w) := fun _ _ h hb => h.grow hb
theorem below_drawn (w : World) : Below w.heap.size w { w with drawn := w.drawn + 1 } := ⟨rfl, rfl, rfl, Nat.le_refl _, fun _ _ => rfl⟩
theorem OneT.drew {i : Ins} {w0 w : World} (h : OneT i w0 w) : OneT i w0 { w with drawn := w.drawn + 1 } := h.grow (below_drawn w)
theorem oneT_start (i : Ins) (w : World) (T : Tab w) : OneT i w (w.alloc (.cells i.cells 23)) := ⟨one_start i w, T.grow (below_alloc _ _)⟩
theorem OneT.size {i : Ins} {w0 w : World} (h : OneT i w0 w) : w0.heap.size ≤ w.heap.size := h.one.below.size

theorem str_info : ∃ i0, Tryd.prog.info? 9 = some i0 ∧ i0.zero = some (.string ⟨#[]⟩) ∧ i0.size = 1 ∧ i0.bytes = 16 := by
  have h : (Tryd.prog.info? 9).map (fun i => (i.zero, i.size, i.bytes)) = some (some (.string ⟨#[]⟩), 1, 16) := by kernel_rfl
  cases hq : Tryd.prog.info? 9 with
  | none => rw [hq] at h; cases h
  | some i =>
    rw [hq] at h
    simp only [Option.map_some, Option.some.injEq, Prod.mk.injEq] at h
    exact ⟨i, rfl, h.1, h.2.1, h.2.2⟩

theorem wpList_append_rows {ops : Array Oper} {rest : List Oper} {o : Oper} {a : Act} {w : World} {Q : Exit → Act → World → Prop} (hgd : o.guard = none) (s x : Operand)
    (ho : o.op = .call { callee := .builtin .append, args := #[s, x], argTypes := #[44, 44] }) (w0 : World) (xs ys : List Tx) (v u : Value) (hs : a.eval s = v) (hx : a.eval x = u)
    (hv : RowT w0.heap.size xs v w) (hu : RowT w0.heap.size ys u w) (hb : Below w0.heap.size w0 w) (hlen : xs.length + ys.length ≤ 1000)
    (h : ∀ v' w', RowT w0.heap.size (xs ++ ys) v' w' → Below w0.heap.size w0 w' → wpList Tryd.prog ops Q rest (a.put o.dst v') w') : wpList Tryd.prog ops Q (o :: rest) a w := by
  obtain ⟨i0, hi, hz0, hz1, hz2⟩ := str_info
  have cat : ∀ v' w', w'.ownsRow w0.heap.size 9 1 v' (xs.length + ys.length) (xs.map strV ++ ys.map strV) → RowT w0.heap.size (xs ++ ys) v' w' := fun v' w' h => by
    show w'.ownsRow _ _ _ _ _ _
    rw [List.length_append, List.map_append]
    exact h
  rcases hu.2 with ⟨rfl, h0⟩ | ⟨g, cap, cur, rfl, hg, hc, hcap, -⟩
  · have hy : ys = [] := List.length_eq_zero_iff.1 h0
    subst hy
    refine wpList_append_own_none hgd s x 44 ho w0.heap.size 9 i0 1 Tryd.underlying44 hi v xs.length _ hs hv hx (h v w ?_ hb)
    rw [List.append_nil]
    exact hv
  · refine wpList_append_own w hgd s x 44 ho w0.heap.size 9 i0 (.string ⟨#[]⟩) 1 16 Tryd.underlying44 hi hz0 hz1 hz2 rfl (by decide) v xs.length _ hs hv ⟨g, 0, none⟩ ys.length cap (ys.map strV) hx (by simp) (World.ownsRow.cells hu rfl) ?_ (by unfold maxLen; omega) (by omega) hb.size ?_
    · intro q hq
      obtain ⟨y, -, rfl⟩ := List.mem_map.1 hq
      rfl
    · intro v' w' h1 hgrow _
      exact h v' w' (cat v' w' h1) (hb.grown hgrow hb.size (fun b hb' => (World.ownsRow.lt hv b hb').1))
theorem row_at (w : World) (xs : List Tx) (h1 : xs.length ≤ 1000) (base : Nat) (hb : base ≤ w.heap.size) (b : Nat) (h : b = w.heap.size) : RowT base xs (.slice (some ⟨b, 0, none⟩) xs.length xs.length) (w.alloc (.cells (xs.map strV).toArray 9)) := by
  subst h; exact row_new w xs h1 base hb
theorem le1 {x : Tx} (hx : x.length ≤ 100) : ∀ z ∈ [x], z.length ≤ 100 := fun z hz => by simp at hz; rw [hz]; exact hx
theorem le2 {x y : Tx} (hx : x.length ≤ 100) (hy : y.length ≤ 100) : ∀ z ∈ [x, y], z.length ≤ 100 := fun z hz => by
  simp at hz
  rcases hz with rfl | rfl <;> assumption
theorem le3 {x y t : Tx} (hx : x.length ≤ 100) (hy : y.length ≤ 100) (ht : t.length ≤ 100) : ∀ z ∈ [x, y, t], z.length ≤ 100 := fun z hz => by
  simp at hz
  rcases hz with rfl | rfl | rfl <;> assumption
end Go.Proofs.YtmbefmmnkfoneaaDoor
