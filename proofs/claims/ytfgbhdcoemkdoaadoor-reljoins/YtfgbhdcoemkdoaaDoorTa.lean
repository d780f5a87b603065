/- The document's relation: New, In, Add. -/
import Derived.Test.YtfgbhdcoemkdoaaDoorRl
namespace Go.Proofs.YtfgbhdcoemkdoaaDoor
open Go.RowKit
set_option linter.unusedVariables false
set_option linter.unusedSimpArgs false
set_option maxRecDepth 8000

/-- A table of who has whom. -/
def bl (T : Nat → Nat → Bool) : List Value := (List.range 4096).map fun i => .bool (T (i / 64) (i % 64))
def upT (T : Nat → Nat → Bool) (a b : Nat) (v : Bool) : Nat → Nat → Bool := fun x y => if x = a ∧ y = b then v else T x y
theorem bl_len (T : Nat → Nat → Bool) : (bl T).length = 4096 := by simp [bl]
theorem bl_get (T : Nat → Nat → Bool) {a b : Nat} (ha : a < 64) (hb : b < 64) : (bl T)[a * 64 + b]? = some (.bool (T a b)) := by
  have h1 : (a * 64 + b) / 64 = a := by omega
  have h2 : (a * 64 + b) % 64 = b := by omega
  have h3 : a * 64 + b < 4096 := by omega
  unfold bl
  rw [List.getElem?_map, List.getElem?_range h3]
  simp only [Option.map_some, h1, h2]
theorem bl_set (T : Nat → Nat → Bool) {a b : Nat} (ha : a < 64) (hb : b < 64) (v : Bool) : (bl T).set (a * 64 + b) (.bool v) = bl (upT T a b v) := by
  apply List.ext_getElem?
  intro i
  rw [List.getElem?_set]
  by_cases e : a * 64 + b = i
  · subst e
    rw [if_pos rfl, if_pos (by rw [bl_len]; omega), bl_get _ ha hb]; simp [upT]
  · rw [if_neg e]
    by_cases h : i < 4096
    · have e1 : i = (i / 64) * 64 + i % 64 := by omega
      have g1 := bl_get T (a := i / 64) (b := i % 64) (by omega) (by omega)
      have g2 := bl_get (upT T a b v) (a := i / 64) (b := i % 64) (by omega) (by omega)
      rw [← e1] at g1 g2
      rw [g1, g2, upT, if_neg (by omega)]
    · rw [List.getElem?_eq_none (by rw [bl_len]; omega), List.getElem?_eq_none (by rw [bl_len]; omega)]
theorem bl_congr {T U : Nat → Nat → Bool} (h : ∀ a b, a < 64 → b < 64 → T a b = U a b) : bl T = bl U := by
  unfold bl
  apply List.map_congr_left
  intro i hi
  have := List.mem_range.1 hi
  rw [h _ _ (by omega) (by omega)]
structure RefAt (x n : Nat) (T : Nat → Nat → Bool) (w : World) : Prop where
  row : w.heap[x]? = some (.cells (vI n :: bl T).toArray 38)
  le : n ≤ 64
section
variable {x n : Nat} {T : Nat → Nat → Bool} {w w' : World}
theorem RefAt.lt (h : RefAt x n T w) : x < w.heap.size := lt_of_some h.row
theorem RefAt.keep (h : RefAt x n T w) (hb : w'.heap[x]? = w.heap[x]?) : RefAt x n T w' := ⟨by rw [hb]; exact h.row, h.le⟩
theorem RefAt.grow (h : RefAt x n T w) (hb : Below w.heap.size w w') : RefAt x n T w' := h.keep (hb.block _ h.lt)
theorem RefAt.c0 (h : RefAt x n T w) : w.cell? ⟨x, 0, none⟩ = some (vI n) := by rw [cell_of_row _ _ _ _ _ _ h.row]; rfl
theorem RefAt.cell (h : RefAt x n T w) {a b : Nat} (ha : a < 64) (hb : b < 64) : w.cell? ⟨x, 1 + a * 64 + b, none⟩ = some (.bool (T a b)) := by
  rw [cell_of_row _ _ _ _ _ _ h.row, show 1 + a * 64 + b = (a * 64 + b) + 1 by omega]
  simp [bl_get T ha hb]
theorem RefAt.frz (h : RefAt x n T w) (j : Nat) : w.frozen? ⟨x, j, none⟩ = false := frozen_of_row _ _ _ _ _ h.row
theorem RefAt.put (h : RefAt x n T w) {a b : Nat} (ha : a < 64) (hb : b < 64) (v : Bool) : RefAt x n (upT T a b v) (w.setCell ⟨x, 1 + a * 64 + b, none⟩ (.bool v)) := by
  refine ⟨?_, h.le⟩
  have e := heap_setCell_same w x (1 + a * 64 + b) _ 38 (.bool v) h.row
  rw [e, show 1 + a * 64 + b = (a * 64 + b) + 1 by omega]
  congr 2
  apply Array.ext'
  simp [bl_set T ha hb v]
theorem RefAt.congr (h : RefAt x n T w) {U : Nat → Nat → Bool} (e : ∀ a b, a < 64 → b < 64 → T a b = U a b) : RefAt x n U w := ⟨by rw [← bl_congr e]; exact h.row, h.le⟩
end
theorem zero38 (n : Nat) : Tryd.prog.built 38 [(0, vI n)] = some (vI n :: bl (fun _ _ => false)).toArray := by kernel_rfl
theorem wpList_new38 {ops : Array Oper} {rest : List Oper} {o : Oper} {a : Act} {w : World} {Q : Exit → Act → World → Prop} (hg : o.guard = none) (x : Operand) (ho : o.op = .build 38 #[(0, x)]) (n : Nat) (hx : a.eval x = vI n)
    (h : wpList Tryd.prog ops Q rest (a.put o.dst (.agg (vI n :: bl (fun _ _ => false)).toArray)) w) : wpList Tryd.prog ops Q (o :: rest) a w :=
  wpList_built hg 38 _ ho _ (by simp only [List.map_toArray, List.map_cons, List.map_nil, hx]; exact zero38 n) h
theorem wpList_box38 {ops : Array Oper} {rest : List Oper} {o : Oper} {a : Act} {w : World} {Q : Exit → Act → World → Prop} (hg : o.guard = none) (x : Operand) (ho : o.op = .box 38 x) (n : Nat) (hn : n ≤ 64) (T : Nat → Nat → Bool) (hx : a.eval x = .agg (vI n :: bl T).toArray)
    (h : ∀ w', RefAt w.heap.size n T w' → Below w.heap.size w w' → w'.heap.size = w.heap.size + 1 → wpList Tryd.prog ops Q rest (a.put o.dst (ptr w.heap.size 0)) w') : wpList Tryd.prog ops Q (o :: rest) a w :=
  wpList_box hg 38 x ho _ hx (h _ ⟨World.alloc_heap_new w _, hn⟩ (below_alloc _ _) (World.size_alloc _ _))
theorem docIn_c {x n : Nat} {T : Nat → Nat → Bool} {w : World} (H : RefAt x n T w) (y : Int) : Calls Tryd.prog 12 #[ptr x 0, vI y] w fun e w' => e = .returned (.bool (inB n y)) ∧ w' = w := by
  have c0 := H.c0
  clear H
  unfold inB
  by_cases h1 : 0 ≤ y
  · rw [decide_eq_true h1]
    go_enter Tryd.func12, Tryd.ntmps12
    go_wp2
    go_ret
    exact ⟨rfl, rfl⟩
  · rw [decide_eq_false h1]
    go_enter Tryd.func12, Tryd.ntmps12
    go_wp2
    go_ret
    exact ⟨rfl, rfl⟩
theorem docNew_bad {n : Int} (h : newE n ≠ 0) (w : World) : Calls Tryd.prog 40 #[vI n] w fun e w' => e = .returned (.tuple #[.pointer none, vI (newE n)]) ∧ w' = w := by
  unfold newE at *
  by_cases h1 : n < 0
  · rw [if_pos h1]
    clear h
    go_enter Tryd.func40, Tryd.ntmps40
    go_wp2
    go_ret2
    exact ⟨rfl, rfl⟩
  · rw [if_neg h1] at h ⊢
    by_cases h2 : n > 64
    · rw [if_pos h2]
      clear h
      go_enter Tryd.func40, Tryd.ntmps40
      go_wp2
      go_ret2
      exact ⟨rfl, rfl⟩
    · rw [if_neg h2] at h
      exact absurd rfl h
theorem docNew_ok {m : Nat} (h : m ≤ 64) (w : World) : Calls Tryd.prog 40 #[vI m] w fun e w' => ∃ r : Nat, e = .returned (.tuple #[ptr r 0, vI 0]) ∧ RefAt r m (fun _ _ => false) w' ∧ w.heap.size ≤ r ∧ Below w.heap.size w w' := by
  go_enter Tryd.func40, Tryd.ntmps40
  go_wp2_with (first | (with_reducible refine wpList_new38 rfl _ rfl m rfl ?_; simp only [Act.put, List.setIfInBounds_toArray, List.set_cons_succ, List.set_cons_zero]) | (with_reducible refine wpList_box38 rfl _ rfl m h (fun _ _ => false) rfl ?_; intro w1 hR hB hsz; simp only [Act.put, List.setIfInBounds_toArray, List.set_cons_succ, List.set_cons_zero]))
  go_ret2
  exact ⟨w.heap.size, rfl, hR, Nat.le_refl _, hB⟩
def DAddP (x n : Nat) (T : Nat → Nat → Bool) (a b : Int) (w : World) (e : Ending) (w' : World) : Prop := (inB n a && inB n b) = false ∧ e = .returned (vI 1) ∧ w' = w ∨ (inB n a && inB n b) = true ∧ e = .returned (vI 0) ∧ RefAt x n (Rlw.addR T a.toNat b.toNat) w' ∧ Goes (fun k => k = x) w w'
theorem docAdd_c {x n : Nat} {T : Nat → Nat → Bool} {w : World} (H : RefAt x n T w) (y z : Int) : Calls Tryd.prog 41 #[ptr x 0, vI y, vI z] w fun e w' => DAddP x n T y z w e w' := by
  have k1 := docIn_c H y
  have k2 := docIn_c H z
  cases h1 : inB n y with
  | false =>
    rw [h1] at k1
    clear k2
    go_enter Tryd.func41, Tryd.ntmps41
    go_wp2_with (first | (go_at_call 12; refine k1.mono ?_; clear k1; rintro e w ⟨rfl, rfl⟩; dsimp only))
    go_ret
    exact .inl ⟨by rw [h1]; rfl, rfl, rfl⟩
  | true =>
    rw [h1] at k1
    cases h2 : inB n z with
    | false =>
      rw [h2] at k2
      go_enter Tryd.func41, Tryd.ntmps41
      go_wp2_with (first | (go_at_call 12; with_reducible refine k1.mono ?_; clear k1; rintro e w ⟨rfl, rfl⟩; dsimp only) | (go_at_call 12; with_reducible refine k2.mono ?_; clear k2; rintro e w ⟨rfl, rfl⟩; dsimp only))
      go_ret
      exact .inl ⟨by rw [h1, h2]; rfl, rfl, rfl⟩
    | true =>
      rw [h2] at k2
      obtain ⟨a, rfl, ha⟩ := inB_nat h1
      obtain ⟨b, rfl, hb⟩ := inB_nat h2
      have hle := H.le
      have h12 : (inB n a && inB n b) = true := by rw [h1, h2]; rfl
      have ha2 : (a : Int) < 64 := by omega
      have hb2 : (b : Int) < 64 := by omega
      have cc := H.cell (a := a) (b := b) (by omega) (by omega)
      have cf := H.frz (1 + a * 64 + b)
      clear h1 h2
      go_enter Tryd.func41, Tryd.ntmps41
      go_wp2_with (first | (go_at_call 12; with_reducible refine k1.mono ?_; clear k1; rintro e w ⟨rfl, rfl⟩; dsimp only) | (go_at_call 12; with_reducible refine k2.mono ?_; clear k2; rintro e w ⟨rfl, rfl⟩; dsimp only))
      go_ret
      refine .inr ⟨h12, rfl, (H.put (a := a) (b := b) (by omega) (by omega) true).congr fun c d _ _ => ?_, goes_setCell w (F := fun k => k = x) rfl _ _⟩
      unfold upT Rlw.addR
      rw [Int.toNat_natCast, Int.toNat_natCast]
      by_cases e : c = a ∧ d = b
      · rw [if_pos e]; simp [e.1, e.2]
      · rw [if_neg e]
        have : (decide (c = a) && decide (d = b)) = false := by
          rw [Bool.eq_false_iff]; simpa using e
        rw [this, Bool.or_false]
end Go.Proofs.YtfgbhdcoemkdoaaDoor
