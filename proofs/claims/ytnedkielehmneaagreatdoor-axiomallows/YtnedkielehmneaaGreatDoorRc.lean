/- A relation, as the machine's blocks hold it; laws of the operations on it. -/
import Derived.Test.YtnedkielehmneaaGreatDoorRb
import Derived.Laws.Tables
import Derived.Great.BuildSlice
namespace Go.Proofs.YtnedkielehmneaaGreatDoor
open Go.RowKit
set_option linter.unusedVariables false
set_option linter.unusedSimpArgs false
set_option maxRecDepth 8000

/-- Sixty-four words. -/
def rl (f : Nat → Nat) : List Value := (List.range 64).map fun a => vU (f a)
def up (f : Nat → Nat) (j x : Nat) : Nat → Nat := fun i => if i = j then x else f i
theorem rl_len (f : Nat → Nat) : (rl f).length = 64 := by simp [rl]
theorem rl_get (f : Nat → Nat) {a : Nat} (h : a < 64) : (rl f)[a]? = some (vU (f a)) := by simp [rl, h]
theorem rl_set (f : Nat → Nat) {j : Nat} (hj : j < 64) (x : Nat) : (rl f).set j (vU x) = rl (up f j x) := by
  apply List.ext_getElem?
  intro i
  rw [List.getElem?_set]
  by_cases e : j = i
  · subst e
    rw [if_pos rfl, if_pos (by rw [rl_len]; exact hj), rl_get _ hj]; simp [up]
  · rw [if_neg e]
    by_cases h : i < 64
    · rw [rl_get _ h, rl_get _ h, up, if_neg (fun h => e h.symm)]
    · rw [List.getElem?_eq_none (by rw [rl_len]; omega), List.getElem?_eq_none (by rw [rl_len]; omega)]
theorem rl_congr {f g : Nat → Nat} (h : ∀ a, a < 64 → f a = g a) : rl f = rl g := by
  unfold rl
  apply List.map_congr_left
  intro a ha
  rw [h a (List.mem_range.1 ha)]
/-- A block with a size and sixty-four words; sixty-four words alone. -/
def RowAt (r n : Nat) (f : Nat → Nat) (w : World) : Prop := w.heap[r]? = some (.cells (vI n :: rl f).toArray 97)
def ArrAt (r : Nat) (f : Nat → Nat) (w : World) : Prop := w.heap[r]? = some (.cells (rl f).toArray 95)
section
variable {r n : Nat} {f : Nat → Nat} {w w' : World}
theorem RowAt.lt (h : RowAt r n f w) : r < w.heap.size := lt_of_some h
theorem RowAt.keep (h : RowAt r n f w) (hb : w'.heap[r]? = w.heap[r]?) : RowAt r n f w' := by unfold RowAt; rw [hb]; exact h
theorem RowAt.grow (h : RowAt r n f w) (hb : Below w.heap.size w w') : RowAt r n f w' := h.keep (hb.block _ h.lt)
theorem RowAt.turn {B : Nat} (h : RowAt r n f w) (hb : Rg.Turn B w w') : RowAt r n f w' := hb.cells h
theorem RowAt.c0 (h : RowAt r n f w) : w.cell? ⟨r, 0, none⟩ = some (vI n) := by rw [cell_of_row _ _ _ _ _ _ h]; rfl
theorem RowAt.cell (h : RowAt r n f w) {a : Nat} (ha : a < 64) : w.cell? ⟨r, 1 + a, none⟩ = some (vU (f a)) := by
  rw [cell_of_row _ _ _ _ _ _ h, Nat.add_comm]
  simp [rl_get f ha]
theorem RowAt.frz (h : RowAt r n f w) (j : Nat) : w.frozen? ⟨r, j, none⟩ = false := frozen_of_row _ _ _ _ _ h
theorem RowAt.put (h : RowAt r n f w) {j : Nat} (hj : j < 64) (x : Nat) : RowAt r n (up f j x) (w.setCell ⟨r, 1 + j, none⟩ (vU x)) := by
  have e := heap_setCell_same w r (1 + j) _ 97 (vU x) h
  unfold RowAt
  rw [e, Nat.add_comm]
  congr 2
  apply Array.ext'
  simp [rl_set f hj x]
theorem RowAt.congr (h : RowAt r n f w) {g : Nat → Nat} (e : ∀ a, a < 64 → f a = g a) : RowAt r n g w := by
  unfold RowAt at *
  rw [← rl_congr e]; exact h
theorem ArrAt.lt (h : ArrAt r f w) : r < w.heap.size := lt_of_some h
theorem ArrAt.keep (h : ArrAt r f w) (hb : w'.heap[r]? = w.heap[r]?) : ArrAt r f w' := by unfold ArrAt; rw [hb]; exact h
theorem ArrAt.grow (h : ArrAt r f w) (hb : Below w.heap.size w w') : ArrAt r f w' := h.keep (hb.block _ h.lt)
theorem ArrAt.turn {B : Nat} (h : ArrAt r f w) (hb : Rg.Turn B w w') : ArrAt r f w' := hb.cells h
theorem ArrAt.cell (h : ArrAt r f w) {a : Nat} (ha : a < 64) : w.cell? ⟨r, a, none⟩ = some (vU (f a)) := by
  rw [cell_of_row _ _ _ _ _ _ h]
  simp [rl_get f ha]
theorem ArrAt.frz (h : ArrAt r f w) (j : Nat) : w.frozen? ⟨r, j, none⟩ = false := frozen_of_row _ _ _ _ _ h
theorem ArrAt.put (h : ArrAt r f w) {j : Nat} (hj : j < 64) (x : Nat) : ArrAt r (up f j x) (w.setCell ⟨r, j, none⟩ (vU x)) := by
  have e := heap_setCell_same w r j _ 95 (vU x) h
  unfold ArrAt
  rw [e]
  congr 2
  apply Array.ext'
  simp [rl_set f hj x]
end
/-- A row of a relation as a word. -/
def rwd (R : Nat → Nat → Bool) (a : Nat) : Nat := Bit.orN (R a) 64
theorem rwd_lt (R : Nat → Nat → Bool) (a : Nat) : rwd R a < 2 ^ 64 := Bit.orN_lt _ 64
theorem rwd_test (R : Nat → Nat → Bool) (a b : Nat) : (rwd R a).testBit b = (decide (b < 64) && R a b) := Bit.test_orN _ _ _
theorem rwd_eq {R : Nat → Nat → Bool} {a v : Nat} (hv : v < 2 ^ 64) (h : ∀ b, b < 64 → R a b = v.testBit b) : rwd R a = v := by
  unfold rwd
  rw [Bit.orN_congr 64 (g := v.testBit) h]
  exact Bit.orN_all hv
structure RelAt (r n : Nat) (R : Nat → Nat → Bool) (w : World) : Prop where
  row : RowAt r n (rwd R) w
  fit : Rlw.Fits n R
  le : n ≤ 64
section
variable {r n : Nat} {R : Nat → Nat → Bool} {w w' : World}
theorem RelAt.lt (h : RelAt r n R w) : r < w.heap.size := h.row.lt
theorem RelAt.keep (h : RelAt r n R w) (hb : w'.heap[r]? = w.heap[r]?) : RelAt r n R w' := ⟨h.row.keep hb, h.fit, h.le⟩
theorem RelAt.grow (h : RelAt r n R w) (hb : Below w.heap.size w w') : RelAt r n R w' := ⟨h.row.grow hb, h.fit, h.le⟩
theorem RelAt.turn {B : Nat} (h : RelAt r n R w) (hb : Rg.Turn B w w') : RelAt r n R w' := ⟨h.row.turn hb, h.fit, h.le⟩
theorem RelAt.test (h : RelAt r n R w) (a b : Nat) : (rwd R a).testBit b = R a b := by
  rw [rwd_test]
  cases e : R a b with
  | false => simp
  | true => have := (h.fit a b e).2; have := h.le; simp; omega
end
/-- The laws. -/
theorem wpList_built {P : Program} {ops : Array Oper} {rest : List Oper} {o : Oper} {a : Act} {w : World} {Q : Exit → Act → World → Prop} (hg : o.guard = none) (t : TypeId) (parts : Array (Nat × Operand)) (ho : o.op = .build t parts)
    (cs : Array Value) (hf : P.built t (parts.map fun (i, x) => (i, a.eval x)).toList = some cs)
    (h : wpList P ops Q rest (a.put o.dst (.agg cs)) w) : wpList P ops Q (o :: rest) a w :=
  wpList_build hg t parts ho (by rw [hf]; rfl) (by rw [hf]; exact h)
theorem wpList_box {P : Program} {ops : Array Oper} {rest : List Oper} {o : Oper} {a : Act} {w : World} {Q : Exit → Act → World → Prop} (hg : o.guard = none) (t : TypeId) (x : Operand) (ho : o.op = .box t x) (cs : Array Value) (hx : a.eval x = .agg cs)
    (h : wpList P ops Q rest (a.put o.dst (ptr w.heap.size 0)) (w.alloc (.cells cs t))) : wpList P ops Q (o :: rest) a w :=
  wpList_plain hg fun _ hK => by
    unfold Oper.wp execOp
    simp only [ho, Sem.run_bind, Instr.box, newVar, newRow, run_newObj_alloc, Sem.run_pure, Result.andThen_ok, hx]
    exact hK _ _ h
theorem zero70 (n : Nat) : Tryz.prog.built 97 [(0, vI n)] = some (vI n :: rl (fun _ => 0)).toArray := by kernel_rfl
theorem wpList_new70 {ops : Array Oper} {rest : List Oper} {o : Oper} {a : Act} {w : World} {Q : Exit → Act → World → Prop} (hg : o.guard = none) (x : Operand) (ho : o.op = .build 97 #[(0, x)]) (n : Nat) (hx : a.eval x = vI n)
    (h : wpList Tryz.prog ops Q rest (a.put o.dst (.agg (vI n :: rl (fun _ => 0)).toArray)) w) : wpList Tryz.prog ops Q (o :: rest) a w :=
  wpList_built hg 97 _ ho _ (by simp only [List.map_toArray, List.map_cons, List.map_nil, hx]; exact zero70 n) h
theorem wpList_box70 {ops : Array Oper} {rest : List Oper} {o : Oper} {a : Act} {w : World} {Q : Exit → Act → World → Prop} (hg : o.guard = none) (x : Operand) (ho : o.op = .box 97 x) (n : Nat) (f : Nat → Nat) (hx : a.eval x = .agg (vI n :: rl f).toArray)
    (h : ∀ w', RowAt w.heap.size n f w' → Below w.heap.size w w' → w'.heap.size = w.heap.size + 1 → wpList Tryz.prog ops Q rest (a.put o.dst (ptr w.heap.size 0)) w') : wpList Tryz.prog ops Q (o :: rest) a w :=
  wpList_box hg 97 x ho _ hx (h _ (World.alloc_heap_new w _) (below_alloc _ _) (World.size_alloc _ _))
theorem wpList_load68 {ops : Array Oper} {rest : List Oper} {o : Oper} {a : Act} {w : World} {Q : Exit → Act → World → Prop} (hg : o.guard = none) (x : Operand) (ho : o.op = .load 95 x) {r n : Nat} {f : Nat → Nat} (hx : a.eval x = .pointer (some ⟨r, 1, none⟩)) (H : RowAt r n f w)
    (h : wpList Tryz.prog ops Q rest (a.put o.dst (.agg (rl f).toArray)) w) : wpList Tryz.prog ops Q (o :: rest) a w :=
  wpList_load_mid hg 95 x ho r 1 hx (rl f) _ (fun j v hv => by
    have hj : j < 64 := by have := (List.getElem?_eq_some_iff.1 hv).1; rwa [rl_len] at this
    rw [rl_get f hj] at hv
    rw [H.cell hj]; exact hv) Tryz.underlying95 rfl (by rw [rl_len]; kernel_rfl) h
theorem run_index68 {f : Nat → Nat} {k : Nat} (hk : k < 64) (w : World) : (Instr.index 95 (.agg (rl f).toArray) (vI k)).run Tryz.prog w = .ok (vU (f k)) w := by
  have e := rl_get f hk
  have hs : (Tryz.prog.info? 94).map (·.size) = some 1 := by kernel_rfl
  cases hq : Tryz.prog.info? 94 with
  | none => rw [hq] at hs; cases hs
  | some i =>
    rw [hq] at hs
    have h1 : i.size = 1 := by simpa using hs
    have hk2 : (k : Int) < 64 := by omega
    unfold Instr.index
    simp [run_underlying Tryz.underlying95, asIntOf, sizeOf, typeInfo, hq, h1, hk2, hk, part, isAgg, run_underlying Tryz.underlying94, e]
theorem wpList_index68 {ops : Array Oper} {rest : List Oper} {o : Oper} {a : Act} {w : World} {Q : Exit → Act → World → Prop} (hg : o.guard = none) (x y : Operand) (ho : o.op = .index 95 x y) {f : Nat → Nat} (hx : a.eval x = .agg (rl f).toArray) (k : Nat) (hk : k < 64) (hy : a.eval y = vI k)
    (h : wpList Tryz.prog ops Q rest (a.put o.dst (vU (f k))) w) : wpList Tryz.prog ops Q (o :: rest) a w :=
  wpList_plain hg fun _ hK => by
    unfold Oper.wp execOp
    simp only [ho, hx, hy, Sem.run_bind, run_index68 hk, Result.andThen_ok]
    exact hK _ _ h
theorem hasThing_c {r n : Nat} {f : Nat → Nat} {w : World} (H : RowAt r n f w) (x : Int) : Calls Tryz.prog 143 #[ptr r 0, vI x] w fun e w' => e = .returned (.bool (decide (0 ≤ x) && decide (x < n))) ∧ w' = w := by
  have c0 := H.c0
  clear H
  by_cases h1 : 0 ≤ x
  · rw [decide_eq_true h1]
    go_enter Tryz.func143, Tryz.ntmps143
    go_wp2
    go_ret
    exact ⟨rfl, rfl⟩
  · rw [decide_eq_false h1]
    go_enter Tryz.func143, Tryz.ntmps143
    go_wp2
    go_ret
    exact ⟨rfl, rfl⟩
end Go.Proofs.YtnedkielehmneaaGreatDoor
