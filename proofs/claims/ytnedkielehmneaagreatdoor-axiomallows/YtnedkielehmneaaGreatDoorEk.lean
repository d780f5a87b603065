/- Check. -/
import Derived.Test.YtnedkielehmneaaGreatDoorEj
import Derived.Laws.ResultCell
namespace Go.Proofs.YtnedkielehmneaaGreatDoor
open Go.RowKit
open Go.Shelf
set_option linter.unusedVariables false
set_option linter.unusedSimpArgs false
set_option maxRecDepth 8000

open Axm
/-- The verdict, and what Check says. -/
abbrev verV (i e t : Bool) : Array Value := #[.bool i, .bool e, .bool t]
theorem rightE_len {n : Nat} {x : Nat → Ev} (h : rightE n x = 0) : n ≤ 64 := by
  unfold rightE at h
  by_cases k : 64 < n
  · rw [if_pos k] at h; cases h
  · omega
def VerAt (t : Nat) (cs : Array Value) (w : World) : Prop := w.heap[t]? = some (.cells cs 27)
theorem VerAt.lt {t : Nat} {cs : Array Value} {w : World} (h : VerAt t cs w) : t < w.heap.size := lt_of_some h
theorem VerAt.grow {t : Nat} {cs : Array Value} {w w' : World} (h : VerAt t cs w) (hb : Below w.heap.size w w') : VerAt t cs w' := by unfold VerAt; rw [hb.block _ h.lt]; exact h
theorem VerAt.cell {t : Nat} {cs : Array Value} {w : World} (h : VerAt t cs w) (j : Nat) : w.cell? ⟨t, j, none⟩ = cs[j]? := by rw [cell_of_row _ _ _ _ _ _ h]
theorem wpList_new27 {ops : Array Oper} {rest : List Oper} {o : Oper} {a : Act} {w : World} {Q : Exit → Act → World → Prop} (hg : o.guard = none) (ho : o.op = .alloc 27)
    (h : ∀ w', VerAt w.heap.size (verV false false false) w' → Below w.heap.size w w' → w'.heap.size = w.heap.size + 1 → wpList Tryz.prog ops Q rest (a.put o.dst (ptr w.heap.size 0)) w') : wpList Tryz.prog ops Q (o :: rest) a w :=
  wpList_alloc hg 27 ho (verV false false false) (by kernel_rfl) (h _ (World.alloc_heap_new w _) (below_alloc _ _) (World.size_alloc _ _))
theorem wpList_store27 {ops : Array Oper} {rest : List Oper} {o : Oper} {a : Act} {w : World} {Q : Exit → Act → World → Prop} (hg : o.guard = none) (x y : Operand) (ho : o.op = .store 27 x y) {q : Nat} {i e t i' e' t' : Bool} (hx : a.eval x = ptr q 0) (H : VerAt q (verV i e t) w) (hy : a.eval y = .agg (verV i' e' t'))
    (h : ∀ w', VerAt q (verV i' e' t') w' → Goes (fun k => k = q) w w' → w'.heap.size = w.heap.size → wpList Tryz.prog ops Q rest (a.put o.dst undef) w') : wpList Tryz.prog ops Q (o :: rest) a w :=
  wpList_store_row hg 27 x y ho q _ hx hy 27 _ H (by show _ = some 3; kernel_rfl) rfl (by simp only [List.all_toArray, List.all_cons, List.all_nil]; rfl) (h _ (setRow_heap _ _ _ _ _ _ H) (goes_setRow w (F := fun k => k = q) rfl _) (by simp))
theorem ver_load {t : Nat} {i e u : Bool} {w : World} (V : VerAt t (verV i e u) w) : (loadVar 27 ⟨t, 0, none⟩).run Tryz.prog w = .ok (.agg (verV i e u)) w :=
  run_loadVar_mid w t 0 27 (verV i e u).toList _ (fun j v hv => by rw [Nat.zero_add, V.cell]; simpa using hv) Tryz.underlying27 rfl (by show _ = some 3; kernel_rfl)
set_option maxHeartbeats 1000000 in
theorem check_no {w : World} {v : Value} {n : Nat} {x : Nat → Ev} (E : Evs w v n x) (h0 : rightE n x ≠ 0) : Calls Tryz.prog 12 #[v] w fun e w' => e = .returned (.tuple #[.agg (verV false false false), vI (rightE n x)]) ∧ Below w.heap.size w w' := by
  have k1 : ∀ W, Below w.heap.size w W → Calls Tryz.prog 13 #[v] W fun e w' => e = .returned (vI (rightE n x)) ∧ Below W.heap.size W w' := fun W hW => right_c (E.grow hW)
  generalize rightE n x = q at *
  have hq : (q != 0) = true := by simpa using h0
  clear E
  go_enter Tryz.func12, Tryz.ntmps12
  go_wp2_with (first | (with_reducible refine wpList_new27 rfl rfl ?_; intro w1 V1 hB1 hz1; simp only [Act.put, List.setIfInBounds_toArray, List.set_cons_succ, List.set_cons_zero]) | (go_at_call 13; with_reducible refine (k1 _ hB1).mono ?_; clear k1; rintro e w2 ⟨rfl, hB2⟩; replace V1 := V1.grow hB2; dsimp only) | (with_reducible refine wpList_store27 rfl _ _ rfl rfl V1 rfl ?_; intro w3 V3 hG3 hz3; simp only [Act.put, List.setIfInBounds_toArray, List.set_cons_succ, List.set_cons_zero]))
  have hB3 : Below w.heap.size w w3 := (hB1.trans (hB2.mono hB1.size)).trans (hG3.below (Nat.le_trans hB1.size hB2.size) (fun k hk => by rw [hk]; exact Nat.le_refl _))
  have d0 : w3.cell? ⟨w.heap.size, 0, none⟩ = some (.bool false) := V3.cell 0
  have d1 : w3.cell? ⟨w.heap.size, 1, none⟩ = some (.bool false) := V3.cell 1
  have d2 : w3.cell? ⟨w.heap.size, 2, none⟩ = some (.bool false) := V3.cell 2
  clear d0 d1 d2
  refine bodyPost_ret (v := .tuple #[.agg (verV false false false), vI q]) ?_ rfl ⟨rfl, hB3⟩
  have ha : (asAddr (ptr w.heap.size 0)).run Tryz.prog w3 = .ok ⟨w.heap.size, 0, none⟩ w3 := rfl
  rw [results_cell_tmp rfl]
  show (((asAddr (ptr w.heap.size 0)).run Tryz.prog w3).andThen _) = _
  rw [ha]
  simp only [Result.andThen_ok, ver_load V3]
  rfl
set_option maxHeartbeats 2000000 in
theorem check_ok {w : World} {v : Value} {n : Nat} {x : Nat → Ev} (E : Evs w v n x) (T : Tab w) (h0 : rightE n x = 0) : Calls Tryz.prog 12 #[v] w fun e w' => e = .returned (.tuple #[.agg (verV (intV n x) (extV n x) (atoV n x)), vI 0]) ∧ Below w.heap.size w w' := by
  have hn := rightE_len h0
  have k1 : ∀ W, Below w.heap.size w W → Calls Tryz.prog 13 #[v] W fun e w' => e = .returned (vI 0) ∧ Below W.heap.size W w' := fun W hW => by
    have := right_c (E.grow hW)
    rw [h0] at this
    exact this
  have k2 : ∀ W, Below w.heap.size w W → Calls Tryz.prog 31 #[v] W fun e w' => e = .returned (.bool (intV n x)) ∧ Below W.heap.size W w' := fun W hW => internal_c (E.grow hW) hn (T.grow hW)
  have k3 : ∀ W, Below w.heap.size w W → Calls Tryz.prog 32 #[v] W fun e w' => e = .returned (.bool (extV n x)) ∧ Below W.heap.size W w' := fun W hW => external_c (E.grow hW) hn (T.grow hW)
  have k4 : ∀ W, Below w.heap.size w W → Calls Tryz.prog 33 #[v] W fun e w' => e = .returned (.bool (atoV n x)) ∧ Below W.heap.size W w' := fun W hW => atomic_c (E.grow hW) hn (T.grow hW)
  generalize intV n x = i1 at *
  generalize extV n x = i2 at *
  generalize atoV n x = i3 at *
  clear E T
  go_enter Tryz.func12, Tryz.ntmps12
  go_wp2_with (first | (with_reducible refine wpList_new27 rfl rfl ?_; intro w1 V1 hB1 hz1; simp only [Act.put, List.setIfInBounds_toArray, List.set_cons_succ, List.set_cons_zero]) | (go_at_call 13; with_reducible refine (k1 _ hB1).mono ?_; clear k1; rintro e w2 ⟨rfl, hB2⟩; replace V1 := V1.grow hB2; replace hB1 := hB1.trans (hB2.mono hB1.size); dsimp only) | (go_at_call 31; with_reducible refine (k2 _ hB1).mono ?_; clear k2; rintro e w3 ⟨rfl, hB2⟩; replace V1 := V1.grow hB2; replace hB1 := hB1.trans (hB2.mono hB1.size); dsimp only) | (go_at_call 32; with_reducible refine (k3 _ hB1).mono ?_; clear k3; rintro e w4 ⟨rfl, hB2⟩; replace V1 := V1.grow hB2; replace hB1 := hB1.trans (hB2.mono hB1.size); dsimp only) | (go_at_call 33; with_reducible refine (k4 _ hB1).mono ?_; clear k4; rintro e w5 ⟨rfl, hB2⟩; replace V1 := V1.grow hB2; replace hB1 := hB1.trans (hB2.mono hB1.size); dsimp only) | (with_reducible refine wpList_store27 rfl _ _ rfl rfl V1 rfl ?_; intro w6 V3 hG3 hz3; simp only [Act.put, List.setIfInBounds_toArray, List.set_cons_succ, List.set_cons_zero]))
  have hB3 : Below w.heap.size w w6 := hB1.trans (hG3.below hB1.size (fun k hk => by rw [hk]; exact Nat.le_refl _))
  refine bodyPost_ret (v := .tuple #[.agg (verV i1 i2 i3), vI 0]) ?_ rfl ⟨rfl, hB3⟩
  have ha : (asAddr (ptr w.heap.size 0)).run Tryz.prog w6 = .ok ⟨w.heap.size, 0, none⟩ w6 := rfl
  rw [results_cell_tmp rfl]
  show (((asAddr (ptr w.heap.size 0)).run Tryz.prog w6).andThen _) = _
  rw [ha]
  simp only [Result.andThen_ok, ver_load V3]
  rfl
end Go.Proofs.YtnedkielehmneaaGreatDoor
