/- What is left is right and rests. -/
import Derived.Test.YtilbnjldfgofmaaYb
namespace Go.Proofs.Ytilbnjldfgofmaa
open Go.RowKit
set_option linter.unusedVariables false
set_option linter.unusedSimpArgs false
set_option maxRecDepth 8000

def ImmOk (l : List Opr) : Prop := ∀ k, 0 ≤ (opAt l k).imm
theorem imm_mem {l : List Opr} : ImmOk l ↔ ∀ o ∈ l, 0 ≤ o.imm := by
  constructor
  · intro h o ho
    obtain ⟨i, hi⟩ := List.getElem?_of_mem ho
    have := h i
    rwa [opAt_of hi] at this
  · intro h k
    unfold opAt
    cases e : l[k]? with
    | none => decide
    | some o => exact h o (List.mem_of_getElem? e)
theorem imm_pick {l : List Opr} (h : ImmOk l) (p : List Nat) : ImmOk (pickL l p) := by
  rw [imm_mem]
  intro o ho
  unfold pickL at ho
  obtain ⟨i, -, rfl⟩ := List.mem_map.1 ho
  exact h i
theorem imm_orL {l : List Opr} (h : ImmOk l) (j : Nat) (r : Int) : ImmOk (orL l j r) := by
  rw [imm_mem]
  intro o ho
  unfold orL at ho
  rcases List.mem_or_eq_of_mem_set ho with q | rfl
  · exact imm_mem.1 h o q
  · exact h j
theorem imm_subst {l : List Opr} (h : ImmOk l) (k v : Nat) : ImmOk (substL l k v) := by
  rw [imm_mem]
  intro o ho
  unfold substL at ho
  obtain ⟨q, hq, rfl⟩ := List.mem_map.1 ho
  exact imm_mem.1 h q hq
section
variable {pc words el : Int} {l m : List Opr}
theorem imm_merge {k : Nat} (h : ImmOk l) (e : mergeR l k = some m) : ImmOk m := by
  unfold mergeR at e
  rw [Option.map_eq_some_iff] at e
  obtain ⟨j, -, rfl⟩ := e
  exact imm_pick (imm_orL h _ _) _
theorem imm_loads {k : Nat} (h : ImmOk l) (e : loadsR l k = some m) : ImmOk m := by
  unfold loadsR at e
  rw [Option.or_eq_some_iff] at e
  rcases e with e | ⟨-, e⟩
  · unfold againR at e
    rw [Option.map_eq_some_iff] at e
    obtain ⟨j, -, rfl⟩ := e
    exact imm_pick (imm_subst h _ _) _
  · unfold overR at e
    rw [Option.map_eq_some_iff] at e
    obtain ⟨j, -, rfl⟩ := e
    exact imm_pick h _
theorem imm_move {k : Nat} (h : ImmOk l) (e : aheadR l k = some m) : ImmOk m := by
  unfold aheadR at e
  rw [Option.map_eq_some_iff] at e
  obtain ⟨j, -, rfl⟩ := e
  exact imm_pick h _
theorem merge_rests (h : rightB pc words el l = true) (hi : ImmOk l) : rightB pc words el (mergeL l) = true ∧ ImmOk (mergeL l) ∧ mergeL (mergeL l) = mergeL l := by
  obtain ⟨a, b, c⟩ := run_all (T := fun a b => ImmOk a → ImmOk b) (good_merge (pc := pc) (words := words) (el := el)) (fun _ q => q) (fun _ _ _ p q r => q (p r)) (fun _ _ _ _ _ e q => imm_merge q e) l.length l h (Nat.le_refl _)
  exact ⟨a, c hi, run_none b _⟩
theorem loads_rests (h : rightB pc words el l = true) (hi : ImmOk l) : rightB pc words el (loadsL l) = true ∧ ImmOk (loadsL l) ∧ loadsL (loadsL l) = loadsL l := by
  obtain ⟨a, b, c⟩ := run_all (T := fun a b => ImmOk a → ImmOk b) (good_loads (pc := pc) (words := words) (el := el)) (fun _ q => q) (fun _ _ _ p q r => q (p r)) (fun _ _ _ _ _ e q => imm_loads q e) l.length l h (Nat.le_refl _)
  exact ⟨a, c hi, run_none b _⟩
theorem move_rests (h : rightB pc words el l = true) (hi : ImmOk l) : rightB pc words el (moveL l) = true ∧ ImmOk (moveL l) ∧ moveL (moveL l) = moveL l := by
  obtain ⟨a, b, c⟩ := run_all (T := fun a b => ImmOk a → ImmOk b) (good_ahead (pc := pc) (words := words) (el := el)) (fun _ q => q) (fun _ _ _ p q r => q (p r)) (fun _ _ _ _ _ e q => imm_move q e) (muL l) l h (Nat.le_refl _)
  exact ⟨a, c hi, run_none b _⟩
end
end Go.Proofs.Ytilbnjldfgofmaa
