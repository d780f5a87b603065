/- What holds of a run all the time. -/
import Derived.Test.YtioeiogcejikbaaDoorJl
namespace Go.Proofs.YtioeiogcejikbaaDoor
open Go.RowKit
set_option linter.unusedVariables false
set_option linter.unusedSimpArgs false
set_option maxRecDepth 8000

/-- What holds of a run all the time. -/
structure Inv (n : Nat) (S : Rn) : Prop where
  le : S.next ≤ n
  g4 : S.go ≤ 4
  g1 : S.go ≠ 0 → 1 ≤ S.next
  gf : ¬ (S.guest = true ∧ S.flt = true)
  fl : S.guest = true ∨ S.flt = true → S.next = n ∧ S.go = 0
theorem new_inv (n : Nat) (c : Cor) : Inv n (newS n c) := ⟨Nat.zero_le _, Nat.zero_le _, fun h => absurd rfl h, fun h => by (cases h.1), fun h => by (rcases h with h | h <;> cases h)⟩
theorem Inv.off {n : Nat} {S : Rn} (h : Inv n S) (hn : S.next < n ∨ S.go ≠ 0) : S.guest = false ∧ S.flt = false := by
  constructor
  · cases e : S.guest with
    | false => rfl
    | true => have := h.fl (.inl e); exact absurd hn (fun hn => hn.elim (fun q => absurd this.1 (by omega)) (fun q => q this.2))
  · cases e : S.flt with
    | false => rfl
    | true => have := h.fl (.inr e); exact absurd hn (fun hn => hn.elim (fun q => absurd this.1 (by omega)) (fun q => q this.2))
theorem step_inv {l : List Opr} {S : Rn} (h : Inv l.length S) (h0 : S.go = 0) (hn : S.next < l.length) : Inv l.length (stepV l S) := by
  obtain ⟨hg, hf⟩ := h.off (.inl hn)
  unfold stepV carryV
  split
  · exact ⟨by show S.next + 1 ≤ _; omega, by show S.go ≤ 4; omega, fun h => absurd h0 h, fun h => by (have := h.1.symm.trans hg; cases this), fun h => by rcases h with h | h; exact absurd (h.symm.trans hg) (by decide); exact absurd (h.symm.trans hf) (by decide)⟩
  · exact ⟨by show S.next + 1 ≤ _; omega, by show S.go ≤ 4; omega, fun h => absurd h0 h, fun h => by (have := h.1.symm.trans hg; cases this), fun h => by rcases h with h | h; exact absurd (h.symm.trans hg) (by decide); exact absurd (h.symm.trans hf) (by decide)⟩
  · exact ⟨by show S.next + 1 ≤ _; omega, by show S.go ≤ 4; omega, fun h => absurd h0 h, fun h => by (have := h.1.symm.trans hg; cases this), fun h => by rcases h with h | h; exact absurd (h.symm.trans hg) (by decide); exact absurd (h.symm.trans hf) (by decide)⟩
  · exact ⟨by show S.next + 1 ≤ _; omega, by show S.go ≤ 4; omega, fun h => absurd h0 h, fun h => by (have := h.1.symm.trans hg; cases this), fun h => by rcases h with h | h; exact absurd (h.symm.trans hg) (by decide); exact absurd (h.symm.trans hf) (by decide)⟩
  · unfold Rn.setSP
    split
    · exact ⟨by show S.next + 1 ≤ _; omega, by show S.go ≤ 4; omega, fun h => absurd h0 h, fun h => by (have := h.1.symm.trans hg; cases this), fun h => by rcases h with h | h; exact absurd (h.symm.trans hg) (by decide); exact absurd (h.symm.trans hf) (by decide)⟩
    · exact ⟨by show S.next + 1 ≤ _; omega, by show S.go ≤ 4; omega, fun h => absurd h0 h, fun h => by (have := h.1.symm.trans hg; cases this), fun h => by rcases h with h | h; exact absurd (h.symm.trans hg) (by decide); exact absurd (h.symm.trans hf) (by decide)⟩
  · exact ⟨by show S.next + 1 ≤ _; omega, by show S.go ≤ 4; omega, fun h => absurd h0 h, fun h => by (have := h.1.symm.trans hg; cases this), fun h => by rcases h with h | h; exact absurd (h.symm.trans hg) (by decide); exact absurd (h.symm.trans hf) (by decide)⟩
  · unfold Rn.setF
    split
    · exact ⟨by show S.next + 1 ≤ _; omega, by show S.go ≤ 4; omega, fun h => absurd h0 h, fun h => by (have := h.1.symm.trans hg; cases this), fun h => by rcases h with h | h; exact absurd (h.symm.trans hg) (by decide); exact absurd (h.symm.trans hf) (by decide)⟩
    · split
      · exact ⟨by show S.next + 1 ≤ _; omega, by show S.go ≤ 4; omega, fun h => absurd h0 h, fun h => by (have := h.1.symm.trans hg; cases this), fun h => by rcases h with h | h; exact absurd (h.symm.trans hg) (by decide); exact absurd (h.symm.trans hf) (by decide)⟩
      · split
        · exact ⟨by show S.next + 1 ≤ _; omega, by show S.go ≤ 4; omega, fun h => absurd h0 h, fun h => by (have := h.1.symm.trans hg; cases this), fun h => by rcases h with h | h; exact absurd (h.symm.trans hg) (by decide); exact absurd (h.symm.trans hf) (by decide)⟩
        · exact ⟨by show S.next + 1 ≤ _; omega, by show S.go ≤ 4; omega, fun h => absurd h0 h, fun h => by (have := h.1.symm.trans hg; cases this), fun h => by rcases h with h | h; exact absurd (h.symm.trans hg) (by decide); exact absurd (h.symm.trans hf) (by decide)⟩
  · exact ⟨by show S.next + 1 ≤ _; omega, by show S.go ≤ 4; omega, fun h => absurd h0 h, fun h => by (have := h.1.symm.trans hg; cases this), fun h => by rcases h with h | h; exact absurd (h.symm.trans hg) (by decide); exact absurd (h.symm.trans hf) (by decide)⟩
  · unfold Rn.acc
    split
    · exact ⟨by show S.next + 1 ≤ _; omega, by show 1 ≤ 4; decide, fun _ => by show 1 ≤ S.next + 1; omega, fun h => by (have := h.1.symm.trans hg; cases this), fun h => by rcases h with h | h; exact absurd (h.symm.trans hg) (by decide); exact absurd (h.symm.trans hf) (by decide)⟩
    · exact ⟨Nat.le_refl _, by show S.go ≤ 4; omega, fun h => absurd h0 h, fun h => by (have := h.1.symm.trans hg; cases this), fun _ => ⟨rfl, h0⟩⟩
  · unfold Rn.acc
    split
    · exact ⟨by show S.next + 1 ≤ _; omega, by show 2 ≤ 4; decide, fun _ => by show 1 ≤ S.next + 1; omega, fun h => by (have := h.1.symm.trans hg; cases this), fun h => by rcases h with h | h; exact absurd (h.symm.trans hg) (by decide); exact absurd (h.symm.trans hf) (by decide)⟩
    · exact ⟨Nat.le_refl _, by show S.go ≤ 4; omega, fun h => absurd h0 h, fun h => by (have := h.1.symm.trans hg; cases this), fun _ => ⟨rfl, h0⟩⟩
  · unfold Rn.acc
    split
    · exact ⟨by show S.next + 1 ≤ _; omega, by show 1 ≤ 4; decide, fun _ => by show 1 ≤ S.next + 1; omega, fun h => by (have := h.1.symm.trans hg; cases this), fun h => by rcases h with h | h; exact absurd (h.symm.trans hg) (by decide); exact absurd (h.symm.trans hf) (by decide)⟩
    · exact ⟨Nat.le_refl _, by show S.go ≤ 4; omega, fun h => absurd h0 h, fun h => by (have := h.1.symm.trans hg; cases this), fun _ => ⟨rfl, h0⟩⟩
  · unfold Rn.acc
    split
    · exact ⟨by show S.next + 1 ≤ _; omega, by show 3 ≤ 4; decide, fun _ => by show 1 ≤ S.next + 1; omega, fun h => by (have := h.1.symm.trans hg; cases this), fun h => by rcases h with h | h; exact absurd (h.symm.trans hg) (by decide); exact absurd (h.symm.trans hf) (by decide)⟩
    · exact ⟨Nat.le_refl _, by show S.go ≤ 4; omega, fun h => absurd h0 h, fun h => by (have := h.1.symm.trans hg; cases this), fun _ => ⟨rfl, h0⟩⟩
  · exact ⟨by show S.next + 1 ≤ _; omega, by show 4 ≤ 4; decide, fun _ => by show 1 ≤ S.next + 1; omega, fun h => by (have := h.1.symm.trans hg; cases this), fun h => by rcases h with h | h; exact absurd (h.symm.trans hg) (by decide); exact absurd (h.symm.trans hf) (by decide)⟩
  · exact ⟨by show S.next + 1 ≤ _; omega, by show S.go ≤ 4; omega, fun h => absurd h0 h, fun h => by (have := h.1.symm.trans hg; cases this), fun h => by rcases h with h | h; exact absurd (h.symm.trans hg) (by decide); exact absurd (h.symm.trans hf) (by decide)⟩
  · split
    · exact ⟨Nat.le_refl _, by show S.go ≤ 4; omega, fun h => absurd h0 h, fun h => by (have := h.1.symm.trans hg; cases this), fun _ => ⟨rfl, h0⟩⟩
    · exact ⟨by show S.next + 1 ≤ _; omega, by show S.go ≤ 4; omega, fun h => absurd h0 h, fun h => by (have := h.1.symm.trans hg; cases this), fun h => by rcases h with h | h; exact absurd (h.symm.trans hg) (by decide); exact absurd (h.symm.trans hf) (by decide)⟩
  · exact ⟨Nat.le_refl _, by show S.go ≤ 4; omega, fun h => absurd h0 h, fun h => by (have := h.1.symm.trans hg; cases this), fun _ => ⟨rfl, h0⟩⟩
  · exact ⟨Nat.le_refl _, by show S.go ≤ 4; omega, fun h => absurd h0 h, fun h => by (have := h.1.symm.trans hg; cases this), fun _ => ⟨rfl, h0⟩⟩
  · exact ⟨Nat.le_refl _, by show S.go ≤ 4; omega, fun h => absurd h0 h, fun h => by (have := h.2.symm.trans hf; cases this), fun _ => ⟨rfl, h0⟩⟩
  · exact ⟨by show S.next + 1 ≤ _; omega, by show S.go ≤ 4; omega, fun h => absurd h0 h, fun h => by (have := h.1.symm.trans hg; cases this), fun h => by rcases h with h | h; exact absurd (h.symm.trans hg) (by decide); exact absurd (h.symm.trans hf) (by decide)⟩

theorem run_inv {l : List Opr} : ∀ (f : Nat) (S : Rn), Inv l.length S → Inv l.length (runN l f S)
  | 0, S, h => h
  | f + 1, S, h => by
    unfold runN
    split
    · rename_i hc
      exact run_inv f _ (step_inv h hc.1 hc.2)
    · exact h
theorem next_inv {l : List Opr} {S : Rn} (h : Inv l.length S) : Inv l.length (nextV l S) := run_inv _ _ h
theorem told_inv {n : Nat} {S : Rn} (t : Gt) (hl : S.next ≤ n) (h0 : S.go = 0) (hg : S.guest = false) (hf : S.flt = false) : Inv n (S.told n t) := by
  unfold Rn.told
  split
  · exact ⟨hl, by omega, fun h => absurd h0 h, fun h => by (have := h.1.symm.trans hg; cases this), fun h => by rcases h with h | h; exact absurd (h.symm.trans hg) (by decide); exact absurd (h.symm.trans hf) (by decide)⟩
  · exact ⟨Nat.le_refl _, by show S.go ≤ 4; omega, fun h => absurd h0 h, fun h => by (have := h.1.symm.trans hg; cases this), fun _ => ⟨rfl, h0⟩⟩
theorem take_inv {n : Nat} {S : Rn} (h : Inv n S) (t : Gt) : Inv n (takeV n S t) := by
  unfold takeV
  split
  · exact h
  · rename_i e
    obtain ⟨hg, hf⟩ := h.off (.inr (by omega))
    exact told_inv t h.le rfl hg hf
  · rename_i e
    obtain ⟨hg, hf⟩ := h.off (.inr (by omega))
    exact told_inv t h.le rfl hg hf
  · rename_i e
    obtain ⟨hg, hf⟩ := h.off (.inr (by omega))
    exact told_inv t h.le rfl hg hf
  · rename_i h1 h2 h3 h4
    obtain ⟨hg, hf⟩ := h.off (.inr (fun e => h1 e))
    exact ⟨h.le, Nat.zero_le _, fun h => absurd rfl h, fun h => by (have := h.1.symm.trans hg; cases this), fun h => by rcases h with h | h; exact absurd (h.symm.trans hg) (by decide); exact absurd (h.symm.trans hf) (by decide)⟩
end Go.Proofs.YtioeiogcejikbaaDoor
