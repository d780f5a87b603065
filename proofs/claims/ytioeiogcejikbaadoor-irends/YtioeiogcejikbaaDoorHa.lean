/- What is wanted, and of which operation. -/
import Derived.Test.YtioeiogcejikbaaDoorFa
namespace Go.Proofs.YtioeiogcejikbaaDoor
open Go.RowKit
set_option linter.unusedVariables false
set_option linter.unusedSimpArgs false
set_option maxRecDepth 8000

/-- A want is its operation's. -/
def WantOf (o : Opr) (d : Wnt) : Prop := ((d.kind = 1 ∧ o.kind = 9) ∨ (d.kind = 2 ∧ o.kind = 10) ∨ (d.kind = 3 ∧ o.kind = 11) ∨ (d.kind = 4 ∧ o.kind = 12) ∨ (d.kind = 6 ∧ o.kind = 13)) ∧ d.addr % 8 = 0
theorem step_want {l : List Opr} {S : Rn} (h0 : S.go = 0) : (stepV l S).go ≠ 0 → (stepV l S).next = S.next + 1 ∧ WantOf (opAt l S.next) (stepV l S).w := by
  unfold stepV carryV WantOf
  generalize opAt l S.next = o
  split
  · exact fun h => absurd h0 h
  · exact fun h => absurd h0 h
  · exact fun h => absurd h0 h
  · exact fun h => absurd h0 h
  · unfold Rn.setSP
    split
    · exact fun h => absurd h0 h
    · exact fun h => absurd h0 h
  · exact fun h => absurd h0 h
  · unfold Rn.setF
    split
    · exact fun h => absurd h0 h
    · split
      · exact fun h => absurd h0 h
      · split
        · exact fun h => absurd h0 h
        · exact fun h => absurd h0 h
  · exact fun h => absurd h0 h
  · rename_i hk
    unfold Rn.acc
    split
    · rename_i h8
      exact fun _ => ⟨rfl, by (first | exact .inl ⟨rfl, by omega⟩ | exact .inr (.inl ⟨rfl, by omega⟩) | exact .inr (.inr (.inl ⟨rfl, by omega⟩)) | exact .inr (.inr (.inr (.inl ⟨rfl, by omega⟩))) | exact .inr (.inr (.inr (.inr ⟨rfl, by omega⟩)))), h8⟩
    · exact fun h => absurd h0 h
  · rename_i hk
    unfold Rn.acc
    split
    · rename_i h8
      exact fun _ => ⟨rfl, by (first | exact .inl ⟨rfl, by omega⟩ | exact .inr (.inl ⟨rfl, by omega⟩) | exact .inr (.inr (.inl ⟨rfl, by omega⟩)) | exact .inr (.inr (.inr (.inl ⟨rfl, by omega⟩))) | exact .inr (.inr (.inr (.inr ⟨rfl, by omega⟩)))), h8⟩
    · exact fun h => absurd h0 h
  · rename_i hk
    unfold Rn.acc
    split
    · rename_i h8
      exact fun _ => ⟨rfl, by (first | exact .inl ⟨rfl, by omega⟩ | exact .inr (.inl ⟨rfl, by omega⟩) | exact .inr (.inr (.inl ⟨rfl, by omega⟩)) | exact .inr (.inr (.inr (.inl ⟨rfl, by omega⟩))) | exact .inr (.inr (.inr (.inr ⟨rfl, by omega⟩)))), h8⟩
    · exact fun h => absurd h0 h
  · rename_i hk
    unfold Rn.acc
    split
    · rename_i h8
      exact fun _ => ⟨rfl, by (first | exact .inl ⟨rfl, by omega⟩ | exact .inr (.inl ⟨rfl, by omega⟩) | exact .inr (.inr (.inl ⟨rfl, by omega⟩)) | exact .inr (.inr (.inr (.inl ⟨rfl, by omega⟩))) | exact .inr (.inr (.inr (.inr ⟨rfl, by omega⟩)))), h8⟩
    · exact fun h => absurd h0 h
  · rename_i hk
    exact fun _ => ⟨rfl, by (first | exact .inl ⟨rfl, by omega⟩ | exact .inr (.inl ⟨rfl, by omega⟩) | exact .inr (.inr (.inl ⟨rfl, by omega⟩)) | exact .inr (.inr (.inr (.inl ⟨rfl, by omega⟩))) | exact .inr (.inr (.inr (.inr ⟨rfl, by omega⟩)))), rfl⟩
  · exact fun h => absurd h0 h
  · split
    · exact fun h => absurd h0 h
    · exact fun h => absurd h0 h
  · exact fun h => absurd h0 h
  · exact fun h => absurd h0 h
  · exact fun h => absurd h0 h
  · exact fun h => absurd h0 h

theorem runs_want {l : List Opr} : ∀ (f : Nat) (S : Rn), S.go = 0 → S.next ≤ l.length → (runN l f S).go ≠ 0 → ∃ j, S.next ≤ j ∧ j < l.length ∧ (runN l f S).next = j + 1 ∧ WantOf (opAt l j) (runN l f S).w
  | 0, S, h0, _ => fun h => absurd h0 h
  | f + 1, S, h0, hl => by
    unfold runN
    split
    · rename_i hc
      have hs := step_next hc.2
      by_cases hg : (stepV l S).go = 0
      · intro h
        obtain ⟨j, h1, h2, h3, h4⟩ := runs_want f _ hg hs.2 h
        exact ⟨j, by omega, h2, h3, h4⟩
      · rw [runN_stop (fun h => hg h.1)]
        intro h
        obtain ⟨h1, h2⟩ := step_want h0 h
        exact ⟨S.next, Nat.le_refl _, hc.2, h1, h2⟩
    · exact fun h => absurd h0 h
theorem next_want {l : List Opr} {S : Rn} (h0 : S.go = 0) (hl : S.next ≤ l.length) (h : (nextV l S).go ≠ 0) : ∃ j, S.next ≤ j ∧ j < l.length ∧ (nextV l S).next = j + 1 ∧ WantOf (opAt l j) (nextV l S).w := runs_want _ _ h0 hl h
theorem take_go {n : Nat} {S : Rn} (h : S.go ≤ 4) (t : Gt) : (takeV n S t).go = 0 := by
  unfold takeV
  split
  · rename_i e; exact e
  · unfold Rn.told; split <;> rfl
  · unfold Rn.told; split <;> rfl
  · unfold Rn.told; split <;> rfl
  · rfl
theorem told_next {n : Nat} {S : Rn} (t : Gt) (h : S.next ≤ n) : S.next ≤ (S.told n t).next := by
  unfold Rn.told; split
  · exact Nat.le_refl _
  · exact h
theorem take_next {n : Nat} {S : Rn} (t : Gt) (h : S.next ≤ n) : S.next ≤ (takeV n S t).next := by
  unfold takeV
  split
  · exact Nat.le_refl _
  · exact told_next (S := (S.wait nilW 0).define t.value) t h
  · exact told_next (S := S.wait nilW 0) t h
  · exact told_next (S := (S.wait nilW 0).define (oneV (!t.ok))) t h
  · exact Nat.le_refl _
end Go.Proofs.YtioeiogcejikbaaDoor
