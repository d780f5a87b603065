/- Where a run is behind Next, plainly. -/
import Derived.Test.YtccmncecpmemaaaGreatDoorJf
namespace Go.Proofs.YtccmncecpmemaaaGreatDoor
open Go.RowKit
set_option linter.unusedVariables false
set_option linter.unusedSimpArgs false
set_option maxRecDepth 8000

def stepV (l : List Opr) (S : Rn) : Rn := carryV l.length { S with next := S.next + 1 } (opAt l S.next)
def runN (l : List Opr) : Nat → Rn → Rn
  | 0, S => S
  | f + 1, S => if S.go = 0 ∧ S.next < l.length then runN l f (stepV l S) else S
/-- Where a run is behind Next. -/
def nextV (l : List Opr) (S : Rn) : Rn := runN l l.length S
theorem carry_next {n : Nat} {S : Rn} {o : Opr} : (carryV n S o).next = S.next ∨ (carryV n S o).next = n := by
  unfold carryV
  split <;> (try (left; rfl)) <;> (try (right; rfl))
  · unfold Rn.setSP; split <;> exact .inl rfl
  · unfold Rn.setF; split
    · exact .inl rfl
    · split
      · exact .inl rfl
      · split <;> exact .inl rfl
  · unfold Rn.acc; split
    · exact .inl rfl
    · exact .inr rfl
  · unfold Rn.acc; split
    · exact .inl rfl
    · exact .inr rfl
  · unfold Rn.acc; split
    · exact .inl rfl
    · exact .inr rfl
  · unfold Rn.acc; split
    · exact .inl rfl
    · exact .inr rfl
  · split
    · exact .inr rfl
    · exact .inl rfl
theorem step_next {l : List Opr} {S : Rn} (h : S.next < l.length) : S.next < (stepV l S).next ∧ (stepV l S).next ≤ l.length := by
  unfold stepV
  rcases carry_next (n := l.length) (S := { S with next := S.next + 1 }) (o := opAt l S.next) with e | e <;> rw [e]
  · exact ⟨Nat.lt_succ_self _, h⟩
  · exact ⟨h, Nat.le_refl _⟩
theorem runN_stop {l : List Opr} {f : Nat} {S : Rn} (h : ¬ (S.go = 0 ∧ S.next < l.length)) : runN l f S = S := by
  cases f with
  | zero => rfl
  | succ f => unfold runN; rw [if_neg h]
theorem run_next {l : List Opr} : ∀ (f : Nat) (S : Rn), S.next ≤ l.length → S.next ≤ (runN l f S).next ∧ (runN l f S).next ≤ l.length
  | 0, S, h => ⟨Nat.le_refl _, h⟩
  | f + 1, S, h => by
    unfold runN
    split
    · rename_i hc
      have hs := step_next hc.2
      have := run_next f (stepV l S) hs.2
      exact ⟨by omega, this.2⟩
    · exact ⟨Nat.le_refl _, h⟩
theorem run_end {l : List Opr} : ∀ (f : Nat) (S : Rn), S.next ≤ l.length → l.length - S.next ≤ f → ¬ ((runN l f S).go = 0 ∧ (runN l f S).next < l.length)
  | 0, S, h, hf => by
    intro hc
    have : S.next < l.length := hc.2
    omega
  | f + 1, S, h, hf => by
    unfold runN
    split
    · rename_i hc
      have hs := step_next hc.2
      exact run_end f (stepV l S) hs.2 (by omega)
    · rename_i hc
      exact hc
section
variable {l : List Opr} {g vb : Nat} {so : Value} {S : Rn} {w w' : World}
theorem run_nilE (g f : Nat) (w : World) : (binOp .eql 93 (goV g f) .nilFunc).run Tryz.prog w = .ok (.bool (f == 0)) w :=
  match f with
  | 0 => by kernel_rfl
  | 1 => by kernel_rfl
  | 2 => by kernel_rfl
  | 3 => by kernel_rfl
  | _ + 4 => by kernel_rfl
theorem run_nilN (g f : Nat) (w : World) : (binOp .neq 93 (goV g f) .nilFunc).run Tryz.prog w = .ok (.bool (f != 0)) w :=
  match f with
  | 0 => by kernel_rfl
  | 1 => by kernel_rfl
  | 2 => by kernel_rfl
  | 3 => by kernel_rfl
  | _ + 4 => by kernel_rfl
theorem RunAt.opsI (H : RunAt l g vb so S w) : ∃ ob cap, so = .slice (some ⟨ob, 0, none⟩) l.length cap ∧ l.length ≤ cap ∧ ∀ k o, l[k]? = some o → OpAt w ⟨ob, k * 6, none⟩ o := by
  obtain ⟨ob, cap, e, h1, _, hlt, hc, _⟩ := own_addr H.own H.pos
  refine ⟨ob, cap, e, h1, fun k o ho => ?_⟩
  have hk : k < l.length := (List.getElem?_eq_some_iff.1 ho).1
  have key : ∀ (m : List Opr) (k : Nat) (j : Nat), j < 6 → ∀ o, m[k]? = some o → (m.flatMap fun o => (opA o).toList)[k * 6 + j]? = (opA o)[j]? := by
    intro m
    induction m with
    | nil => intro k j _ o h; simp at h
    | cons a m ih =>
      intro k j hj o h
      rw [List.flatMap_cons]
      cases k with
      | zero =>
        simp at h; subst h
        rw [List.getElem?_append_left (by simp; omega)]
        simp
      | succ k =>
        rw [List.getElem?_append_right (by simp; omega), ← ih k j hj o (by simpa using h)]
        congr 1
        simp
        omega
  have g1 : ∀ j, j < 6 → w.cell? ⟨ob, k * 6 + j, none⟩ = (opA o)[j]? := fun j hj => by rw [hc _ (by omega), key l k j hj o ho]
  exact ⟨hlt, g1 0 (by decide), g1 1 (by decide), g1 2 (by decide), g1 3 (by decide), g1 4 (by decide), g1 5 (by decide)⟩
/-- What Next reads. -/
def nx (g : Nat) (w : World) : Nat := (intOf ((w.cell? ⟨g, 2, none⟩).getD undef)).toNat
theorem RunAt.nx_ (H : RunAt l g vb so S w) : nx g w = S.next := by unfold nx; rw [H.c2]; simp [intOf]
structure NxC (l : List Opr) (g vb : Nat) (so : Value) (S : Rn) (rb : Nat) (w x : World) : Prop where
  run : RT l g vb so S w x
  res : x.heap[rb]? = some (.cells (wnA nilW) 56)
  new : w.heap.size ≤ rb
theorem NxC.grow {rb : Nat} {x y : World} (h : NxC l g vb so S rb w x) (hb : Below x.heap.size x y) : NxC l g vb so S rb w y := ⟨h.run.grow hb, by rw [hb.block _ (lt_of_some h.res)]; exact h.res, h.new⟩
theorem NxC.then {S' : Rn} {rb : Nat} {x y : World} (h : NxC l g vb so S rb w x) (R : RT l g vb so S' x y) : NxC l g vb so S' rb w y := ⟨h.run.then R, R.kept h.res (ne_of_type h.res h.run.1.top (by decide)) (ne_of_type h.res h.run.1.vals (by decide)), h.new⟩
theorem guard59 (op : BinOp) (g f : Nat) (x y : Operand) (w : World) : (eqGuard op 93 x y (goV g f) .nilFunc).run Tryz.prog w = .ok () w :=
  match f with
  | 0 => by cases op <;> kernel_rfl
  | 1 => by cases op <;> kernel_rfl
  | 2 => by cases op <;> kernel_rfl
  | 3 => by cases op <;> kernel_rfl
  | _ + 4 => by cases op <;> kernel_rfl
theorem rel_nilE {E : List PanicEntry → World → Prop} {f : Nat} {b : Bool} (hb : (f == 0) = b) {o : Oper} {a : Act} {x y : Operand} (ho : o.op = .binOp .eql 93 x y 93 := by rfl) (hx : a.eval x = goV g f := by rfl) (hy : a.eval y = .nilFunc := by rfl) : RelQ.relUpon Tryz.prog RelQ.Grows E (fun v _ => v = .bool b) w ((execOp a.eval o).run Tryz.prog w) := by
  have hgd := guard59 .eql g f x y w
  unfold execOp
  simp only [ho, hx, hy, Sem.run_bind, hgd, run_nilE, Result.andThen_ok, Sem.run_pure]
  exact ⟨RelQ.grows_refl _, by rw [hb]⟩
end
end Go.Proofs.YtccmncecpmemaaaGreatDoor
