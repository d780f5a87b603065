/- What the laws' walks share: a script's step read, a write by it. -/
import Derived.Test.YtebkpmplhpebbaaKb
import Derived.Test.YtebkpmplhpebbaaSc
namespace Go.Proofs.Ytebkpmplhpebbaa
open Go.RowKit
open Tim
set_option linter.unusedVariables false
set_option linter.unusedSimpArgs false
set_option maxRecDepth 8000

theorem Scr.at {w0 w : World} {v : Value} {ss : List St4} (h : Scr w0 v ss) (hb : Below w0.heap.size w0 w) {i : Nat} {s : St4} (hs : ss[i]? = some s) : ∃ ra cap, v = .slice (some ra) ss.length cap ∧ ∀ (j : Nat) x, s.row[j]? = some x → ((ra.add (i * 4)).add j).block < w.heap.size ∧ w.cell? ((ra.add (i * 4)).add j) = some x := by
  have hi := (List.getElem?_eq_some_iff.1 hs).1
  obtain ⟨ra, cap, e, hc⟩ := h.cell (by omega)
  exact ⟨ra, cap, e, fun j x hx => ⟨Nat.lt_of_lt_of_le (hc i s hs j x hx).1 hb.size, by rw [hb.cell (hc i s hs j x hx).1]; exact (hc i s hs j x hx).2⟩⟩
theorem cell_keeps {w w' : World} {a : Addr} {x : Value} (hb : Below w.heap.size w w') (h : a.block < w.heap.size ∧ w.cell? a = some x) : w'.cell? a = some x := by rw [hb.cell h.1]; exact h.2
/-- A write's phases: ahead of the register's number, ahead of the write, behind it. -/
def WrC (g cb n : Nat) (U : Tm) (w : World) : Nat → World → Prop
  | 0, w' => Below w.heap.size w w'
  | 1, w' => Below w.heap.size w w'
  | 2, w' => TT g cb n U w w'
  | _, _ => False
theorem wrC_below {g cb n : Nat} {U : Tm} {w w' : World} {j : Nat} (hj : j ≤ 1) (h : WrC g cb n U w j w') : Below w.heap.size w w' := by
  match j, hj, h with
  | 0, _, h => exact h
  | 1, _, h => exact h
end Go.Proofs.Ytebkpmplhpebbaa
