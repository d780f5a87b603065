/- What a run leaves as it was: for every block. -/
import Derived.Test.YtioeiogcejikbaaDoorKb
namespace Go.Proofs.YtioeiogcejikbaaDoor
open Go.RowKit
set_option linter.unusedVariables false
set_option linter.unusedSimpArgs false
set_option maxRecDepth 8000

theorem newE_el {pc words el : Int} {l : List Opr} {c : Cor} (hE : newE pc words el l c = 0) : 0 < l.length ∧ (el = 0 ∨ el = 1) ∧ c.el = el := by
  have hR : rightB pc words el l = true := by
    cases h : rightB pc words el l with
    | true => rfl
    | false => unfold newE at hE; rw [h] at hE; simp at hE
  unfold newE at hE
  rw [hR, if_pos rfl] at hE
  unfold rightB at hR
  rw [Bool.and_eq_true] at hR
  have hH := hR.1
  refine ⟨(headB_len hH).1, ?_, ?_⟩
  · unfold headB at hH
    simp only [Bool.and_eq_true, Bool.or_eq_true, beq_iff_eq] at hH
    exact hH.1.1.1.2
  · by_cases h : rightC c = true ∧ c.el = el
    · exact h.2
    · rw [if_neg h] at hE; exact absurd hE (by decide)
theorem keeps_walk {w : World} {pc words el : Int} {v : Value} {l : List Opr} {c : Cor} {vz : Value} {z : List Gt} (G : Gots w vz z) (hpc : 0 ≤ pc) (O : OpsIn w v l) (hl : l.length * 48 ≤ 140737488351232) (hc : CorOk c) : Calls Tryd.prog 4 #[blV pc words el v, c.val, vz] w fun e w' => e = .returned (.bool true) ∧ Below w.heap.size w w' := by
  rcases newE_or (pc := pc) (words := words) (el := el) (l := l) (c := c) with hE | hE | hE
  · obtain ⟨h0, he, hce⟩ := newE_el hE
    obtain ⟨ra, cap, rfl, hops⟩ := O.ops.cell h0
    obtain ⟨zo, zc, rfl⟩ := G.len
    exact keeps_yes G hpc O hc hE he hce hops
  · exact keeps_no1 vz hpc O hc hE
  · exact keeps_no4 vz hpc O hc hE
def wit29 : Value := nilC.val
end Go.Proofs.YtioeiogcejikbaaDoor
