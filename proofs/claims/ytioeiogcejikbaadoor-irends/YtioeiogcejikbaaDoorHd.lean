/- A run of a block ends: the walk. -/
import Derived.Test.YtioeiogcejikbaaDoorHb
namespace Go.Proofs.YtioeiogcejikbaaDoor
open Go.RowKit
set_option linter.unusedVariables false
set_option linter.unusedSimpArgs false
set_option maxRecDepth 8000

theorem ends_walk {w : World} {pc words el : Int} {v : Value} {l : List Opr} {c : Cor} {vz : Value} {z : List Gt} (G : Gots w vz z) (hpc : 0 ≤ pc) (O : OpsIn w v l) (hl : l.length * 48 ≤ 140737488351232) (hc : CorOk c) : Calls Tryd.prog 3 #[blV pc words el v, c.val, vz] w fun e w' => e = .returned (.bool true) ∧ Below w.heap.size w w' := by
  rcases newE_or (pc := pc) (words := words) (el := el) (l := l) (c := c) with hE | hE | hE
  · have h0 : 0 < l.length := by
      have hR : rightB pc words el l = true := by
        cases h : rightB pc words el l with
        | true => rfl
        | false => unfold newE at hE; rw [h] at hE; simp at hE
      unfold rightB at hR
      rw [Bool.and_eq_true] at hR
      exact (headB_len hR.1).1
    obtain ⟨ra, cap, rfl, hops⟩ := O.ops.cell h0
    obtain ⟨zo, zc, rfl⟩ := G.len
    exact ends_yes G hpc O hc hE hops
  · exact ends_no1 vz hpc O hc hE
  · exact ends_no4 vz hpc O hc hE
def wit29 : Value := nilC.val
end Go.Proofs.YtioeiogcejikbaaDoor
