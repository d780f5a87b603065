/- Two runs of a block: the walk. -/
import Derived.Test.YtioeiogcejikbaaDoorGc
namespace Go.Proofs.YtioeiogcejikbaaDoor
open Go.RowKit
set_option linter.unusedVariables false
set_option linter.unusedSimpArgs false
set_option maxRecDepth 8000

theorem twice_walk {w : World} {pc words el : Int} {v : Value} {l : List Opr} {c : Cor} {vz : Value} {z : List Gt} (G : Gots w vz z) (hpc : 0 ≤ pc) (O : OpsIn w v l) (hl : l.length * 48 ≤ 140737488351232) (hc : CorOk c) : Calls Tryd.prog 5 #[blV pc words el v, c.val, vz] w fun e w' => e = .returned (.bool true) ∧ Below w.heap.size w w' := by
  rcases newE_or (pc := pc) (words := words) (el := el) (l := l) (c := c) with hE | hE | hE
  · obtain ⟨ao, cap, rfl⟩ := O.ops.len
    obtain ⟨zo, zc, rfl⟩ := G.len
    exact twice_yes G hpc O hl hc hE
  · exact twice_no1 vz hpc O hl hc hE
  · exact twice_no4 vz hpc O hl hc hE
def wit29 : Value := nilC.val
end Go.Proofs.YtioeiogcejikbaaDoor
