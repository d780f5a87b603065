/- Operations kept. -/
import Derived.Test.YtejlmggfeejgpaaDoorPa
namespace Go.Proofs.YtejlmggfeejgpaaDoor
open Go.RowKit
set_option linter.unusedVariables false
set_option linter.unusedSimpArgs false
set_option maxRecDepth 8000

section
variable {w w' : World} {v : Value} {l : List Opr}
theorem Ops.keepB (h : Ops w v l) (hs : ∀ k, k < w.heap.size → k < w'.heap.size) (hb : ∀ ra n cap, v = .slice (some ra) n cap → ra.block < w.heap.size → w'.heap[ra.block]? = w.heap[ra.block]?) : Ops w' v l :=
  ⟨h.len, h.max, fun h0 => by
    obtain ⟨ra, cap, e, hc⟩ := h.cell h0
    refine ⟨ra, cap, e, fun i o ho => ?_⟩
    have A := hc i o ho
    have eb : (ra.add (i * 6)).block = ra.block := by unfold Addr.add; split <;> rfl
    have lt := A.lt
    exact A.keep (hs _ lt) (by rw [eb] at lt ⊢; exact hb ra _ cap e lt)⟩
end
end Go.Proofs.YtejlmggfeejgpaaDoor
