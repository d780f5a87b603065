/- Small facts with which each statement's proof begins and ends: the bounds of its arguments, and that a world in which orders were drawn has kept all that it held. -/
import Derived.Test.YtpoaapncfojhoabEx
import Derived.ProofKit
import Derived.OpenShut
namespace Go.Proofs.Ytpoaapncfojhoab
open Go.RowKit

theorem bnd32 {n : Int} (h : (Lit.int .u32 n).wf = true) : Hid (0 ≤ n ∧ n < 4294967296) := by
  have := bounds_u32 h
  exact ⟨this.1, by omega⟩

theorem bnd64 {n : Int} (h : (Lit.int .u64 n).wf = true) : Hid (0 ≤ n ∧ n < 18446744073709551616) := by
  have := bounds_u64 h
  exact ⟨this.1, by omega⟩

theorem hide {p : Prop} (h : p) : Hid p := h
theorem unhide {p : Prop} (h : Hid p) : p := h

theorem grown_drewN (w : World) (n : Nat) : Grown w (w.drewN n) := Grown.refl w

end Go.Proofs.Ytpoaapncfojhoab
