/-
  No cell of these rows narrows 'for every input' (looked for: loops, veiled, ifaces, maps, wideKeys, modest, calm, conditions, laid).
  DERIVED. THE GIVEN ROWS OF THIS SEAT. 4 by the template 'for every input the law returns true; each argument reads behind the call as it read before'; 0 by the template 'total and deterministic' (their statements: YtilbnjldfgofmaaTotals.lean).
  GIVEN WITH THE SEED: the statements are not yours to turn. If you find one false, say at which input.
  Laid BY PROGRAM, IN A SANDBOX (cutbox-rows.mjs): the forced cells as the released guide's own fill.sh prints them over the translation 35f6f6e06b988370… (all of the seat's roots in one cut). By AI agents, Wed Nov 11 2026. No macro, syntax, notation, axiom, sorry.
-/
import Derived.Test.YtilbnjldfgofmaaChecked
import GoSem.Claim
import GoSem.ClaimJoined
import GoSem.ClaimMapViews
import Derived.JoinedTies
import Derived.KernelRfl
namespace Go.Proofs.Ytilbnjldfgofmaa
/- THE CELL 'sum', in the pinned program and in every row, IS THE sha256 OF THE DUMP (.gsa) THAT YtilbnjldfgofmaaProg.lean LOADS. Nothing in Lean hashes anything: it is a label: what it is worth is what the hold of that sum in a sandbox is worth. -/
noncomputable def Try.pinned : Pinned := { name := "ytilbnjldfgofmaa", sum := "35f6f6e06b9883708f5e45a7abb88f3358b1da182cb4850013f3b5a539dba947", checked := Try.checked }
namespace Rows
def none {H : Type} : Left H := { results := [], args := [] }

/-- 'understudylaw20.OrderDrops': WHATEVER THE INPUT: true; the input reads as it did. -/
def orderDropsSpec : ChangeSpec := { name := "orderDrops", fn := fun _ => fun
  | [d] => { results := [.lit (.bool true)], args := [d] }
  | _ => none }
def orderDropsRow : OpenClaim := { program := "ytilbnjldfgofmaa", sum := "35f6f6e06b9883708f5e45a7abb88f3358b1da182cb4850013f3b5a539dba947", func := "understudy/understudylaw20.OrderDrops", spec := "orderDrops", unfollowed := true, recurses := true, apart := false }
def OrderDropsSaid : Prop := orderDropsRow.holds Try.pinned (OpenSpec.ofChange orderDropsSpec)

/-- ITS FALSE NEIGHBOUR: 'it returns false'. Refute it at one input. -/
def orderDropsWrong : ChangeSpec := { name := "orderDrops", fn := fun _ => fun
  | [d] => { results := [.lit (.bool false)], args := [d] }
  | _ => none }
def OrderDropsWrongFalsely : Prop := orderDropsRow.holds Try.pinned (OpenSpec.ofChange orderDropsWrong)

/-- 'understudylaw20.OrderMays': WHATEVER THE INPUT: true; the input reads as it did. -/
def orderMaysSpec : ChangeSpec := { name := "orderMays", fn := fun _ => fun
  | [d1, d2] => { results := [.lit (.bool true)], args := [d1, d2] }
  | _ => none }
def orderMaysRow : OpenClaim := { program := "ytilbnjldfgofmaa", sum := "35f6f6e06b9883708f5e45a7abb88f3358b1da182cb4850013f3b5a539dba947", func := "understudy/understudylaw20.OrderMays", spec := "orderMays", unfollowed := true, recurses := true, apart := false }
def OrderMaysSaid : Prop := orderMaysRow.holds Try.pinned (OpenSpec.ofChange orderMaysSpec)

/-- ITS FALSE NEIGHBOUR: 'it returns false'. Refute it at one input. -/
def orderMaysWrong : ChangeSpec := { name := "orderMays", fn := fun _ => fun
  | [d1, d2] => { results := [.lit (.bool false)], args := [d1, d2] }
  | _ => none }
def OrderMaysWrongFalsely : Prop := orderMaysRow.holds Try.pinned (OpenSpec.ofChange orderMaysWrong)

/-- 'understudylaw20.OrderKeeps': WHATEVER THE INPUT: true; the input reads as it did. -/
def orderKeepsSpec : ChangeSpec := { name := "orderKeeps", fn := fun _ => fun
  | [d] => { results := [.lit (.bool true)], args := [d] }
  | _ => none }
def orderKeepsRow : OpenClaim := { program := "ytilbnjldfgofmaa", sum := "35f6f6e06b9883708f5e45a7abb88f3358b1da182cb4850013f3b5a539dba947", func := "understudy/understudylaw20.OrderKeeps", spec := "orderKeeps", unfollowed := true, recurses := true, apart := false }
def OrderKeepsSaid : Prop := orderKeepsRow.holds Try.pinned (OpenSpec.ofChange orderKeepsSpec)

/-- ITS FALSE NEIGHBOUR: 'it returns false'. Refute it at one input. -/
def orderKeepsWrong : ChangeSpec := { name := "orderKeeps", fn := fun _ => fun
  | [d] => { results := [.lit (.bool false)], args := [d] }
  | _ => none }
def OrderKeepsWrongFalsely : Prop := orderKeepsRow.holds Try.pinned (OpenSpec.ofChange orderKeepsWrong)

/-- 'understudylaw20.OrderFences': WHATEVER THE INPUT: true; the input reads as it did. -/
def orderFencesSpec : ChangeSpec := { name := "orderFences", fn := fun _ => fun
  | [d] => { results := [.lit (.bool true)], args := [d] }
  | _ => none }
def orderFencesRow : OpenClaim := { program := "ytilbnjldfgofmaa", sum := "35f6f6e06b9883708f5e45a7abb88f3358b1da182cb4850013f3b5a539dba947", func := "understudy/understudylaw20.OrderFences", spec := "orderFences", unfollowed := true, recurses := true, apart := false }
def OrderFencesSaid : Prop := orderFencesRow.holds Try.pinned (OpenSpec.ofChange orderFencesSpec)

/-- ITS FALSE NEIGHBOUR: 'it returns false'. Refute it at one input. -/
def orderFencesWrong : ChangeSpec := { name := "orderFences", fn := fun _ => fun
  | [d] => { results := [.lit (.bool false)], args := [d] }
  | _ => none }
def OrderFencesWrongFalsely : Prop := orderFencesRow.holds Try.pinned (OpenSpec.ofChange orderFencesWrong)

/- THE SECOND FORM. 'bulk': how many values and letters a reading holds, each counted each time it is reached (what is shared counts as often as it is met; a slice's spare places count too). A statement '..UptoSaid' is the law's where the arguments, and the package variables that the reading takes, are together of bulk at most 1048576: NARROWER than '..Said'. Prove '..Said' where nothing that the law and all that it calls make is longer than what came in: it says more and counts as full. Else prove '..UptoSaid'. A law counts once. -/
mutual
def uptoBulk {H : Type} : DataW H → Nat
  | .lit (.string bytes) => bytes.length + 1
  | .lit _ => 1
  | .nil => 1
  | .ptr d => uptoBulk d + 1
  | .slice elems spare => uptoBulkAll elems + uptoBulkAll spare + 1
  | .agg parts => uptoBulkAll parts + 1
  | .iface _ d => uptoBulk d + 1
  | .map entries => uptoBulkEntries entries + 1
  | .held _ => 1
def uptoBulkAll {H : Type} : List (DataW H) → Nat
  | [] => 0
  | d :: r => uptoBulk d + uptoBulkAll r
def uptoBulkEntries {H : Type} : List (Lit × DataW H) → Nat
  | [] => 0
  | x :: r => uptoBulkEntry x + uptoBulkEntries r
def uptoBulkEntry {H : Type} : Lit × DataW H → Nat
  | (.string bytes, d) => bytes.length + uptoBulk d + 1
  | (_, d) => uptoBulk d + 1
 end
def uptoSmall : (H : Type) → List (DataW H) → Bool := fun _ ds => decide (uptoBulkAll ds ≤ 1048576)
def OpenSpec.upto (s : _root_.Go.ChangeSpec) : _root_.Go.OpenSpec := { _root_.Go.OpenSpec.ofChange s with cond := some uptoSmall }

/-- 'understudylaw20.OrderDrops', WHERE WHAT IT READS IS OF BULK AT MOST 1048576: true; the input reads as it did. -/
def orderDropsUptoRow : OpenClaim := { program := "ytilbnjldfgofmaa", sum := "35f6f6e06b9883708f5e45a7abb88f3358b1da182cb4850013f3b5a539dba947", func := "understudy/understudylaw20.OrderDrops", spec := "orderDrops", unfollowed := true, recurses := true, apart := false, narrowed := true }
def OrderDropsUptoSaid : Prop := orderDropsUptoRow.holds Try.pinned (OpenSpec.upto orderDropsSpec)

/-- 'understudylaw20.OrderMays', WHERE WHAT IT READS IS OF BULK AT MOST 1048576: true; the input reads as it did. -/
def orderMaysUptoRow : OpenClaim := { program := "ytilbnjldfgofmaa", sum := "35f6f6e06b9883708f5e45a7abb88f3358b1da182cb4850013f3b5a539dba947", func := "understudy/understudylaw20.OrderMays", spec := "orderMays", unfollowed := true, recurses := true, apart := false, narrowed := true }
def OrderMaysUptoSaid : Prop := orderMaysUptoRow.holds Try.pinned (OpenSpec.upto orderMaysSpec)

/-- 'understudylaw20.OrderKeeps', WHERE WHAT IT READS IS OF BULK AT MOST 1048576: true; the input reads as it did. -/
def orderKeepsUptoRow : OpenClaim := { program := "ytilbnjldfgofmaa", sum := "35f6f6e06b9883708f5e45a7abb88f3358b1da182cb4850013f3b5a539dba947", func := "understudy/understudylaw20.OrderKeeps", spec := "orderKeeps", unfollowed := true, recurses := true, apart := false, narrowed := true }
def OrderKeepsUptoSaid : Prop := orderKeepsUptoRow.holds Try.pinned (OpenSpec.upto orderKeepsSpec)

/-- 'understudylaw20.OrderFences', WHERE WHAT IT READS IS OF BULK AT MOST 1048576: true; the input reads as it did. -/
def orderFencesUptoRow : OpenClaim := { program := "ytilbnjldfgofmaa", sum := "35f6f6e06b9883708f5e45a7abb88f3358b1da182cb4850013f3b5a539dba947", func := "understudy/understudylaw20.OrderFences", spec := "orderFences", unfollowed := true, recurses := true, apart := false, narrowed := true }
def OrderFencesUptoSaid : Prop := orderFencesUptoRow.holds Try.pinned (OpenSpec.upto orderFencesSpec)

end Rows
end Go.Proofs.Ytilbnjldfgofmaa
