/-
  No cell of these rows narrows 'for every input' (looked for: loops, veiled, ifaces, maps, wideKeys, modest, calm, conditions, laid).
  DERIVED. THE GIVEN ROWS OF THIS SEAT. 5 by the template 'for every input the law returns true; each argument reads behind the call as it read before'; 0 by the template 'total and deterministic' (their statements: YtbjcdpmhmebjnaaGreatTotals.lean).
  GIVEN WITH THE SEED: the statements are not yours to turn. If you find one false, say at which input.
  Laid BY PROGRAM, IN A SANDBOX (cutbox-rows.mjs): the forced cells as the released guide's own fill.sh prints them over the translation f11441951537a32d… (all of the seat's roots in one cut). By AI agents, Wed Nov 11 2026. No macro, syntax, notation, axiom, sorry.
-/
import Derived.Test.YtbjcdpmhmebjnaaGreatChecked
import GoSem.Claim
import GoSem.ClaimJoined
import GoSem.ClaimMapViews
import Derived.JoinedTies
import Derived.KernelRfl
namespace Go.Proofs.YtbjcdpmhmebjnaaGreat
/- THE CELL 'sum', in the pinned program and in every row, IS THE sha256 OF THE DUMP (.gsa) THAT YtbjcdpmhmebjnaaGreatProg.lean LOADS. Nothing in Lean hashes anything: it is a label: what it is worth is what the hold of that sum in a sandbox is worth. -/
noncomputable def Tryz.pinned : Pinned := { name := "ytbjcdpmhmebjnaagreat", sum := "f11441951537a32d59d6d1b1700aaba993b428896a7976f34248dfd9aad911b7", checked := Tryz.checked }
namespace Rows
def none {H : Type} : Left H := { results := [], args := [] }

/-- 'understudylaw06.SemBegins': WHATEVER THE INPUT: true; the input reads as it did. -/
def semBeginsSpec : ChangeSpec := { name := "semBegins", fn := fun _ => fun
  | [d1, d2] => { results := [.lit (.bool true)], args := [d1, d2] }
  | _ => none }
def semBeginsRow : OpenClaim := { program := "ytbjcdpmhmebjnaagreat", sum := "f11441951537a32d59d6d1b1700aaba993b428896a7976f34248dfd9aad911b7", func := "understudy/understudylaw06.SemBegins", spec := "semBegins", inPlace := ["math/bits.Add64"], unfollowed := true, recurses := true, apart := false }
def SemBeginsSaid : Prop := semBeginsRow.holds Tryz.pinned (OpenSpec.ofChange semBeginsSpec)

/-- ITS FALSE NEIGHBOUR: 'it returns false'. Refute it at one input. -/
def semBeginsWrong : ChangeSpec := { name := "semBegins", fn := fun _ => fun
  | [d1, d2] => { results := [.lit (.bool false)], args := [d1, d2] }
  | _ => none }
def SemBeginsWrongFalsely : Prop := semBeginsRow.holds Tryz.pinned (OpenSpec.ofChange semBeginsWrong)

/-- 'understudylaw06.SemEnds': WHATEVER THE INPUT: true; the input reads as it did. -/
def semEndsSpec : ChangeSpec := { name := "semEnds", fn := fun _ => fun
  | [d1, d2, d3] => { results := [.lit (.bool true)], args := [d1, d2, d3] }
  | _ => none }
def semEndsRow : OpenClaim := { program := "ytbjcdpmhmebjnaagreat", sum := "f11441951537a32d59d6d1b1700aaba993b428896a7976f34248dfd9aad911b7", func := "understudy/understudylaw06.SemEnds", spec := "semEnds", inPlace := ["math/bits.Add64"], unfollowed := true, recurses := true, apart := false }
def SemEndsSaid : Prop := semEndsRow.holds Tryz.pinned (OpenSpec.ofChange semEndsSpec)

/-- ITS FALSE NEIGHBOUR: 'it returns false'. Refute it at one input. -/
def semEndsWrong : ChangeSpec := { name := "semEnds", fn := fun _ => fun
  | [d1, d2, d3] => { results := [.lit (.bool false)], args := [d1, d2, d3] }
  | _ => none }
def SemEndsWrongFalsely : Prop := semEndsRow.holds Tryz.pinned (OpenSpec.ofChange semEndsWrong)

/-- 'understudylaw06.SemWrites': WHATEVER THE INPUT: true; the input reads as it did. -/
def semWritesSpec : ChangeSpec := { name := "semWrites", fn := fun _ => fun
  | [d1, d2, d3] => { results := [.lit (.bool true)], args := [d1, d2, d3] }
  | _ => none }
def semWritesRow : OpenClaim := { program := "ytbjcdpmhmebjnaagreat", sum := "f11441951537a32d59d6d1b1700aaba993b428896a7976f34248dfd9aad911b7", func := "understudy/understudylaw06.SemWrites", spec := "semWrites", inPlace := ["math/bits.Add64"], unfollowed := true, recurses := true, apart := false }
def SemWritesSaid : Prop := semWritesRow.holds Tryz.pinned (OpenSpec.ofChange semWritesSpec)

/-- ITS FALSE NEIGHBOUR: 'it returns false'. Refute it at one input. -/
def semWritesWrong : ChangeSpec := { name := "semWrites", fn := fun _ => fun
  | [d1, d2, d3] => { results := [.lit (.bool false)], args := [d1, d2, d3] }
  | _ => none }
def SemWritesWrongFalsely : Prop := semWritesRow.holds Tryz.pinned (OpenSpec.ofChange semWritesWrong)

/-- 'understudylaw06.SemReads': WHATEVER THE INPUT: true; the input reads as it did. -/
def semReadsSpec : ChangeSpec := { name := "semReads", fn := fun _ => fun
  | [d1, d2, d3, d4, d5] => { results := [.lit (.bool true)], args := [d1, d2, d3, d4, d5] }
  | _ => none }
def semReadsRow : OpenClaim := { program := "ytbjcdpmhmebjnaagreat", sum := "f11441951537a32d59d6d1b1700aaba993b428896a7976f34248dfd9aad911b7", func := "understudy/understudylaw06.SemReads", spec := "semReads", inPlace := ["math/bits.Add64"], unfollowed := true, recurses := true, apart := false }
def SemReadsSaid : Prop := semReadsRow.holds Tryz.pinned (OpenSpec.ofChange semReadsSpec)

/-- ITS FALSE NEIGHBOUR: 'it returns false'. Refute it at one input. -/
def semReadsWrong : ChangeSpec := { name := "semReads", fn := fun _ => fun
  | [d1, d2, d3, d4, d5] => { results := [.lit (.bool false)], args := [d1, d2, d3, d4, d5] }
  | _ => none }
def SemReadsWrongFalsely : Prop := semReadsRow.holds Tryz.pinned (OpenSpec.ofChange semReadsWrong)

/-- 'understudylaw06.SemAccess': WHATEVER THE INPUT: true; the input reads as it did. -/
def semAccessSpec : ChangeSpec := { name := "semAccess", fn := fun _ => fun
  | [d1, d2] => { results := [.lit (.bool true)], args := [d1, d2] }
  | _ => none }
def semAccessRow : OpenClaim := { program := "ytbjcdpmhmebjnaagreat", sum := "f11441951537a32d59d6d1b1700aaba993b428896a7976f34248dfd9aad911b7", func := "understudy/understudylaw06.SemAccess", spec := "semAccess", inPlace := ["math/bits.Add64"], unfollowed := true, recurses := true, apart := false }
def SemAccessSaid : Prop := semAccessRow.holds Tryz.pinned (OpenSpec.ofChange semAccessSpec)

/-- ITS FALSE NEIGHBOUR: 'it returns false'. Refute it at one input. -/
def semAccessWrong : ChangeSpec := { name := "semAccess", fn := fun _ => fun
  | [d1, d2] => { results := [.lit (.bool false)], args := [d1, d2] }
  | _ => none }
def SemAccessWrongFalsely : Prop := semAccessRow.holds Tryz.pinned (OpenSpec.ofChange semAccessWrong)

/- THE SECOND FORM. 'bulk': how many values and letters a reading holds, each counted each time it is reached (what is shared counts as often as it is met; a slice's spare places count too). A statement '..UptoSaid' is the law's where the arguments, and the package variables that the reading takes, are together of bulk at most 1048576: NARROWER than '..Said'. Prove '..Said' where nothing that the law and all that it calls make is longer than what came in: it says more and counts as full. Else prove '..UptoSaid'. A law counts once. -/
mutual
def uptoBulk {H : Type} : DataW H → Nat
  | .lit (.string bytes) => bytes.length + 1
  | .lit _ => 1
  | .nil => 1
  | .ptr d => uptoBulk d + 1
  | .slice elems spare => uptoBulkAll elems + uptoBulkAll spare + 1
  | .agg parts => uptoBulkAll parts + 1
  | .iface _ d => uptoBulk d + 1
  | .map entries => uptoBulkEntries entries + 1
  | .held _ => 1
def uptoBulkAll {H : Type} : List (DataW H) → Nat
  | [] => 0
  | d :: r => uptoBulk d + uptoBulkAll r
def uptoBulkEntries {H : Type} : List (Lit × DataW H) → Nat
  | [] => 0
  | x :: r => uptoBulkEntry x + uptoBulkEntries r
def uptoBulkEntry {H : Type} : Lit × DataW H → Nat
  | (.string bytes, d) => bytes.length + uptoBulk d + 1
  | (_, d) => uptoBulk d + 1
 end
def uptoSmall : (H : Type) → List (DataW H) → Bool := fun _ ds => decide (uptoBulkAll ds ≤ 1048576)
def OpenSpec.upto (s : _root_.Go.ChangeSpec) : _root_.Go.OpenSpec := { _root_.Go.OpenSpec.ofChange s with cond := some uptoSmall }

/-- 'understudylaw06.SemBegins', WHERE WHAT IT READS IS OF BULK AT MOST 1048576: true; the input reads as it did. -/
def semBeginsUptoRow : OpenClaim := { program := "ytbjcdpmhmebjnaagreat", sum := "f11441951537a32d59d6d1b1700aaba993b428896a7976f34248dfd9aad911b7", func := "understudy/understudylaw06.SemBegins", spec := "semBegins", inPlace := ["math/bits.Add64"], unfollowed := true, recurses := true, apart := false, narrowed := true }
def SemBeginsUptoSaid : Prop := semBeginsUptoRow.holds Tryz.pinned (OpenSpec.upto semBeginsSpec)

/-- 'understudylaw06.SemEnds', WHERE WHAT IT READS IS OF BULK AT MOST 1048576: true; the input reads as it did. -/
def semEndsUptoRow : OpenClaim := { program := "ytbjcdpmhmebjnaagreat", sum := "f11441951537a32d59d6d1b1700aaba993b428896a7976f34248dfd9aad911b7", func := "understudy/understudylaw06.SemEnds", spec := "semEnds", inPlace := ["math/bits.Add64"], unfollowed := true, recurses := true, apart := false, narrowed := true }
def SemEndsUptoSaid : Prop := semEndsUptoRow.holds Tryz.pinned (OpenSpec.upto semEndsSpec)

/-- 'understudylaw06.SemWrites', WHERE WHAT IT READS IS OF BULK AT MOST 1048576: true; the input reads as it did. -/
def semWritesUptoRow : OpenClaim := { program := "ytbjcdpmhmebjnaagreat", sum := "f11441951537a32d59d6d1b1700aaba993b428896a7976f34248dfd9aad911b7", func := "understudy/understudylaw06.SemWrites", spec := "semWrites", inPlace := ["math/bits.Add64"], unfollowed := true, recurses := true, apart := false, narrowed := true }
def SemWritesUptoSaid : Prop := semWritesUptoRow.holds Tryz.pinned (OpenSpec.upto semWritesSpec)

/-- 'understudylaw06.SemReads', WHERE WHAT IT READS IS OF BULK AT MOST 1048576: true; the input reads as it did. -/
def semReadsUptoRow : OpenClaim := { program := "ytbjcdpmhmebjnaagreat", sum := "f11441951537a32d59d6d1b1700aaba993b428896a7976f34248dfd9aad911b7", func := "understudy/understudylaw06.SemReads", spec := "semReads", inPlace := ["math/bits.Add64"], unfollowed := true, recurses := true, apart := false, narrowed := true }
def SemReadsUptoSaid : Prop := semReadsUptoRow.holds Tryz.pinned (OpenSpec.upto semReadsSpec)

/-- 'understudylaw06.SemAccess', WHERE WHAT IT READS IS OF BULK AT MOST 1048576: true; the input reads as it did. -/
def semAccessUptoRow : OpenClaim := { program := "ytbjcdpmhmebjnaagreat", sum := "f11441951537a32d59d6d1b1700aaba993b428896a7976f34248dfd9aad911b7", func := "understudy/understudylaw06.SemAccess", spec := "semAccess", inPlace := ["math/bits.Add64"], unfollowed := true, recurses := true, apart := false, narrowed := true }
def SemAccessUptoSaid : Prop := semAccessUptoRow.holds Tryz.pinned (OpenSpec.upto semAccessSpec)

end Rows
end Go.Proofs.YtbjcdpmhmebjnaaGreat
