/-
  NARROWER THAN 'FOR EVERY INPUT', by the rows' own cells (each row's printed sentence says how): AxiomJudges: laid · AxiomRelates: laid · AxiomAllows: laid · AxiomOrder: laid · AxiomMore: laid · AxiomTests: laid.
  DERIVED. THE GIVEN ROWS OF THIS SEAT. 6 by the template 'for every input the law returns true; each argument reads behind the call as it read before'; 0 by the template 'total and deterministic' (their statements: YtnedkielehmneaaGreatDoorTotals.lean).
  GIVEN WITH THE SEED: the statements are not yours to turn. If you find one false, say at which input.
  Laid BY PROGRAM, IN A SANDBOX (cutbox-rows.mjs): the forced cells as the released guide's own fill.sh prints them over the translation b3a148cd2ad01c86… (all of the seat's roots in one cut). By AI agents, Wed Nov 11 2026. No macro, syntax, notation, axiom, sorry.
-/
import Derived.Test.YtnedkielehmneaaGreatDoorChecked
import GoSem.Claim
import GoSem.ClaimJoined
import GoSem.ClaimMapViews
import Derived.JoinedTies
import Derived.KernelRfl
namespace Go.Proofs.YtnedkielehmneaaGreatDoor
/- THE CELL 'sum', in the pinned program and in every row, IS THE sha256 OF THE DUMP (.gsa) THAT YtnedkielehmneaaGreatDoorProg.lean LOADS. Nothing in Lean hashes anything: it is a label: what it is worth is what the hold of that sum in a sandbox is worth. -/
noncomputable def Tryz.pinned : Pinned := { name := "ytnedkielehmneaagreatdoor", sum := "b3a148cd2ad01c86a2010b8c640ed49a49204e18e4bec0be377a86a726d3fa9a", checked := Tryz.checked }
namespace Rows
def none {H : Type} : Left H := { results := [], args := [] }

/- WHAT THE LISTED PACKAGE-LEVEL VARIABLES READ AS WHEN THE CALL BEGINS. Each datum BY PROGRAM (the guide's laid-datum.mjs) off the statement by which the dump's own 'gosem.cut.vars' lays the variable. In a bare row this is a premise. The card (YtnedkielehmneaaGreatDoorCards.lean) ties it to the program's text. -/
def laid_math_bits_deBruijn64tab {H : Type} : DataW H := .agg [.lit (.int .u8 0), .lit (.int .u8 1), .lit (.int .u8 56), .lit (.int .u8 2), .lit (.int .u8 57), .lit (.int .u8 49), .lit (.int .u8 28), .lit (.int .u8 3), .lit (.int .u8 61), .lit (.int .u8 58), .lit (.int .u8 42), .lit (.int .u8 50), .lit (.int .u8 38), .lit (.int .u8 29), .lit (.int .u8 17), .lit (.int .u8 4), .lit (.int .u8 62), .lit (.int .u8 47), .lit (.int .u8 59), .lit (.int .u8 36), .lit (.int .u8 45), .lit (.int .u8 43), .lit (.int .u8 51), .lit (.int .u8 22), .lit (.int .u8 53), .lit (.int .u8 39), .lit (.int .u8 33), .lit (.int .u8 30), .lit (.int .u8 24), .lit (.int .u8 18), .lit (.int .u8 12), .lit (.int .u8 5), .lit (.int .u8 63), .lit (.int .u8 55), .lit (.int .u8 48), .lit (.int .u8 27), .lit (.int .u8 60), .lit (.int .u8 41), .lit (.int .u8 37), .lit (.int .u8 16), .lit (.int .u8 46), .lit (.int .u8 35), .lit (.int .u8 44), .lit (.int .u8 21), .lit (.int .u8 52), .lit (.int .u8 32), .lit (.int .u8 23), .lit (.int .u8 11), .lit (.int .u8 54), .lit (.int .u8 26), .lit (.int .u8 40), .lit (.int .u8 15), .lit (.int .u8 34), .lit (.int .u8 20), .lit (.int .u8 31), .lit (.int .u8 10), .lit (.int .u8 25), .lit (.int .u8 14), .lit (.int .u8 19), .lit (.int .u8 9), .lit (.int .u8 13), .lit (.int .u8 8), .lit (.int .u8 7), .lit (.int .u8 6)]

/-- 'understudylaw14.AxiomJudges': WHATEVER THE INPUT: true; the input reads as it did. -/
def axiomJudgesSpec : ChangeSpec := { name := "axiomJudges", fn := fun _ => fun
  | [d] => { results := [.lit (.bool true)], args := [d] }
  | _ => none }
def axiomJudgesRow : OpenClaim := { program := "ytnedkielehmneaagreatdoor", sum := "b3a148cd2ad01c86a2010b8c640ed49a49204e18e4bec0be377a86a726d3fa9a", func := "understudy/understudylaw14.AxiomJudges", spec := "axiomJudges", unfollowed := true, recurses := true, named := ["math/bits.deBruijn64tab"], apart := false, laid := [("math/bits.deBruijn64tab", laid_math_bits_deBruijn64tab)] }
def AxiomJudgesSaid : Prop := axiomJudgesRow.holds Tryz.pinned (OpenSpec.ofChange axiomJudgesSpec)

/-- ITS FALSE NEIGHBOUR: 'it returns false'. Refute it at one input. -/
def axiomJudgesWrong : ChangeSpec := { name := "axiomJudges", fn := fun _ => fun
  | [d] => { results := [.lit (.bool false)], args := [d] }
  | _ => none }
def AxiomJudgesWrongFalsely : Prop := axiomJudgesRow.holds Tryz.pinned (OpenSpec.ofChange axiomJudgesWrong)

/-- 'understudylaw14.AxiomRelates': WHATEVER THE INPUT: true; the input reads as it did. -/
def axiomRelatesSpec : ChangeSpec := { name := "axiomRelates", fn := fun _ => fun
  | [d1, d2] => { results := [.lit (.bool true)], args := [d1, d2] }
  | _ => none }
def axiomRelatesRow : OpenClaim := { program := "ytnedkielehmneaagreatdoor", sum := "b3a148cd2ad01c86a2010b8c640ed49a49204e18e4bec0be377a86a726d3fa9a", func := "understudy/understudylaw14.AxiomRelates", spec := "axiomRelates", unfollowed := true, recurses := true, named := ["math/bits.deBruijn64tab"], apart := false, laid := [("math/bits.deBruijn64tab", laid_math_bits_deBruijn64tab)] }
def AxiomRelatesSaid : Prop := axiomRelatesRow.holds Tryz.pinned (OpenSpec.ofChange axiomRelatesSpec)

/-- ITS FALSE NEIGHBOUR: 'it returns false'. Refute it at one input. -/
def axiomRelatesWrong : ChangeSpec := { name := "axiomRelates", fn := fun _ => fun
  | [d1, d2] => { results := [.lit (.bool false)], args := [d1, d2] }
  | _ => none }
def AxiomRelatesWrongFalsely : Prop := axiomRelatesRow.holds Tryz.pinned (OpenSpec.ofChange axiomRelatesWrong)

/-- 'understudylaw14.AxiomAllows': WHATEVER THE INPUT: true; the input reads as it did. -/
def axiomAllowsSpec : ChangeSpec := { name := "axiomAllows", fn := fun _ => fun
  | [d] => { results := [.lit (.bool true)], args := [d] }
  | _ => none }
def axiomAllowsRow : OpenClaim := { program := "ytnedkielehmneaagreatdoor", sum := "b3a148cd2ad01c86a2010b8c640ed49a49204e18e4bec0be377a86a726d3fa9a", func := "understudy/understudylaw14.AxiomAllows", spec := "axiomAllows", unfollowed := true, recurses := true, named := ["math/bits.deBruijn64tab"], apart := false, laid := [("math/bits.deBruijn64tab", laid_math_bits_deBruijn64tab)] }
def AxiomAllowsSaid : Prop := axiomAllowsRow.holds Tryz.pinned (OpenSpec.ofChange axiomAllowsSpec)

/-- ITS FALSE NEIGHBOUR: 'it returns false'. Refute it at one input. -/
def axiomAllowsWrong : ChangeSpec := { name := "axiomAllows", fn := fun _ => fun
  | [d] => { results := [.lit (.bool false)], args := [d] }
  | _ => none }
def AxiomAllowsWrongFalsely : Prop := axiomAllowsRow.holds Tryz.pinned (OpenSpec.ofChange axiomAllowsWrong)

/-- 'understudylaw14.AxiomOrder': WHATEVER THE INPUT: true; the input reads as it did. -/
def axiomOrderSpec : ChangeSpec := { name := "axiomOrder", fn := fun _ => fun
  | [d1, d2] => { results := [.lit (.bool true)], args := [d1, d2] }
  | _ => none }
def axiomOrderRow : OpenClaim := { program := "ytnedkielehmneaagreatdoor", sum := "b3a148cd2ad01c86a2010b8c640ed49a49204e18e4bec0be377a86a726d3fa9a", func := "understudy/understudylaw14.AxiomOrder", spec := "axiomOrder", unfollowed := true, recurses := true, named := ["math/bits.deBruijn64tab"], apart := false, laid := [("math/bits.deBruijn64tab", laid_math_bits_deBruijn64tab)] }
def AxiomOrderSaid : Prop := axiomOrderRow.holds Tryz.pinned (OpenSpec.ofChange axiomOrderSpec)

/-- ITS FALSE NEIGHBOUR: 'it returns false'. Refute it at one input. -/
def axiomOrderWrong : ChangeSpec := { name := "axiomOrder", fn := fun _ => fun
  | [d1, d2] => { results := [.lit (.bool false)], args := [d1, d2] }
  | _ => none }
def AxiomOrderWrongFalsely : Prop := axiomOrderRow.holds Tryz.pinned (OpenSpec.ofChange axiomOrderWrong)

/-- 'understudylaw14.AxiomMore': WHATEVER THE INPUT: true; the input reads as it did. -/
def axiomMoreSpec : ChangeSpec := { name := "axiomMore", fn := fun _ => fun
  | [d1, d2, d3, d4] => { results := [.lit (.bool true)], args := [d1, d2, d3, d4] }
  | _ => none }
def axiomMoreRow : OpenClaim := { program := "ytnedkielehmneaagreatdoor", sum := "b3a148cd2ad01c86a2010b8c640ed49a49204e18e4bec0be377a86a726d3fa9a", func := "understudy/understudylaw14.AxiomMore", spec := "axiomMore", unfollowed := true, recurses := true, named := ["math/bits.deBruijn64tab"], apart := false, laid := [("math/bits.deBruijn64tab", laid_math_bits_deBruijn64tab)] }
def AxiomMoreSaid : Prop := axiomMoreRow.holds Tryz.pinned (OpenSpec.ofChange axiomMoreSpec)

/-- ITS FALSE NEIGHBOUR: 'it returns false'. Refute it at one input. -/
def axiomMoreWrong : ChangeSpec := { name := "axiomMore", fn := fun _ => fun
  | [d1, d2, d3, d4] => { results := [.lit (.bool false)], args := [d1, d2, d3, d4] }
  | _ => none }
def AxiomMoreWrongFalsely : Prop := axiomMoreRow.holds Tryz.pinned (OpenSpec.ofChange axiomMoreWrong)

/-- 'understudylaw14.AxiomTests': WHATEVER THE INPUT: true; the input reads as it did. -/
def axiomTestsSpec : ChangeSpec := { name := "axiomTests", fn := fun _ => fun
  | [d1, d2] => { results := [.lit (.bool true)], args := [d1, d2] }
  | _ => none }
def axiomTestsRow : OpenClaim := { program := "ytnedkielehmneaagreatdoor", sum := "b3a148cd2ad01c86a2010b8c640ed49a49204e18e4bec0be377a86a726d3fa9a", func := "understudy/understudylaw14.AxiomTests", spec := "axiomTests", unfollowed := true, recurses := true, named := ["math/bits.deBruijn64tab"], apart := false, laid := [("math/bits.deBruijn64tab", laid_math_bits_deBruijn64tab)] }
def AxiomTestsSaid : Prop := axiomTestsRow.holds Tryz.pinned (OpenSpec.ofChange axiomTestsSpec)

/-- ITS FALSE NEIGHBOUR: 'it returns false'. Refute it at one input. -/
def axiomTestsWrong : ChangeSpec := { name := "axiomTests", fn := fun _ => fun
  | [d1, d2] => { results := [.lit (.bool false)], args := [d1, d2] }
  | _ => none }
def AxiomTestsWrongFalsely : Prop := axiomTestsRow.holds Tryz.pinned (OpenSpec.ofChange axiomTestsWrong)

/- THE SECOND FORM. 'bulk': how many values and letters a reading holds, each counted each time it is reached (what is shared counts as often as it is met; a slice's spare places count too). A statement '..UptoSaid' is the law's where the arguments, and the package variables that the reading takes, are together of bulk at most 1048576: NARROWER than '..Said'. Prove '..Said' where nothing that the law and all that it calls make is longer than what came in: it says more and counts as full. Else prove '..UptoSaid'. A law counts once. -/
mutual
def uptoBulk {H : Type} : DataW H → Nat
  | .lit (.string bytes) => bytes.length + 1
  | .lit _ => 1
  | .nil => 1
  | .ptr d => uptoBulk d + 1
  | .slice elems spare => uptoBulkAll elems + uptoBulkAll spare + 1
  | .agg parts => uptoBulkAll parts + 1
  | .iface _ d => uptoBulk d + 1
  | .map entries => uptoBulkEntries entries + 1
  | .held _ => 1
def uptoBulkAll {H : Type} : List (DataW H) → Nat
  | [] => 0
  | d :: r => uptoBulk d + uptoBulkAll r
def uptoBulkEntries {H : Type} : List (Lit × DataW H) → Nat
  | [] => 0
  | x :: r => uptoBulkEntry x + uptoBulkEntries r
def uptoBulkEntry {H : Type} : Lit × DataW H → Nat
  | (.string bytes, d) => bytes.length + uptoBulk d + 1
  | (_, d) => uptoBulk d + 1
 end
def uptoSmall : (H : Type) → List (DataW H) → Bool := fun _ ds => decide (uptoBulkAll ds ≤ 1048576)
def OpenSpec.upto (s : _root_.Go.ChangeSpec) : _root_.Go.OpenSpec := { _root_.Go.OpenSpec.ofChange s with cond := some uptoSmall }

/-- 'understudylaw14.AxiomJudges', WHERE WHAT IT READS IS OF BULK AT MOST 1048576: true; the input reads as it did. -/
def axiomJudgesUptoRow : OpenClaim := { program := "ytnedkielehmneaagreatdoor", sum := "b3a148cd2ad01c86a2010b8c640ed49a49204e18e4bec0be377a86a726d3fa9a", func := "understudy/understudylaw14.AxiomJudges", spec := "axiomJudges", unfollowed := true, recurses := true, named := ["math/bits.deBruijn64tab"], apart := false, laid := [("math/bits.deBruijn64tab", laid_math_bits_deBruijn64tab)], narrowed := true }
def AxiomJudgesUptoSaid : Prop := axiomJudgesUptoRow.holds Tryz.pinned (OpenSpec.upto axiomJudgesSpec)

/-- 'understudylaw14.AxiomRelates', WHERE WHAT IT READS IS OF BULK AT MOST 1048576: true; the input reads as it did. -/
def axiomRelatesUptoRow : OpenClaim := { program := "ytnedkielehmneaagreatdoor", sum := "b3a148cd2ad01c86a2010b8c640ed49a49204e18e4bec0be377a86a726d3fa9a", func := "understudy/understudylaw14.AxiomRelates", spec := "axiomRelates", unfollowed := true, recurses := true, named := ["math/bits.deBruijn64tab"], apart := false, laid := [("math/bits.deBruijn64tab", laid_math_bits_deBruijn64tab)], narrowed := true }
def AxiomRelatesUptoSaid : Prop := axiomRelatesUptoRow.holds Tryz.pinned (OpenSpec.upto axiomRelatesSpec)

/-- 'understudylaw14.AxiomAllows', WHERE WHAT IT READS IS OF BULK AT MOST 1048576: true; the input reads as it did. -/
def axiomAllowsUptoRow : OpenClaim := { program := "ytnedkielehmneaagreatdoor", sum := "b3a148cd2ad01c86a2010b8c640ed49a49204e18e4bec0be377a86a726d3fa9a", func := "understudy/understudylaw14.AxiomAllows", spec := "axiomAllows", unfollowed := true, recurses := true, named := ["math/bits.deBruijn64tab"], apart := false, laid := [("math/bits.deBruijn64tab", laid_math_bits_deBruijn64tab)], narrowed := true }
def AxiomAllowsUptoSaid : Prop := axiomAllowsUptoRow.holds Tryz.pinned (OpenSpec.upto axiomAllowsSpec)

/-- 'understudylaw14.AxiomOrder', WHERE WHAT IT READS IS OF BULK AT MOST 1048576: true; the input reads as it did. -/
def axiomOrderUptoRow : OpenClaim := { program := "ytnedkielehmneaagreatdoor", sum := "b3a148cd2ad01c86a2010b8c640ed49a49204e18e4bec0be377a86a726d3fa9a", func := "understudy/understudylaw14.AxiomOrder", spec := "axiomOrder", unfollowed := true, recurses := true, named := ["math/bits.deBruijn64tab"], apart := false, laid := [("math/bits.deBruijn64tab", laid_math_bits_deBruijn64tab)], narrowed := true }
def AxiomOrderUptoSaid : Prop := axiomOrderUptoRow.holds Tryz.pinned (OpenSpec.upto axiomOrderSpec)

/-- 'understudylaw14.AxiomMore', WHERE WHAT IT READS IS OF BULK AT MOST 1048576: true; the input reads as it did. -/
def axiomMoreUptoRow : OpenClaim := { program := "ytnedkielehmneaagreatdoor", sum := "b3a148cd2ad01c86a2010b8c640ed49a49204e18e4bec0be377a86a726d3fa9a", func := "understudy/understudylaw14.AxiomMore", spec := "axiomMore", unfollowed := true, recurses := true, named := ["math/bits.deBruijn64tab"], apart := false, laid := [("math/bits.deBruijn64tab", laid_math_bits_deBruijn64tab)], narrowed := true }
def AxiomMoreUptoSaid : Prop := axiomMoreUptoRow.holds Tryz.pinned (OpenSpec.upto axiomMoreSpec)

/-- 'understudylaw14.AxiomTests', WHERE WHAT IT READS IS OF BULK AT MOST 1048576: true; the input reads as it did. -/
def axiomTestsUptoRow : OpenClaim := { program := "ytnedkielehmneaagreatdoor", sum := "b3a148cd2ad01c86a2010b8c640ed49a49204e18e4bec0be377a86a726d3fa9a", func := "understudy/understudylaw14.AxiomTests", spec := "axiomTests", unfollowed := true, recurses := true, named := ["math/bits.deBruijn64tab"], apart := false, laid := [("math/bits.deBruijn64tab", laid_math_bits_deBruijn64tab)], narrowed := true }
def AxiomTestsUptoSaid : Prop := axiomTestsUptoRow.holds Tryz.pinned (OpenSpec.upto axiomTestsSpec)

end Rows
end Go.Proofs.YtnedkielehmneaaGreatDoor
