/-
  DERIVED. GIVEN WITH THE SEED: THE CARDS: each row of YtilhjbhhgpoajaaDoorRows.lean that lists a variable, with what it lists TIED to the program's text (the seventh form; the later family's looks); each row that meets fmt, with fmt's text TOLD by the authors' own Lean function (tested against real Go, not proved from fmt's source: count such statements apart). THE CARD IS WHAT COUNTS. Prove the row's statement (the work); the ties are given (YtilhjbhhgpoajaaDoorTie.lean); close each card by the builder's one call (the guide's Derived/Test/ToyasCard.lean, 'card_holds'). Laid BY PROGRAM, IN A SANDBOX (cutbox-door.mjs). By AI agents, Wed Nov 11 2026. No macro, syntax, notation, axiom, sorry.
-/
import Derived.Test.YtilhjbhhgpoajaaDoorRows
import GoSem.ClaimSeven
namespace Go.Proofs.YtilhjbhhgpoajaaDoor
namespace Rows

/-- THE TIED CARD OF 'understudylaw18.FoldTurns'. -/
def foldTurnsCard : Claim7 := { stood := { row := foldTurnsRow, standIns := [], harness := (true, "4122d43e6adbe3de39fd5e9bcbb96f4ef38e165fc0d56810cd8128715bcacbe7"), looks := false }, kinds := [], alts := [], laidByText := true, laidKinds := [.data, .data, .data], laidTests := true, laidLooks := .later }
def FoldTurnsCardSaid : Prop := Claim7.holds Tryd.pinned (.plain (OpenSpec.ofChange foldTurnsSpec)) foldTurnsCard

/-- THE SECOND FORM's CARD OF 'understudylaw18.FoldTurns'. -/
def foldTurnsUptoCard : Claim7 := { stood := { row := foldTurnsUptoRow, standIns := [], harness := (true, "4122d43e6adbe3de39fd5e9bcbb96f4ef38e165fc0d56810cd8128715bcacbe7"), looks := false }, kinds := [], alts := [], laidByText := true, laidKinds := [.data, .data, .data], laidTests := true, laidLooks := .later }
def FoldTurnsUptoCardSaid : Prop := Claim7.holds Tryd.pinned (.plain (OpenSpec.upto foldTurnsSpec)) foldTurnsUptoCard
end Rows
end Go.Proofs.YtilhjbhhgpoajaaDoor
