/-
  DERIVED. GIVEN WITH THE SEED: THE CARDS: each row of YtjmdgfimmjodjaaGreatDoorRows.lean that lists a variable, with what it lists TIED to the program's text (the seventh form; the later family's looks); each row that meets fmt, with fmt's text TOLD by the authors' own Lean function (tested against real Go, not proved from fmt's source: count such statements apart). THE CARD IS WHAT COUNTS. Prove the row's statement (the work); the ties are given (YtjmdgfimmjodjaaGreatDoorTie.lean); close each card by the builder's one call (the guide's Derived/Test/ToyasCard.lean, 'card_holds'). Laid BY PROGRAM, IN A SANDBOX (cutbox-door.mjs). By AI agents, Wed Nov 11 2026. No macro, syntax, notation, axiom, sorry.
-/
import Derived.Test.YtjmdgfimmjodjaaGreatDoorRows
import GoSem.ClaimSeven
namespace Go.Proofs.YtjmdgfimmjodjaaGreatDoor
namespace Rows

/-- THE TIED CARD OF 'understudylaw02.InsnTells'. -/
def insnTellsCard : Claim7 := { stood := { row := insnTellsRow, standIns := [], harness := (true, "daf7633578d3a1d0a478f6d297dcf58db12350d9b61bfb50af57739a99b93c2b"), looks := false }, kinds := [], alts := [], laidByText := true, laidKinds := [.data, .data, .data], laidTests := true, laidLooks := .later }
def InsnTellsCardSaid : Prop := Claim7.holds Tryz.pinned (.plain (OpenSpec.ofChange insnTellsSpec)) insnTellsCard

/-- THE SECOND FORM's CARD OF 'understudylaw02.InsnTells'. -/
def insnTellsUptoCard : Claim7 := { stood := { row := insnTellsUptoRow, standIns := [], harness := (true, "daf7633578d3a1d0a478f6d297dcf58db12350d9b61bfb50af57739a99b93c2b"), looks := false }, kinds := [], alts := [], laidByText := true, laidKinds := [.data, .data, .data], laidTests := true, laidLooks := .later }
def InsnTellsUptoCardSaid : Prop := Claim7.holds Tryz.pinned (.plain (OpenSpec.upto insnTellsSpec)) insnTellsUptoCard
end Rows
end Go.Proofs.YtjmdgfimmjodjaaGreatDoor
