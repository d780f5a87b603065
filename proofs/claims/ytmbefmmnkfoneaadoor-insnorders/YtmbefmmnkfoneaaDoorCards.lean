/-
  DERIVED. GIVEN WITH THE SEED: THE CARDS: each row of YtmbefmmnkfoneaaDoorRows.lean that lists a variable, with what it lists TIED to the program's text (the seventh form; the later family's looks); each row that meets fmt, with fmt's text TOLD by the authors' own Lean function (tested against real Go, not proved from fmt's source: count such statements apart). THE CARD IS WHAT COUNTS. Prove the row's statement (the work); the ties are given (YtmbefmmnkfoneaaDoorTie.lean); close each card by the builder's one call (the guide's Derived/Test/ToyasCard.lean, 'card_holds'). Laid BY PROGRAM, IN A SANDBOX (cutbox-door.mjs). By AI agents, Wed Nov 11 2026. No macro, syntax, notation, axiom, sorry.
-/
import Derived.Test.YtmbefmmnkfoneaaDoorRows
import GoSem.ClaimSeven
namespace Go.Proofs.YtmbefmmnkfoneaaDoor
namespace Rows

/-- THE TIED CARD OF 'understudylaw02.InsnOrders'. -/
def insnOrdersCard : Claim7 := { stood := { row := insnOrdersRow, standIns := [], harness := (true, "ec899fc01b1302001aa21922ee45043b3fa11cab16f3b73de24645976fcdd953"), looks := false }, kinds := [], alts := [], laidByText := true, laidKinds := [.data, .data, .data], laidTests := true, laidLooks := .later }
def InsnOrdersCardSaid : Prop := Claim7.holds Tryd.pinned (.plain (OpenSpec.ofChange insnOrdersSpec)) insnOrdersCard

/-- THE TIED CARD OF 'understudylaw02.InsnApart'. -/
def insnApartCard : Claim7 := { stood := { row := insnApartRow, standIns := [], harness := (true, "ec899fc01b1302001aa21922ee45043b3fa11cab16f3b73de24645976fcdd953"), looks := false }, kinds := [], alts := [], laidByText := true, laidKinds := [.data, .data, .data], laidTests := true, laidLooks := .later }
def InsnApartCardSaid : Prop := Claim7.holds Tryd.pinned (.plain (OpenSpec.ofChange insnApartSpec)) insnApartCard

/-- THE SECOND FORM's CARD OF 'understudylaw02.InsnOrders'. -/
def insnOrdersUptoCard : Claim7 := { stood := { row := insnOrdersUptoRow, standIns := [], harness := (true, "ec899fc01b1302001aa21922ee45043b3fa11cab16f3b73de24645976fcdd953"), looks := false }, kinds := [], alts := [], laidByText := true, laidKinds := [.data, .data, .data], laidTests := true, laidLooks := .later }
def InsnOrdersUptoCardSaid : Prop := Claim7.holds Tryd.pinned (.plain (OpenSpec.upto insnOrdersSpec)) insnOrdersUptoCard

/-- THE SECOND FORM's CARD OF 'understudylaw02.InsnApart'. -/
def insnApartUptoCard : Claim7 := { stood := { row := insnApartUptoRow, standIns := [], harness := (true, "ec899fc01b1302001aa21922ee45043b3fa11cab16f3b73de24645976fcdd953"), looks := false }, kinds := [], alts := [], laidByText := true, laidKinds := [.data, .data, .data], laidTests := true, laidLooks := .later }
def InsnApartUptoCardSaid : Prop := Claim7.holds Tryd.pinned (.plain (OpenSpec.upto insnApartSpec)) insnApartUptoCard
end Rows
end Go.Proofs.YtmbefmmnkfoneaaDoor
