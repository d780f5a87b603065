/-
  DERIVED. GIVEN WITH THE SEED: THE CARDS: each row of YtnedkielehmneaaGreatDoorRows.lean that lists a variable, with what it lists TIED to the program's text (the seventh form; the later family's looks); each row that meets fmt, with fmt's text TOLD by the authors' own Lean function (tested against real Go, not proved from fmt's source: count such statements apart). THE CARD IS WHAT COUNTS. Prove the row's statement (the work); the ties are given (YtnedkielehmneaaGreatDoorTie.lean); close each card by the builder's one call (the guide's Derived/Test/ToyasCard.lean, 'card_holds'). Laid BY PROGRAM, IN A SANDBOX (cutbox-door.mjs). By AI agents, Wed Nov 11 2026. No macro, syntax, notation, axiom, sorry.
-/
import Derived.Test.YtnedkielehmneaaGreatDoorRows
import GoSem.ClaimSeven
namespace Go.Proofs.YtnedkielehmneaaGreatDoor
namespace Rows

/-- THE TIED CARD OF 'understudylaw14.AxiomJudges'. -/
def axiomJudgesCard : Claim7 := { stood := { row := axiomJudgesRow, standIns := [], harness := (true, "e491b5a6516037145e7550186ea66c788ad3e05300a154877179a1228c965608"), looks := false }, kinds := [], alts := [], laidByText := true, laidKinds := [.data], laidTests := true, laidLooks := .later }
def AxiomJudgesCardSaid : Prop := Claim7.holds Tryz.pinned (.plain (OpenSpec.ofChange axiomJudgesSpec)) axiomJudgesCard

/-- THE TIED CARD OF 'understudylaw14.AxiomRelates'. -/
def axiomRelatesCard : Claim7 := { stood := { row := axiomRelatesRow, standIns := [], harness := (true, "e491b5a6516037145e7550186ea66c788ad3e05300a154877179a1228c965608"), looks := false }, kinds := [], alts := [], laidByText := true, laidKinds := [.data], laidTests := true, laidLooks := .later }
def AxiomRelatesCardSaid : Prop := Claim7.holds Tryz.pinned (.plain (OpenSpec.ofChange axiomRelatesSpec)) axiomRelatesCard

/-- THE TIED CARD OF 'understudylaw14.AxiomAllows'. -/
def axiomAllowsCard : Claim7 := { stood := { row := axiomAllowsRow, standIns := [], harness := (true, "e491b5a6516037145e7550186ea66c788ad3e05300a154877179a1228c965608"), looks := false }, kinds := [], alts := [], laidByText := true, laidKinds := [.data], laidTests := true, laidLooks := .later }
def AxiomAllowsCardSaid : Prop := Claim7.holds Tryz.pinned (.plain (OpenSpec.ofChange axiomAllowsSpec)) axiomAllowsCard

/-- THE TIED CARD OF 'understudylaw14.AxiomOrder'. -/
def axiomOrderCard : Claim7 := { stood := { row := axiomOrderRow, standIns := [], harness := (true, "e491b5a6516037145e7550186ea66c788ad3e05300a154877179a1228c965608"), looks := false }, kinds := [], alts := [], laidByText := true, laidKinds := [.data], laidTests := true, laidLooks := .later }
def AxiomOrderCardSaid : Prop := Claim7.holds Tryz.pinned (.plain (OpenSpec.ofChange axiomOrderSpec)) axiomOrderCard

/-- THE TIED CARD OF 'understudylaw14.AxiomMore'. -/
def axiomMoreCard : Claim7 := { stood := { row := axiomMoreRow, standIns := [], harness := (true, "e491b5a6516037145e7550186ea66c788ad3e05300a154877179a1228c965608"), looks := false }, kinds := [], alts := [], laidByText := true, laidKinds := [.data], laidTests := true, laidLooks := .later }
def AxiomMoreCardSaid : Prop := Claim7.holds Tryz.pinned (.plain (OpenSpec.ofChange axiomMoreSpec)) axiomMoreCard

/-- THE TIED CARD OF 'understudylaw14.AxiomTests'. -/
def axiomTestsCard : Claim7 := { stood := { row := axiomTestsRow, standIns := [], harness := (true, "e491b5a6516037145e7550186ea66c788ad3e05300a154877179a1228c965608"), looks := false }, kinds := [], alts := [], laidByText := true, laidKinds := [.data], laidTests := true, laidLooks := .later }
def AxiomTestsCardSaid : Prop := Claim7.holds Tryz.pinned (.plain (OpenSpec.ofChange axiomTestsSpec)) axiomTestsCard

/-- THE SECOND FORM's CARD OF 'understudylaw14.AxiomJudges'. -/
def axiomJudgesUptoCard : Claim7 := { stood := { row := axiomJudgesUptoRow, standIns := [], harness := (true, "e491b5a6516037145e7550186ea66c788ad3e05300a154877179a1228c965608"), looks := false }, kinds := [], alts := [], laidByText := true, laidKinds := [.data], laidTests := true, laidLooks := .later }
def AxiomJudgesUptoCardSaid : Prop := Claim7.holds Tryz.pinned (.plain (OpenSpec.upto axiomJudgesSpec)) axiomJudgesUptoCard

/-- THE SECOND FORM's CARD OF 'understudylaw14.AxiomRelates'. -/
def axiomRelatesUptoCard : Claim7 := { stood := { row := axiomRelatesUptoRow, standIns := [], harness := (true, "e491b5a6516037145e7550186ea66c788ad3e05300a154877179a1228c965608"), looks := false }, kinds := [], alts := [], laidByText := true, laidKinds := [.data], laidTests := true, laidLooks := .later }
def AxiomRelatesUptoCardSaid : Prop := Claim7.holds Tryz.pinned (.plain (OpenSpec.upto axiomRelatesSpec)) axiomRelatesUptoCard

/-- THE SECOND FORM's CARD OF 'understudylaw14.AxiomAllows'. -/
def axiomAllowsUptoCard : Claim7 := { stood := { row := axiomAllowsUptoRow, standIns := [], harness := (true, "e491b5a6516037145e7550186ea66c788ad3e05300a154877179a1228c965608"), looks := false }, kinds := [], alts := [], laidByText := true, laidKinds := [.data], laidTests := true, laidLooks := .later }
def AxiomAllowsUptoCardSaid : Prop := Claim7.holds Tryz.pinned (.plain (OpenSpec.upto axiomAllowsSpec)) axiomAllowsUptoCard

/-- THE SECOND FORM's CARD OF 'understudylaw14.AxiomOrder'. -/
def axiomOrderUptoCard : Claim7 := { stood := { row := axiomOrderUptoRow, standIns := [], harness := (true, "e491b5a6516037145e7550186ea66c788ad3e05300a154877179a1228c965608"), looks := false }, kinds := [], alts := [], laidByText := true, laidKinds := [.data], laidTests := true, laidLooks := .later }
def AxiomOrderUptoCardSaid : Prop := Claim7.holds Tryz.pinned (.plain (OpenSpec.upto axiomOrderSpec)) axiomOrderUptoCard

/-- THE SECOND FORM's CARD OF 'understudylaw14.AxiomMore'. -/
def axiomMoreUptoCard : Claim7 := { stood := { row := axiomMoreUptoRow, standIns := [], harness := (true, "e491b5a6516037145e7550186ea66c788ad3e05300a154877179a1228c965608"), looks := false }, kinds := [], alts := [], laidByText := true, laidKinds := [.data], laidTests := true, laidLooks := .later }
def AxiomMoreUptoCardSaid : Prop := Claim7.holds Tryz.pinned (.plain (OpenSpec.upto axiomMoreSpec)) axiomMoreUptoCard

/-- THE SECOND FORM's CARD OF 'understudylaw14.AxiomTests'. -/
def axiomTestsUptoCard : Claim7 := { stood := { row := axiomTestsUptoRow, standIns := [], harness := (true, "e491b5a6516037145e7550186ea66c788ad3e05300a154877179a1228c965608"), looks := false }, kinds := [], alts := [], laidByText := true, laidKinds := [.data], laidTests := true, laidLooks := .later }
def AxiomTestsUptoCardSaid : Prop := Claim7.holds Tryz.pinned (.plain (OpenSpec.upto axiomTestsSpec)) axiomTestsUptoCard
end Rows
end Go.Proofs.YtnedkielehmneaaGreatDoor
