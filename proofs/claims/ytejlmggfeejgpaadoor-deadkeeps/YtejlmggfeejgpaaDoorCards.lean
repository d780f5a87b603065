/-
  DERIVED. GIVEN WITH THE SEED: THE CARDS: each row of YtejlmggfeejgpaaDoorRows.lean that lists a variable, with what it lists TIED to the program's text (the seventh form; the later family's looks); each row that meets fmt, with fmt's text TOLD by the authors' own Lean function (tested against real Go, not proved from fmt's source: count such statements apart). THE CARD IS WHAT COUNTS. Prove the row's statement (the work); the ties are given (YtejlmggfeejgpaaDoorTie.lean); close each card by the builder's one call (the guide's Derived/Test/ToyasCard.lean, 'card_holds'). Laid BY PROGRAM, IN A SANDBOX (cutbox-door.mjs). By AI agents, Wed Nov 11 2026. No macro, syntax, notation, axiom, sorry.
-/
import Derived.Test.YtejlmggfeejgpaaDoorRows
import GoSem.ClaimSeven
namespace Go.Proofs.YtejlmggfeejgpaaDoor
namespace Rows

/-- THE TIED CARD OF 'understudylaw19.DeadKeeps'. -/
def deadKeepsCard : Claim7 := { stood := { row := deadKeepsRow, standIns := [], harness := (true, "8617d21b5dc351b6d72f144a0d99b80deb67ae95818d4bed1f4a5e8e62e98faa"), looks := false }, kinds := [], alts := [], laidByText := true, laidKinds := [.data, .data, .data], laidTests := true, laidLooks := .later }
def DeadKeepsCardSaid : Prop := Claim7.holds Tryd.pinned (.plain (OpenSpec.ofChange deadKeepsSpec)) deadKeepsCard

/-- THE SECOND FORM's CARD OF 'understudylaw19.DeadKeeps'. -/
def deadKeepsUptoCard : Claim7 := { stood := { row := deadKeepsUptoRow, standIns := [], harness := (true, "8617d21b5dc351b6d72f144a0d99b80deb67ae95818d4bed1f4a5e8e62e98faa"), looks := false }, kinds := [], alts := [], laidByText := true, laidKinds := [.data, .data, .data], laidTests := true, laidLooks := .later }
def DeadKeepsUptoCardSaid : Prop := Claim7.holds Tryd.pinned (.plain (OpenSpec.upto deadKeepsSpec)) deadKeepsUptoCard
end Rows
end Go.Proofs.YtejlmggfeejgpaaDoor
