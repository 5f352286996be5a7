/-
  DERIVED. GIVEN WITH THE SEED: THE CARDS: each row of YtmpcnkaodjjkbacDoorRows.lean that lists a variable, with what it lists TIED to the program's text (the seventh form; the later family's looks); each row that meets fmt, with fmt's text TOLD by the authors' own Lean function (tested against real Go, not proved from fmt's source: count such statements apart). THE CARD IS WHAT COUNTS. Prove the row's statement (the work); the ties are given (YtmpcnkaodjjkbacDoorTie.lean); close each card by the builder's one call (the guide's Derived/Test/ToyasCard.lean, 'card_holds'). Laid BY PROGRAM, IN A SANDBOX (cutbox-door.mjs). By AI agents, Wed Nov 11 2026. No macro, syntax, notation, axiom, sorry.
-/
import Derived.Test.YtmpcnkaodjjkbacDoorRows
import GoSem.ClaimSeven
namespace Go.Proofs.YtmpcnkaodjjkbacDoor
namespace Rows

/-- THE TIED CARD OF 'springhouselaw.TextSum'. -/
def textSumCard : Claim7 := { stood := { row := textSumRow, standIns := [], harness := (true, "c9b7e5083bfd153741988ebac85acbf1950b4e3592c64f13663d416f9c28974a"), looks := true }, kinds := [], alts := [], laidByText := true, laidKinds := [.data, .data, .data, .sentinel, .sentinel], laidTests := true, laidLooks := .later }
def TextSumCardSaid : Prop := Claim7.holds Tryd.pinned (.plain (OpenSpec.ofChange textSumSpec)) textSumCard

/-- THE SECOND FORM's CARD OF 'springhouselaw.TextSum'. -/
def textSumUptoCard : Claim7 := { stood := { row := textSumUptoRow, standIns := [], harness := (true, "c9b7e5083bfd153741988ebac85acbf1950b4e3592c64f13663d416f9c28974a"), looks := true }, kinds := [], alts := [], laidByText := true, laidKinds := [.data, .data, .data, .sentinel, .sentinel], laidTests := true, laidLooks := .later }
def TextSumUptoCardSaid : Prop := Claim7.holds Tryd.pinned (.plain (OpenSpec.upto textSumSpec)) textSumUptoCard
end Rows
end Go.Proofs.YtmpcnkaodjjkbacDoor
