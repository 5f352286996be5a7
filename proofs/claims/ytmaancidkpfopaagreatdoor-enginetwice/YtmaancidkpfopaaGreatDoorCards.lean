/-
  DERIVED. GIVEN WITH THE SEED: THE CARDS: each row of YtmaancidkpfopaaGreatDoorRows.lean that lists a variable, with what it lists TIED to the program's text (the seventh form; the later family's looks); each row that meets fmt, with fmt's text TOLD by the authors' own Lean function (tested against real Go, not proved from fmt's source: count such statements apart). THE CARD IS WHAT COUNTS. Prove the row's statement (the work); the ties are given (YtmaancidkpfopaaGreatDoorTie.lean); close each card by the builder's one call (the guide's Derived/Test/ToyasCard.lean, 'card_holds'). Laid BY PROGRAM, IN A SANDBOX (cutbox-door.mjs). By AI agents, Wed Nov 11 2026. No macro, syntax, notation, axiom, sorry.
-/
import Derived.Test.YtmaancidkpfopaaGreatDoorRows
import GoSem.ClaimSeven
namespace Go.Proofs.YtmaancidkpfopaaGreatDoor
namespace Rows

/-- THE TIED CARD OF 'springhouselaw.EngineTwice'. -/
def engineTwiceCard : Claim7 := { stood := { row := engineTwiceRow, standIns := [], harness := (true, "436816530fde235e5dc72bef76601ed658a5aeb8fec63039281593e1c713aaa0"), looks := true }, kinds := [], alts := [], laidByText := true, laidKinds := [.data, .data, .data, .sentinel, .sentinel], laidTests := true, laidLooks := .later }
def EngineTwiceCardSaid : Prop := Claim7.holds Tryz.pinned (.plain (OpenSpec.ofChange engineTwiceSpec)) engineTwiceCard

/-- THE SECOND FORM's CARD OF 'springhouselaw.EngineTwice'. -/
def engineTwiceUptoCard : Claim7 := { stood := { row := engineTwiceUptoRow, standIns := [], harness := (true, "436816530fde235e5dc72bef76601ed658a5aeb8fec63039281593e1c713aaa0"), looks := true }, kinds := [], alts := [], laidByText := true, laidKinds := [.data, .data, .data, .sentinel, .sentinel], laidTests := true, laidLooks := .later }
def EngineTwiceUptoCardSaid : Prop := Claim7.holds Tryz.pinned (.plain (OpenSpec.upto engineTwiceSpec)) engineTwiceUptoCard
end Rows
end Go.Proofs.YtmaancidkpfopaaGreatDoor
