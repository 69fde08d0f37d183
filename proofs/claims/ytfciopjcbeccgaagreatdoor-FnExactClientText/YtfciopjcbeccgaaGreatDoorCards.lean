/-
  DERIVED. GIVEN WITH THE SEED: THE CARDS: each row of YtfciopjcbeccgaaGreatDoorRows.lean that lists a variable, with what it lists TIED to the program's text (the seventh form; the later family's looks); each row that meets fmt, with fmt's text TOLD by the authors' own Lean function (tested against real Go, not proved from fmt's source: count such statements apart). THE CARD IS WHAT COUNTS. Prove the row's statement (the work); the ties are given (YtfciopjcbeccgaaGreatDoorTie.lean); close each card by the builder's one call (the guide's Derived/Test/ToyasCard.lean, 'card_holds'). Laid BY PROGRAM, IN A SANDBOX (cutbox-door.mjs). By AI agents, Wed Nov 11 2026. No macro, syntax, notation, axiom, sorry.
-/
import Derived.Test.YtfciopjcbeccgaaGreatDoorRows
import GoSem.ClaimSeven
namespace Go.Proofs.YtfciopjcbeccgaaGreatDoor
namespace Rows

/-- THE TIED CARD OF 'laws.FnExactClientText'. -/
def fnExactClientTextCard : Claim7 := { stood := { row := fnExactClientTextRow, standIns := [], harness := (true, "a49322670f3ae12de0ef524b95667c71fd0e9c307e732cde7394373063bc11d8"), looks := false }, kinds := [], alts := [], laidByText := true, laidKinds := [.data], laidTests := true, laidLooks := .later }
def FnExactClientTextCardSaid : Prop := Claim7.holds Tryz.pinned (.plain (OpenSpec.ofChange fnExactClientTextSpec)) fnExactClientTextCard

/-- THE SECOND FORM's CARD OF 'laws.FnExactClientText'. -/
def fnExactClientTextUptoCard : Claim7 := { stood := { row := fnExactClientTextUptoRow, standIns := [], harness := (true, "a49322670f3ae12de0ef524b95667c71fd0e9c307e732cde7394373063bc11d8"), looks := false }, kinds := [], alts := [], laidByText := true, laidKinds := [.data], laidTests := true, laidLooks := .later }
def FnExactClientTextUptoCardSaid : Prop := Claim7.holds Tryz.pinned (.plain (OpenSpec.upto fnExactClientTextSpec)) fnExactClientTextUptoCard
end Rows
end Go.Proofs.YtfciopjcbeccgaaGreatDoor
