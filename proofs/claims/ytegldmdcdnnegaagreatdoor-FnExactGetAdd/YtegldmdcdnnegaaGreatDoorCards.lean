/-
  DERIVED. GIVEN WITH THE SEED: THE CARDS: each row of YtegldmdcdnnegaaGreatDoorRows.lean that lists a variable, with what it lists TIED to the program's text (the seventh form; the later family's looks); each row that meets fmt, with fmt's text TOLD by the authors' own Lean function (tested against real Go, not proved from fmt's source: count such statements apart). THE CARD IS WHAT COUNTS. Prove the row's statement (the work); the ties are given (YtegldmdcdnnegaaGreatDoorTie.lean); close each card by the builder's one call (the guide's Derived/Test/ToyasCard.lean, 'card_holds'). Laid BY PROGRAM, IN A SANDBOX (cutbox-door.mjs). By AI agents, Wed Nov 11 2026. No macro, syntax, notation, axiom, sorry.
-/
import Derived.Test.YtegldmdcdnnegaaGreatDoorRows
import GoSem.ClaimSeven
namespace Go.Proofs.YtegldmdcdnnegaaGreatDoor
namespace Rows

/-- THE TIED CARD OF 'laws.FnExactGetAdd'. -/
def fnExactGetAddCard : Claim7 := { stood := { row := fnExactGetAddRow, standIns := [], harness := (true, "9a2e7e781af62ba3d7260dc4a921dd6b8aeb4492a2c813ab76f53ba870794add"), looks := true }, kinds := [], alts := [], laidByText := true, laidKinds := [.data, .handle], laidTests := true, laidLooks := .later }
def FnExactGetAddCardSaid : Prop := Claim7.holds Tryz.pinned (.plain (OpenSpec.ofChange fnExactGetAddSpec)) fnExactGetAddCard

/-- THE SECOND FORM's CARD OF 'laws.FnExactGetAdd'. -/
def fnExactGetAddUptoCard : Claim7 := { stood := { row := fnExactGetAddUptoRow, standIns := [], harness := (true, "9a2e7e781af62ba3d7260dc4a921dd6b8aeb4492a2c813ab76f53ba870794add"), looks := true }, kinds := [], alts := [], laidByText := true, laidKinds := [.data, .handle], laidTests := true, laidLooks := .later }
def FnExactGetAddUptoCardSaid : Prop := Claim7.holds Tryz.pinned (.plain (OpenSpec.upto fnExactGetAddSpec)) fnExactGetAddUptoCard
end Rows
end Go.Proofs.YtegldmdcdnnegaaGreatDoor
