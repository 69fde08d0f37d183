/-
  DERIVED. GIVEN WITH THE SEED: THE CARDS: each row of YtphjjkinigdjfaaDoorRows.lean that lists a variable, with what it lists TIED to the program's text (the seventh form; the later family's looks); each row that meets fmt, with fmt's text TOLD by the authors' own Lean function (tested against real Go, not proved from fmt's source: count such statements apart). THE CARD IS WHAT COUNTS. Prove the row's statement (the work); the ties are given (YtphjjkinigdjfaaDoorTie.lean); close each card by the builder's one call (the guide's Derived/Test/ToyasCard.lean, 'card_holds'). Laid BY PROGRAM, IN A SANDBOX (cutbox-door.mjs). By AI agents, Wed Nov 11 2026. No macro, syntax, notation, axiom, sorry.
-/
import Derived.Test.YtphjjkinigdjfaaDoorRows
import GoSem.ClaimSeven
namespace Go.Proofs.YtphjjkinigdjfaaDoor
namespace Rows

/-- THE TIED CARD OF 'laws.FnExactWordWrite'. -/
def fnExactWordWriteCard : Claim7 := { stood := { row := fnExactWordWriteRow, standIns := [], harness := (true, "047983280ecf4668bff845f9133b8875a04bd71cd3d85aa97bcdfd6a73623e97"), looks := true }, kinds := [], alts := [], laidByText := true, laidKinds := [.data, .data, .data], laidTests := true, laidLooks := .later }
def FnExactWordWriteCardSaid : Prop := Claim7.holds Tryd.pinned (.plain (OpenSpec.ofChange fnExactWordWriteSpec)) fnExactWordWriteCard

/-- THE SECOND FORM's CARD OF 'laws.FnExactWordWrite'. -/
def fnExactWordWriteUptoCard : Claim7 := { stood := { row := fnExactWordWriteUptoRow, standIns := [], harness := (true, "047983280ecf4668bff845f9133b8875a04bd71cd3d85aa97bcdfd6a73623e97"), looks := true }, kinds := [], alts := [], laidByText := true, laidKinds := [.data, .data, .data], laidTests := true, laidLooks := .later }
def FnExactWordWriteUptoCardSaid : Prop := Claim7.holds Tryd.pinned (.plain (OpenSpec.upto fnExactWordWriteSpec)) fnExactWordWriteUptoCard
end Rows
end Go.Proofs.YtphjjkinigdjfaaDoor
