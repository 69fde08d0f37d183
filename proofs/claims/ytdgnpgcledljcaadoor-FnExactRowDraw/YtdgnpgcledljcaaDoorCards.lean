/-
  DERIVED. GIVEN WITH THE SEED: THE CARDS: each row of YtdgnpgcledljcaaDoorRows.lean that lists a variable, with what it lists TIED to the program's text (the seventh form; the later family's looks); each row that meets fmt, with fmt's text TOLD by the authors' own Lean function (tested against real Go, not proved from fmt's source: count such statements apart). THE CARD IS WHAT COUNTS. Prove the row's statement (the work); the ties are given (YtdgnpgcledljcaaDoorTie.lean); close each card by the builder's one call (the guide's Derived/Test/ToyasCard.lean, 'card_holds'). Laid BY PROGRAM, IN A SANDBOX (cutbox-door.mjs). By AI agents, Wed Nov 11 2026. No macro, syntax, notation, axiom, sorry.
-/
import Derived.Test.YtdgnpgcledljcaaDoorRows
import GoSem.ClaimSeven
namespace Go.Proofs.YtdgnpgcledljcaaDoor
namespace Rows

/-- THE TIED CARD OF 'laws.FnExactRowXor'. -/
def fnExactRowXorCard : Claim7 := { stood := { row := fnExactRowXorRow, standIns := [], harness := (true, "be2ddc03e040d15f4df0beea683c0065a18ec0afb9f6aec558f4b9809d99d107"), looks := false }, kinds := [], alts := [], laidByText := true, laidKinds := [.data], laidTests := true, laidLooks := .later }
def FnExactRowXorCardSaid : Prop := Claim7.holds Tryd.pinned (.plain (OpenSpec.ofChange fnExactRowXorSpec)) fnExactRowXorCard

/-- THE TIED CARD OF 'laws.FnExactRowDraw'. -/
def fnExactRowDrawCard : Claim7 := { stood := { row := fnExactRowDrawRow, standIns := [], harness := (true, "be2ddc03e040d15f4df0beea683c0065a18ec0afb9f6aec558f4b9809d99d107"), looks := false }, kinds := [], alts := [], laidByText := true, laidKinds := [.data], laidTests := true, laidLooks := .later }
def FnExactRowDrawCardSaid : Prop := Claim7.holds Tryd.pinned (.plain (OpenSpec.ofChange fnExactRowDrawSpec)) fnExactRowDrawCard

/-- THE SECOND FORM's CARD OF 'laws.FnExactRowXor'. -/
def fnExactRowXorUptoCard : Claim7 := { stood := { row := fnExactRowXorUptoRow, standIns := [], harness := (true, "be2ddc03e040d15f4df0beea683c0065a18ec0afb9f6aec558f4b9809d99d107"), looks := false }, kinds := [], alts := [], laidByText := true, laidKinds := [.data], laidTests := true, laidLooks := .later }
def FnExactRowXorUptoCardSaid : Prop := Claim7.holds Tryd.pinned (.plain (OpenSpec.upto fnExactRowXorSpec)) fnExactRowXorUptoCard

/-- THE SECOND FORM's CARD OF 'laws.FnExactRowDraw'. -/
def fnExactRowDrawUptoCard : Claim7 := { stood := { row := fnExactRowDrawUptoRow, standIns := [], harness := (true, "be2ddc03e040d15f4df0beea683c0065a18ec0afb9f6aec558f4b9809d99d107"), looks := false }, kinds := [], alts := [], laidByText := true, laidKinds := [.data], laidTests := true, laidLooks := .later }
def FnExactRowDrawUptoCardSaid : Prop := Claim7.holds Tryd.pinned (.plain (OpenSpec.upto fnExactRowDrawSpec)) fnExactRowDrawUptoCard
end Rows
end Go.Proofs.YtdgnpgcledljcaaDoor
