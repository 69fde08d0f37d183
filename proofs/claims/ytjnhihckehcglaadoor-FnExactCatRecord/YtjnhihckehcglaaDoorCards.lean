/-
  DERIVED. GIVEN WITH THE SEED: THE CARDS: each row of YtjnhihckehcglaaDoorRows.lean that lists a variable, with what it lists TIED to the program's text (the seventh form; the later family's looks); each row that meets fmt, with fmt's text TOLD by the authors' own Lean function (tested against real Go, not proved from fmt's source: count such statements apart). THE CARD IS WHAT COUNTS. Prove the row's statement (the work); the ties are given (YtjnhihckehcglaaDoorTie.lean); close each card by the builder's one call (the guide's Derived/Test/ToyasCard.lean, 'card_holds'). Laid BY PROGRAM, IN A SANDBOX (cutbox-door.mjs). By AI agents, Wed Nov 11 2026. No macro, syntax, notation, axiom, sorry.
-/
import Derived.Test.YtjnhihckehcglaaDoorRows
import GoSem.ClaimSeven
namespace Go.Proofs.YtjnhihckehcglaaDoor
namespace Rows

/-- THE TIED CARD OF 'laws.FnExactCatRecord'. -/
def fnExactCatRecordCard : Claim7 := { stood := { row := fnExactCatRecordRow, standIns := [], harness := (true, "7b4b73a4d4ed80d6659b798705195e540edf227e2134a7e6dd10e7222ad89f31"), looks := false }, kinds := [], alts := [], laidByText := true, laidKinds := [.data, .data, .data], laidTests := true, laidLooks := .later }
def FnExactCatRecordCardSaid : Prop := Claim7.holds Tryd.pinned (.plain (OpenSpec.ofChange fnExactCatRecordSpec)) fnExactCatRecordCard

/-- THE SECOND FORM's CARD OF 'laws.FnExactCatRecord'. -/
def fnExactCatRecordUptoCard : Claim7 := { stood := { row := fnExactCatRecordUptoRow, standIns := [], harness := (true, "7b4b73a4d4ed80d6659b798705195e540edf227e2134a7e6dd10e7222ad89f31"), looks := false }, kinds := [], alts := [], laidByText := true, laidKinds := [.data, .data, .data], laidTests := true, laidLooks := .later }
def FnExactCatRecordUptoCardSaid : Prop := Claim7.holds Tryd.pinned (.plain (OpenSpec.upto fnExactCatRecordSpec)) fnExactCatRecordUptoCard
end Rows
end Go.Proofs.YtjnhihckehcglaaDoor
