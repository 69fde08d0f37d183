/-
  DERIVED. GIVEN WITH THE SEED: THE CARDS: each row of YtegldmdcdnnegaaDoorRows.lean that lists a variable, with what it lists TIED to the program's text (the seventh form; the later family's looks); each row that meets fmt, with fmt's text TOLD by the authors' own Lean function (tested against real Go, not proved from fmt's source: count such statements apart). THE CARD IS WHAT COUNTS. Prove the row's statement (the work); the ties are given (YtegldmdcdnnegaaDoorTie.lean); close each card by the builder's one call (the guide's Derived/Test/ToyasCard.lean, 'card_holds'). Laid BY PROGRAM, IN A SANDBOX (cutbox-door.mjs). By AI agents, Wed Nov 11 2026. No macro, syntax, notation, axiom, sorry.
-/
import Derived.Test.YtegldmdcdnnegaaDoorRows
import GoSem.ClaimSeven
namespace Go.Proofs.YtegldmdcdnnegaaDoor
namespace Rows

/-- THE TIED CARD OF 'laws.FnExactGetOk'. -/
def fnExactGetOkCard : Claim7 := { stood := { row := fnExactGetOkRow, standIns := [], harness := (true, "79f443fda54b63db06f1f7beb1a8a5f1bbe5acf3526812629050946293a5532a"), looks := false }, kinds := [], alts := [], laidByText := true, laidKinds := [.data], laidTests := true, laidLooks := .later }
def FnExactGetOkCardSaid : Prop := Claim7.holds Tryd.pinned (.plain (OpenSpec.ofChange fnExactGetOkSpec)) fnExactGetOkCard

/-- THE TIED CARD OF 'laws.FnExactGetWindows'. -/
def fnExactGetWindowsCard : Claim7 := { stood := { row := fnExactGetWindowsRow, standIns := [], harness := (true, "79f443fda54b63db06f1f7beb1a8a5f1bbe5acf3526812629050946293a5532a"), looks := false }, kinds := [], alts := [], laidByText := true, laidKinds := [.data], laidTests := true, laidLooks := .later }
def FnExactGetWindowsCardSaid : Prop := Claim7.holds Tryd.pinned (.plain (OpenSpec.ofChange fnExactGetWindowsSpec)) fnExactGetWindowsCard

/-- THE TIED CARD OF 'laws.FnExactGetText'. -/
def fnExactGetTextCard : Claim7 := { stood := { row := fnExactGetTextRow, standIns := [], harness := (true, "79f443fda54b63db06f1f7beb1a8a5f1bbe5acf3526812629050946293a5532a"), looks := false }, kinds := [], alts := [], laidByText := true, laidKinds := [.data], laidTests := true, laidLooks := .later }
def FnExactGetTextCardSaid : Prop := Claim7.holds Tryd.pinned (.plain (OpenSpec.ofChange fnExactGetTextSpec)) fnExactGetTextCard

/-- THE TIED CARD OF 'laws.FnExactGetDone'. -/
def fnExactGetDoneCard : Claim7 := { stood := { row := fnExactGetDoneRow, standIns := [], harness := (true, "79f443fda54b63db06f1f7beb1a8a5f1bbe5acf3526812629050946293a5532a"), looks := false }, kinds := [], alts := [], laidByText := true, laidKinds := [.data], laidTests := true, laidLooks := .later }
def FnExactGetDoneCardSaid : Prop := Claim7.holds Tryd.pinned (.plain (OpenSpec.ofChange fnExactGetDoneSpec)) fnExactGetDoneCard

/-- THE TIED CARD OF 'laws.FnExactGetWant'. -/
def fnExactGetWantCard : Claim7 := { stood := { row := fnExactGetWantRow, standIns := [], harness := (true, "79f443fda54b63db06f1f7beb1a8a5f1bbe5acf3526812629050946293a5532a"), looks := false }, kinds := [], alts := [], laidByText := true, laidKinds := [.data], laidTests := true, laidLooks := .later }
def FnExactGetWantCardSaid : Prop := Claim7.holds Tryd.pinned (.plain (OpenSpec.ofChange fnExactGetWantSpec)) fnExactGetWantCard

/-- THE SECOND FORM's CARD OF 'laws.FnExactGetOk'. -/
def fnExactGetOkUptoCard : Claim7 := { stood := { row := fnExactGetOkUptoRow, standIns := [], harness := (true, "79f443fda54b63db06f1f7beb1a8a5f1bbe5acf3526812629050946293a5532a"), looks := false }, kinds := [], alts := [], laidByText := true, laidKinds := [.data], laidTests := true, laidLooks := .later }
def FnExactGetOkUptoCardSaid : Prop := Claim7.holds Tryd.pinned (.plain (OpenSpec.upto fnExactGetOkSpec)) fnExactGetOkUptoCard

/-- THE SECOND FORM's CARD OF 'laws.FnExactGetWindows'. -/
def fnExactGetWindowsUptoCard : Claim7 := { stood := { row := fnExactGetWindowsUptoRow, standIns := [], harness := (true, "79f443fda54b63db06f1f7beb1a8a5f1bbe5acf3526812629050946293a5532a"), looks := false }, kinds := [], alts := [], laidByText := true, laidKinds := [.data], laidTests := true, laidLooks := .later }
def FnExactGetWindowsUptoCardSaid : Prop := Claim7.holds Tryd.pinned (.plain (OpenSpec.upto fnExactGetWindowsSpec)) fnExactGetWindowsUptoCard

/-- THE SECOND FORM's CARD OF 'laws.FnExactGetText'. -/
def fnExactGetTextUptoCard : Claim7 := { stood := { row := fnExactGetTextUptoRow, standIns := [], harness := (true, "79f443fda54b63db06f1f7beb1a8a5f1bbe5acf3526812629050946293a5532a"), looks := false }, kinds := [], alts := [], laidByText := true, laidKinds := [.data], laidTests := true, laidLooks := .later }
def FnExactGetTextUptoCardSaid : Prop := Claim7.holds Tryd.pinned (.plain (OpenSpec.upto fnExactGetTextSpec)) fnExactGetTextUptoCard

/-- THE SECOND FORM's CARD OF 'laws.FnExactGetDone'. -/
def fnExactGetDoneUptoCard : Claim7 := { stood := { row := fnExactGetDoneUptoRow, standIns := [], harness := (true, "79f443fda54b63db06f1f7beb1a8a5f1bbe5acf3526812629050946293a5532a"), looks := false }, kinds := [], alts := [], laidByText := true, laidKinds := [.data], laidTests := true, laidLooks := .later }
def FnExactGetDoneUptoCardSaid : Prop := Claim7.holds Tryd.pinned (.plain (OpenSpec.upto fnExactGetDoneSpec)) fnExactGetDoneUptoCard

/-- THE SECOND FORM's CARD OF 'laws.FnExactGetWant'. -/
def fnExactGetWantUptoCard : Claim7 := { stood := { row := fnExactGetWantUptoRow, standIns := [], harness := (true, "79f443fda54b63db06f1f7beb1a8a5f1bbe5acf3526812629050946293a5532a"), looks := false }, kinds := [], alts := [], laidByText := true, laidKinds := [.data], laidTests := true, laidLooks := .later }
def FnExactGetWantUptoCardSaid : Prop := Claim7.holds Tryd.pinned (.plain (OpenSpec.upto fnExactGetWantSpec)) fnExactGetWantUptoCard
end Rows
end Go.Proofs.YtegldmdcdnnegaaDoor
