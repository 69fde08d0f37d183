/-
  DERIVED. GIVEN WITH THE SEED: THE CARDS: each row of YtbakicgdloakgaaGreatDoorRows.lean that lists a variable, with what it lists TIED to the program's text (the seventh form; the later family's looks); each row that meets fmt, with fmt's text TOLD by the authors' own Lean function (tested against real Go, not proved from fmt's source: count such statements apart). THE CARD IS WHAT COUNTS. Prove the row's statement (the work); the ties are given (YtbakicgdloakgaaGreatDoorTie.lean); close each card by the builder's one call (the guide's Derived/Test/ToyasCard.lean, 'card_holds'). Laid BY PROGRAM, IN A SANDBOX (cutbox-door.mjs). By AI agents, Wed Nov 11 2026. No macro, syntax, notation, axiom, sorry.
-/
import Derived.Test.YtbakicgdloakgaaGreatDoorRows
import GoSem.ClaimSeven
namespace Go.Proofs.YtbakicgdloakgaaGreatDoor
namespace Rows

/-- THE TIED CARD OF 'laws.FnExactClientOpen'. -/
def fnExactClientOpenCard : Claim7 := { stood := { row := fnExactClientOpenRow, standIns := [], harness := (true, "ad9a3269c49754b98a17daee89c7ae2c56842f2e91d84be17972eebb64305725"), looks := false }, kinds := [], alts := [], laidByText := true, laidKinds := [.data], laidTests := true, laidLooks := .later }
def FnExactClientOpenCardSaid : Prop := Claim7.holds Tryz.pinned (.plain (OpenSpec.ofChange fnExactClientOpenSpec)) fnExactClientOpenCard

/-- THE TIED CARD OF 'laws.FnExactClientAgain'. -/
def fnExactClientAgainCard : Claim7 := { stood := { row := fnExactClientAgainRow, standIns := [], harness := (true, "ad9a3269c49754b98a17daee89c7ae2c56842f2e91d84be17972eebb64305725"), looks := false }, kinds := [], alts := [], laidByText := true, laidKinds := [.data], laidTests := true, laidLooks := .later }
def FnExactClientAgainCardSaid : Prop := Claim7.holds Tryz.pinned (.plain (OpenSpec.ofChange fnExactClientAgainSpec)) fnExactClientAgainCard

/-- THE TIED CARD OF 'laws.FnExactClientStop'. -/
def fnExactClientStopCard : Claim7 := { stood := { row := fnExactClientStopRow, standIns := [], harness := (true, "ad9a3269c49754b98a17daee89c7ae2c56842f2e91d84be17972eebb64305725"), looks := false }, kinds := [], alts := [], laidByText := true, laidKinds := [.data], laidTests := true, laidLooks := .later }
def FnExactClientStopCardSaid : Prop := Claim7.holds Tryz.pinned (.plain (OpenSpec.ofChange fnExactClientStopSpec)) fnExactClientStopCard

/-- THE TIED CARD OF 'laws.FnExactClientTick'. -/
def fnExactClientTickCard : Claim7 := { stood := { row := fnExactClientTickRow, standIns := [], harness := (true, "ad9a3269c49754b98a17daee89c7ae2c56842f2e91d84be17972eebb64305725"), looks := false }, kinds := [], alts := [], laidByText := true, laidKinds := [.data], laidTests := true, laidLooks := .later }
def FnExactClientTickCardSaid : Prop := Claim7.holds Tryz.pinned (.plain (OpenSpec.ofChange fnExactClientTickSpec)) fnExactClientTickCard

/-- THE SECOND FORM's CARD OF 'laws.FnExactClientOpen'. -/
def fnExactClientOpenUptoCard : Claim7 := { stood := { row := fnExactClientOpenUptoRow, standIns := [], harness := (true, "ad9a3269c49754b98a17daee89c7ae2c56842f2e91d84be17972eebb64305725"), looks := false }, kinds := [], alts := [], laidByText := true, laidKinds := [.data], laidTests := true, laidLooks := .later }
def FnExactClientOpenUptoCardSaid : Prop := Claim7.holds Tryz.pinned (.plain (OpenSpec.upto fnExactClientOpenSpec)) fnExactClientOpenUptoCard

/-- THE SECOND FORM's CARD OF 'laws.FnExactClientAgain'. -/
def fnExactClientAgainUptoCard : Claim7 := { stood := { row := fnExactClientAgainUptoRow, standIns := [], harness := (true, "ad9a3269c49754b98a17daee89c7ae2c56842f2e91d84be17972eebb64305725"), looks := false }, kinds := [], alts := [], laidByText := true, laidKinds := [.data], laidTests := true, laidLooks := .later }
def FnExactClientAgainUptoCardSaid : Prop := Claim7.holds Tryz.pinned (.plain (OpenSpec.upto fnExactClientAgainSpec)) fnExactClientAgainUptoCard

/-- THE SECOND FORM's CARD OF 'laws.FnExactClientStop'. -/
def fnExactClientStopUptoCard : Claim7 := { stood := { row := fnExactClientStopUptoRow, standIns := [], harness := (true, "ad9a3269c49754b98a17daee89c7ae2c56842f2e91d84be17972eebb64305725"), looks := false }, kinds := [], alts := [], laidByText := true, laidKinds := [.data], laidTests := true, laidLooks := .later }
def FnExactClientStopUptoCardSaid : Prop := Claim7.holds Tryz.pinned (.plain (OpenSpec.upto fnExactClientStopSpec)) fnExactClientStopUptoCard

/-- THE SECOND FORM's CARD OF 'laws.FnExactClientTick'. -/
def fnExactClientTickUptoCard : Claim7 := { stood := { row := fnExactClientTickUptoRow, standIns := [], harness := (true, "ad9a3269c49754b98a17daee89c7ae2c56842f2e91d84be17972eebb64305725"), looks := false }, kinds := [], alts := [], laidByText := true, laidKinds := [.data], laidTests := true, laidLooks := .later }
def FnExactClientTickUptoCardSaid : Prop := Claim7.holds Tryz.pinned (.plain (OpenSpec.upto fnExactClientTickSpec)) fnExactClientTickUptoCard
end Rows
end Go.Proofs.YtbakicgdloakgaaGreatDoor
