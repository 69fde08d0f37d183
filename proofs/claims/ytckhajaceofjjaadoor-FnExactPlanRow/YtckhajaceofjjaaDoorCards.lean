/-
  DERIVED. GIVEN WITH THE SEED: THE CARDS: each row of YtckhajaceofjjaaDoorRows.lean that lists a variable, with what it lists TIED to the program's text (the seventh form; the later family's looks); each row that meets fmt, with fmt's text TOLD by the authors' own Lean function (tested against real Go, not proved from fmt's source: count such statements apart). THE CARD IS WHAT COUNTS. Prove the row's statement (the work); the ties are given (YtckhajaceofjjaaDoorTie.lean); close each card by the builder's one call (the guide's Derived/Test/ToyasCard.lean, 'card_holds'). Laid BY PROGRAM, IN A SANDBOX (cutbox-door.mjs). By AI agents, Wed Nov 11 2026. No macro, syntax, notation, axiom, sorry.
-/
import Derived.Test.YtckhajaceofjjaaDoorRows
import GoSem.ClaimSeven
namespace Go.Proofs.YtckhajaceofjjaaDoor
namespace Rows

/-- THE TIED CARD OF 'laws.FnExactPlanRow'. -/
def fnExactPlanRowCard : Claim7 := { stood := { row := fnExactPlanRowRow, standIns := [], harness := (true, "bb4f16729b0a4622cd324cbbbd00d09470dd93af76eb1a83c5e64d2f5f8d7e9f"), looks := false }, kinds := [], alts := [], laidByText := true, laidKinds := [.data], laidTests := true, laidLooks := .later }
def FnExactPlanRowCardSaid : Prop := Claim7.holds Tryd.pinned (.plain (OpenSpec.ofChange fnExactPlanRowSpec)) fnExactPlanRowCard

/-- THE TIED CARD OF 'laws.FnPlanRow'. -/
def fnPlanRowCard : Claim7 := { stood := { row := fnPlanRowRow, standIns := [], harness := (true, "bb4f16729b0a4622cd324cbbbd00d09470dd93af76eb1a83c5e64d2f5f8d7e9f"), looks := false }, kinds := [], alts := [], laidByText := true, laidKinds := [.data], laidTests := true, laidLooks := .later }
def FnPlanRowCardSaid : Prop := Claim7.holds Tryd.pinned (.plain (OpenSpec.ofChange fnPlanRowSpec)) fnPlanRowCard

/-- THE SECOND FORM's CARD OF 'laws.FnExactPlanRow'. -/
def fnExactPlanRowUptoCard : Claim7 := { stood := { row := fnExactPlanRowUptoRow, standIns := [], harness := (true, "bb4f16729b0a4622cd324cbbbd00d09470dd93af76eb1a83c5e64d2f5f8d7e9f"), looks := false }, kinds := [], alts := [], laidByText := true, laidKinds := [.data], laidTests := true, laidLooks := .later }
def FnExactPlanRowUptoCardSaid : Prop := Claim7.holds Tryd.pinned (.plain (OpenSpec.upto fnExactPlanRowSpec)) fnExactPlanRowUptoCard

/-- THE SECOND FORM's CARD OF 'laws.FnPlanRow'. -/
def fnPlanRowUptoCard : Claim7 := { stood := { row := fnPlanRowUptoRow, standIns := [], harness := (true, "bb4f16729b0a4622cd324cbbbd00d09470dd93af76eb1a83c5e64d2f5f8d7e9f"), looks := false }, kinds := [], alts := [], laidByText := true, laidKinds := [.data], laidTests := true, laidLooks := .later }
def FnPlanRowUptoCardSaid : Prop := Claim7.holds Tryd.pinned (.plain (OpenSpec.upto fnPlanRowSpec)) fnPlanRowUptoCard
end Rows
end Go.Proofs.YtckhajaceofjjaaDoor
