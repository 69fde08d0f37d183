/-
  DERIVED. GIVEN WITH THE SEED: THE CARDS: each row of YtdjllghfhginkaaDoorRows.lean that lists a variable, with what it lists TIED to the program's text (the seventh form; the later family's looks); each row that meets fmt, with fmt's text TOLD by the authors' own Lean function (tested against real Go, not proved from fmt's source: count such statements apart). THE CARD IS WHAT COUNTS. Prove the row's statement (the work); the ties are given (YtdjllghfhginkaaDoorTie.lean); close each card by the builder's one call (the guide's Derived/Test/ToyasCard.lean, 'card_holds'). Laid BY PROGRAM, IN A SANDBOX (cutbox-door.mjs). By AI agents, Wed Nov 11 2026. No macro, syntax, notation, axiom, sorry.
-/
import Derived.Test.YtdjllghfhginkaaDoorRows
import GoSem.ClaimSeven
namespace Go.Proofs.YtdjllghfhginkaaDoor
namespace Rows

/-- THE TIED CARD OF 'laws.FnExactPlanWrite'. -/
def fnExactPlanWriteCard : Claim7 := { stood := { row := fnExactPlanWriteRow, standIns := [], harness := (true, "cae857c75987f483dc2b701c158a547d86e7cfb5a0f593573a2a235f045f76be"), looks := false }, kinds := [], alts := [], laidByText := true, laidKinds := [.data, .data, .data], laidTests := true, laidLooks := .later }
def FnExactPlanWriteCardSaid : Prop := Claim7.holds Tryd.pinned (.plain (OpenSpec.ofChange fnExactPlanWriteSpec)) fnExactPlanWriteCard

/-- THE SECOND FORM's CARD OF 'laws.FnExactPlanWrite'. -/
def fnExactPlanWriteUptoCard : Claim7 := { stood := { row := fnExactPlanWriteUptoRow, standIns := [], harness := (true, "cae857c75987f483dc2b701c158a547d86e7cfb5a0f593573a2a235f045f76be"), looks := false }, kinds := [], alts := [], laidByText := true, laidKinds := [.data, .data, .data], laidTests := true, laidLooks := .later }
def FnExactPlanWriteUptoCardSaid : Prop := Claim7.holds Tryd.pinned (.plain (OpenSpec.upto fnExactPlanWriteSpec)) fnExactPlanWriteUptoCard
end Rows
end Go.Proofs.YtdjllghfhginkaaDoor
