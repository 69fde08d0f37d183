/-
  DERIVED. GIVEN WITH THE SEED: THE CARDS: each row of YtcoofoiaaljpoaaDoorRows.lean that lists a variable, with what it lists TIED to the program's text (the seventh form; the later family's looks); each row that meets fmt, with fmt's text TOLD by the authors' own Lean function (tested against real Go, not proved from fmt's source: count such statements apart). THE CARD IS WHAT COUNTS. Prove the row's statement (the work); the ties are given (YtcoofoiaaljpoaaDoorTie.lean); close each card by the builder's one call (the guide's Derived/Test/ToyasCard.lean, 'card_holds'). Laid BY PROGRAM, IN A SANDBOX (cutbox-door.mjs). By AI agents, Wed Nov 11 2026. No macro, syntax, notation, axiom, sorry.
-/
import Derived.Test.YtcoofoiaaljpoaaDoorRows
import GoSem.ClaimSeven
namespace Go.Proofs.YtcoofoiaaljpoaaDoor
namespace Rows

/-- THE TIED CARD OF 'laws.FnExactPlanSymbol'. -/
def fnExactPlanSymbolCard : Claim7 := { stood := { row := fnExactPlanSymbolRow, standIns := [], harness := (true, "771ae0337bf33d7a68ddebda3ade590f68aba0b819fb81551bb9665bb781572d"), looks := false }, kinds := [], alts := [], laidByText := true, laidKinds := [.data], laidTests := true, laidLooks := .later }
def FnExactPlanSymbolCardSaid : Prop := Claim7.holds Tryd.pinned (.plain (OpenSpec.ofChange fnExactPlanSymbolSpec)) fnExactPlanSymbolCard

/-- THE SECOND FORM's CARD OF 'laws.FnExactPlanSymbol'. -/
def fnExactPlanSymbolUptoCard : Claim7 := { stood := { row := fnExactPlanSymbolUptoRow, standIns := [], harness := (true, "771ae0337bf33d7a68ddebda3ade590f68aba0b819fb81551bb9665bb781572d"), looks := false }, kinds := [], alts := [], laidByText := true, laidKinds := [.data], laidTests := true, laidLooks := .later }
def FnExactPlanSymbolUptoCardSaid : Prop := Claim7.holds Tryd.pinned (.plain (OpenSpec.upto fnExactPlanSymbolSpec)) fnExactPlanSymbolUptoCard
end Rows
end Go.Proofs.YtcoofoiaaljpoaaDoor
