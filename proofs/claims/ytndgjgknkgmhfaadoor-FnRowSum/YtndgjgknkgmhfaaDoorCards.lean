/-
  DERIVED. GIVEN WITH THE SEED: THE CARDS: each row of YtndgjgknkgmhfaaDoorRows.lean that lists a variable, with what it lists TIED to the program's text (the seventh form; the later family's looks); each row that meets fmt, with fmt's text TOLD by the authors' own Lean function (tested against real Go, not proved from fmt's source: count such statements apart). THE CARD IS WHAT COUNTS. Prove the row's statement (the work); the ties are given (YtndgjgknkgmhfaaDoorTie.lean); close each card by the builder's one call (the guide's Derived/Test/ToyasCard.lean, 'card_holds'). Laid BY PROGRAM, IN A SANDBOX (cutbox-door.mjs). By AI agents, Wed Nov 11 2026. No macro, syntax, notation, axiom, sorry.
-/
import Derived.Test.YtndgjgknkgmhfaaDoorRows
import GoSem.ClaimSeven
namespace Go.Proofs.YtndgjgknkgmhfaaDoor
namespace Rows

/-- THE TIED CARD OF 'laws.FnRowXor'. -/
def fnRowXorCard : Claim7 := { stood := { row := fnRowXorRow, standIns := [], harness := (true, "032eb17d46c2b2874cfa47fe0d590e80144363a494772dca83c73a91cf557d36"), looks := false }, kinds := [], alts := [], laidByText := true, laidKinds := [.data], laidTests := true, laidLooks := .later }
def FnRowXorCardSaid : Prop := Claim7.holds Tryd.pinned (.plain (OpenSpec.ofChange fnRowXorSpec)) fnRowXorCard

/-- THE TIED CARD OF 'laws.FnRowSum'. -/
def fnRowSumCard : Claim7 := { stood := { row := fnRowSumRow, standIns := [], harness := (true, "032eb17d46c2b2874cfa47fe0d590e80144363a494772dca83c73a91cf557d36"), looks := false }, kinds := [], alts := [], laidByText := true, laidKinds := [.data], laidTests := true, laidLooks := .later }
def FnRowSumCardSaid : Prop := Claim7.holds Tryd.pinned (.plain (OpenSpec.ofChange fnRowSumSpec)) fnRowSumCard

/-- THE SECOND FORM's CARD OF 'laws.FnRowXor'. -/
def fnRowXorUptoCard : Claim7 := { stood := { row := fnRowXorUptoRow, standIns := [], harness := (true, "032eb17d46c2b2874cfa47fe0d590e80144363a494772dca83c73a91cf557d36"), looks := false }, kinds := [], alts := [], laidByText := true, laidKinds := [.data], laidTests := true, laidLooks := .later }
def FnRowXorUptoCardSaid : Prop := Claim7.holds Tryd.pinned (.plain (OpenSpec.upto fnRowXorSpec)) fnRowXorUptoCard

/-- THE SECOND FORM's CARD OF 'laws.FnRowSum'. -/
def fnRowSumUptoCard : Claim7 := { stood := { row := fnRowSumUptoRow, standIns := [], harness := (true, "032eb17d46c2b2874cfa47fe0d590e80144363a494772dca83c73a91cf557d36"), looks := false }, kinds := [], alts := [], laidByText := true, laidKinds := [.data], laidTests := true, laidLooks := .later }
def FnRowSumUptoCardSaid : Prop := Claim7.holds Tryd.pinned (.plain (OpenSpec.upto fnRowSumSpec)) fnRowSumUptoCard
end Rows
end Go.Proofs.YtndgjgknkgmhfaaDoor
