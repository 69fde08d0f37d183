/-
  DERIVED. GIVEN WITH THE SEED: THE CARDS: each row of YtajjhdfhccdgaaaDoorRows.lean that lists a variable, with what it lists TIED to the program's text (the seventh form; the later family's looks); each row that meets fmt, with fmt's text TOLD by the authors' own Lean function (tested against real Go, not proved from fmt's source: count such statements apart). THE CARD IS WHAT COUNTS. Prove the row's statement (the work); the ties are given (YtajjhdfhccdgaaaDoorTie.lean); close each card by the builder's one call (the guide's Derived/Test/ToyasCard.lean, 'card_holds'). Laid BY PROGRAM, IN A SANDBOX (cutbox-door.mjs). By AI agents, Wed Nov 11 2026. No macro, syntax, notation, axiom, sorry.
-/
import Derived.Test.YtajjhdfhccdgaaaDoorRows
import GoSem.ClaimSeven
namespace Go.Proofs.YtajjhdfhccdgaaaDoor
namespace Rows

/-- THE TIED CARD OF 'laws.FnRowXor'. -/
def fnRowXorCard : Claim7 := { stood := { row := fnRowXorRow, standIns := [], harness := (true, "09e0d8aabfff702d21efc5060cfb0919c849bfcb602f1f3d2dfbf6ecc9b34e7d"), looks := false }, kinds := [], alts := [], laidByText := true, laidKinds := [.data], laidTests := true, laidLooks := .later }
def FnRowXorCardSaid : Prop := Claim7.holds Tryd.pinned (.plain (OpenSpec.ofChange fnRowXorSpec)) fnRowXorCard

/-- THE TIED CARD OF 'laws.FnRowDraw'. -/
def fnRowDrawCard : Claim7 := { stood := { row := fnRowDrawRow, standIns := [], harness := (true, "09e0d8aabfff702d21efc5060cfb0919c849bfcb602f1f3d2dfbf6ecc9b34e7d"), looks := false }, kinds := [], alts := [], laidByText := true, laidKinds := [.data], laidTests := true, laidLooks := .later }
def FnRowDrawCardSaid : Prop := Claim7.holds Tryd.pinned (.plain (OpenSpec.ofChange fnRowDrawSpec)) fnRowDrawCard

/-- THE SECOND FORM's CARD OF 'laws.FnRowXor'. -/
def fnRowXorUptoCard : Claim7 := { stood := { row := fnRowXorUptoRow, standIns := [], harness := (true, "09e0d8aabfff702d21efc5060cfb0919c849bfcb602f1f3d2dfbf6ecc9b34e7d"), looks := false }, kinds := [], alts := [], laidByText := true, laidKinds := [.data], laidTests := true, laidLooks := .later }
def FnRowXorUptoCardSaid : Prop := Claim7.holds Tryd.pinned (.plain (OpenSpec.upto fnRowXorSpec)) fnRowXorUptoCard

/-- THE SECOND FORM's CARD OF 'laws.FnRowDraw'. -/
def fnRowDrawUptoCard : Claim7 := { stood := { row := fnRowDrawUptoRow, standIns := [], harness := (true, "09e0d8aabfff702d21efc5060cfb0919c849bfcb602f1f3d2dfbf6ecc9b34e7d"), looks := false }, kinds := [], alts := [], laidByText := true, laidKinds := [.data], laidTests := true, laidLooks := .later }
def FnRowDrawUptoCardSaid : Prop := Claim7.holds Tryd.pinned (.plain (OpenSpec.upto fnRowDrawSpec)) fnRowDrawUptoCard
end Rows
end Go.Proofs.YtajjhdfhccdgaaaDoor
