/-
  DERIVED. GIVEN WITH THE SEED: THE CARDS: each row of YtpdaobiaekamoaaDoorRows.lean that lists a variable, with what it lists TIED to the program's text (the seventh form; the later family's looks); each row that meets fmt, with fmt's text TOLD by the authors' own Lean function (tested against real Go, not proved from fmt's source: count such statements apart). THE CARD IS WHAT COUNTS. Prove the row's statement (the work); the ties are given (YtpdaobiaekamoaaDoorTie.lean); close each card by the builder's one call (the guide's Derived/Test/ToyasCard.lean, 'card_holds'). Laid BY PROGRAM, IN A SANDBOX (cutbox-door.mjs). By AI agents, Wed Nov 11 2026. No macro, syntax, notation, axiom, sorry.
-/
import Derived.Test.YtpdaobiaekamoaaDoorRows
import GoSem.ClaimSeven
namespace Go.Proofs.YtpdaobiaekamoaaDoor
namespace Rows

/-- THE TIED CARD OF 'laws.FnExactSolverOk'. -/
def fnExactSolverOkCard : Claim7 := { stood := { row := fnExactSolverOkRow, standIns := [], harness := (true, "acd70af90418f846febddcd207a8a30203fdda0cc6d40c671b489a6084e172e2"), looks := false }, kinds := [], alts := [], laidByText := true, laidKinds := [.data], laidTests := true, laidLooks := .later }
def FnExactSolverOkCardSaid : Prop := Claim7.holds Tryd.pinned (.plain (OpenSpec.ofChange fnExactSolverOkSpec)) fnExactSolverOkCard

/-- THE TIED CARD OF 'laws.FnExactSolverAdd'. -/
def fnExactSolverAddCard : Claim7 := { stood := { row := fnExactSolverAddRow, standIns := [], harness := (true, "acd70af90418f846febddcd207a8a30203fdda0cc6d40c671b489a6084e172e2"), looks := false }, kinds := [], alts := [], laidByText := true, laidKinds := [.data], laidTests := true, laidLooks := .later }
def FnExactSolverAddCardSaid : Prop := Claim7.holds Tryd.pinned (.plain (OpenSpec.ofChange fnExactSolverAddSpec)) fnExactSolverAddCard

/-- THE TIED CARD OF 'laws.FnExactSolverGet'. -/
def fnExactSolverGetCard : Claim7 := { stood := { row := fnExactSolverGetRow, standIns := [], harness := (true, "acd70af90418f846febddcd207a8a30203fdda0cc6d40c671b489a6084e172e2"), looks := false }, kinds := [], alts := [], laidByText := true, laidKinds := [.data], laidTests := true, laidLooks := .later }
def FnExactSolverGetCardSaid : Prop := Claim7.holds Tryd.pinned (.plain (OpenSpec.ofChange fnExactSolverGetSpec)) fnExactSolverGetCard

/-- THE TIED CARD OF 'laws.FnExactSolverRank'. -/
def fnExactSolverRankCard : Claim7 := { stood := { row := fnExactSolverRankRow, standIns := [], harness := (true, "acd70af90418f846febddcd207a8a30203fdda0cc6d40c671b489a6084e172e2"), looks := false }, kinds := [], alts := [], laidByText := true, laidKinds := [.data], laidTests := true, laidLooks := .later }
def FnExactSolverRankCardSaid : Prop := Claim7.holds Tryd.pinned (.plain (OpenSpec.ofChange fnExactSolverRankSpec)) fnExactSolverRankCard

/-- THE TIED CARD OF 'laws.FnExactSolverPrefix'. -/
def fnExactSolverPrefixCard : Claim7 := { stood := { row := fnExactSolverPrefixRow, standIns := [], harness := (true, "acd70af90418f846febddcd207a8a30203fdda0cc6d40c671b489a6084e172e2"), looks := false }, kinds := [], alts := [], laidByText := true, laidKinds := [.data], laidTests := true, laidLooks := .later }
def FnExactSolverPrefixCardSaid : Prop := Claim7.holds Tryd.pinned (.plain (OpenSpec.ofChange fnExactSolverPrefixSpec)) fnExactSolverPrefixCard

/-- THE TIED CARD OF 'laws.FnExactSolverSays'. -/
def fnExactSolverSaysCard : Claim7 := { stood := { row := fnExactSolverSaysRow, standIns := [], harness := (true, "acd70af90418f846febddcd207a8a30203fdda0cc6d40c671b489a6084e172e2"), looks := false }, kinds := [], alts := [], laidByText := true, laidKinds := [.data], laidTests := true, laidLooks := .later }
def FnExactSolverSaysCardSaid : Prop := Claim7.holds Tryd.pinned (.plain (OpenSpec.ofChange fnExactSolverSaysSpec)) fnExactSolverSaysCard

/-- THE TIED CARD OF 'laws.FnExactSolverJoin'. -/
def fnExactSolverJoinCard : Claim7 := { stood := { row := fnExactSolverJoinRow, standIns := [], harness := (true, "acd70af90418f846febddcd207a8a30203fdda0cc6d40c671b489a6084e172e2"), looks := false }, kinds := [], alts := [], laidByText := true, laidKinds := [.data], laidTests := true, laidLooks := .later }
def FnExactSolverJoinCardSaid : Prop := Claim7.holds Tryd.pinned (.plain (OpenSpec.ofChange fnExactSolverJoinSpec)) fnExactSolverJoinCard

/-- THE SECOND FORM's CARD OF 'laws.FnExactSolverOk'. -/
def fnExactSolverOkUptoCard : Claim7 := { stood := { row := fnExactSolverOkUptoRow, standIns := [], harness := (true, "acd70af90418f846febddcd207a8a30203fdda0cc6d40c671b489a6084e172e2"), looks := false }, kinds := [], alts := [], laidByText := true, laidKinds := [.data], laidTests := true, laidLooks := .later }
def FnExactSolverOkUptoCardSaid : Prop := Claim7.holds Tryd.pinned (.plain (OpenSpec.upto fnExactSolverOkSpec)) fnExactSolverOkUptoCard

/-- THE SECOND FORM's CARD OF 'laws.FnExactSolverAdd'. -/
def fnExactSolverAddUptoCard : Claim7 := { stood := { row := fnExactSolverAddUptoRow, standIns := [], harness := (true, "acd70af90418f846febddcd207a8a30203fdda0cc6d40c671b489a6084e172e2"), looks := false }, kinds := [], alts := [], laidByText := true, laidKinds := [.data], laidTests := true, laidLooks := .later }
def FnExactSolverAddUptoCardSaid : Prop := Claim7.holds Tryd.pinned (.plain (OpenSpec.upto fnExactSolverAddSpec)) fnExactSolverAddUptoCard

/-- THE SECOND FORM's CARD OF 'laws.FnExactSolverGet'. -/
def fnExactSolverGetUptoCard : Claim7 := { stood := { row := fnExactSolverGetUptoRow, standIns := [], harness := (true, "acd70af90418f846febddcd207a8a30203fdda0cc6d40c671b489a6084e172e2"), looks := false }, kinds := [], alts := [], laidByText := true, laidKinds := [.data], laidTests := true, laidLooks := .later }
def FnExactSolverGetUptoCardSaid : Prop := Claim7.holds Tryd.pinned (.plain (OpenSpec.upto fnExactSolverGetSpec)) fnExactSolverGetUptoCard

/-- THE SECOND FORM's CARD OF 'laws.FnExactSolverRank'. -/
def fnExactSolverRankUptoCard : Claim7 := { stood := { row := fnExactSolverRankUptoRow, standIns := [], harness := (true, "acd70af90418f846febddcd207a8a30203fdda0cc6d40c671b489a6084e172e2"), looks := false }, kinds := [], alts := [], laidByText := true, laidKinds := [.data], laidTests := true, laidLooks := .later }
def FnExactSolverRankUptoCardSaid : Prop := Claim7.holds Tryd.pinned (.plain (OpenSpec.upto fnExactSolverRankSpec)) fnExactSolverRankUptoCard

/-- THE SECOND FORM's CARD OF 'laws.FnExactSolverPrefix'. -/
def fnExactSolverPrefixUptoCard : Claim7 := { stood := { row := fnExactSolverPrefixUptoRow, standIns := [], harness := (true, "acd70af90418f846febddcd207a8a30203fdda0cc6d40c671b489a6084e172e2"), looks := false }, kinds := [], alts := [], laidByText := true, laidKinds := [.data], laidTests := true, laidLooks := .later }
def FnExactSolverPrefixUptoCardSaid : Prop := Claim7.holds Tryd.pinned (.plain (OpenSpec.upto fnExactSolverPrefixSpec)) fnExactSolverPrefixUptoCard

/-- THE SECOND FORM's CARD OF 'laws.FnExactSolverSays'. -/
def fnExactSolverSaysUptoCard : Claim7 := { stood := { row := fnExactSolverSaysUptoRow, standIns := [], harness := (true, "acd70af90418f846febddcd207a8a30203fdda0cc6d40c671b489a6084e172e2"), looks := false }, kinds := [], alts := [], laidByText := true, laidKinds := [.data], laidTests := true, laidLooks := .later }
def FnExactSolverSaysUptoCardSaid : Prop := Claim7.holds Tryd.pinned (.plain (OpenSpec.upto fnExactSolverSaysSpec)) fnExactSolverSaysUptoCard

/-- THE SECOND FORM's CARD OF 'laws.FnExactSolverJoin'. -/
def fnExactSolverJoinUptoCard : Claim7 := { stood := { row := fnExactSolverJoinUptoRow, standIns := [], harness := (true, "acd70af90418f846febddcd207a8a30203fdda0cc6d40c671b489a6084e172e2"), looks := false }, kinds := [], alts := [], laidByText := true, laidKinds := [.data], laidTests := true, laidLooks := .later }
def FnExactSolverJoinUptoCardSaid : Prop := Claim7.holds Tryd.pinned (.plain (OpenSpec.upto fnExactSolverJoinSpec)) fnExactSolverJoinUptoCard
end Rows
end Go.Proofs.YtpdaobiaekamoaaDoor
