/-
  NARROWER THAN 'FOR EVERY INPUT', by the rows' own cells (each row's printed sentence says how): FnExactSolverOk: laid · FnExactSolverAdd: laid · FnExactSolverGet: laid · FnExactSolverRank: laid · FnExactSolverPrefix: laid · FnExactSolverSays: laid · FnExactSolverJoin: laid.
  DERIVED. THE GIVEN ROWS OF THIS SEAT. 7 by the template 'for every input the law returns true; each argument reads behind the call as it read before'; 0 by the template 'total and deterministic' (their statements: YtpdaobiaekamoaaDoorTotals.lean).
  GIVEN WITH THE SEED: the statements are not yours to turn. If you find one false, say at which input.
  Laid BY PROGRAM, IN A SANDBOX (cutbox-rows.mjs): the forced cells as the released guide's own fill.sh prints them over the translation 1a84fd750c8d4682… (all of the seat's roots in one cut). By AI agents, Wed Nov 11 2026. No macro, syntax, notation, axiom, sorry.
-/
import Derived.Test.YtpdaobiaekamoaaDoorChecked
import GoSem.Claim
import GoSem.ClaimJoined
import GoSem.ClaimMapViews
import Derived.JoinedTies
import Derived.KernelRfl
namespace Go.Proofs.YtpdaobiaekamoaaDoor
/- THE CELL 'sum', in the pinned program and in every row, IS THE sha256 OF THE DUMP (.gsa) THAT YtpdaobiaekamoaaDoorProg.lean LOADS. Nothing in Lean hashes anything: it is a label: what it is worth is what the hold of that sum in a sandbox is worth. -/
noncomputable def Tryd.pinned : Pinned := { name := "ytpdaobiaekamoaadoor", sum := "1a84fd750c8d4682cea34d1f6cf1e0facbd8b340d8dd43196cf5bd966b829387", checked := Tryd.checked }
namespace Rows
def none {H : Type} : Left H := { results := [], args := [] }

/- WHAT THE LISTED PACKAGE-LEVEL VARIABLES READ AS WHEN THE CALL BEGINS. Each datum BY PROGRAM (the guide's laid-datum.mjs) off the statement by which the dump's own 'gosem.cut.vars' lays the variable. In a bare row this is a premise. The card (YtpdaobiaekamoaaDoorCards.lean) ties it to the program's text. -/
def laid_math_bits_deBruijn32tab {H : Type} : DataW H := .agg [.lit (.int .u8 0), .lit (.int .u8 1), .lit (.int .u8 28), .lit (.int .u8 2), .lit (.int .u8 29), .lit (.int .u8 14), .lit (.int .u8 24), .lit (.int .u8 3), .lit (.int .u8 30), .lit (.int .u8 22), .lit (.int .u8 20), .lit (.int .u8 15), .lit (.int .u8 25), .lit (.int .u8 17), .lit (.int .u8 4), .lit (.int .u8 8), .lit (.int .u8 31), .lit (.int .u8 27), .lit (.int .u8 13), .lit (.int .u8 23), .lit (.int .u8 21), .lit (.int .u8 19), .lit (.int .u8 16), .lit (.int .u8 7), .lit (.int .u8 26), .lit (.int .u8 12), .lit (.int .u8 18), .lit (.int .u8 6), .lit (.int .u8 11), .lit (.int .u8 5), .lit (.int .u8 10), .lit (.int .u8 9)]

/-- 'laws.FnExactSolverOk': WHATEVER THE INPUT: true; the input reads as it did. -/
def fnExactSolverOkSpec : ChangeSpec := { name := "fnExactSolverOk", fn := fun _ => fun
  | [d] => { results := [.lit (.bool true)], args := [d] }
  | _ => none }
def fnExactSolverOkRow : OpenClaim := { program := "ytpdaobiaekamoaadoor", sum := "1a84fd750c8d4682cea34d1f6cf1e0facbd8b340d8dd43196cf5bd966b829387", func := "loop.example/wellhead/laws.FnExactSolverOk", spec := "fnExactSolverOk", unfollowed := true, recurses := true, named := ["math/bits.deBruijn32tab"], apart := false, laid := [("math/bits.deBruijn32tab", laid_math_bits_deBruijn32tab)] }
def FnExactSolverOkSaid : Prop := fnExactSolverOkRow.holds Tryd.pinned (OpenSpec.ofChange fnExactSolverOkSpec)

/-- ITS FALSE NEIGHBOUR: 'it returns false'. Refute it at one input. -/
def fnExactSolverOkWrong : ChangeSpec := { name := "fnExactSolverOk", fn := fun _ => fun
  | [d] => { results := [.lit (.bool false)], args := [d] }
  | _ => none }
def FnExactSolverOkWrongFalsely : Prop := fnExactSolverOkRow.holds Tryd.pinned (OpenSpec.ofChange fnExactSolverOkWrong)

/-- 'laws.FnExactSolverAdd': WHATEVER THE INPUT: true; the input reads as it did. -/
def fnExactSolverAddSpec : ChangeSpec := { name := "fnExactSolverAdd", fn := fun _ => fun
  | [d1, d2, d3] => { results := [.lit (.bool true)], args := [d1, d2, d3] }
  | _ => none }
def fnExactSolverAddRow : OpenClaim := { program := "ytpdaobiaekamoaadoor", sum := "1a84fd750c8d4682cea34d1f6cf1e0facbd8b340d8dd43196cf5bd966b829387", func := "loop.example/wellhead/laws.FnExactSolverAdd", spec := "fnExactSolverAdd", unfollowed := true, recurses := true, named := ["math/bits.deBruijn32tab"], apart := false, laid := [("math/bits.deBruijn32tab", laid_math_bits_deBruijn32tab)] }
def FnExactSolverAddSaid : Prop := fnExactSolverAddRow.holds Tryd.pinned (OpenSpec.ofChange fnExactSolverAddSpec)

/-- ITS FALSE NEIGHBOUR: 'it returns false'. Refute it at one input. -/
def fnExactSolverAddWrong : ChangeSpec := { name := "fnExactSolverAdd", fn := fun _ => fun
  | [d1, d2, d3] => { results := [.lit (.bool false)], args := [d1, d2, d3] }
  | _ => none }
def FnExactSolverAddWrongFalsely : Prop := fnExactSolverAddRow.holds Tryd.pinned (OpenSpec.ofChange fnExactSolverAddWrong)

/-- 'laws.FnExactSolverGet': WHATEVER THE INPUT: true; the input reads as it did. -/
def fnExactSolverGetSpec : ChangeSpec := { name := "fnExactSolverGet", fn := fun _ => fun
  | [d1, d2] => { results := [.lit (.bool true)], args := [d1, d2] }
  | _ => none }
def fnExactSolverGetRow : OpenClaim := { program := "ytpdaobiaekamoaadoor", sum := "1a84fd750c8d4682cea34d1f6cf1e0facbd8b340d8dd43196cf5bd966b829387", func := "loop.example/wellhead/laws.FnExactSolverGet", spec := "fnExactSolverGet", unfollowed := true, recurses := true, named := ["math/bits.deBruijn32tab"], apart := false, laid := [("math/bits.deBruijn32tab", laid_math_bits_deBruijn32tab)] }
def FnExactSolverGetSaid : Prop := fnExactSolverGetRow.holds Tryd.pinned (OpenSpec.ofChange fnExactSolverGetSpec)

/-- ITS FALSE NEIGHBOUR: 'it returns false'. Refute it at one input. -/
def fnExactSolverGetWrong : ChangeSpec := { name := "fnExactSolverGet", fn := fun _ => fun
  | [d1, d2] => { results := [.lit (.bool false)], args := [d1, d2] }
  | _ => none }
def FnExactSolverGetWrongFalsely : Prop := fnExactSolverGetRow.holds Tryd.pinned (OpenSpec.ofChange fnExactSolverGetWrong)

/-- 'laws.FnExactSolverRank': WHATEVER THE INPUT: true; the input reads as it did. -/
def fnExactSolverRankSpec : ChangeSpec := { name := "fnExactSolverRank", fn := fun _ => fun
  | [d] => { results := [.lit (.bool true)], args := [d] }
  | _ => none }
def fnExactSolverRankRow : OpenClaim := { program := "ytpdaobiaekamoaadoor", sum := "1a84fd750c8d4682cea34d1f6cf1e0facbd8b340d8dd43196cf5bd966b829387", func := "loop.example/wellhead/laws.FnExactSolverRank", spec := "fnExactSolverRank", unfollowed := true, recurses := true, named := ["math/bits.deBruijn32tab"], apart := false, laid := [("math/bits.deBruijn32tab", laid_math_bits_deBruijn32tab)] }
def FnExactSolverRankSaid : Prop := fnExactSolverRankRow.holds Tryd.pinned (OpenSpec.ofChange fnExactSolverRankSpec)

/-- ITS FALSE NEIGHBOUR: 'it returns false'. Refute it at one input. -/
def fnExactSolverRankWrong : ChangeSpec := { name := "fnExactSolverRank", fn := fun _ => fun
  | [d] => { results := [.lit (.bool false)], args := [d] }
  | _ => none }
def FnExactSolverRankWrongFalsely : Prop := fnExactSolverRankRow.holds Tryd.pinned (OpenSpec.ofChange fnExactSolverRankWrong)

/-- 'laws.FnExactSolverPrefix': WHATEVER THE INPUT: true; the input reads as it did. -/
def fnExactSolverPrefixSpec : ChangeSpec := { name := "fnExactSolverPrefix", fn := fun _ => fun
  | [d] => { results := [.lit (.bool true)], args := [d] }
  | _ => none }
def fnExactSolverPrefixRow : OpenClaim := { program := "ytpdaobiaekamoaadoor", sum := "1a84fd750c8d4682cea34d1f6cf1e0facbd8b340d8dd43196cf5bd966b829387", func := "loop.example/wellhead/laws.FnExactSolverPrefix", spec := "fnExactSolverPrefix", unfollowed := true, recurses := true, named := ["math/bits.deBruijn32tab"], apart := false, laid := [("math/bits.deBruijn32tab", laid_math_bits_deBruijn32tab)] }
def FnExactSolverPrefixSaid : Prop := fnExactSolverPrefixRow.holds Tryd.pinned (OpenSpec.ofChange fnExactSolverPrefixSpec)

/-- ITS FALSE NEIGHBOUR: 'it returns false'. Refute it at one input. -/
def fnExactSolverPrefixWrong : ChangeSpec := { name := "fnExactSolverPrefix", fn := fun _ => fun
  | [d] => { results := [.lit (.bool false)], args := [d] }
  | _ => none }
def FnExactSolverPrefixWrongFalsely : Prop := fnExactSolverPrefixRow.holds Tryd.pinned (OpenSpec.ofChange fnExactSolverPrefixWrong)

/-- 'laws.FnExactSolverSays': WHATEVER THE INPUT: true; the input reads as it did. -/
def fnExactSolverSaysSpec : ChangeSpec := { name := "fnExactSolverSays", fn := fun _ => fun
  | [d1, d2] => { results := [.lit (.bool true)], args := [d1, d2] }
  | _ => none }
def fnExactSolverSaysRow : OpenClaim := { program := "ytpdaobiaekamoaadoor", sum := "1a84fd750c8d4682cea34d1f6cf1e0facbd8b340d8dd43196cf5bd966b829387", func := "loop.example/wellhead/laws.FnExactSolverSays", spec := "fnExactSolverSays", unfollowed := true, recurses := true, named := ["math/bits.deBruijn32tab"], apart := false, laid := [("math/bits.deBruijn32tab", laid_math_bits_deBruijn32tab)] }
def FnExactSolverSaysSaid : Prop := fnExactSolverSaysRow.holds Tryd.pinned (OpenSpec.ofChange fnExactSolverSaysSpec)

/-- ITS FALSE NEIGHBOUR: 'it returns false'. Refute it at one input. -/
def fnExactSolverSaysWrong : ChangeSpec := { name := "fnExactSolverSays", fn := fun _ => fun
  | [d1, d2] => { results := [.lit (.bool false)], args := [d1, d2] }
  | _ => none }
def FnExactSolverSaysWrongFalsely : Prop := fnExactSolverSaysRow.holds Tryd.pinned (OpenSpec.ofChange fnExactSolverSaysWrong)

/-- 'laws.FnExactSolverJoin': WHATEVER THE INPUT: true; the input reads as it did. -/
def fnExactSolverJoinSpec : ChangeSpec := { name := "fnExactSolverJoin", fn := fun _ => fun
  | [d1, d2] => { results := [.lit (.bool true)], args := [d1, d2] }
  | _ => none }
def fnExactSolverJoinRow : OpenClaim := { program := "ytpdaobiaekamoaadoor", sum := "1a84fd750c8d4682cea34d1f6cf1e0facbd8b340d8dd43196cf5bd966b829387", func := "loop.example/wellhead/laws.FnExactSolverJoin", spec := "fnExactSolverJoin", unfollowed := true, recurses := true, named := ["math/bits.deBruijn32tab"], apart := false, laid := [("math/bits.deBruijn32tab", laid_math_bits_deBruijn32tab)] }
def FnExactSolverJoinSaid : Prop := fnExactSolverJoinRow.holds Tryd.pinned (OpenSpec.ofChange fnExactSolverJoinSpec)

/-- ITS FALSE NEIGHBOUR: 'it returns false'. Refute it at one input. -/
def fnExactSolverJoinWrong : ChangeSpec := { name := "fnExactSolverJoin", fn := fun _ => fun
  | [d1, d2] => { results := [.lit (.bool false)], args := [d1, d2] }
  | _ => none }
def FnExactSolverJoinWrongFalsely : Prop := fnExactSolverJoinRow.holds Tryd.pinned (OpenSpec.ofChange fnExactSolverJoinWrong)

/- THE SECOND FORM. 'bulk': how many values and letters a reading holds, each counted each time it is reached (what is shared counts as often as it is met; a slice's spare places count too). A statement '..UptoSaid' is the law's where the arguments, and the package variables that the reading takes, are together of bulk at most 1048576: NARROWER than '..Said'. Prove '..Said' where nothing that the law and all that it calls make is longer than what came in: it says more and counts as full. Else prove '..UptoSaid'. A law counts once. -/
mutual
def uptoBulk {H : Type} : DataW H → Nat
  | .lit (.string bytes) => bytes.length + 1
  | .lit _ => 1
  | .nil => 1
  | .ptr d => uptoBulk d + 1
  | .slice elems spare => uptoBulkAll elems + uptoBulkAll spare + 1
  | .agg parts => uptoBulkAll parts + 1
  | .iface _ d => uptoBulk d + 1
  | .map entries => uptoBulkEntries entries + 1
  | .held _ => 1
def uptoBulkAll {H : Type} : List (DataW H) → Nat
  | [] => 0
  | d :: r => uptoBulk d + uptoBulkAll r
def uptoBulkEntries {H : Type} : List (Lit × DataW H) → Nat
  | [] => 0
  | x :: r => uptoBulkEntry x + uptoBulkEntries r
def uptoBulkEntry {H : Type} : Lit × DataW H → Nat
  | (.string bytes, d) => bytes.length + uptoBulk d + 1
  | (_, d) => uptoBulk d + 1
 end
def uptoSmall : (H : Type) → List (DataW H) → Bool := fun _ ds => decide (uptoBulkAll ds ≤ 1048576)
def OpenSpec.upto (s : _root_.Go.ChangeSpec) : _root_.Go.OpenSpec := { _root_.Go.OpenSpec.ofChange s with cond := some uptoSmall }

/-- 'laws.FnExactSolverOk', WHERE WHAT IT READS IS OF BULK AT MOST 1048576: true; the input reads as it did. -/
def fnExactSolverOkUptoRow : OpenClaim := { program := "ytpdaobiaekamoaadoor", sum := "1a84fd750c8d4682cea34d1f6cf1e0facbd8b340d8dd43196cf5bd966b829387", func := "loop.example/wellhead/laws.FnExactSolverOk", spec := "fnExactSolverOk", unfollowed := true, recurses := true, named := ["math/bits.deBruijn32tab"], apart := false, laid := [("math/bits.deBruijn32tab", laid_math_bits_deBruijn32tab)], narrowed := true }
def FnExactSolverOkUptoSaid : Prop := fnExactSolverOkUptoRow.holds Tryd.pinned (OpenSpec.upto fnExactSolverOkSpec)

/-- 'laws.FnExactSolverAdd', WHERE WHAT IT READS IS OF BULK AT MOST 1048576: true; the input reads as it did. -/
def fnExactSolverAddUptoRow : OpenClaim := { program := "ytpdaobiaekamoaadoor", sum := "1a84fd750c8d4682cea34d1f6cf1e0facbd8b340d8dd43196cf5bd966b829387", func := "loop.example/wellhead/laws.FnExactSolverAdd", spec := "fnExactSolverAdd", unfollowed := true, recurses := true, named := ["math/bits.deBruijn32tab"], apart := false, laid := [("math/bits.deBruijn32tab", laid_math_bits_deBruijn32tab)], narrowed := true }
def FnExactSolverAddUptoSaid : Prop := fnExactSolverAddUptoRow.holds Tryd.pinned (OpenSpec.upto fnExactSolverAddSpec)

/-- 'laws.FnExactSolverGet', WHERE WHAT IT READS IS OF BULK AT MOST 1048576: true; the input reads as it did. -/
def fnExactSolverGetUptoRow : OpenClaim := { program := "ytpdaobiaekamoaadoor", sum := "1a84fd750c8d4682cea34d1f6cf1e0facbd8b340d8dd43196cf5bd966b829387", func := "loop.example/wellhead/laws.FnExactSolverGet", spec := "fnExactSolverGet", unfollowed := true, recurses := true, named := ["math/bits.deBruijn32tab"], apart := false, laid := [("math/bits.deBruijn32tab", laid_math_bits_deBruijn32tab)], narrowed := true }
def FnExactSolverGetUptoSaid : Prop := fnExactSolverGetUptoRow.holds Tryd.pinned (OpenSpec.upto fnExactSolverGetSpec)

/-- 'laws.FnExactSolverRank', WHERE WHAT IT READS IS OF BULK AT MOST 1048576: true; the input reads as it did. -/
def fnExactSolverRankUptoRow : OpenClaim := { program := "ytpdaobiaekamoaadoor", sum := "1a84fd750c8d4682cea34d1f6cf1e0facbd8b340d8dd43196cf5bd966b829387", func := "loop.example/wellhead/laws.FnExactSolverRank", spec := "fnExactSolverRank", unfollowed := true, recurses := true, named := ["math/bits.deBruijn32tab"], apart := false, laid := [("math/bits.deBruijn32tab", laid_math_bits_deBruijn32tab)], narrowed := true }
def FnExactSolverRankUptoSaid : Prop := fnExactSolverRankUptoRow.holds Tryd.pinned (OpenSpec.upto fnExactSolverRankSpec)

/-- 'laws.FnExactSolverPrefix', WHERE WHAT IT READS IS OF BULK AT MOST 1048576: true; the input reads as it did. -/
def fnExactSolverPrefixUptoRow : OpenClaim := { program := "ytpdaobiaekamoaadoor", sum := "1a84fd750c8d4682cea34d1f6cf1e0facbd8b340d8dd43196cf5bd966b829387", func := "loop.example/wellhead/laws.FnExactSolverPrefix", spec := "fnExactSolverPrefix", unfollowed := true, recurses := true, named := ["math/bits.deBruijn32tab"], apart := false, laid := [("math/bits.deBruijn32tab", laid_math_bits_deBruijn32tab)], narrowed := true }
def FnExactSolverPrefixUptoSaid : Prop := fnExactSolverPrefixUptoRow.holds Tryd.pinned (OpenSpec.upto fnExactSolverPrefixSpec)

/-- 'laws.FnExactSolverSays', WHERE WHAT IT READS IS OF BULK AT MOST 1048576: true; the input reads as it did. -/
def fnExactSolverSaysUptoRow : OpenClaim := { program := "ytpdaobiaekamoaadoor", sum := "1a84fd750c8d4682cea34d1f6cf1e0facbd8b340d8dd43196cf5bd966b829387", func := "loop.example/wellhead/laws.FnExactSolverSays", spec := "fnExactSolverSays", unfollowed := true, recurses := true, named := ["math/bits.deBruijn32tab"], apart := false, laid := [("math/bits.deBruijn32tab", laid_math_bits_deBruijn32tab)], narrowed := true }
def FnExactSolverSaysUptoSaid : Prop := fnExactSolverSaysUptoRow.holds Tryd.pinned (OpenSpec.upto fnExactSolverSaysSpec)

/-- 'laws.FnExactSolverJoin', WHERE WHAT IT READS IS OF BULK AT MOST 1048576: true; the input reads as it did. -/
def fnExactSolverJoinUptoRow : OpenClaim := { program := "ytpdaobiaekamoaadoor", sum := "1a84fd750c8d4682cea34d1f6cf1e0facbd8b340d8dd43196cf5bd966b829387", func := "loop.example/wellhead/laws.FnExactSolverJoin", spec := "fnExactSolverJoin", unfollowed := true, recurses := true, named := ["math/bits.deBruijn32tab"], apart := false, laid := [("math/bits.deBruijn32tab", laid_math_bits_deBruijn32tab)], narrowed := true }
def FnExactSolverJoinUptoSaid : Prop := fnExactSolverJoinUptoRow.holds Tryd.pinned (OpenSpec.upto fnExactSolverJoinSpec)

end Rows
end Go.Proofs.YtpdaobiaekamoaaDoor
