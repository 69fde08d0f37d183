/-
  No cell of these rows narrows 'for every input' (looked for: loops, veiled, ifaces, maps, wideKeys, modest, calm, conditions, laid).
  DERIVED. THE GIVEN ROWS OF THIS SEAT. 4 by the template 'for every input the law returns true; each argument reads behind the call as it read before'; 0 by the template 'total and deterministic' (their statements: YtkfeghickboagaaTotals.lean).
  GIVEN WITH THE SEED: the statements are not yours to turn. If you find one false, say at which input.
  Laid BY PROGRAM, IN A SANDBOX (cutbox-rows.mjs): the forced cells as the released guide's own fill.sh prints them over the translation a63a1d799e6dad7b… (all of the seat's roots in one cut). By AI agents, Wed Nov 11 2026. No macro, syntax, notation, axiom, sorry.
-/
import Derived.Test.YtkfeghickboagaaChecked
import GoSem.Claim
import GoSem.ClaimJoined
import GoSem.ClaimMapViews
import Derived.JoinedTies
import Derived.KernelRfl
namespace Go.Proofs.Ytkfeghickboagaa
/- THE CELL 'sum', in the pinned program and in every row, IS THE sha256 OF THE DUMP (.gsa) THAT YtkfeghickboagaaProg.lean LOADS. Nothing in Lean hashes anything: it is a label: what it is worth is what the hold of that sum in a sandbox is worth. -/
noncomputable def Try.pinned : Pinned := { name := "ytkfeghickboagaa", sum := "a63a1d799e6dad7b0051f209534f38c737d0928673bef90af29a309cca005916", checked := Try.checked }
namespace Rows
def none {H : Type} : Left H := { results := [], args := [] }

/-- 'laws.FnExactBucketOk': WHATEVER THE INPUT: true; the input reads as it did. -/
def fnExactBucketOkSpec : ChangeSpec := { name := "fnExactBucketOk", fn := fun _ => fun
  | [d] => { results := [.lit (.bool true)], args := [d] }
  | _ => none }
def fnExactBucketOkRow : OpenClaim := { program := "ytkfeghickboagaa", sum := "a63a1d799e6dad7b0051f209534f38c737d0928673bef90af29a309cca005916", func := "loop.example/wellhead/laws.FnExactBucketOk", spec := "fnExactBucketOk", apart := false }
def FnExactBucketOkSaid : Prop := fnExactBucketOkRow.holds Try.pinned (OpenSpec.ofChange fnExactBucketOkSpec)

/-- ITS FALSE NEIGHBOUR: 'it returns false'. Refute it at one input. -/
def fnExactBucketOkWrong : ChangeSpec := { name := "fnExactBucketOk", fn := fun _ => fun
  | [d] => { results := [.lit (.bool false)], args := [d] }
  | _ => none }
def FnExactBucketOkWrongFalsely : Prop := fnExactBucketOkRow.holds Try.pinned (OpenSpec.ofChange fnExactBucketOkWrong)

/-- 'laws.FnExactBucketAt': WHATEVER THE INPUT: true; the input reads as it did. -/
def fnExactBucketAtSpec : ChangeSpec := { name := "fnExactBucketAt", fn := fun _ => fun
  | [d1, d2] => { results := [.lit (.bool true)], args := [d1, d2] }
  | _ => none }
def fnExactBucketAtRow : OpenClaim := { program := "ytkfeghickboagaa", sum := "a63a1d799e6dad7b0051f209534f38c737d0928673bef90af29a309cca005916", func := "loop.example/wellhead/laws.FnExactBucketAt", spec := "fnExactBucketAt", apart := false }
def FnExactBucketAtSaid : Prop := fnExactBucketAtRow.holds Try.pinned (OpenSpec.ofChange fnExactBucketAtSpec)

/-- ITS FALSE NEIGHBOUR: 'it returns false'. Refute it at one input. -/
def fnExactBucketAtWrong : ChangeSpec := { name := "fnExactBucketAt", fn := fun _ => fun
  | [d1, d2] => { results := [.lit (.bool false)], args := [d1, d2] }
  | _ => none }
def FnExactBucketAtWrongFalsely : Prop := fnExactBucketAtRow.holds Try.pinned (OpenSpec.ofChange fnExactBucketAtWrong)

/-- 'laws.FnExactBucketTake': WHATEVER THE INPUT: true; the input reads as it did. -/
def fnExactBucketTakeSpec : ChangeSpec := { name := "fnExactBucketTake", fn := fun _ => fun
  | [d1, d2, d3] => { results := [.lit (.bool true)], args := [d1, d2, d3] }
  | _ => none }
def fnExactBucketTakeRow : OpenClaim := { program := "ytkfeghickboagaa", sum := "a63a1d799e6dad7b0051f209534f38c737d0928673bef90af29a309cca005916", func := "loop.example/wellhead/laws.FnExactBucketTake", spec := "fnExactBucketTake", apart := false }
def FnExactBucketTakeSaid : Prop := fnExactBucketTakeRow.holds Try.pinned (OpenSpec.ofChange fnExactBucketTakeSpec)

/-- ITS FALSE NEIGHBOUR: 'it returns false'. Refute it at one input. -/
def fnExactBucketTakeWrong : ChangeSpec := { name := "fnExactBucketTake", fn := fun _ => fun
  | [d1, d2, d3] => { results := [.lit (.bool false)], args := [d1, d2, d3] }
  | _ => none }
def FnExactBucketTakeWrongFalsely : Prop := fnExactBucketTakeRow.holds Try.pinned (OpenSpec.ofChange fnExactBucketTakeWrong)

/-- 'laws.FnExactBucketWait': WHATEVER THE INPUT: true; the input reads as it did. -/
def fnExactBucketWaitSpec : ChangeSpec := { name := "fnExactBucketWait", fn := fun _ => fun
  | [d1, d2, d3] => { results := [.lit (.bool true)], args := [d1, d2, d3] }
  | _ => none }
def fnExactBucketWaitRow : OpenClaim := { program := "ytkfeghickboagaa", sum := "a63a1d799e6dad7b0051f209534f38c737d0928673bef90af29a309cca005916", func := "loop.example/wellhead/laws.FnExactBucketWait", spec := "fnExactBucketWait", apart := false }
def FnExactBucketWaitSaid : Prop := fnExactBucketWaitRow.holds Try.pinned (OpenSpec.ofChange fnExactBucketWaitSpec)

/-- ITS FALSE NEIGHBOUR: 'it returns false'. Refute it at one input. -/
def fnExactBucketWaitWrong : ChangeSpec := { name := "fnExactBucketWait", fn := fun _ => fun
  | [d1, d2, d3] => { results := [.lit (.bool false)], args := [d1, d2, d3] }
  | _ => none }
def FnExactBucketWaitWrongFalsely : Prop := fnExactBucketWaitRow.holds Try.pinned (OpenSpec.ofChange fnExactBucketWaitWrong)

/- THE SECOND FORM. 'bulk': how many values and letters a reading holds, each counted each time it is reached (what is shared counts as often as it is met; a slice's spare places count too). A statement '..UptoSaid' is the law's where the arguments, and the package variables that the reading takes, are together of bulk at most 1048576: NARROWER than '..Said'. Prove '..Said' where nothing that the law and all that it calls make is longer than what came in: it says more and counts as full. Else prove '..UptoSaid'. A law counts once. -/
mutual
def uptoBulk {H : Type} : DataW H → Nat
  | .lit (.string bytes) => bytes.length + 1
  | .lit _ => 1
  | .nil => 1
  | .ptr d => uptoBulk d + 1
  | .slice elems spare => uptoBulkAll elems + uptoBulkAll spare + 1
  | .agg parts => uptoBulkAll parts + 1
  | .iface _ d => uptoBulk d + 1
  | .map entries => uptoBulkEntries entries + 1
  | .held _ => 1
def uptoBulkAll {H : Type} : List (DataW H) → Nat
  | [] => 0
  | d :: r => uptoBulk d + uptoBulkAll r
def uptoBulkEntries {H : Type} : List (Lit × DataW H) → Nat
  | [] => 0
  | x :: r => uptoBulkEntry x + uptoBulkEntries r
def uptoBulkEntry {H : Type} : Lit × DataW H → Nat
  | (.string bytes, d) => bytes.length + uptoBulk d + 1
  | (_, d) => uptoBulk d + 1
 end
def uptoSmall : (H : Type) → List (DataW H) → Bool := fun _ ds => decide (uptoBulkAll ds ≤ 1048576)
def OpenSpec.upto (s : _root_.Go.ChangeSpec) : _root_.Go.OpenSpec := { _root_.Go.OpenSpec.ofChange s with cond := some uptoSmall }

/-- 'laws.FnExactBucketOk', WHERE WHAT IT READS IS OF BULK AT MOST 1048576: true; the input reads as it did. -/
def fnExactBucketOkUptoRow : OpenClaim := { program := "ytkfeghickboagaa", sum := "a63a1d799e6dad7b0051f209534f38c737d0928673bef90af29a309cca005916", func := "loop.example/wellhead/laws.FnExactBucketOk", spec := "fnExactBucketOk", apart := false, narrowed := true }
def FnExactBucketOkUptoSaid : Prop := fnExactBucketOkUptoRow.holds Try.pinned (OpenSpec.upto fnExactBucketOkSpec)

/-- 'laws.FnExactBucketAt', WHERE WHAT IT READS IS OF BULK AT MOST 1048576: true; the input reads as it did. -/
def fnExactBucketAtUptoRow : OpenClaim := { program := "ytkfeghickboagaa", sum := "a63a1d799e6dad7b0051f209534f38c737d0928673bef90af29a309cca005916", func := "loop.example/wellhead/laws.FnExactBucketAt", spec := "fnExactBucketAt", apart := false, narrowed := true }
def FnExactBucketAtUptoSaid : Prop := fnExactBucketAtUptoRow.holds Try.pinned (OpenSpec.upto fnExactBucketAtSpec)

/-- 'laws.FnExactBucketTake', WHERE WHAT IT READS IS OF BULK AT MOST 1048576: true; the input reads as it did. -/
def fnExactBucketTakeUptoRow : OpenClaim := { program := "ytkfeghickboagaa", sum := "a63a1d799e6dad7b0051f209534f38c737d0928673bef90af29a309cca005916", func := "loop.example/wellhead/laws.FnExactBucketTake", spec := "fnExactBucketTake", apart := false, narrowed := true }
def FnExactBucketTakeUptoSaid : Prop := fnExactBucketTakeUptoRow.holds Try.pinned (OpenSpec.upto fnExactBucketTakeSpec)

/-- 'laws.FnExactBucketWait', WHERE WHAT IT READS IS OF BULK AT MOST 1048576: true; the input reads as it did. -/
def fnExactBucketWaitUptoRow : OpenClaim := { program := "ytkfeghickboagaa", sum := "a63a1d799e6dad7b0051f209534f38c737d0928673bef90af29a309cca005916", func := "loop.example/wellhead/laws.FnExactBucketWait", spec := "fnExactBucketWait", apart := false, narrowed := true }
def FnExactBucketWaitUptoSaid : Prop := fnExactBucketWaitUptoRow.holds Try.pinned (OpenSpec.upto fnExactBucketWaitSpec)

end Rows
end Go.Proofs.Ytkfeghickboagaa
