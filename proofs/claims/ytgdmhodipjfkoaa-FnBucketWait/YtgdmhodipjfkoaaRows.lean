/-
  No cell of these rows narrows 'for every input' (looked for: loops, veiled, ifaces, maps, wideKeys, modest, calm, conditions, laid).
  DERIVED. THE GIVEN ROWS OF THIS SEAT. 2 by the template 'for every input the law returns true; each argument reads behind the call as it read before'; 0 by the template 'total and deterministic' (their statements: YtgdmhodipjfkoaaTotals.lean).
  GIVEN WITH THE SEED: the statements are not yours to turn. If you find one false, say at which input.
  Laid BY PROGRAM, IN A SANDBOX (cutbox-rows.mjs): the forced cells as the released guide's own fill.sh prints them over the translation d4630f8419819fbf… (all of the seat's roots in one cut). By AI agents, Wed Nov 11 2026. No macro, syntax, notation, axiom, sorry.
-/
import Derived.Test.YtgdmhodipjfkoaaChecked
import GoSem.Claim
import GoSem.ClaimJoined
import GoSem.ClaimMapViews
import Derived.JoinedTies
import Derived.KernelRfl
namespace Go.Proofs.Ytgdmhodipjfkoaa
/- THE CELL 'sum', in the pinned program and in every row, IS THE sha256 OF THE DUMP (.gsa) THAT YtgdmhodipjfkoaaProg.lean LOADS. Nothing in Lean hashes anything: it is a label: what it is worth is what the hold of that sum in a sandbox is worth. -/
noncomputable def Try.pinned : Pinned := { name := "ytgdmhodipjfkoaa", sum := "d4630f8419819fbf3235cf09efbe736ff3a264ccc233138d730b29116f202f56", checked := Try.checked }
namespace Rows
def none {H : Type} : Left H := { results := [], args := [] }

/-- 'laws.FnBucketTake': WHATEVER THE INPUT: true; the input reads as it did. -/
def fnBucketTakeSpec : ChangeSpec := { name := "fnBucketTake", fn := fun _ => fun
  | [d] => { results := [.lit (.bool true)], args := [d] }
  | _ => none }
def fnBucketTakeRow : OpenClaim := { program := "ytgdmhodipjfkoaa", sum := "d4630f8419819fbf3235cf09efbe736ff3a264ccc233138d730b29116f202f56", func := "loop.example/wellhead/laws.FnBucketTake", spec := "fnBucketTake", apart := false }
def FnBucketTakeSaid : Prop := fnBucketTakeRow.holds Try.pinned (OpenSpec.ofChange fnBucketTakeSpec)

/-- ITS FALSE NEIGHBOUR: 'it returns false'. Refute it at one input. -/
def fnBucketTakeWrong : ChangeSpec := { name := "fnBucketTake", fn := fun _ => fun
  | [d] => { results := [.lit (.bool false)], args := [d] }
  | _ => none }
def FnBucketTakeWrongFalsely : Prop := fnBucketTakeRow.holds Try.pinned (OpenSpec.ofChange fnBucketTakeWrong)

/-- 'laws.FnBucketWait': WHATEVER THE INPUT: true; the input reads as it did. -/
def fnBucketWaitSpec : ChangeSpec := { name := "fnBucketWait", fn := fun _ => fun
  | [d] => { results := [.lit (.bool true)], args := [d] }
  | _ => none }
def fnBucketWaitRow : OpenClaim := { program := "ytgdmhodipjfkoaa", sum := "d4630f8419819fbf3235cf09efbe736ff3a264ccc233138d730b29116f202f56", func := "loop.example/wellhead/laws.FnBucketWait", spec := "fnBucketWait", apart := false }
def FnBucketWaitSaid : Prop := fnBucketWaitRow.holds Try.pinned (OpenSpec.ofChange fnBucketWaitSpec)

/-- ITS FALSE NEIGHBOUR: 'it returns false'. Refute it at one input. -/
def fnBucketWaitWrong : ChangeSpec := { name := "fnBucketWait", fn := fun _ => fun
  | [d] => { results := [.lit (.bool false)], args := [d] }
  | _ => none }
def FnBucketWaitWrongFalsely : Prop := fnBucketWaitRow.holds Try.pinned (OpenSpec.ofChange fnBucketWaitWrong)

/- THE SECOND FORM. 'bulk': how many values and letters a reading holds, each counted each time it is reached (what is shared counts as often as it is met; a slice's spare places count too). A statement '..UptoSaid' is the law's where the arguments, and the package variables that the reading takes, are together of bulk at most 1048576: NARROWER than '..Said'. Prove '..Said' where nothing that the law and all that it calls make is longer than what came in: it says more and counts as full. Else prove '..UptoSaid'. A law counts once. -/
mutual
def uptoBulk {H : Type} : DataW H → Nat
  | .lit (.string bytes) => bytes.length + 1
  | .lit _ => 1
  | .nil => 1
  | .ptr d => uptoBulk d + 1
  | .slice elems spare => uptoBulkAll elems + uptoBulkAll spare + 1
  | .agg parts => uptoBulkAll parts + 1
  | .iface _ d => uptoBulk d + 1
  | .map entries => uptoBulkEntries entries + 1
  | .held _ => 1
def uptoBulkAll {H : Type} : List (DataW H) → Nat
  | [] => 0
  | d :: r => uptoBulk d + uptoBulkAll r
def uptoBulkEntries {H : Type} : List (Lit × DataW H) → Nat
  | [] => 0
  | x :: r => uptoBulkEntry x + uptoBulkEntries r
def uptoBulkEntry {H : Type} : Lit × DataW H → Nat
  | (.string bytes, d) => bytes.length + uptoBulk d + 1
  | (_, d) => uptoBulk d + 1
 end
def uptoSmall : (H : Type) → List (DataW H) → Bool := fun _ ds => decide (uptoBulkAll ds ≤ 1048576)
def OpenSpec.upto (s : _root_.Go.ChangeSpec) : _root_.Go.OpenSpec := { _root_.Go.OpenSpec.ofChange s with cond := some uptoSmall }

/-- 'laws.FnBucketTake', WHERE WHAT IT READS IS OF BULK AT MOST 1048576: true; the input reads as it did. -/
def fnBucketTakeUptoRow : OpenClaim := { program := "ytgdmhodipjfkoaa", sum := "d4630f8419819fbf3235cf09efbe736ff3a264ccc233138d730b29116f202f56", func := "loop.example/wellhead/laws.FnBucketTake", spec := "fnBucketTake", apart := false, narrowed := true }
def FnBucketTakeUptoSaid : Prop := fnBucketTakeUptoRow.holds Try.pinned (OpenSpec.upto fnBucketTakeSpec)

/-- 'laws.FnBucketWait', WHERE WHAT IT READS IS OF BULK AT MOST 1048576: true; the input reads as it did. -/
def fnBucketWaitUptoRow : OpenClaim := { program := "ytgdmhodipjfkoaa", sum := "d4630f8419819fbf3235cf09efbe736ff3a264ccc233138d730b29116f202f56", func := "loop.example/wellhead/laws.FnBucketWait", spec := "fnBucketWait", apart := false, narrowed := true }
def FnBucketWaitUptoSaid : Prop := fnBucketWaitUptoRow.holds Try.pinned (OpenSpec.upto fnBucketWaitSpec)

end Rows
end Go.Proofs.Ytgdmhodipjfkoaa
