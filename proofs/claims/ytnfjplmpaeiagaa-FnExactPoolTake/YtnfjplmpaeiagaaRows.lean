/-
  No cell of these rows narrows 'for every input' (looked for: loops, veiled, ifaces, maps, wideKeys, modest, calm, conditions, laid).
  DERIVED. THE GIVEN ROWS OF THIS SEAT. 5 by the template 'for every input the law returns true; each argument reads behind the call as it read before'; 0 by the template 'total and deterministic' (their statements: YtnfjplmpaeiagaaTotals.lean).
  GIVEN WITH THE SEED: the statements are not yours to turn. If you find one false, say at which input.
  Laid BY PROGRAM, IN A SANDBOX (cutbox-rows.mjs): the forced cells as the released guide's own fill.sh prints them over the translation 7eae3ab8f486343e… (all of the seat's roots in one cut). By AI agents, Wed Nov 11 2026. No macro, syntax, notation, axiom, sorry.
-/
import Derived.Test.YtnfjplmpaeiagaaChecked
import GoSem.Claim
import GoSem.ClaimJoined
import GoSem.ClaimMapViews
import Derived.JoinedTies
import Derived.KernelRfl
namespace Go.Proofs.Ytnfjplmpaeiagaa
/- THE CELL 'sum', in the pinned program and in every row, IS THE sha256 OF THE DUMP (.gsa) THAT YtnfjplmpaeiagaaProg.lean LOADS. Nothing in Lean hashes anything: it is a label: what it is worth is what the hold of that sum in a sandbox is worth. -/
noncomputable def Try.pinned : Pinned := { name := "ytnfjplmpaeiagaa", sum := "7eae3ab8f486343e49e00d5b83ee84c5c83dec03c32497e3eadb3099c613c57f", checked := Try.checked }
namespace Rows
def none {H : Type} : Left H := { results := [], args := [] }

/-- 'laws.FnExactPoolOk': WHATEVER THE INPUT: true; the input reads as it did. -/
def fnExactPoolOkSpec : ChangeSpec := { name := "fnExactPoolOk", fn := fun _ => fun
  | [d] => { results := [.lit (.bool true)], args := [d] }
  | _ => none }
def fnExactPoolOkRow : OpenClaim := { program := "ytnfjplmpaeiagaa", sum := "7eae3ab8f486343e49e00d5b83ee84c5c83dec03c32497e3eadb3099c613c57f", func := "loop.example/wellhead/laws.FnExactPoolOk", spec := "fnExactPoolOk", unfollowed := true, recurses := true, apart := false }
def FnExactPoolOkSaid : Prop := fnExactPoolOkRow.holds Try.pinned (OpenSpec.ofChange fnExactPoolOkSpec)

/-- ITS FALSE NEIGHBOUR: 'it returns false'. Refute it at one input. -/
def fnExactPoolOkWrong : ChangeSpec := { name := "fnExactPoolOk", fn := fun _ => fun
  | [d] => { results := [.lit (.bool false)], args := [d] }
  | _ => none }
def FnExactPoolOkWrongFalsely : Prop := fnExactPoolOkRow.holds Try.pinned (OpenSpec.ofChange fnExactPoolOkWrong)

/-- 'laws.FnExactPoolTake': WHATEVER THE INPUT: true; the input reads as it did. -/
def fnExactPoolTakeSpec : ChangeSpec := { name := "fnExactPoolTake", fn := fun _ => fun
  | [d1, d2, d3, d4] => { results := [.lit (.bool true)], args := [d1, d2, d3, d4] }
  | _ => none }
def fnExactPoolTakeRow : OpenClaim := { program := "ytnfjplmpaeiagaa", sum := "7eae3ab8f486343e49e00d5b83ee84c5c83dec03c32497e3eadb3099c613c57f", func := "loop.example/wellhead/laws.FnExactPoolTake", spec := "fnExactPoolTake", unfollowed := true, recurses := true, apart := false }
def FnExactPoolTakeSaid : Prop := fnExactPoolTakeRow.holds Try.pinned (OpenSpec.ofChange fnExactPoolTakeSpec)

/-- ITS FALSE NEIGHBOUR: 'it returns false'. Refute it at one input. -/
def fnExactPoolTakeWrong : ChangeSpec := { name := "fnExactPoolTake", fn := fun _ => fun
  | [d1, d2, d3, d4] => { results := [.lit (.bool false)], args := [d1, d2, d3, d4] }
  | _ => none }
def FnExactPoolTakeWrongFalsely : Prop := fnExactPoolTakeRow.holds Try.pinned (OpenSpec.ofChange fnExactPoolTakeWrong)

/-- 'laws.FnExactPoolLet': WHATEVER THE INPUT: true; the input reads as it did. -/
def fnExactPoolLetSpec : ChangeSpec := { name := "fnExactPoolLet", fn := fun _ => fun
  | [d1, d2] => { results := [.lit (.bool true)], args := [d1, d2] }
  | _ => none }
def fnExactPoolLetRow : OpenClaim := { program := "ytnfjplmpaeiagaa", sum := "7eae3ab8f486343e49e00d5b83ee84c5c83dec03c32497e3eadb3099c613c57f", func := "loop.example/wellhead/laws.FnExactPoolLet", spec := "fnExactPoolLet", unfollowed := true, recurses := true, apart := false }
def FnExactPoolLetSaid : Prop := fnExactPoolLetRow.holds Try.pinned (OpenSpec.ofChange fnExactPoolLetSpec)

/-- ITS FALSE NEIGHBOUR: 'it returns false'. Refute it at one input. -/
def fnExactPoolLetWrong : ChangeSpec := { name := "fnExactPoolLet", fn := fun _ => fun
  | [d1, d2] => { results := [.lit (.bool false)], args := [d1, d2] }
  | _ => none }
def FnExactPoolLetWrongFalsely : Prop := fnExactPoolLetRow.holds Try.pinned (OpenSpec.ofChange fnExactPoolLetWrong)

/-- 'laws.FnExactPoolDrop': WHATEVER THE INPUT: true; the input reads as it did. -/
def fnExactPoolDropSpec : ChangeSpec := { name := "fnExactPoolDrop", fn := fun _ => fun
  | [d1, d2] => { results := [.lit (.bool true)], args := [d1, d2] }
  | _ => none }
def fnExactPoolDropRow : OpenClaim := { program := "ytnfjplmpaeiagaa", sum := "7eae3ab8f486343e49e00d5b83ee84c5c83dec03c32497e3eadb3099c613c57f", func := "loop.example/wellhead/laws.FnExactPoolDrop", spec := "fnExactPoolDrop", unfollowed := true, recurses := true, apart := false }
def FnExactPoolDropSaid : Prop := fnExactPoolDropRow.holds Try.pinned (OpenSpec.ofChange fnExactPoolDropSpec)

/-- ITS FALSE NEIGHBOUR: 'it returns false'. Refute it at one input. -/
def fnExactPoolDropWrong : ChangeSpec := { name := "fnExactPoolDrop", fn := fun _ => fun
  | [d1, d2] => { results := [.lit (.bool false)], args := [d1, d2] }
  | _ => none }
def FnExactPoolDropWrongFalsely : Prop := fnExactPoolDropRow.holds Try.pinned (OpenSpec.ofChange fnExactPoolDropWrong)

/-- 'laws.FnExactPoolOf': WHATEVER THE INPUT: true; the input reads as it did. -/
def fnExactPoolOfSpec : ChangeSpec := { name := "fnExactPoolOf", fn := fun _ => fun
  | [d1, d2] => { results := [.lit (.bool true)], args := [d1, d2] }
  | _ => none }
def fnExactPoolOfRow : OpenClaim := { program := "ytnfjplmpaeiagaa", sum := "7eae3ab8f486343e49e00d5b83ee84c5c83dec03c32497e3eadb3099c613c57f", func := "loop.example/wellhead/laws.FnExactPoolOf", spec := "fnExactPoolOf", unfollowed := true, recurses := true, apart := false }
def FnExactPoolOfSaid : Prop := fnExactPoolOfRow.holds Try.pinned (OpenSpec.ofChange fnExactPoolOfSpec)

/-- ITS FALSE NEIGHBOUR: 'it returns false'. Refute it at one input. -/
def fnExactPoolOfWrong : ChangeSpec := { name := "fnExactPoolOf", fn := fun _ => fun
  | [d1, d2] => { results := [.lit (.bool false)], args := [d1, d2] }
  | _ => none }
def FnExactPoolOfWrongFalsely : Prop := fnExactPoolOfRow.holds Try.pinned (OpenSpec.ofChange fnExactPoolOfWrong)

/- THE SECOND FORM. 'bulk': how many values and letters a reading holds, each counted each time it is reached (what is shared counts as often as it is met; a slice's spare places count too). A statement '..UptoSaid' is the law's where the arguments, and the package variables that the reading takes, are together of bulk at most 1048576: NARROWER than '..Said'. Prove '..Said' where nothing that the law and all that it calls make is longer than what came in: it says more and counts as full. Else prove '..UptoSaid'. A law counts once. -/
mutual
def uptoBulk {H : Type} : DataW H → Nat
  | .lit (.string bytes) => bytes.length + 1
  | .lit _ => 1
  | .nil => 1
  | .ptr d => uptoBulk d + 1
  | .slice elems spare => uptoBulkAll elems + uptoBulkAll spare + 1
  | .agg parts => uptoBulkAll parts + 1
  | .iface _ d => uptoBulk d + 1
  | .map entries => uptoBulkEntries entries + 1
  | .held _ => 1
def uptoBulkAll {H : Type} : List (DataW H) → Nat
  | [] => 0
  | d :: r => uptoBulk d + uptoBulkAll r
def uptoBulkEntries {H : Type} : List (Lit × DataW H) → Nat
  | [] => 0
  | x :: r => uptoBulkEntry x + uptoBulkEntries r
def uptoBulkEntry {H : Type} : Lit × DataW H → Nat
  | (.string bytes, d) => bytes.length + uptoBulk d + 1
  | (_, d) => uptoBulk d + 1
 end
def uptoSmall : (H : Type) → List (DataW H) → Bool := fun _ ds => decide (uptoBulkAll ds ≤ 1048576)
def OpenSpec.upto (s : _root_.Go.ChangeSpec) : _root_.Go.OpenSpec := { _root_.Go.OpenSpec.ofChange s with cond := some uptoSmall }

/-- 'laws.FnExactPoolOk', WHERE WHAT IT READS IS OF BULK AT MOST 1048576: true; the input reads as it did. -/
def fnExactPoolOkUptoRow : OpenClaim := { program := "ytnfjplmpaeiagaa", sum := "7eae3ab8f486343e49e00d5b83ee84c5c83dec03c32497e3eadb3099c613c57f", func := "loop.example/wellhead/laws.FnExactPoolOk", spec := "fnExactPoolOk", unfollowed := true, recurses := true, apart := false, narrowed := true }
def FnExactPoolOkUptoSaid : Prop := fnExactPoolOkUptoRow.holds Try.pinned (OpenSpec.upto fnExactPoolOkSpec)

/-- 'laws.FnExactPoolTake', WHERE WHAT IT READS IS OF BULK AT MOST 1048576: true; the input reads as it did. -/
def fnExactPoolTakeUptoRow : OpenClaim := { program := "ytnfjplmpaeiagaa", sum := "7eae3ab8f486343e49e00d5b83ee84c5c83dec03c32497e3eadb3099c613c57f", func := "loop.example/wellhead/laws.FnExactPoolTake", spec := "fnExactPoolTake", unfollowed := true, recurses := true, apart := false, narrowed := true }
def FnExactPoolTakeUptoSaid : Prop := fnExactPoolTakeUptoRow.holds Try.pinned (OpenSpec.upto fnExactPoolTakeSpec)

/-- 'laws.FnExactPoolLet', WHERE WHAT IT READS IS OF BULK AT MOST 1048576: true; the input reads as it did. -/
def fnExactPoolLetUptoRow : OpenClaim := { program := "ytnfjplmpaeiagaa", sum := "7eae3ab8f486343e49e00d5b83ee84c5c83dec03c32497e3eadb3099c613c57f", func := "loop.example/wellhead/laws.FnExactPoolLet", spec := "fnExactPoolLet", unfollowed := true, recurses := true, apart := false, narrowed := true }
def FnExactPoolLetUptoSaid : Prop := fnExactPoolLetUptoRow.holds Try.pinned (OpenSpec.upto fnExactPoolLetSpec)

/-- 'laws.FnExactPoolDrop', WHERE WHAT IT READS IS OF BULK AT MOST 1048576: true; the input reads as it did. -/
def fnExactPoolDropUptoRow : OpenClaim := { program := "ytnfjplmpaeiagaa", sum := "7eae3ab8f486343e49e00d5b83ee84c5c83dec03c32497e3eadb3099c613c57f", func := "loop.example/wellhead/laws.FnExactPoolDrop", spec := "fnExactPoolDrop", unfollowed := true, recurses := true, apart := false, narrowed := true }
def FnExactPoolDropUptoSaid : Prop := fnExactPoolDropUptoRow.holds Try.pinned (OpenSpec.upto fnExactPoolDropSpec)

/-- 'laws.FnExactPoolOf', WHERE WHAT IT READS IS OF BULK AT MOST 1048576: true; the input reads as it did. -/
def fnExactPoolOfUptoRow : OpenClaim := { program := "ytnfjplmpaeiagaa", sum := "7eae3ab8f486343e49e00d5b83ee84c5c83dec03c32497e3eadb3099c613c57f", func := "loop.example/wellhead/laws.FnExactPoolOf", spec := "fnExactPoolOf", unfollowed := true, recurses := true, apart := false, narrowed := true }
def FnExactPoolOfUptoSaid : Prop := fnExactPoolOfUptoRow.holds Try.pinned (OpenSpec.upto fnExactPoolOfSpec)

end Rows
end Go.Proofs.Ytnfjplmpaeiagaa
