/-
  No cell of these rows narrows 'for every input' (looked for: loops, veiled, ifaces, maps, wideKeys, modest, calm, conditions, laid).
  DERIVED. THE GIVEN ROWS OF THIS SEAT. 8 by the template 'for every input the law returns true; each argument reads behind the call as it read before'; 0 by the template 'total and deterministic' (their statements: YtbkhdiodadjgjaaTotals.lean).
  GIVEN WITH THE SEED: the statements are not yours to turn. If you find one false, say at which input.
  Laid BY PROGRAM, IN A SANDBOX (cutbox-rows.mjs): the forced cells as the released guide's own fill.sh prints them over the translation 8e0a9d428d977e40… (all of the seat's roots in one cut). By AI agents, Wed Nov 11 2026. No macro, syntax, notation, axiom, sorry.
-/
import Derived.Test.YtbkhdiodadjgjaaChecked
import GoSem.Claim
import GoSem.ClaimJoined
import GoSem.ClaimMapViews
import Derived.JoinedTies
import Derived.KernelRfl
namespace Go.Proofs.Ytbkhdiodadjgjaa
/- THE CELL 'sum', in the pinned program and in every row, IS THE sha256 OF THE DUMP (.gsa) THAT YtbkhdiodadjgjaaProg.lean LOADS. Nothing in Lean hashes anything: it is a label: what it is worth is what the hold of that sum in a sandbox is worth. -/
noncomputable def Try.pinned : Pinned := { name := "ytbkhdiodadjgjaa", sum := "8e0a9d428d977e4097ca0ac0eb314e3a573bbcccd64a74c62ce0700ab73d0b3c", checked := Try.checked }
namespace Rows
def none {H : Type} : Left H := { results := [], args := [] }

/-- 'laws.FnExactRowOk': WHATEVER THE INPUT: true; the input reads as it did. -/
def fnExactRowOkSpec : ChangeSpec := { name := "fnExactRowOk", fn := fun _ => fun
  | [d1, d2] => { results := [.lit (.bool true)], args := [d1, d2] }
  | _ => none }
def fnExactRowOkRow : OpenClaim := { program := "ytbkhdiodadjgjaa", sum := "8e0a9d428d977e4097ca0ac0eb314e3a573bbcccd64a74c62ce0700ab73d0b3c", func := "loop.example/wellhead/laws.FnExactRowOk", spec := "fnExactRowOk", apart := false }
def FnExactRowOkSaid : Prop := fnExactRowOkRow.holds Try.pinned (OpenSpec.ofChange fnExactRowOkSpec)

/-- ITS FALSE NEIGHBOUR: 'it returns false'. Refute it at one input. -/
def fnExactRowOkWrong : ChangeSpec := { name := "fnExactRowOk", fn := fun _ => fun
  | [d1, d2] => { results := [.lit (.bool false)], args := [d1, d2] }
  | _ => none }
def FnExactRowOkWrongFalsely : Prop := fnExactRowOkRow.holds Try.pinned (OpenSpec.ofChange fnExactRowOkWrong)

/-- 'laws.FnExactBlockXor': WHATEVER THE INPUT: true; the input reads as it did. -/
def fnExactBlockXorSpec : ChangeSpec := { name := "fnExactBlockXor", fn := fun _ => fun
  | [d1, d2] => { results := [.lit (.bool true)], args := [d1, d2] }
  | _ => none }
def fnExactBlockXorRow : OpenClaim := { program := "ytbkhdiodadjgjaa", sum := "8e0a9d428d977e4097ca0ac0eb314e3a573bbcccd64a74c62ce0700ab73d0b3c", func := "loop.example/wellhead/laws.FnExactBlockXor", spec := "fnExactBlockXor", apart := false }
def FnExactBlockXorSaid : Prop := fnExactBlockXorRow.holds Try.pinned (OpenSpec.ofChange fnExactBlockXorSpec)

/-- ITS FALSE NEIGHBOUR: 'it returns false'. Refute it at one input. -/
def fnExactBlockXorWrong : ChangeSpec := { name := "fnExactBlockXor", fn := fun _ => fun
  | [d1, d2] => { results := [.lit (.bool false)], args := [d1, d2] }
  | _ => none }
def FnExactBlockXorWrongFalsely : Prop := fnExactBlockXorRow.holds Try.pinned (OpenSpec.ofChange fnExactBlockXorWrong)

/-- 'laws.FnExactRowSum': WHATEVER THE INPUT: true; the input reads as it did. -/
def fnExactRowSumSpec : ChangeSpec := { name := "fnExactRowSum", fn := fun _ => fun
  | [d1, d2] => { results := [.lit (.bool true)], args := [d1, d2] }
  | _ => none }
def fnExactRowSumRow : OpenClaim := { program := "ytbkhdiodadjgjaa", sum := "8e0a9d428d977e4097ca0ac0eb314e3a573bbcccd64a74c62ce0700ab73d0b3c", func := "loop.example/wellhead/laws.FnExactRowSum", spec := "fnExactRowSum", apart := false }
def FnExactRowSumSaid : Prop := fnExactRowSumRow.holds Try.pinned (OpenSpec.ofChange fnExactRowSumSpec)

/-- ITS FALSE NEIGHBOUR: 'it returns false'. Refute it at one input. -/
def fnExactRowSumWrong : ChangeSpec := { name := "fnExactRowSum", fn := fun _ => fun
  | [d1, d2] => { results := [.lit (.bool false)], args := [d1, d2] }
  | _ => none }
def FnExactRowSumWrongFalsely : Prop := fnExactRowSumRow.holds Try.pinned (OpenSpec.ofChange fnExactRowSumWrong)

/-- 'laws.FnExactSolverNew': WHATEVER THE INPUT: true; the input reads as it did. -/
def fnExactSolverNewSpec : ChangeSpec := { name := "fnExactSolverNew", fn := fun _ => fun
  | [d1, d2] => { results := [.lit (.bool true)], args := [d1, d2] }
  | _ => none }
def fnExactSolverNewRow : OpenClaim := { program := "ytbkhdiodadjgjaa", sum := "8e0a9d428d977e4097ca0ac0eb314e3a573bbcccd64a74c62ce0700ab73d0b3c", func := "loop.example/wellhead/laws.FnExactSolverNew", spec := "fnExactSolverNew", apart := false }
def FnExactSolverNewSaid : Prop := fnExactSolverNewRow.holds Try.pinned (OpenSpec.ofChange fnExactSolverNewSpec)

/-- ITS FALSE NEIGHBOUR: 'it returns false'. Refute it at one input. -/
def fnExactSolverNewWrong : ChangeSpec := { name := "fnExactSolverNew", fn := fun _ => fun
  | [d1, d2] => { results := [.lit (.bool false)], args := [d1, d2] }
  | _ => none }
def FnExactSolverNewWrongFalsely : Prop := fnExactSolverNewRow.holds Try.pinned (OpenSpec.ofChange fnExactSolverNewWrong)

/-- 'laws.FnExactSeedNext': WHATEVER THE INPUT: true; the input reads as it did. -/
def fnExactSeedNextSpec : ChangeSpec := { name := "fnExactSeedNext", fn := fun _ => fun
  | [d] => { results := [.lit (.bool true)], args := [d] }
  | _ => none }
def fnExactSeedNextRow : OpenClaim := { program := "ytbkhdiodadjgjaa", sum := "8e0a9d428d977e4097ca0ac0eb314e3a573bbcccd64a74c62ce0700ab73d0b3c", func := "loop.example/wellhead/laws.FnExactSeedNext", spec := "fnExactSeedNext", apart := false }
def FnExactSeedNextSaid : Prop := fnExactSeedNextRow.holds Try.pinned (OpenSpec.ofChange fnExactSeedNextSpec)

/-- ITS FALSE NEIGHBOUR: 'it returns false'. Refute it at one input. -/
def fnExactSeedNextWrong : ChangeSpec := { name := "fnExactSeedNext", fn := fun _ => fun
  | [d] => { results := [.lit (.bool false)], args := [d] }
  | _ => none }
def FnExactSeedNextWrongFalsely : Prop := fnExactSeedNextRow.holds Try.pinned (OpenSpec.ofChange fnExactSeedNextWrong)

/-- 'laws.FnExactSeedPick': WHATEVER THE INPUT: true; the input reads as it did. -/
def fnExactSeedPickSpec : ChangeSpec := { name := "fnExactSeedPick", fn := fun _ => fun
  | [d1, d2] => { results := [.lit (.bool true)], args := [d1, d2] }
  | _ => none }
def fnExactSeedPickRow : OpenClaim := { program := "ytbkhdiodadjgjaa", sum := "8e0a9d428d977e4097ca0ac0eb314e3a573bbcccd64a74c62ce0700ab73d0b3c", func := "loop.example/wellhead/laws.FnExactSeedPick", spec := "fnExactSeedPick", apart := false }
def FnExactSeedPickSaid : Prop := fnExactSeedPickRow.holds Try.pinned (OpenSpec.ofChange fnExactSeedPickSpec)

/-- ITS FALSE NEIGHBOUR: 'it returns false'. Refute it at one input. -/
def fnExactSeedPickWrong : ChangeSpec := { name := "fnExactSeedPick", fn := fun _ => fun
  | [d1, d2] => { results := [.lit (.bool false)], args := [d1, d2] }
  | _ => none }
def FnExactSeedPickWrongFalsely : Prop := fnExactSeedPickRow.holds Try.pinned (OpenSpec.ofChange fnExactSeedPickWrong)

/-- 'laws.FnExactDegrees': WHATEVER THE INPUT: true; the input reads as it did. -/
def fnExactDegreesSpec : ChangeSpec := { name := "fnExactDegrees", fn := fun _ => fun
  | [d] => { results := [.lit (.bool true)], args := [d] }
  | _ => none }
def fnExactDegreesRow : OpenClaim := { program := "ytbkhdiodadjgjaa", sum := "8e0a9d428d977e4097ca0ac0eb314e3a573bbcccd64a74c62ce0700ab73d0b3c", func := "loop.example/wellhead/laws.FnExactDegrees", spec := "fnExactDegrees", unfollowed := true, recurses := true, apart := false }
def FnExactDegreesSaid : Prop := fnExactDegreesRow.holds Try.pinned (OpenSpec.ofChange fnExactDegreesSpec)

/-- ITS FALSE NEIGHBOUR: 'it returns false'. Refute it at one input. -/
def fnExactDegreesWrong : ChangeSpec := { name := "fnExactDegrees", fn := fun _ => fun
  | [d] => { results := [.lit (.bool false)], args := [d] }
  | _ => none }
def FnExactDegreesWrongFalsely : Prop := fnExactDegreesRow.holds Try.pinned (OpenSpec.ofChange fnExactDegreesWrong)

/-- 'laws.FnExactDegreeOf': WHATEVER THE INPUT: true; the input reads as it did. -/
def fnExactDegreeOfSpec : ChangeSpec := { name := "fnExactDegreeOf", fn := fun _ => fun
  | [d1, d2] => { results := [.lit (.bool true)], args := [d1, d2] }
  | _ => none }
def fnExactDegreeOfRow : OpenClaim := { program := "ytbkhdiodadjgjaa", sum := "8e0a9d428d977e4097ca0ac0eb314e3a573bbcccd64a74c62ce0700ab73d0b3c", func := "loop.example/wellhead/laws.FnExactDegreeOf", spec := "fnExactDegreeOf", unfollowed := true, recurses := true, apart := false }
def FnExactDegreeOfSaid : Prop := fnExactDegreeOfRow.holds Try.pinned (OpenSpec.ofChange fnExactDegreeOfSpec)

/-- ITS FALSE NEIGHBOUR: 'it returns false'. Refute it at one input. -/
def fnExactDegreeOfWrong : ChangeSpec := { name := "fnExactDegreeOf", fn := fun _ => fun
  | [d1, d2] => { results := [.lit (.bool false)], args := [d1, d2] }
  | _ => none }
def FnExactDegreeOfWrongFalsely : Prop := fnExactDegreeOfRow.holds Try.pinned (OpenSpec.ofChange fnExactDegreeOfWrong)

/- THE SECOND FORM. 'bulk': how many values and letters a reading holds, each counted each time it is reached (what is shared counts as often as it is met; a slice's spare places count too). A statement '..UptoSaid' is the law's where the arguments, and the package variables that the reading takes, are together of bulk at most 1048576: NARROWER than '..Said'. Prove '..Said' where nothing that the law and all that it calls make is longer than what came in: it says more and counts as full. Else prove '..UptoSaid'. A law counts once. -/
mutual
def uptoBulk {H : Type} : DataW H → Nat
  | .lit (.string bytes) => bytes.length + 1
  | .lit _ => 1
  | .nil => 1
  | .ptr d => uptoBulk d + 1
  | .slice elems spare => uptoBulkAll elems + uptoBulkAll spare + 1
  | .agg parts => uptoBulkAll parts + 1
  | .iface _ d => uptoBulk d + 1
  | .map entries => uptoBulkEntries entries + 1
  | .held _ => 1
def uptoBulkAll {H : Type} : List (DataW H) → Nat
  | [] => 0
  | d :: r => uptoBulk d + uptoBulkAll r
def uptoBulkEntries {H : Type} : List (Lit × DataW H) → Nat
  | [] => 0
  | x :: r => uptoBulkEntry x + uptoBulkEntries r
def uptoBulkEntry {H : Type} : Lit × DataW H → Nat
  | (.string bytes, d) => bytes.length + uptoBulk d + 1
  | (_, d) => uptoBulk d + 1
 end
def uptoSmall : (H : Type) → List (DataW H) → Bool := fun _ ds => decide (uptoBulkAll ds ≤ 1048576)
def OpenSpec.upto (s : _root_.Go.ChangeSpec) : _root_.Go.OpenSpec := { _root_.Go.OpenSpec.ofChange s with cond := some uptoSmall }

/-- 'laws.FnExactRowOk', WHERE WHAT IT READS IS OF BULK AT MOST 1048576: true; the input reads as it did. -/
def fnExactRowOkUptoRow : OpenClaim := { program := "ytbkhdiodadjgjaa", sum := "8e0a9d428d977e4097ca0ac0eb314e3a573bbcccd64a74c62ce0700ab73d0b3c", func := "loop.example/wellhead/laws.FnExactRowOk", spec := "fnExactRowOk", apart := false, narrowed := true }
def FnExactRowOkUptoSaid : Prop := fnExactRowOkUptoRow.holds Try.pinned (OpenSpec.upto fnExactRowOkSpec)

/-- 'laws.FnExactBlockXor', WHERE WHAT IT READS IS OF BULK AT MOST 1048576: true; the input reads as it did. -/
def fnExactBlockXorUptoRow : OpenClaim := { program := "ytbkhdiodadjgjaa", sum := "8e0a9d428d977e4097ca0ac0eb314e3a573bbcccd64a74c62ce0700ab73d0b3c", func := "loop.example/wellhead/laws.FnExactBlockXor", spec := "fnExactBlockXor", apart := false, narrowed := true }
def FnExactBlockXorUptoSaid : Prop := fnExactBlockXorUptoRow.holds Try.pinned (OpenSpec.upto fnExactBlockXorSpec)

/-- 'laws.FnExactRowSum', WHERE WHAT IT READS IS OF BULK AT MOST 1048576: true; the input reads as it did. -/
def fnExactRowSumUptoRow : OpenClaim := { program := "ytbkhdiodadjgjaa", sum := "8e0a9d428d977e4097ca0ac0eb314e3a573bbcccd64a74c62ce0700ab73d0b3c", func := "loop.example/wellhead/laws.FnExactRowSum", spec := "fnExactRowSum", apart := false, narrowed := true }
def FnExactRowSumUptoSaid : Prop := fnExactRowSumUptoRow.holds Try.pinned (OpenSpec.upto fnExactRowSumSpec)

/-- 'laws.FnExactSolverNew', WHERE WHAT IT READS IS OF BULK AT MOST 1048576: true; the input reads as it did. -/
def fnExactSolverNewUptoRow : OpenClaim := { program := "ytbkhdiodadjgjaa", sum := "8e0a9d428d977e4097ca0ac0eb314e3a573bbcccd64a74c62ce0700ab73d0b3c", func := "loop.example/wellhead/laws.FnExactSolverNew", spec := "fnExactSolverNew", apart := false, narrowed := true }
def FnExactSolverNewUptoSaid : Prop := fnExactSolverNewUptoRow.holds Try.pinned (OpenSpec.upto fnExactSolverNewSpec)

/-- 'laws.FnExactSeedNext', WHERE WHAT IT READS IS OF BULK AT MOST 1048576: true; the input reads as it did. -/
def fnExactSeedNextUptoRow : OpenClaim := { program := "ytbkhdiodadjgjaa", sum := "8e0a9d428d977e4097ca0ac0eb314e3a573bbcccd64a74c62ce0700ab73d0b3c", func := "loop.example/wellhead/laws.FnExactSeedNext", spec := "fnExactSeedNext", apart := false, narrowed := true }
def FnExactSeedNextUptoSaid : Prop := fnExactSeedNextUptoRow.holds Try.pinned (OpenSpec.upto fnExactSeedNextSpec)

/-- 'laws.FnExactSeedPick', WHERE WHAT IT READS IS OF BULK AT MOST 1048576: true; the input reads as it did. -/
def fnExactSeedPickUptoRow : OpenClaim := { program := "ytbkhdiodadjgjaa", sum := "8e0a9d428d977e4097ca0ac0eb314e3a573bbcccd64a74c62ce0700ab73d0b3c", func := "loop.example/wellhead/laws.FnExactSeedPick", spec := "fnExactSeedPick", apart := false, narrowed := true }
def FnExactSeedPickUptoSaid : Prop := fnExactSeedPickUptoRow.holds Try.pinned (OpenSpec.upto fnExactSeedPickSpec)

/-- 'laws.FnExactDegrees', WHERE WHAT IT READS IS OF BULK AT MOST 1048576: true; the input reads as it did. -/
def fnExactDegreesUptoRow : OpenClaim := { program := "ytbkhdiodadjgjaa", sum := "8e0a9d428d977e4097ca0ac0eb314e3a573bbcccd64a74c62ce0700ab73d0b3c", func := "loop.example/wellhead/laws.FnExactDegrees", spec := "fnExactDegrees", unfollowed := true, recurses := true, apart := false, narrowed := true }
def FnExactDegreesUptoSaid : Prop := fnExactDegreesUptoRow.holds Try.pinned (OpenSpec.upto fnExactDegreesSpec)

/-- 'laws.FnExactDegreeOf', WHERE WHAT IT READS IS OF BULK AT MOST 1048576: true; the input reads as it did. -/
def fnExactDegreeOfUptoRow : OpenClaim := { program := "ytbkhdiodadjgjaa", sum := "8e0a9d428d977e4097ca0ac0eb314e3a573bbcccd64a74c62ce0700ab73d0b3c", func := "loop.example/wellhead/laws.FnExactDegreeOf", spec := "fnExactDegreeOf", unfollowed := true, recurses := true, apart := false, narrowed := true }
def FnExactDegreeOfUptoSaid : Prop := fnExactDegreeOfUptoRow.holds Try.pinned (OpenSpec.upto fnExactDegreeOfSpec)

end Rows
end Go.Proofs.Ytbkhdiodadjgjaa
