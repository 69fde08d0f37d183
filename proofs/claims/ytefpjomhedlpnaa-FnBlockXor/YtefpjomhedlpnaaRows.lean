/-
  No cell of these rows narrows 'for every input' (looked for: loops, veiled, ifaces, maps, wideKeys, modest, calm, conditions, laid).
  DERIVED. THE GIVEN ROWS OF THIS SEAT. 3 by the template 'for every input the law returns true; each argument reads behind the call as it read before'; 0 by the template 'total and deterministic' (their statements: YtefpjomhedlpnaaTotals.lean).
  GIVEN WITH THE SEED: the statements are not yours to turn. If you find one false, say at which input.
  Laid BY PROGRAM, IN A SANDBOX (cutbox-rows.mjs): the forced cells as the released guide's own fill.sh prints them over the translation fb804a9882972029… (all of the seat's roots in one cut). By AI agents, Wed Nov 11 2026. No macro, syntax, notation, axiom, sorry.
-/
import Derived.Test.YtefpjomhedlpnaaChecked
import GoSem.Claim
import GoSem.ClaimJoined
import GoSem.ClaimMapViews
import Derived.JoinedTies
import Derived.KernelRfl
namespace Go.Proofs.Ytefpjomhedlpnaa
/- THE CELL 'sum', in the pinned program and in every row, IS THE sha256 OF THE DUMP (.gsa) THAT YtefpjomhedlpnaaProg.lean LOADS. Nothing in Lean hashes anything: it is a label: what it is worth is what the hold of that sum in a sandbox is worth. -/
noncomputable def Try.pinned : Pinned := { name := "ytefpjomhedlpnaa", sum := "fb804a9882972029236a8d65f7280a636dad412cb1993d15cf862939fbb15243", checked := Try.checked }
namespace Rows
def none {H : Type} : Left H := { results := [], args := [] }

/-- 'laws.FnBlockXor': WHATEVER THE INPUT: true; the input reads as it did. -/
def fnBlockXorSpec : ChangeSpec := { name := "fnBlockXor", fn := fun _ => fun
  | [d] => { results := [.lit (.bool true)], args := [d] }
  | _ => none }
def fnBlockXorRow : OpenClaim := { program := "ytefpjomhedlpnaa", sum := "fb804a9882972029236a8d65f7280a636dad412cb1993d15cf862939fbb15243", func := "loop.example/wellhead/laws.FnBlockXor", spec := "fnBlockXor", apart := false }
def FnBlockXorSaid : Prop := fnBlockXorRow.holds Try.pinned (OpenSpec.ofChange fnBlockXorSpec)

/-- ITS FALSE NEIGHBOUR: 'it returns false'. Refute it at one input. -/
def fnBlockXorWrong : ChangeSpec := { name := "fnBlockXor", fn := fun _ => fun
  | [d] => { results := [.lit (.bool false)], args := [d] }
  | _ => none }
def FnBlockXorWrongFalsely : Prop := fnBlockXorRow.holds Try.pinned (OpenSpec.ofChange fnBlockXorWrong)

/-- 'laws.FnSeed': WHATEVER THE INPUT: true; the input reads as it did. -/
def fnSeedSpec : ChangeSpec := { name := "fnSeed", fn := fun _ => fun
  | [d] => { results := [.lit (.bool true)], args := [d] }
  | _ => none }
def fnSeedRow : OpenClaim := { program := "ytefpjomhedlpnaa", sum := "fb804a9882972029236a8d65f7280a636dad412cb1993d15cf862939fbb15243", func := "loop.example/wellhead/laws.FnSeed", spec := "fnSeed", apart := false }
def FnSeedSaid : Prop := fnSeedRow.holds Try.pinned (OpenSpec.ofChange fnSeedSpec)

/-- ITS FALSE NEIGHBOUR: 'it returns false'. Refute it at one input. -/
def fnSeedWrong : ChangeSpec := { name := "fnSeed", fn := fun _ => fun
  | [d] => { results := [.lit (.bool false)], args := [d] }
  | _ => none }
def FnSeedWrongFalsely : Prop := fnSeedRow.holds Try.pinned (OpenSpec.ofChange fnSeedWrong)

/-- 'laws.FnDegrees': WHATEVER THE INPUT: true; the input reads as it did. -/
def fnDegreesSpec : ChangeSpec := { name := "fnDegrees", fn := fun _ => fun
  | [d] => { results := [.lit (.bool true)], args := [d] }
  | _ => none }
def fnDegreesRow : OpenClaim := { program := "ytefpjomhedlpnaa", sum := "fb804a9882972029236a8d65f7280a636dad412cb1993d15cf862939fbb15243", func := "loop.example/wellhead/laws.FnDegrees", spec := "fnDegrees", unfollowed := true, recurses := true, apart := false }
def FnDegreesSaid : Prop := fnDegreesRow.holds Try.pinned (OpenSpec.ofChange fnDegreesSpec)

/-- ITS FALSE NEIGHBOUR: 'it returns false'. Refute it at one input. -/
def fnDegreesWrong : ChangeSpec := { name := "fnDegrees", fn := fun _ => fun
  | [d] => { results := [.lit (.bool false)], args := [d] }
  | _ => none }
def FnDegreesWrongFalsely : Prop := fnDegreesRow.holds Try.pinned (OpenSpec.ofChange fnDegreesWrong)

/- THE SECOND FORM. 'bulk': how many values and letters a reading holds, each counted each time it is reached (what is shared counts as often as it is met; a slice's spare places count too). A statement '..UptoSaid' is the law's where the arguments, and the package variables that the reading takes, are together of bulk at most 1048576: NARROWER than '..Said'. Prove '..Said' where nothing that the law and all that it calls make is longer than what came in: it says more and counts as full. Else prove '..UptoSaid'. A law counts once. -/
mutual
def uptoBulk {H : Type} : DataW H → Nat
  | .lit (.string bytes) => bytes.length + 1
  | .lit _ => 1
  | .nil => 1
  | .ptr d => uptoBulk d + 1
  | .slice elems spare => uptoBulkAll elems + uptoBulkAll spare + 1
  | .agg parts => uptoBulkAll parts + 1
  | .iface _ d => uptoBulk d + 1
  | .map entries => uptoBulkEntries entries + 1
  | .held _ => 1
def uptoBulkAll {H : Type} : List (DataW H) → Nat
  | [] => 0
  | d :: r => uptoBulk d + uptoBulkAll r
def uptoBulkEntries {H : Type} : List (Lit × DataW H) → Nat
  | [] => 0
  | x :: r => uptoBulkEntry x + uptoBulkEntries r
def uptoBulkEntry {H : Type} : Lit × DataW H → Nat
  | (.string bytes, d) => bytes.length + uptoBulk d + 1
  | (_, d) => uptoBulk d + 1
 end
def uptoSmall : (H : Type) → List (DataW H) → Bool := fun _ ds => decide (uptoBulkAll ds ≤ 1048576)
def OpenSpec.upto (s : _root_.Go.ChangeSpec) : _root_.Go.OpenSpec := { _root_.Go.OpenSpec.ofChange s with cond := some uptoSmall }

/-- 'laws.FnBlockXor', WHERE WHAT IT READS IS OF BULK AT MOST 1048576: true; the input reads as it did. -/
def fnBlockXorUptoRow : OpenClaim := { program := "ytefpjomhedlpnaa", sum := "fb804a9882972029236a8d65f7280a636dad412cb1993d15cf862939fbb15243", func := "loop.example/wellhead/laws.FnBlockXor", spec := "fnBlockXor", apart := false, narrowed := true }
def FnBlockXorUptoSaid : Prop := fnBlockXorUptoRow.holds Try.pinned (OpenSpec.upto fnBlockXorSpec)

/-- 'laws.FnSeed', WHERE WHAT IT READS IS OF BULK AT MOST 1048576: true; the input reads as it did. -/
def fnSeedUptoRow : OpenClaim := { program := "ytefpjomhedlpnaa", sum := "fb804a9882972029236a8d65f7280a636dad412cb1993d15cf862939fbb15243", func := "loop.example/wellhead/laws.FnSeed", spec := "fnSeed", apart := false, narrowed := true }
def FnSeedUptoSaid : Prop := fnSeedUptoRow.holds Try.pinned (OpenSpec.upto fnSeedSpec)

/-- 'laws.FnDegrees', WHERE WHAT IT READS IS OF BULK AT MOST 1048576: true; the input reads as it did. -/
def fnDegreesUptoRow : OpenClaim := { program := "ytefpjomhedlpnaa", sum := "fb804a9882972029236a8d65f7280a636dad412cb1993d15cf862939fbb15243", func := "loop.example/wellhead/laws.FnDegrees", spec := "fnDegrees", unfollowed := true, recurses := true, apart := false, narrowed := true }
def FnDegreesUptoSaid : Prop := fnDegreesUptoRow.holds Try.pinned (OpenSpec.upto fnDegreesSpec)

end Rows
end Go.Proofs.Ytefpjomhedlpnaa
