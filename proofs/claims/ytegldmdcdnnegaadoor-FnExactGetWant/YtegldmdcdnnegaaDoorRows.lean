/-
  NARROWER THAN 'FOR EVERY INPUT', by the rows' own cells (each row's printed sentence says how): FnExactGetOk: laid · FnExactGetWindows: laid · FnExactGetText: laid · FnExactGetDone: laid · FnExactGetWant: laid.
  DERIVED. THE GIVEN ROWS OF THIS SEAT. 5 by the template 'for every input the law returns true; each argument reads behind the call as it read before'; 0 by the template 'total and deterministic' (their statements: YtegldmdcdnnegaaDoorTotals.lean).
  GIVEN WITH THE SEED: the statements are not yours to turn. If you find one false, say at which input.
  Laid BY PROGRAM, IN A SANDBOX (cutbox-rows.mjs): the forced cells as the released guide's own fill.sh prints them over the translation c99857c6a0d7263f… (all of the seat's roots in one cut). By AI agents, Wed Nov 11 2026. No macro, syntax, notation, axiom, sorry.
-/
import Derived.Test.YtegldmdcdnnegaaDoorChecked
import GoSem.Claim
import GoSem.ClaimJoined
import GoSem.ClaimMapViews
import Derived.JoinedTies
import Derived.KernelRfl
namespace Go.Proofs.YtegldmdcdnnegaaDoor
/- THE CELL 'sum', in the pinned program and in every row, IS THE sha256 OF THE DUMP (.gsa) THAT YtegldmdcdnnegaaDoorProg.lean LOADS. Nothing in Lean hashes anything: it is a label: what it is worth is what the hold of that sum in a sandbox is worth. -/
noncomputable def Tryd.pinned : Pinned := { name := "ytegldmdcdnnegaadoor", sum := "c99857c6a0d7263f6f596e8ab5efe6330434bfd91ea38ce82c7d3b3def9e01f9", checked := Tryd.checked }
namespace Rows
def none {H : Type} : Left H := { results := [], args := [] }

/- WHAT THE LISTED PACKAGE-LEVEL VARIABLES READ AS WHEN THE CALL BEGINS. Each datum BY PROGRAM (the guide's laid-datum.mjs) off the statement by which the dump's own 'gosem.cut.vars' lays the variable. In a bare row this is a premise. The card (YtegldmdcdnnegaaDoorCards.lean) ties it to the program's text. -/
def laid_math_bits_deBruijn32tab {H : Type} : DataW H := .agg [.lit (.int .u8 0), .lit (.int .u8 1), .lit (.int .u8 28), .lit (.int .u8 2), .lit (.int .u8 29), .lit (.int .u8 14), .lit (.int .u8 24), .lit (.int .u8 3), .lit (.int .u8 30), .lit (.int .u8 22), .lit (.int .u8 20), .lit (.int .u8 15), .lit (.int .u8 25), .lit (.int .u8 17), .lit (.int .u8 4), .lit (.int .u8 8), .lit (.int .u8 31), .lit (.int .u8 27), .lit (.int .u8 13), .lit (.int .u8 23), .lit (.int .u8 21), .lit (.int .u8 19), .lit (.int .u8 16), .lit (.int .u8 7), .lit (.int .u8 26), .lit (.int .u8 12), .lit (.int .u8 18), .lit (.int .u8 6), .lit (.int .u8 11), .lit (.int .u8 5), .lit (.int .u8 10), .lit (.int .u8 9)]

/-- 'laws.FnExactGetOk': WHATEVER THE INPUT: true; the input reads as it did. -/
def fnExactGetOkSpec : ChangeSpec := { name := "fnExactGetOk", fn := fun _ => fun
  | [d] => { results := [.lit (.bool true)], args := [d] }
  | _ => none }
def fnExactGetOkRow : OpenClaim := { program := "ytegldmdcdnnegaadoor", sum := "c99857c6a0d7263f6f596e8ab5efe6330434bfd91ea38ce82c7d3b3def9e01f9", func := "loop.example/wellhead/laws.FnExactGetOk", spec := "fnExactGetOk", unfollowed := true, recurses := true, named := ["math/bits.deBruijn32tab"], apart := false, laid := [("math/bits.deBruijn32tab", laid_math_bits_deBruijn32tab)] }
def FnExactGetOkSaid : Prop := fnExactGetOkRow.holds Tryd.pinned (OpenSpec.ofChange fnExactGetOkSpec)

/-- ITS FALSE NEIGHBOUR: 'it returns false'. Refute it at one input. -/
def fnExactGetOkWrong : ChangeSpec := { name := "fnExactGetOk", fn := fun _ => fun
  | [d] => { results := [.lit (.bool false)], args := [d] }
  | _ => none }
def FnExactGetOkWrongFalsely : Prop := fnExactGetOkRow.holds Tryd.pinned (OpenSpec.ofChange fnExactGetOkWrong)

/-- 'laws.FnExactGetWindows': WHATEVER THE INPUT: true; the input reads as it did. -/
def fnExactGetWindowsSpec : ChangeSpec := { name := "fnExactGetWindows", fn := fun _ => fun
  | [d] => { results := [.lit (.bool true)], args := [d] }
  | _ => none }
def fnExactGetWindowsRow : OpenClaim := { program := "ytegldmdcdnnegaadoor", sum := "c99857c6a0d7263f6f596e8ab5efe6330434bfd91ea38ce82c7d3b3def9e01f9", func := "loop.example/wellhead/laws.FnExactGetWindows", spec := "fnExactGetWindows", unfollowed := true, recurses := true, named := ["math/bits.deBruijn32tab"], apart := false, laid := [("math/bits.deBruijn32tab", laid_math_bits_deBruijn32tab)] }
def FnExactGetWindowsSaid : Prop := fnExactGetWindowsRow.holds Tryd.pinned (OpenSpec.ofChange fnExactGetWindowsSpec)

/-- ITS FALSE NEIGHBOUR: 'it returns false'. Refute it at one input. -/
def fnExactGetWindowsWrong : ChangeSpec := { name := "fnExactGetWindows", fn := fun _ => fun
  | [d] => { results := [.lit (.bool false)], args := [d] }
  | _ => none }
def FnExactGetWindowsWrongFalsely : Prop := fnExactGetWindowsRow.holds Tryd.pinned (OpenSpec.ofChange fnExactGetWindowsWrong)

/-- 'laws.FnExactGetText': WHATEVER THE INPUT: true; the input reads as it did. -/
def fnExactGetTextSpec : ChangeSpec := { name := "fnExactGetText", fn := fun _ => fun
  | [d] => { results := [.lit (.bool true)], args := [d] }
  | _ => none }
def fnExactGetTextRow : OpenClaim := { program := "ytegldmdcdnnegaadoor", sum := "c99857c6a0d7263f6f596e8ab5efe6330434bfd91ea38ce82c7d3b3def9e01f9", func := "loop.example/wellhead/laws.FnExactGetText", spec := "fnExactGetText", inPlace := ["internal/abi.NoEscape"], unfollowed := true, recurses := true, named := ["math/bits.deBruijn32tab"], apart := false, laid := [("math/bits.deBruijn32tab", laid_math_bits_deBruijn32tab)] }
def FnExactGetTextSaid : Prop := fnExactGetTextRow.holds Tryd.pinned (OpenSpec.ofChange fnExactGetTextSpec)

/-- ITS FALSE NEIGHBOUR: 'it returns false'. Refute it at one input. -/
def fnExactGetTextWrong : ChangeSpec := { name := "fnExactGetText", fn := fun _ => fun
  | [d] => { results := [.lit (.bool false)], args := [d] }
  | _ => none }
def FnExactGetTextWrongFalsely : Prop := fnExactGetTextRow.holds Tryd.pinned (OpenSpec.ofChange fnExactGetTextWrong)

/-- 'laws.FnExactGetDone': WHATEVER THE INPUT: true; the input reads as it did. -/
def fnExactGetDoneSpec : ChangeSpec := { name := "fnExactGetDone", fn := fun _ => fun
  | [d] => { results := [.lit (.bool true)], args := [d] }
  | _ => none }
def fnExactGetDoneRow : OpenClaim := { program := "ytegldmdcdnnegaadoor", sum := "c99857c6a0d7263f6f596e8ab5efe6330434bfd91ea38ce82c7d3b3def9e01f9", func := "loop.example/wellhead/laws.FnExactGetDone", spec := "fnExactGetDone", unfollowed := true, recurses := true, named := ["math/bits.deBruijn32tab"], apart := false, laid := [("math/bits.deBruijn32tab", laid_math_bits_deBruijn32tab)] }
def FnExactGetDoneSaid : Prop := fnExactGetDoneRow.holds Tryd.pinned (OpenSpec.ofChange fnExactGetDoneSpec)

/-- ITS FALSE NEIGHBOUR: 'it returns false'. Refute it at one input. -/
def fnExactGetDoneWrong : ChangeSpec := { name := "fnExactGetDone", fn := fun _ => fun
  | [d] => { results := [.lit (.bool false)], args := [d] }
  | _ => none }
def FnExactGetDoneWrongFalsely : Prop := fnExactGetDoneRow.holds Tryd.pinned (OpenSpec.ofChange fnExactGetDoneWrong)

/-- 'laws.FnExactGetWant': WHATEVER THE INPUT: true; the input reads as it did. -/
def fnExactGetWantSpec : ChangeSpec := { name := "fnExactGetWant", fn := fun _ => fun
  | [d1, d2] => { results := [.lit (.bool true)], args := [d1, d2] }
  | _ => none }
def fnExactGetWantRow : OpenClaim := { program := "ytegldmdcdnnegaadoor", sum := "c99857c6a0d7263f6f596e8ab5efe6330434bfd91ea38ce82c7d3b3def9e01f9", func := "loop.example/wellhead/laws.FnExactGetWant", spec := "fnExactGetWant", unfollowed := true, recurses := true, named := ["math/bits.deBruijn32tab"], apart := false, laid := [("math/bits.deBruijn32tab", laid_math_bits_deBruijn32tab)] }
def FnExactGetWantSaid : Prop := fnExactGetWantRow.holds Tryd.pinned (OpenSpec.ofChange fnExactGetWantSpec)

/-- ITS FALSE NEIGHBOUR: 'it returns false'. Refute it at one input. -/
def fnExactGetWantWrong : ChangeSpec := { name := "fnExactGetWant", fn := fun _ => fun
  | [d1, d2] => { results := [.lit (.bool false)], args := [d1, d2] }
  | _ => none }
def FnExactGetWantWrongFalsely : Prop := fnExactGetWantRow.holds Tryd.pinned (OpenSpec.ofChange fnExactGetWantWrong)

/- THE SECOND FORM. 'bulk': how many values and letters a reading holds, each counted each time it is reached (what is shared counts as often as it is met; a slice's spare places count too). A statement '..UptoSaid' is the law's where the arguments, and the package variables that the reading takes, are together of bulk at most 1048576: NARROWER than '..Said'. Prove '..Said' where nothing that the law and all that it calls make is longer than what came in: it says more and counts as full. Else prove '..UptoSaid'. A law counts once. -/
mutual
def uptoBulk {H : Type} : DataW H → Nat
  | .lit (.string bytes) => bytes.length + 1
  | .lit _ => 1
  | .nil => 1
  | .ptr d => uptoBulk d + 1
  | .slice elems spare => uptoBulkAll elems + uptoBulkAll spare + 1
  | .agg parts => uptoBulkAll parts + 1
  | .iface _ d => uptoBulk d + 1
  | .map entries => uptoBulkEntries entries + 1
  | .held _ => 1
def uptoBulkAll {H : Type} : List (DataW H) → Nat
  | [] => 0
  | d :: r => uptoBulk d + uptoBulkAll r
def uptoBulkEntries {H : Type} : List (Lit × DataW H) → Nat
  | [] => 0
  | x :: r => uptoBulkEntry x + uptoBulkEntries r
def uptoBulkEntry {H : Type} : Lit × DataW H → Nat
  | (.string bytes, d) => bytes.length + uptoBulk d + 1
  | (_, d) => uptoBulk d + 1
 end
def uptoSmall : (H : Type) → List (DataW H) → Bool := fun _ ds => decide (uptoBulkAll ds ≤ 1048576)
def OpenSpec.upto (s : _root_.Go.ChangeSpec) : _root_.Go.OpenSpec := { _root_.Go.OpenSpec.ofChange s with cond := some uptoSmall }

/-- 'laws.FnExactGetOk', WHERE WHAT IT READS IS OF BULK AT MOST 1048576: true; the input reads as it did. -/
def fnExactGetOkUptoRow : OpenClaim := { program := "ytegldmdcdnnegaadoor", sum := "c99857c6a0d7263f6f596e8ab5efe6330434bfd91ea38ce82c7d3b3def9e01f9", func := "loop.example/wellhead/laws.FnExactGetOk", spec := "fnExactGetOk", unfollowed := true, recurses := true, named := ["math/bits.deBruijn32tab"], apart := false, laid := [("math/bits.deBruijn32tab", laid_math_bits_deBruijn32tab)], narrowed := true }
def FnExactGetOkUptoSaid : Prop := fnExactGetOkUptoRow.holds Tryd.pinned (OpenSpec.upto fnExactGetOkSpec)

/-- 'laws.FnExactGetWindows', WHERE WHAT IT READS IS OF BULK AT MOST 1048576: true; the input reads as it did. -/
def fnExactGetWindowsUptoRow : OpenClaim := { program := "ytegldmdcdnnegaadoor", sum := "c99857c6a0d7263f6f596e8ab5efe6330434bfd91ea38ce82c7d3b3def9e01f9", func := "loop.example/wellhead/laws.FnExactGetWindows", spec := "fnExactGetWindows", unfollowed := true, recurses := true, named := ["math/bits.deBruijn32tab"], apart := false, laid := [("math/bits.deBruijn32tab", laid_math_bits_deBruijn32tab)], narrowed := true }
def FnExactGetWindowsUptoSaid : Prop := fnExactGetWindowsUptoRow.holds Tryd.pinned (OpenSpec.upto fnExactGetWindowsSpec)

/-- 'laws.FnExactGetText', WHERE WHAT IT READS IS OF BULK AT MOST 1048576: true; the input reads as it did. -/
def fnExactGetTextUptoRow : OpenClaim := { program := "ytegldmdcdnnegaadoor", sum := "c99857c6a0d7263f6f596e8ab5efe6330434bfd91ea38ce82c7d3b3def9e01f9", func := "loop.example/wellhead/laws.FnExactGetText", spec := "fnExactGetText", inPlace := ["internal/abi.NoEscape"], unfollowed := true, recurses := true, named := ["math/bits.deBruijn32tab"], apart := false, laid := [("math/bits.deBruijn32tab", laid_math_bits_deBruijn32tab)], narrowed := true }
def FnExactGetTextUptoSaid : Prop := fnExactGetTextUptoRow.holds Tryd.pinned (OpenSpec.upto fnExactGetTextSpec)

/-- 'laws.FnExactGetDone', WHERE WHAT IT READS IS OF BULK AT MOST 1048576: true; the input reads as it did. -/
def fnExactGetDoneUptoRow : OpenClaim := { program := "ytegldmdcdnnegaadoor", sum := "c99857c6a0d7263f6f596e8ab5efe6330434bfd91ea38ce82c7d3b3def9e01f9", func := "loop.example/wellhead/laws.FnExactGetDone", spec := "fnExactGetDone", unfollowed := true, recurses := true, named := ["math/bits.deBruijn32tab"], apart := false, laid := [("math/bits.deBruijn32tab", laid_math_bits_deBruijn32tab)], narrowed := true }
def FnExactGetDoneUptoSaid : Prop := fnExactGetDoneUptoRow.holds Tryd.pinned (OpenSpec.upto fnExactGetDoneSpec)

/-- 'laws.FnExactGetWant', WHERE WHAT IT READS IS OF BULK AT MOST 1048576: true; the input reads as it did. -/
def fnExactGetWantUptoRow : OpenClaim := { program := "ytegldmdcdnnegaadoor", sum := "c99857c6a0d7263f6f596e8ab5efe6330434bfd91ea38ce82c7d3b3def9e01f9", func := "loop.example/wellhead/laws.FnExactGetWant", spec := "fnExactGetWant", unfollowed := true, recurses := true, named := ["math/bits.deBruijn32tab"], apart := false, laid := [("math/bits.deBruijn32tab", laid_math_bits_deBruijn32tab)], narrowed := true }
def FnExactGetWantUptoSaid : Prop := fnExactGetWantUptoRow.holds Tryd.pinned (OpenSpec.upto fnExactGetWantSpec)

end Rows
end Go.Proofs.YtegldmdcdnnegaaDoor
