/- An array by value, read at an index. -/
import Derived.Test.YtnjjdcalmgjaiaaDoorBase
namespace Go.Proofs.YtnjjdcalmgjaiaaDoor
open Go.ChangeShapes Go.WideShapes Go.ChangeAt Go.RowKit
theorem run_idx {t e : TypeId} {n : Nat} (ht : Tryd.prog.underlying t = some (.array n e)) (he : ∀ w, (sizeOf e).run Tryd.prog w = .ok 1 w) (ha : ∀ w, (isAgg e).run Tryd.prog w = .ok false w)
    (cs : Array Value) (i : Int) (v : Value) (h0 : 0 ≤ i) (hn : i < n) (hv : cs[i.toNat]? = some v) (W : World) :
    (Instr.index t (.agg cs) (.int .i64 i)).run Tryd.prog W = .ok v W := by
  simp [Instr.index, asIntOf, run_underlying ht, h0, hn, go_sem, he, ha, part]
  rw [hv]
  simp
end Go.Proofs.YtnjjdcalmgjaiaaDoor
