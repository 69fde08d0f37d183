/- Plans that are held, as the laws do it. -/
import Derived.Test.YtgoidhppffoldaaInts
import Derived.Test.YtgoidhppffoldaaPlanMk
namespace Go.Proofs.Ytgoidhppffoldaa
open Go.ChangeShapes Go.WideShapes Go.ChangeAt Go.RowKit Go.Sort

theorem heldPlan_any (long size : Int) (a1 a2 : Option Addr) (n1 n2 c1 c2 : Nat) (k : Int) (w : World) (i1 : IntsAt w a1 (marks k n1)) (i2 : IntsAt w a2 (marks (k + n1) n2)) (hx : n1 ≤ 1048576) (hy : n2 ≤ 1048576) (k0 : 0 ≤ k) (k1 : k ≤ 1048576) :
    Calls Try.prog 37 #[.agg #[.int .i64 long, .int .i64 size, .slice a1 n1 c1, .slice a2 n2 c2], .int .i64 k] w fun e w' => e = .returned (.int .i64 (k + n1 + n2)) ∧ Below w.heap.size w w' := by
  have I1 := hid (i1.below (below_alloc' w (.cells #[.int .i64 long, .int .i64 size, .slice a1 n1 c1, .slice a2 n2 c2] 28)))
  have I2 := hid (i2.below (below_alloc' w (.cells #[.int .i64 long, .int .i64 size, .slice a1 n1 c1, .slice a2 n2 c2] 28)))
  clear i1 i2
  go_enter Try.func37, Try.ntmps37
  go_wp2_with fail
  refine (heldIntS_any a1 c1 n1 k _ (by exact I1.out) (by omega) (by omega) (by omega)).mono ?_
  rintro e w1 ⟨rfl, rfl⟩
  go_wp2_with fail
  refine (heldIntS_any a2 c2 n2 (k + n1) _ (by exact I2.out) (by omega) (by omega) (by omega)).mono ?_
  rintro e w1 ⟨rfl, rfl⟩
  go_wp2_with fail
  go_ret
  exact ⟨ret_int (by omega), below_alloc' _ _⟩
end Go.Proofs.Ytgoidhppffoldaa
