/- A bucket, a tick and a number, drawn (for the law on waiting). -/
import Derived.Test.YtgdmhodipjfkoaaDrawBtT
namespace Go.Proofs.Ytgdmhodipjfkoaa
open Go.ChangeShapes Go.WideShapes Go.ChangeAt Go.RowKit Go.Sort

set_option maxHeartbeats 2000000 in
theorem drawBucketWait (a : Option Addr) (len cap : Nat) (zs : List Int) (w : World) (h : Bytes w a len cap zs) :
    Calls Try.prog 11 #[.slice a len cap] w fun e w' => DtOut w e w' := by
  have HB := hid (bytes_below h ((Below.refl _ _).alloc (Nat.le_refl _) (.cells #[.int .i64 0, .int .i64 0, .int .i64 0, .int .i64 0] 24)))
  have XR := hid (laid w #[.int .i64 0, .int .i64 0, .int .i64 0, .int .i64 0] 24)
  have B0 := hid (show Below w.heap.size w (w.alloc (.cells #[.int .i64 0, .int .i64 0, .int .i64 0, .int .i64 0] 24)) from (Below.refl _ _).alloc (Nat.le_refl _) _)
  clear h
  go_enter Try.func11, Try.ntmps11
  go_wp2_with fail
  refine (drawBucketTake a len cap zs _ HB.out).mono ?_
  rintro e w1 ⟨lv, mo, ra, at', now, n, rfl, k1, k2, k3, k4, b1⟩
  have X1 := hid (kept XR.out b1)
  have B1 := hid (B0.out.trans (b1.mono B0.out.size))
  clear b1
  have q0 := box_cell X1.out 0 (v := .int .i64 0) rfl
  have q1 := box_cell X1.out 1 (v := .int .i64 0) rfl
  have q2 := box_cell X1.out 2 (v := .int .i64 0) rfl
  have q3 := box_cell X1.out 3 (v := .int .i64 0) rfl
  have z0 := box_frozen X1.out 0
  have z1 := box_frozen X1.out 1
  have z2 := box_frozen X1.out 2
  have z3 := box_frozen X1.out 3
  have tl := lt_of_block X1.out
  have Z := set_block (set_block (set_block (set_block X1.out 0 (.int .i64 lv)) 1 (.int .i64 mo)) 2 (.int .i64 ra)) 3 (.int .i64 at')
  have v0 := box_cell Z 0 (v := .int .i64 lv) rfl
  have v1 := box_cell Z 1 (v := .int .i64 mo) rfl
  have v2 := box_cell Z 2 (v := .int .i64 ra) rfl
  have v3 := box_cell Z 3 (v := .int .i64 at') rfl
  have HZ := hid Z
  clear Z
  go_wp2_with fail
  refine bodyPost_ret (v := .tuple #[.agg #[.int .i64 lv, .int .i64 mo, .int .i64 ra, .int .i64 at'], .int .i64 now, .int .i64 n]) ?_ rfl ⟨lv, mo, ra, at', now, n, rfl, k1, k2, k3, k4, ?_⟩
  · simp [results, Try.results11, go_sem, v0, v1, v2, v3]
  · exact (((B1.out.setCell (p := ⟨w.heap.size, 0, none⟩) (Nat.le_refl _) _).setCell (p := ⟨w.heap.size, 1, none⟩) (Nat.le_refl _) _).setCell (p := ⟨w.heap.size, 2, none⟩) (Nat.le_refl _) _).setCell (p := ⟨w.heap.size, 3, none⟩) (Nat.le_refl _) _
end Go.Proofs.Ytgdmhodipjfkoaa
