/- The walk of the law on buckets at a later tick. -/
import Derived.Test.YtkfeghickboagaaBktE
import Derived.Test.YtkfeghickboagaaBktS
namespace Go.Proofs.Ytkfeghickboagaa
open Go.ChangeShapes Go.WideShapes Go.ChangeAt Go.RowKit Go.Sort

set_option maxHeartbeats 2000000 in
theorem BucketAt_of (lv mo ra at' : Int) (now a b c d : Int)  (w : World)
    (hs : ∀ w, Calls Try.prog 10 #[.agg #[.int .i64 lv, .int .i64 mo, .int .i64 ra, .int .i64 at'], .int .i64 now] w fun e w' => e = .returned (.agg #[.int .i64 a, .int .i64 b, .int .i64 c, .int .i64 d]) ∧ Below w.heap.size w w')
    (hi : ∀ w, Calls Try.prog 11 #[.agg #[.int .i64 lv, .int .i64 mo, .int .i64 ra, .int .i64 at'], .int .i64 now] w fun e w' => e = .returned (.agg #[.int .i64 a, .int .i64 b, .int .i64 c, .int .i64 d]) ∧ Below w.heap.size w w') :
    Calls Try.prog 4 #[.agg #[.int .i64 lv, .int .i64 mo, .int .i64 ra, .int .i64 at'], .int .i64 now] w fun e w' => e = .returned (.bool true) ∧ Below w.heap.size w w' := by
  have HS := hid hs
  have HI := hid hi
  clear hs hi
  go_enter Try.func4, Try.ntmps4
  go_wp2_with fail
  refine (toBucket_any lv mo ra at' _).mono ?_
  rintro e w1 ⟨rfl, b1⟩
  have X1 := hid (kept (laid w #[.int .i64 lv, .int .i64 mo, .int .i64 ra, .int .i64 at'] 23) b1)
  have B1 := hid (catB (belowB _ _) b1)
  clear b1
  go_wp2_with fail
  refine (HS.out _).mono ?_
  rintro e w2 ⟨rfl, b2⟩
  have X2 := hid (kept X1.out b2)
  have B2 := hid (catB B1.out b2)
  clear b2
  have p0 := box_cell X2.out 0 (v := .int .i64 lv) rfl
  have p1 := box_cell X2.out 1 (v := .int .i64 mo) rfl
  have p2 := box_cell X2.out 2 (v := .int .i64 ra) rfl
  have p3 := box_cell X2.out 3 (v := .int .i64 at') rfl
  have s2 : w.heap.size < w2.heap.size := lt_of_block X2.out
  go_wp2_with fail
  refine (toBucket_any lv mo ra at' _).mono ?_
  rintro e w3 ⟨rfl, b3⟩
  have X3 := hid (kept (laid w2 #[.int .i64 a, .int .i64 b, .int .i64 c, .int .i64 d] 25) b3)
  have B3 := hid (catB (catB B2.out (belowB _ _)) b3)
  clear b3 p0 p1 p2 p3
  go_wp2_with fail
  refine (HI.out _).mono ?_
  rintro e w4 ⟨rfl, b4⟩
  have X4 := hid (kept X3.out b4)
  have B4 := hid (catB B3.out b4)
  clear b4
  have p0 := box_cell X4.out 0 (v := .int .i64 a) rfl
  have p1 := box_cell X4.out 1 (v := .int .i64 b) rfl
  have p2 := box_cell X4.out 2 (v := .int .i64 c) rfl
  have p3 := box_cell X4.out 3 (v := .int .i64 d) rfl
  have s4 : w2.heap.size < w4.heap.size := lt_of_block X4.out
  go_wp2_with fail
  refine (eqBucket_same a b c d _).mono ?_
  rintro e w5 ⟨rfl, b5⟩
  have B5 := hid (catB (catB B4.out (belowB _ _)) b5)
  clear b5
  go_wp2_with fail
  go_ret
  exact ⟨rfl, B5.out⟩

theorem walk_FnExactBucketAt (cs0 : List Value) (a1 : Int) (w : World) (w0 : Reads w 23 cs0) (_ : (Lit.int .i64 a1).wf = true) :
    Calls Try.prog 4 #[.agg cs0.toArray, .int .i64 a1] w fun e w' => e = .returned (.bool true) ∧ Below w.heap.size w w' := by
  obtain ⟨lv, mo, ra, at', rfl, _⟩ := reads_bucket w0
  by_cases h : bokP lv mo ra at' ∧ 0 ≤ a1 ∧ a1 ≤ 99999
  · obtain ⟨hk, h1, h2⟩ := h
    by_cases h3 : a1 < at'
    · exact BucketAt_of lv mo ra at' a1 lv mo ra at' w (fun w => specBucketAt_old lv mo ra at' a1 w hk h1 h2 h3) (fun w => implBucketAt_old lv mo ra at' a1 w hk h1 h2 h3)
    · exact BucketAt_of lv mo ra at' a1 (min (lv + ra * (a1 - at')) mo) mo ra a1 w (fun w => specBucketAt_new lv mo ra at' a1 _ w rfl hk (by omega) h2) (fun w => implBucketAt_new lv mo ra at' a1 w hk (by omega) h2)
  · exact BucketAt_of lv mo ra at' a1 0 0 0 0 w (fun w => specBucketAt_no lv mo ra at' a1 w h) (fun w => implBucketAt_no lv mo ra at' a1 w h)
end Go.Proofs.Ytkfeghickboagaa
