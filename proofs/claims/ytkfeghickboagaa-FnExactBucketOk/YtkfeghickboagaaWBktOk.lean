/- The walk of the law on which buckets are ok. -/
import Derived.Test.YtkfeghickboagaaBktL
import Derived.Test.YtkfeghickboagaaBktS
namespace Go.Proofs.Ytkfeghickboagaa
open Go.ChangeShapes Go.WideShapes Go.ChangeAt Go.RowKit Go.Sort

set_option maxHeartbeats 2000000 in
theorem bucketOk_of (lv mo ra at' : Int) (b : Bool) (w : World)
    (hs : ∀ w, Calls Try.prog 7 #[.agg #[.int .i64 lv, .int .i64 mo, .int .i64 ra, .int .i64 at']] w fun e w' => e = .returned (.bool b) ∧ Below w.heap.size w w')
    (hi : ∀ w, Calls Try.prog 9 #[.agg #[.int .i64 lv, .int .i64 mo, .int .i64 ra, .int .i64 at']] w fun e w' => e = .returned (.bool b) ∧ Below w.heap.size w w') :
    Calls Try.prog 3 #[.agg #[.int .i64 lv, .int .i64 mo, .int .i64 ra, .int .i64 at']] w fun e w' => e = .returned (.bool true) ∧ Below w.heap.size w w' := by
  have HS := hid hs
  have HI := hid hi
  clear hs hi
  go_enter Try.func3, Try.ntmps3
  go_wp2_with fail
  refine (toBucket_any lv mo ra at' _).mono ?_
  rintro e w1 ⟨rfl, b1⟩
  have X1 := hid (kept (laid w #[.int .i64 lv, .int .i64 mo, .int .i64 ra, .int .i64 at'] 23) b1)
  have B1 := hid (catB (belowB _ _) b1)
  clear b1
  go_wp2_with fail
  refine (HS.out _).mono ?_
  rintro e w2 ⟨rfl, b2⟩
  have X2 := hid (kept X1.out b2)
  have B2 := hid (catB B1.out b2)
  clear b2
  have p0 := box_cell X2.out 0 (v := .int .i64 lv) rfl
  have p1 := box_cell X2.out 1 (v := .int .i64 mo) rfl
  have p2 := box_cell X2.out 2 (v := .int .i64 ra) rfl
  have p3 := box_cell X2.out 3 (v := .int .i64 at') rfl
  go_wp2_with fail
  refine (toBucket_any lv mo ra at' _).mono ?_
  rintro e w3 ⟨rfl, b3⟩
  have B3 := hid (catB B2.out b3)
  clear b3 p0 p1 p2 p3
  go_wp2_with fail
  refine (HI.out _).mono ?_
  rintro e w4 ⟨rfl, b4⟩
  have B4 := hid (catB B3.out b4)
  clear b4
  go_wp2
  go_ret
  exact ⟨rfl, B4.out⟩

theorem walk_FnExactBucketOk (cs0 : List Value) (w : World) (w0 : Reads w 23 cs0) :
    Calls Try.prog 3 #[.agg cs0.toArray] w fun e w' => e = .returned (.bool true) ∧ Below w.heap.size w w' := by
  obtain ⟨lv, mo, ra, at', rfl, _⟩ := reads_bucket w0
  by_cases h : bokP lv mo ra at'
  · exact bucketOk_of lv mo ra at' true w (fun w => specBucketOk_yes lv mo ra at' w h) (fun w => implBucketOk_yes lv mo ra at' w h)
  · exact bucketOk_of lv mo ra at' false w (fun w => specBucketOk_no lv mo ra at' w h) (fun w => implBucketOk_no lv mo ra at' w h)
end Go.Proofs.Ytkfeghickboagaa
