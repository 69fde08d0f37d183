/- The walk of the law on how long a bucket takes. -/
import Derived.Test.YtkfeghickboagaaBktL
import Derived.Test.YtkfeghickboagaaBktST
import Derived.Test.YtkfeghickboagaaBktT
namespace Go.Proofs.Ytkfeghickboagaa
open Go.ChangeShapes Go.WideShapes Go.ChangeAt Go.RowKit Go.Sort

set_option maxHeartbeats 2000000 in
theorem BucketWait_of (lv mo ra at' : Int) (now n a : Int)  (w : World)
    (hs : ∀ w, Calls Try.prog 15 #[.agg #[.int .i64 lv, .int .i64 mo, .int .i64 ra, .int .i64 at'], .int .i64 now, .int .i64 n] w fun e w' => e = .returned (.int .i64 a) ∧ Below w.heap.size w w')
    (hi : ∀ w, Calls Try.prog 16 #[.agg #[.int .i64 lv, .int .i64 mo, .int .i64 ra, .int .i64 at'], .int .i64 now, .int .i64 n] w fun e w' => e = .returned (.int .i64 a) ∧ Below w.heap.size w w') :
    Calls Try.prog 6 #[.agg #[.int .i64 lv, .int .i64 mo, .int .i64 ra, .int .i64 at'], .int .i64 now, .int .i64 n] w fun e w' => e = .returned (.bool true) ∧ Below w.heap.size w w' := by
  have HS := hid hs
  have HI := hid hi
  clear hs hi
  go_enter Try.func6, Try.ntmps6
  go_wp2_with fail
  refine (toBucket_any lv mo ra at' _).mono ?_
  rintro e w1 ⟨rfl, b1⟩
  have X1 := hid (kept (laid w #[.int .i64 lv, .int .i64 mo, .int .i64 ra, .int .i64 at'] 23) b1)
  have B1 := hid (catB (belowB _ _) b1)
  clear b1
  go_wp2_with fail
  refine (HS.out _).mono ?_
  rintro e w2 ⟨rfl, b2⟩
  have X2 := hid (kept X1.out b2)
  have B2 := hid (catB B1.out b2)
  clear b2
  have p0 := box_cell X2.out 0 (v := .int .i64 lv) rfl
  have p1 := box_cell X2.out 1 (v := .int .i64 mo) rfl
  have p2 := box_cell X2.out 2 (v := .int .i64 ra) rfl
  have p3 := box_cell X2.out 3 (v := .int .i64 at') rfl
  have s2 : w.heap.size < w2.heap.size := lt_of_block X2.out
  go_wp2_with fail
  refine (toBucket_any lv mo ra at' _).mono ?_
  rintro e w3 ⟨rfl, b3⟩
  have B3 := hid (catB B2.out b3)
  clear b3 p0 p1 p2 p3
  go_wp2_with fail
  refine (HI.out _).mono ?_
  rintro e w4 ⟨rfl, b4⟩
  have B4 := hid (catB B3.out b4)
  clear b4
  go_wp2
  go_ret
  exact ⟨rfl, B4.out⟩

theorem walk_FnExactBucketWait (cs0 : List Value) (a1 a2 : Int) (w : World) (w0 : Reads w 23 cs0) (_ : (Lit.int .i64 a1).wf = true) (_ : (Lit.int .i64 a2).wf = true) :
    Calls Try.prog 6 #[.agg cs0.toArray, .int .i64 a1, .int .i64 a2] w fun e w' => e = .returned (.bool true) ∧ Below w.heap.size w w' := by
  obtain ⟨lv, mo, ra, at', rfl, _⟩ := reads_bucket w0
  by_cases h : bokP lv mo ra at' ∧ 0 ≤ a2 ∧ at' ≤ a1 ∧ a1 ≤ 99999
  · obtain ⟨hk, h1, h2, h3⟩ := h
    have hb := mul_bound (a := ra) (b := a1 - at') hk.2.2.1 hk.2.2.2.1 (by omega) (by have := hk.2.2.2.2.2.2.1; omega)
    have hv := hk.2.2.2.2.1
    have hm := hk.1
    have hr := hk.2.2.1
    obtain ⟨x, hx⟩ : ∃ x, x = min (lv + ra * (a1 - at')) mo := ⟨_, rfl⟩
    have h6 : 0 ≤ x := by omega
    by_cases h4 : a2 ≤ x
    · exact BucketWait_of lv mo ra at' a1 a2 0 w (fun w => specBucketWait_now lv mo ra at' a1 a2 x w hx hk h1 h2 h3 h4) (fun w => implBucketWait_now lv mo ra at' a1 a2 x w hx hk h1 h2 h3 h4)
    by_cases h5 : mo < a2
    · exact BucketWait_of lv mo ra at' a1 a2 (-1) w (fun w => specBucketWait_big lv mo ra at' a1 a2 x w hx hk h1 h2 h3 (by omega) h5) (fun w => implBucketWait_big lv mo ra at' a1 a2 x w hx hk h1 h2 h3 (by omega) h5)
    by_cases h7 : ra = 0
    · exact BucketWait_of lv mo ra at' a1 a2 (-1) w (fun w => specBucketWait_dry lv mo ra at' a1 a2 x w hx hk h1 h2 h3 (by omega) (by omega) h7) (fun w => implBucketWait_dry lv mo ra at' a1 a2 x w hx hk h1 h2 h3 (by omega) (by omega) h7)
    · exact BucketWait_of lv mo ra at' a1 a2 _ w (fun w => specBucketWait_some lv mo ra at' a1 a2 x w hx hk h1 h2 h3 (by omega) (by omega) (by omega) h6) (fun w => implBucketWait_some lv mo ra at' a1 a2 x w hx hk h1 h2 h3 (by omega) (by omega) (by omega) h6)
  · exact BucketWait_of lv mo ra at' a1 a2 (-1) w (fun w => specBucketWait_no lv mo ra at' a1 a2 w h) (fun w => implBucketWait_no lv mo ra at' a1 a2 w h)
end Go.Proofs.Ytkfeghickboagaa
