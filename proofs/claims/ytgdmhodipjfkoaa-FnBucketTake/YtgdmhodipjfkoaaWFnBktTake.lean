/- The walk of the law that no more is taken than has come. -/
import Derived.Test.YtgdmhodipjfkoaaDrawBtT
import Derived.Test.YtgdmhodipjfkoaaBktQ
import Derived.Test.YtgdmhodipjfkoaaBktT
import Derived.Test.YtgdmhodipjfkoaaBktST
namespace Go.Proofs.Ytgdmhodipjfkoaa
open Go.ChangeShapes Go.WideShapes Go.ChangeAt Go.RowKit Go.Sort

/-- What both say of what is taken. -/
theorem take_say (lv mo ra at' now n : Int) (_hN : -1 ≤ n) : ∃ (a b c d : Int) (t : Bool),
    (∀ w, Calls Try.prog 6 #[.agg #[.int .i64 lv, .int .i64 mo, .int .i64 ra, .int .i64 at'], .int .i64 now, .int .i64 n] w fun e w' => e = .returned (.tuple #[.agg #[.int .i64 a, .int .i64 b, .int .i64 c, .int .i64 d], .bool t]) ∧ Below w.heap.size w w') ∧
    (∀ w, Calls Try.prog 7 #[.agg #[.int .i64 lv, .int .i64 mo, .int .i64 ra, .int .i64 at'], .int .i64 now, .int .i64 n] w fun e w' => e = .returned (.tuple #[.agg #[.int .i64 a, .int .i64 b, .int .i64 c, .int .i64 d], .bool t]) ∧ Below w.heap.size w w') ∧
    (t = true → bokP lv mo ra at' ∧ 0 ≤ n ∧ at' ≤ now ∧ now ≤ 99999 ∧ n ≤ min (lv + ra * (now - at')) mo ∧ a = min (lv + ra * (now - at')) mo - n ∧ b = mo ∧ c = ra ∧ d = now) := by
  by_cases h : bokP lv mo ra at' ∧ 0 ≤ n ∧ at' ≤ now ∧ now ≤ 99999
  · obtain ⟨hk, k0, k1, k2⟩ := h
    by_cases h3 : n ≤ min (lv + ra * (now - at')) mo
    · exact ⟨_, mo, ra, now, true, fun w => implBucketTake_yes lv mo ra at' now n _ w rfl hk k0 k1 k2 h3, fun w => specBucketTake_yes lv mo ra at' now n _ w rfl hk k0 k1 k2 h3, fun _ => ⟨hk, k0, k1, k2, h3, rfl, rfl, rfl, rfl⟩⟩
    · exact ⟨_, mo, ra, now, false, fun w => implBucketTake_few lv mo ra at' now n _ w rfl hk k0 k1 k2 (by omega), fun w => specBucketTake_few lv mo ra at' now n _ w rfl hk k0 k1 k2 (by omega), fun h => by cases h⟩
  · exact ⟨0, 0, 0, 0, false, fun w => implBucketTake_no lv mo ra at' now n w h, fun w => specBucketTake_no lv mo ra at' now n w h, fun h => by cases h⟩

set_option maxHeartbeats 4000000 in
theorem bktTake_other (a0 : Option Addr) (len0 cap0 : Nat) (z0 : List Int) (w : World) (w0 : IsRow .u8 w a0 len0 cap0 z0) (h0 : len0 ≤ 1048576) :
    Calls Try.prog 3 #[.slice a0 len0 cap0] w fun e w' => e = .returned (.bool true) ∧ Below w.heap.size w w' := by
  have h0' : decide ((1048576 : Int) < (len0 : Int)) = false := decide_eq_false (by omega)
  have W0 := hid w0
  clear w0
  go_enter Try.func3, Try.ntmps3
  go_wp2_with fail
  refine (drawBucketTake a0 len0 cap0 z0 w W0.out).mono ?_
  rintro e w1 ⟨lv, mo, ra, at', now, n, rfl, k1, k2, k3, k4, b1⟩
  have B1 := hid b1
  clear b1
  obtain ⟨a, b, c, d, t, hi, hs, hc⟩ := take_say lv mo ra at' now n k3
  have HS := hid hs
  have HI := hid hi
  have HC := hid hc
  clear hs hi hc
  have XB := hid (laid w1 #[.int .i64 lv, .int .i64 mo, .int .i64 ra, .int .i64 at'] 24)
  go_wp2_with fail
  refine (HI.out _).mono ?_
  rintro e w2 ⟨rfl, b2⟩
  have XB2 := hid (kept (kept XB.out b2) (belowB w2 (.cells #[.int .i64 a, .int .i64 b, .int .i64 c, .int .i64 d] 24)))
  have XX := hid (laid w2 #[.int .i64 a, .int .i64 b, .int .i64 c, .int .i64 d] 24)
  have B2 := hid (catB (catB (catB B1.out (belowB _ _)) b2) (belowB w2 (.cells #[.int .i64 a, .int .i64 b, .int .i64 c, .int .i64 d] 24)))
  clear b2
  repeat ((fail_if_success (with_reducible show Code.wp _ (Code.region 5 _ _) _ _ _)); (first | go_values | go_skip | go_guarded | go_step | go_upon | go_back | go_simp))
  obtain ⟨W, hW⟩ : ∃ W, W = w2.alloc (.cells #[.int .i64 a, .int .i64 b, .int .i64 c, .int .i64 d] 24) := ⟨_, rfl⟩
  rw [← hW] at XB2 XX B2 ⊢
  clear hW XB
  have p0 := box_cell XB2.out 0 (v := .int .i64 lv) rfl
  have p1 := box_cell XB2.out 1 (v := .int .i64 mo) rfl
  have p2 := box_cell XB2.out 2 (v := .int .i64 ra) rfl
  have p3 := box_cell XB2.out 3 (v := .int .i64 at') rfl
  go_wp2_with fail
  refine (HS.out _).mono ?_
  rintro e w3 ⟨rfl, b3⟩
  have XB3 := hid (kept (kept XB2.out b3) (belowB w3 (.cells #[.int .i64 a, .int .i64 b, .int .i64 c, .int .i64 d] 24)))
  have XX3 := hid (kept (kept XX.out b3) (belowB w3 (.cells #[.int .i64 a, .int .i64 b, .int .i64 c, .int .i64 d] 24)))
  have XW3 := hid (laid w3 #[.int .i64 a, .int .i64 b, .int .i64 c, .int .i64 d] 24)
  have B3 := hid (catB (catB B2.out b3) (belowB w3 (.cells #[.int .i64 a, .int .i64 b, .int .i64 c, .int .i64 d] 24)))
  clear b3 p0 p1 p2 p3 XB2 XX B2
  repeat ((fail_if_success (with_reducible show Code.wp _ (Code.region 6 _ _) _ _ _)); (first | go_values | go_skip | go_guarded | go_step | go_upon | go_back | go_simp))
  obtain ⟨V, hV⟩ : ∃ V, V = w3.alloc (.cells #[.int .i64 a, .int .i64 b, .int .i64 c, .int .i64 d] 24) := ⟨_, rfl⟩
  rw [← hV] at XB3 XX3 XW3 B3 ⊢
  clear hV
  have hn := run_neq_bkt a b c d
  have he := run_eq_bkt a b c d
  have hg := guard_bkt
  have PB0 := cell_regrown (box_cell XB3.out 0 (v := .int .i64 lv) rfl)
  have PB1 := cell_regrown (box_cell XB3.out 1 (v := .int .i64 mo) rfl)
  have PB2 := cell_regrown (box_cell XB3.out 2 (v := .int .i64 ra) rfl)
  have PB3 := cell_regrown (box_cell XB3.out 3 (v := .int .i64 at') rfl)
  have PX0 := cell_regrown (box_cell XX3.out 0 (v := .int .i64 a) rfl)
  have PX1 := cell_regrown (box_cell XX3.out 1 (v := .int .i64 b) rfl)
  have PX2 := cell_regrown (box_cell XX3.out 2 (v := .int .i64 c) rfl)
  have PX3 := cell_regrown (box_cell XX3.out 3 (v := .int .i64 d) rfl)
  have PW0 := cell_regrown (box_cell XW3.out 0 (v := .int .i64 a) rfl)
  have PW1 := cell_regrown (box_cell XW3.out 1 (v := .int .i64 b) rfl)
  have PW2 := cell_regrown (box_cell XW3.out 2 (v := .int .i64 c) rfl)
  have PW3 := cell_regrown (box_cell XW3.out 3 (v := .int .i64 d) rfl)
  cases t
  · have say : ∃ k : Bool, (∀ w, Calls Try.prog 8 #[.agg #[.int .i64 lv, .int .i64 mo, .int .i64 ra, .int .i64 at']] w fun e w' => e = .returned (.bool k) ∧ Below w.heap.size w w') ∧
        (∀ w, Calls Try.prog 9 #[.agg #[.int .i64 lv, .int .i64 mo, .int .i64 ra, .int .i64 at']] w fun e w' => e = .returned (.bool k) ∧ Below w.heap.size w w') := by
      by_cases hk : bokP lv mo ra at'
      · exact ⟨true, fun w => implBucketOk_yes lv mo ra at' w hk, fun w => specBucketOk_yes lv mo ra at' w hk⟩
      · exact ⟨false, fun w => implBucketOk_no lv mo ra at' w hk, fun w => specBucketOk_no lv mo ra at' w hk⟩
    obtain ⟨k, hi, hs⟩ := say
    have ks := hid (rg (w := V) (fun w' _ => hi w'))
    have ko := hid (rg (w := V) (fun w' _ => hs w'))
    clear hi hs
    have hkk : (k != k) = false := by simp
    refine wp_region_quiet_below (by kernel_rfl) (by kernel_rfl) ?_
    repeat (first | go_big_quiet_step (first | (go_at_call 8; with_reducible exact ks.out _ _) | (go_at_call 9; with_reducible exact ko.out _ _)) | quiet_step (first | (go_at_call 8; with_reducible exact ks.out _ _) | (go_at_call 9; with_reducible exact ko.out _ _)))
    refine wpQuiet_nil ?_
    intro V2 hw'
    have hbq := of_class hw'
    have XX4 := hid (kept XX3.out hbq)
    have XW4 := hid (kept XW3.out hbq)
    have B4 := hid (catB B3.out hbq)
    clear PB0 PB1 PB2 PB3 PX0 PX1 PX2 PX3 PW0 PW1 PW2 PW3 ks ko hbq hw'
    have PX0 := box_cell XX4.out 0 (v := .int .i64 a) rfl
    have PX1 := box_cell XX4.out 1 (v := .int .i64 b) rfl
    have PX2 := box_cell XX4.out 2 (v := .int .i64 c) rfl
    have PX3 := box_cell XX4.out 3 (v := .int .i64 d) rfl
    have PW0 := box_cell XW4.out 0 (v := .int .i64 a) rfl
    have PW1 := box_cell XW4.out 1 (v := .int .i64 b) rfl
    have PW2 := box_cell XW4.out 2 (v := .int .i64 c) rfl
    have PW3 := box_cell XW4.out 3 (v := .int .i64 d) rfl
    go_wp2_with fail
    go_ret
    exact ⟨rfl, B4.out⟩
  · obtain ⟨hk, j0, j1, j2, j3, ha, rfl, rfl, rfl⟩ := HC.out rfl
    obtain ⟨X, hX⟩ : ∃ X, X = min (lv + c * (d - at')) b := ⟨_, rfl⟩
    rw [← hX] at j3 ha
    have l0 := hk.2.2.2.2.1
    have l1 := hk.2.2.2.2.2.1
    have l2 := hk.2.1
    have m0 := hk.1
    have p1 : 0 ≤ c * (d - at') := Int.mul_nonneg hk.2.2.1 (by omega)
    have x0 : 0 ≤ X := by omega
    have x1 : X ≤ b := by omega
    have hz : c * (d - d) = 0 := by rw [Int.sub_self, Int.mul_zero]
    have ka := hk.2.2.2.2.2.2.1
    have hk1 : bokP (X - n / 2) b c d := ⟨hk.1, hk.2.1, hk.2.2.1, hk.2.2.2.1, by omega, by omega, by omega, by omega⟩
    have hka : bokP a b c d := ⟨hk.1, hk.2.1, hk.2.2.1, hk.2.2.2.1, by omega, by omega, by omega, by omega⟩
    have ks := hid (rg (w := V) (fun w' _ => implBucketOk_yes lv b c at' w' hk))
    have ko := hid (rg (w := V) (fun w' _ => specBucketOk_yes lv b c at' w' hk))
    have FA := hid (fun w' => implBucketAt_new lv b c at' d w' hk j1 j2)
    have F1 := hid (fun w' => implBucketTake_yes lv b c at' d (n / 2) X w' hX hk (by omega) j1 j2 (by omega))
    have F2 := hid (fun w' => implBucketTake_yes (X - n / 2) b c d d (n - n / 2) (X - n / 2) w' (by rw [hz]; omega) hk1 (by omega) (by omega) j2 (by omega))
    rw [show X - n / 2 - (n - n / 2) = a by omega] at F2
    rw [← hX] at FA
    have FK := hid (fun w' => implBucketOk_yes a b c d w' hka)
    have t1 : n.tdiv 2 = n / 2 := tdiv_small n 2 (by omega)
    have t2 : IntKind.i64.wrap (n / 2) = n / 2 := wrap_small _ (by omega) (by omega)
    have t3 : IntKind.i64.wrap (n - n / 2) = n - n / 2 := wrap_small _ (by omega) (by omega)
    have t4 : IntKind.i64.wrap (X - n) = a := by rw [ha]; exact wrap_small _ (by omega) (by omega)
    clear hk1 hka p1 l0 l1 l2 hX ha x0 x1 hz ka m0 hk j0 j1 j2 j3 HC HI HS k1 k2 k3 k4
    refine wp_region_quiet_below (by kernel_rfl) (by kernel_rfl) ?_
    repeat (first | go_big_quiet_step (first | (go_at_call 8; with_reducible exact ks.out _ _) | (go_at_call 9; with_reducible exact ko.out _ _)) | quiet_step (first | (go_at_call 8; with_reducible exact ks.out _ _) | (go_at_call 9; with_reducible exact ko.out _ _)))
    refine wpQuiet_nil ?_
    intro V2 hw'
    have hbq := of_class hw'
    have XB4 := hid (kept XB3.out hbq)
    have XX4 := hid (kept XX3.out hbq)
    have B4 := hid (catB B3.out hbq)
    clear PB0 PB1 PB2 PB3 PX0 PX1 PX2 PX3 PW0 PW1 PW2 PW3 ks ko hbq hw' XB3 XX3 XW3 B3
    have PB0 := box_cell XB4.out 0 (v := .int .i64 lv) rfl
    have PB1 := box_cell XB4.out 1 (v := .int .i64 b) rfl
    have PB2 := box_cell XB4.out 2 (v := .int .i64 c) rfl
    have PB3 := box_cell XB4.out 3 (v := .int .i64 at') rfl
    go_wp2_with fail
    refine (FA.out _).mono ?_
    rintro e w4 ⟨rfl, b4⟩
    have XB5 := hid (kept (kept XB4.out b4) (belowB w4 (.cells #[.int .i64 X, .int .i64 b, .int .i64 c, .int .i64 d] 24)))
    have XX5 := hid (kept (kept XX4.out b4) (belowB w4 (.cells #[.int .i64 X, .int .i64 b, .int .i64 c, .int .i64 d] 24)))
    have XA5 := hid (laid w4 #[.int .i64 X, .int .i64 b, .int .i64 c, .int .i64 d] 24)
    have B5 := hid (catB (catB B4.out b4) (belowB w4 (.cells #[.int .i64 X, .int .i64 b, .int .i64 c, .int .i64 d] 24)))
    clear b4 PB0 PB1 PB2 PB3 XB4 XX4 B4
    repeat ((fail_if_success (with_reducible show Code.wp _ (Code.region 9 _ _) _ _ _)); (first | go_values | go_skip | go_guarded | go_step | go_upon | go_back | go_simp))
    obtain ⟨V5, hV5⟩ : ∃ V, V = w4.alloc (.cells #[.int .i64 X, .int .i64 b, .int .i64 c, .int .i64 d] 24) := ⟨_, rfl⟩
    rw [← hV5] at XB5 XX5 XA5 B5 ⊢
    clear hV5
    have PB0 := box_cell XB5.out 0 (v := .int .i64 lv) rfl
    have PB1 := box_cell XB5.out 1 (v := .int .i64 b) rfl
    have PB2 := box_cell XB5.out 2 (v := .int .i64 c) rfl
    have PB3 := box_cell XB5.out 3 (v := .int .i64 at') rfl
    go_wp2_with fail
    refine (F1.out _).mono ?_
    rintro e w5 ⟨rfl, b5⟩
    have XX6 := hid (kept (kept XX5.out b5) (belowB w5 (.cells #[.int .i64 (X - n / 2), .int .i64 b, .int .i64 c, .int .i64 d] 24)))
    have XA6 := hid (kept (kept XA5.out b5) (belowB w5 (.cells #[.int .i64 (X - n / 2), .int .i64 b, .int .i64 c, .int .i64 d] 24)))
    have XC6 := hid (laid w5 #[.int .i64 (X - n / 2), .int .i64 b, .int .i64 c, .int .i64 d] 24)
    have B6 := hid (catB (catB B5.out b5) (belowB w5 (.cells #[.int .i64 (X - n / 2), .int .i64 b, .int .i64 c, .int .i64 d] 24)))
    clear b5 PB0 PB1 PB2 PB3 XB5 XX5 XA5 B5
    repeat ((fail_if_success (with_reducible show Code.wp _ (Code.region 10 _ _) _ _ _)); (first | go_values | go_skip | go_guarded | go_step | go_upon | go_back | go_simp))
    obtain ⟨V6, hV6⟩ : ∃ V, V = w5.alloc (.cells #[.int .i64 (X - n / 2), .int .i64 b, .int .i64 c, .int .i64 d] 24) := ⟨_, rfl⟩
    rw [← hV6] at XX6 XA6 XC6 B6 ⊢
    clear hV6
    have PB0 := box_cell XC6.out 0 (v := .int .i64 (X - n / 2)) rfl
    have PB1 := box_cell XC6.out 1 (v := .int .i64 b) rfl
    have PB2 := box_cell XC6.out 2 (v := .int .i64 c) rfl
    have PB3 := box_cell XC6.out 3 (v := .int .i64 d) rfl
    go_wp2_with fail
    refine (F2.out _).mono ?_
    rintro e w6 ⟨rfl, b6⟩
    have XX7 := hid (kept (kept XX6.out b6) (belowB w6 (.cells #[.int .i64 a, .int .i64 b, .int .i64 c, .int .i64 d] 24)))
    have XA7 := hid (kept (kept XA6.out b6) (belowB w6 (.cells #[.int .i64 a, .int .i64 b, .int .i64 c, .int .i64 d] 24)))
    have XC7 := hid (laid w6 #[.int .i64 a, .int .i64 b, .int .i64 c, .int .i64 d] 24)
    have B7 := hid (catB (catB B6.out b6) (belowB w6 (.cells #[.int .i64 a, .int .i64 b, .int .i64 c, .int .i64 d] 24)))
    clear b6 PB0 PB1 PB2 PB3 XX6 XA6 XC6 B6
    repeat ((fail_if_success (with_reducible show Code.wp _ (Code.region 11 _ _) _ _ _)); (first | go_values | go_skip | go_guarded | go_step | go_upon | go_back | go_simp))
    obtain ⟨V7, hV7⟩ : ∃ V, V = w6.alloc (.cells #[.int .i64 a, .int .i64 b, .int .i64 c, .int .i64 d] 24) := ⟨_, rfl⟩
    rw [← hV7] at XX7 XA7 XC7 B7 ⊢
    clear hV7
    have PX0 := box_cell XX7.out 0 (v := .int .i64 a) rfl
    have PX1 := box_cell XX7.out 1 (v := .int .i64 b) rfl
    have PX2 := box_cell XX7.out 2 (v := .int .i64 c) rfl
    have PX3 := box_cell XX7.out 3 (v := .int .i64 d) rfl
    go_wp2_with fail
    refine (FK.out _).mono ?_
    rintro e w7 ⟨rfl, b7⟩
    have XX8 := hid (kept XX7.out b7)
    have XA8 := hid (kept XA7.out b7)
    have XC8 := hid (kept XC7.out b7)
    have B8 := hid (catB B7.out b7)
    clear b7 PX0 PX1 PX2 PX3 XX7 XA7 XC7 B7
    have PX0 := box_cell XX8.out 0 (v := .int .i64 a) rfl
    have PX1 := box_cell XX8.out 1 (v := .int .i64 b) rfl
    have PX2 := box_cell XX8.out 2 (v := .int .i64 c) rfl
    have PX3 := box_cell XX8.out 3 (v := .int .i64 d) rfl
    have PA0 := box_cell XA8.out 0 (v := .int .i64 X) rfl
    have PC0 := box_cell XC8.out 0 (v := .int .i64 a) rfl
    have PC1 := box_cell XC8.out 1 (v := .int .i64 b) rfl
    have PC2 := box_cell XC8.out 2 (v := .int .i64 c) rfl
    have PC3 := box_cell XC8.out 3 (v := .int .i64 d) rfl
    go_wp2_with fail
    go_ret
    exact ⟨rfl, B8.out⟩

theorem walk_FnBucketTake (a0 : Option Addr) (len0 cap0 : Nat) (z0 : List Int) (w : World) (w0 : IsRow .u8 w a0 len0 cap0 z0) :
    Calls Try.prog 3 #[.slice a0 len0 cap0] w fun e w' => e = .returned (.bool true) ∧ Below w.heap.size w w' := by
  by_cases h0 : len0 ≤ 1048576
  · exact bktTake_other a0 len0 cap0 z0 w w0 h0
  · have h0' : decide ((1048576 : Int) < (len0 : Int)) = true := decide_eq_true (by omega)
    clear w0
    go_enter Try.func3, Try.ntmps3
    go_wp2
    go_ret
    exact ⟨rfl, Below.refl _ _⟩
end Go.Proofs.Ytgdmhodipjfkoaa
