/- The walk of the law that waiting twice is waiting for both together. -/
import Derived.Test.YtpjkddccjdpbaaaDrawBkA
import Derived.Test.YtpjkddccjdpbaaaBktQ
import Derived.Test.YtpjkddccjdpbaaaBktS
namespace Go.Proofs.Ytpjkddccjdpbaaa
open Go.ChangeShapes Go.WideShapes Go.ChangeAt Go.RowKit Go.Sort

set_option maxHeartbeats 4000000 in
theorem bktAt_other (a0 a1 : Option Addr) (len0 cap0 len1 cap1 : Nat) (z0 : List Int) (w : World) (w0 : IsRow .u8 w a0 len0 cap0 z0) (h0 : len0 ≤ 1048576) (h1 : len1 ≤ 1048576) :
    Calls Try.prog 4 #[.slice a0 len0 cap0, .slice a1 len1 cap1] w fun e w' => e = .returned (.bool true) ∧ Below w.heap.size w w' := by
  have h0' : decide ((1048576 : Int) < (len0 : Int)) = false := decide_eq_false (by omega)
  have h1' : decide ((1048576 : Int) < (len1 : Int)) = false := decide_eq_false (by omega)
  have W0 := hid w0
  clear w0
  go_enter Try.func4, Try.ntmps4
  go_wp2_with fail
  refine (drawBucketAt a0 len0 cap0 z0 w W0.out).mono ?_
  rintro e w1 ⟨lv, mo, ra, at', now, rfl, b1⟩
  have B1 := hid b1
  clear b1
  have say : ∃ a b c d : Int, (∀ w, Calls Try.prog 13 #[.agg #[.int .i64 lv, .int .i64 mo, .int .i64 ra, .int .i64 at'], .int .i64 now] w fun e w' => e = .returned (.agg #[.int .i64 a, .int .i64 b, .int .i64 c, .int .i64 d]) ∧ Below w.heap.size w w') ∧
      (∀ w, Calls Try.prog 11 #[.agg #[.int .i64 lv, .int .i64 mo, .int .i64 ra, .int .i64 at'], .int .i64 now] w fun e w' => e = .returned (.agg #[.int .i64 a, .int .i64 b, .int .i64 c, .int .i64 d]) ∧ Below w.heap.size w w') ∧
      ((bokP lv mo ra at' ∧ at' ≤ now ∧ now ≤ 99999) → a = min (lv + ra * (now - at')) mo ∧ b = mo ∧ c = ra ∧ d = now) := by
    by_cases h : bokP lv mo ra at' ∧ 0 ≤ now ∧ now ≤ 99999
    · obtain ⟨hk, k1, k2⟩ := h
      by_cases h3 : now < at'
      · exact ⟨lv, mo, ra, at', fun w => specBucketAt_old lv mo ra at' now w hk k1 k2 h3, fun w => implBucketAt_old lv mo ra at' now w hk k1 k2 h3, fun ⟨_, h, _⟩ => by omega⟩
      · exact ⟨_, mo, ra, now, fun w => specBucketAt_new lv mo ra at' now _ w rfl hk (by omega) k2, fun w => implBucketAt_new lv mo ra at' now w hk (by omega) k2, fun _ => ⟨rfl, rfl, rfl, rfl⟩⟩
    · exact ⟨0, 0, 0, 0, fun w => specBucketAt_no lv mo ra at' now w h, fun w => implBucketAt_no lv mo ra at' now w h, fun ⟨k, k1, k2⟩ => absurd ⟨k, by have := k.2.2.2.2.2.2.1; omega, k2⟩ h⟩
  obtain ⟨a, b, c, d, hs, hi, hc⟩ := say
  have HS := hid hs
  have HI := hid hi
  have HC := hid hc
  clear hs hi hc
  have b0 := laid w1 #[.int .i64 lv, .int .i64 mo, .int .i64 ra, .int .i64 at'] 24
  have XB := hid b0
  clear b0
  go_wp2_with fail
  refine (HI.out _).mono ?_
  rintro e w2 ⟨rfl, b2⟩
  have XB2 := hid (kept (kept XB.out b2) (belowB w2 (.cells #[.int .i64 a, .int .i64 b, .int .i64 c, .int .i64 d] 24)))
  have XX := hid (laid w2 #[.int .i64 a, .int .i64 b, .int .i64 c, .int .i64 d] 24)
  have B2 := hid (catB (catB (catB B1.out (belowB _ _)) b2) (belowB w2 (.cells #[.int .i64 a, .int .i64 b, .int .i64 c, .int .i64 d] 24)))
  clear b2
  go_wp2_with fail
  obtain ⟨W, hW⟩ : ∃ W, W = w2.alloc (.cells #[.int .i64 a, .int .i64 b, .int .i64 c, .int .i64 d] 24) := ⟨_, rfl⟩
  rw [← hW] at XB2 XX B2 ⊢
  have hn := run_neq_bkt a b c d
  have he := run_eq_bkt a b c d
  have hg := guard_bkt
  clear hW XB
  by_cases hk : bokP lv mo ra at'
  · by_cases k1 : now < at'
    · have ks := hid (rg (w := W) (fun w' _ => HS.out w'))
      have ko := hid (rg (w := W) (fun w' _ => specBucketOk_yes lv mo ra at' w' hk))
      have PB0 := cell_regrown (box_cell XB2.out 0 (v := .int .i64 lv) rfl)
      have PB1 := cell_regrown (box_cell XB2.out 1 (v := .int .i64 mo) rfl)
      have PB2 := cell_regrown (box_cell XB2.out 2 (v := .int .i64 ra) rfl)
      have PB3 := cell_regrown (box_cell XB2.out 3 (v := .int .i64 at') rfl)
      have PX0 := cell_regrown (box_cell XX.out 0 (v := .int .i64 a) rfl)
      have PX1 := cell_regrown (box_cell XX.out 1 (v := .int .i64 b) rfl)
      have PX2 := cell_regrown (box_cell XX.out 2 (v := .int .i64 c) rfl)
      have PX3 := cell_regrown (box_cell XX.out 3 (v := .int .i64 d) rfl)
      refine wp_region_quiet_below (by kernel_rfl) (by kernel_rfl) ?_
      repeat (first | go_big_quiet_step (first | (go_at_call 13; exact ks.out _ _) | (go_at_call 10; exact ko.out _ _)) | quiet_step (first | (go_at_call 13; exact ks.out _ _) | (go_at_call 10; exact ko.out _ _)))
      refine wpQuiet_nil ?_
      intro _ hw'
      obtain ⟨⟨dq, osq⟩, hw''⟩ := hw'
      have hbq := below_regrown W dq osq
      rw [← hw''] at hbq
      clear hw''
      rename_i W'
      have XB3 := hid (kept XB2.out hbq)
      have XX3 := hid (kept XX.out hbq)
      have B3 := hid (catB B2.out hbq)
      clear PB0 PB1 PB2 PB3 PX0 PX1 PX2 PX3 ks ko hbq
      go_wp2_with fail
      have ks := hid (rg (w := W') (fun w' _ => HS.out w'))
      have PB0 := cell_regrown (box_cell XB3.out 0 (v := .int .i64 lv) rfl)
      have PB1 := cell_regrown (box_cell XB3.out 1 (v := .int .i64 mo) rfl)
      have PB2 := cell_regrown (box_cell XB3.out 2 (v := .int .i64 ra) rfl)
      have PB3 := cell_regrown (box_cell XB3.out 3 (v := .int .i64 at') rfl)
      have PX0 := cell_regrown (box_cell XX3.out 0 (v := .int .i64 a) rfl)
      have PX1 := cell_regrown (box_cell XX3.out 1 (v := .int .i64 b) rfl)
      have PX2 := cell_regrown (box_cell XX3.out 2 (v := .int .i64 c) rfl)
      have PX3 := cell_regrown (box_cell XX3.out 3 (v := .int .i64 d) rfl)
      refine wp_region_quiet_below (by kernel_rfl) (by kernel_rfl) ?_
      repeat (first | go_big_quiet_step ((go_at_call 13; exact ks.out _ _)) | quiet_step ((go_at_call 13; exact ks.out _ _)))
      refine wpQuiet_nil ?_
      intro _ hw'
      obtain ⟨⟨dq, osq⟩, hw''⟩ := hw'
      have hbq := below_regrown W' dq osq
      rw [← hw''] at hbq
      clear hw''
      have B4 := hid (catB B3.out hbq)
      go_wp2_with fail
      go_ret
      exact ⟨rfl, B4.out⟩
    by_cases k2 : 99999 < now
    · have k1' : decide (now < at') = false := decide_eq_false k1
      have ks := hid (rg (w := W) (fun w' _ => HS.out w'))
      have ko := hid (rg (w := W) (fun w' _ => specBucketOk_yes lv mo ra at' w' hk))
      have PB0 := cell_regrown (box_cell XB2.out 0 (v := .int .i64 lv) rfl)
      have PB1 := cell_regrown (box_cell XB2.out 1 (v := .int .i64 mo) rfl)
      have PB2 := cell_regrown (box_cell XB2.out 2 (v := .int .i64 ra) rfl)
      have PB3 := cell_regrown (box_cell XB2.out 3 (v := .int .i64 at') rfl)
      have PX0 := cell_regrown (box_cell XX.out 0 (v := .int .i64 a) rfl)
      have PX1 := cell_regrown (box_cell XX.out 1 (v := .int .i64 b) rfl)
      have PX2 := cell_regrown (box_cell XX.out 2 (v := .int .i64 c) rfl)
      have PX3 := cell_regrown (box_cell XX.out 3 (v := .int .i64 d) rfl)
      refine wp_region_quiet_below (by kernel_rfl) (by kernel_rfl) ?_
      repeat (first | go_big_quiet_step (first | (go_at_call 13; exact ks.out _ _) | (go_at_call 10; exact ko.out _ _)) | quiet_step (first | (go_at_call 13; exact ks.out _ _) | (go_at_call 10; exact ko.out _ _)))
      refine wpQuiet_nil ?_
      intro _ hw'
      obtain ⟨⟨dq, osq⟩, hw''⟩ := hw'
      have hbq := below_regrown W dq osq
      rw [← hw''] at hbq
      clear hw''
      rename_i W'
      have XB3 := hid (kept XB2.out hbq)
      have XX3 := hid (kept XX.out hbq)
      have B3 := hid (catB B2.out hbq)
      clear PB0 PB1 PB2 PB3 PX0 PX1 PX2 PX3 ks ko hbq
      go_wp2_with fail
      have ks := hid (rg (w := W') (fun w' _ => HS.out w'))
      have PB0 := cell_regrown (box_cell XB3.out 0 (v := .int .i64 lv) rfl)
      have PB1 := cell_regrown (box_cell XB3.out 1 (v := .int .i64 mo) rfl)
      have PB2 := cell_regrown (box_cell XB3.out 2 (v := .int .i64 ra) rfl)
      have PB3 := cell_regrown (box_cell XB3.out 3 (v := .int .i64 at') rfl)
      have PX0 := cell_regrown (box_cell XX3.out 0 (v := .int .i64 a) rfl)
      have PX1 := cell_regrown (box_cell XX3.out 1 (v := .int .i64 b) rfl)
      have PX2 := cell_regrown (box_cell XX3.out 2 (v := .int .i64 c) rfl)
      have PX3 := cell_regrown (box_cell XX3.out 3 (v := .int .i64 d) rfl)
      refine wp_region_quiet_below (by kernel_rfl) (by kernel_rfl) ?_
      repeat (first | go_big_quiet_step ((go_at_call 13; exact ks.out _ _)) | quiet_step ((go_at_call 13; exact ks.out _ _)))
      refine wpQuiet_nil ?_
      intro _ hw'
      obtain ⟨⟨dq, osq⟩, hw''⟩ := hw'
      have hbq := below_regrown W' dq osq
      rw [← hw''] at hbq
      clear hw''
      have B4 := hid (catB B3.out hbq)
      go_wp2_with fail
      go_ret
      exact ⟨rfl, B4.out⟩
    · obtain ⟨ha, rfl, rfl, rfl⟩ := HC.out ⟨hk, by omega, by omega⟩
      have k1' : decide (d < at') = false := decide_eq_false k1
      have k2' : decide (99999 < d) = false := decide_eq_false k2
      have q1 : 0 ≤ ((len1 : Int) * 7) % (d - at' + 1) := Int.emod_nonneg _ (by omega)
      have q2 : ((len1 : Int) * 7) % (d - at' + 1) < d - at' + 1 := Int.emod_lt_of_pos _ (by omega)
      obtain ⟨M, hM⟩ : ∃ M, M = at' + ((len1 : Int) * 7) % (d - at' + 1) := ⟨_, rfl⟩
      have m1 : at' ≤ M := by omega
      have m2 : M ≤ d := by omega
      have t1 : IntKind.i64.wrap ((len1 : Int) * 7) = (len1 : Int) * 7 := wrap_small _ (by omega) (by omega)
      have ka := hk.2.2.2.2.2.2
      have t2 : IntKind.i64.wrap (d - at') = d - at' := wrap_small _ (by omega) (by omega)
      have t3 : IntKind.i64.wrap (d - at' + 1) = d - at' + 1 := wrap_small _ (by omega) (by omega)
      have t4 : ((len1 : Int) * 7).tmod (d - at' + 1) = ((len1 : Int) * 7) % (d - at' + 1) := Int.tmod_eq_emod_of_nonneg (by omega)
      have t5 : IntKind.i64.wrap (((len1 : Int) * 7) % (d - at' + 1)) = ((len1 : Int) * 7) % (d - at' + 1) := wrap_small _ (by omega) (by omega)
      have t6 : IntKind.i64.wrap (at' + ((len1 : Int) * 7) % (d - at' + 1)) = M := by rw [hM]; exact wrap_small _ (by omega) (by omega)
      have t7 : (d - at' + 1 == 0) = false := by simp; omega
      obtain ⟨A1, hA1⟩ : ∃ A1, A1 = min (lv + c * (M - at')) b := ⟨_, rfl⟩
      have e1 : c * (M - at') + c * (d - M) = c * (d - at') := by rw [← Int.mul_add]; congr 1; omega
      have p1 : 0 ≤ c * (M - at') := Int.mul_nonneg hk.2.2.1 (by omega)
      have p2 : 0 ≤ c * (d - M) := Int.mul_nonneg hk.2.2.1 (by omega)
      have l0 := hk.2.2.2.2.1
      have l1 := hk.2.2.2.2.2.1
      have l2 := hk.1
      have e2 : a = min (A1 + c * (d - M)) b := by omega
      have hka : bokP a b c d := ⟨hk.1, hk.2.1, hk.2.2.1, hk.2.2.2.1, by omega, by omega, by omega, by omega⟩
      have hk1 : bokP A1 b c M := ⟨hk.1, hk.2.1, hk.2.2.1, hk.2.2.2.1, by omega, by omega, by omega, by omega⟩
      have g1 : decide (lv ≤ a) = true := decide_eq_true (by omega)
      have g2 : (d == d) = true := by simp
      have ks := hid (rg (w := W) (fun w' _ => HS.out w'))
      have ko := hid (rg (w := W) (fun w' _ => specBucketOk_yes lv b c at' w' hk))
      have F1 := hid (fun w' => implBucketAt_new lv b c at' M w' hk m1 (by omega))
      have F2 := hid (fun w' => implBucketAt_new A1 b c M d w' hk1 m2 (by omega))
      rw [← hA1] at F1
      rw [← e2] at F2
      have HF := hid (fun w' => implBucketOk_yes a b c d w' hka)
      clear e2 e1 p1 p2 l0 l1 l2 hk1 hka hM q1 q2 ha hA1 HC HI k1 k2
      have PB0 := cell_regrown (box_cell XB2.out 0 (v := .int .i64 lv) rfl)
      have PB1 := cell_regrown (box_cell XB2.out 1 (v := .int .i64 b) rfl)
      have PB2 := cell_regrown (box_cell XB2.out 2 (v := .int .i64 c) rfl)
      have PB3 := cell_regrown (box_cell XB2.out 3 (v := .int .i64 at') rfl)
      have PX0 := cell_regrown (box_cell XX.out 0 (v := .int .i64 a) rfl)
      have PX1 := cell_regrown (box_cell XX.out 1 (v := .int .i64 b) rfl)
      have PX2 := cell_regrown (box_cell XX.out 2 (v := .int .i64 c) rfl)
      have PX3 := cell_regrown (box_cell XX.out 3 (v := .int .i64 d) rfl)
      refine wp_region_quiet_below (by kernel_rfl) (by kernel_rfl) ?_
      repeat (first | go_big_quiet_step (first | (go_at_call 13; exact ks.out _ _) | (go_at_call 10; exact ko.out _ _)) | quiet_step (first | (go_at_call 13; exact ks.out _ _) | (go_at_call 10; exact ko.out _ _)))
      refine wpQuiet_nil ?_
      intro _ hw'
      obtain ⟨⟨dq, osq⟩, hw''⟩ := hw'
      have hbq := below_regrown W dq osq
      rw [← hw''] at hbq
      clear hw''
      rename_i W'
      have XB3 := hid (kept XB2.out hbq)
      have XX3 := hid (kept XX.out hbq)
      have B3 := hid (catB B2.out hbq)
      clear PB0 PB1 PB2 PB3 PX0 PX1 PX2 PX3 ks ko hbq
      have PB3 := box_cell XB3.out 3 (v := .int .i64 at') rfl
      go_wp2_with fail
      go_quiet (fail)
      rename_i nq
      have XB4 := hid (kept XB3.out (below_drewN (Below.refl _ _) nq))
      have XX4 := hid (kept XX3.out (below_drewN (Below.refl _ _) nq))
      have B4 := hid (below_drewN B3.out nq)
      clear PB3 t1 t2 t3 t4 t5 t6 t7
      go_wp2_with fail
      obtain ⟨V, hV⟩ : ∃ V, V = W'.drewN nq := ⟨_, rfl⟩
      rw [← hV] at XB4 XX4 B4 ⊢
      clear hV
      have kf := hid (rg (w := V) (fun w' _ => HF.out w'))
      have kA := hid (rg (w := V) (fun w' _ => F1.out w'))
      have kB := hid (rg (w := V) (fun w' _ => F2.out w'))
      have PB0 := cell_regrown (box_cell XB4.out 0 (v := .int .i64 lv) rfl)
      have PB1 := cell_regrown (box_cell XB4.out 1 (v := .int .i64 b) rfl)
      have PB2 := cell_regrown (box_cell XB4.out 2 (v := .int .i64 c) rfl)
      have PB3 := cell_regrown (box_cell XB4.out 3 (v := .int .i64 at') rfl)
      have PX0 := cell_regrown (box_cell XX4.out 0 (v := .int .i64 a) rfl)
      have PX1 := cell_regrown (box_cell XX4.out 1 (v := .int .i64 b) rfl)
      have PX2 := cell_regrown (box_cell XX4.out 2 (v := .int .i64 c) rfl)
      have PX3 := cell_regrown (box_cell XX4.out 3 (v := .int .i64 d) rfl)
      refine wp_region_quiet_below (by kernel_rfl) (by kernel_rfl) ?_
      repeat (first | go_big_quiet_step (first | (go_at_call 9; exact kf.out _ _) | (go_at_call_of 11 (Value.int .i64 d); exact kB.out _ _) | (go_at_call_of 11 (Value.int .i64 M); exact kA.out _ _)) | quiet_step (first | (go_at_call 9; exact kf.out _ _) | (go_at_call_of 11 (Value.int .i64 d); exact kB.out _ _) | (go_at_call_of 11 (Value.int .i64 M); exact kA.out _ _)))
      refine wpQuiet_nil ?_
      intro _ hw'
      obtain ⟨⟨dq', osq'⟩, hw''⟩ := hw'
      have hbq := below_regrown V dq' osq'
      rw [← hw''] at hbq
      clear hw''
      have B5 := hid (catB B4.out hbq)
      go_wp2_with fail
      go_ret
      exact ⟨rfl, B5.out⟩
  · have ks := hid (rg (w := W) (fun w' _ => HS.out w'))
    have ko := hid (rg (w := W) (fun w' _ => specBucketOk_no lv mo ra at' w' hk))
    have PB0 := cell_regrown (box_cell XB2.out 0 (v := .int .i64 lv) rfl)
    have PB1 := cell_regrown (box_cell XB2.out 1 (v := .int .i64 mo) rfl)
    have PB2 := cell_regrown (box_cell XB2.out 2 (v := .int .i64 ra) rfl)
    have PB3 := cell_regrown (box_cell XB2.out 3 (v := .int .i64 at') rfl)
    have PX0 := cell_regrown (box_cell XX.out 0 (v := .int .i64 a) rfl)
    have PX1 := cell_regrown (box_cell XX.out 1 (v := .int .i64 b) rfl)
    have PX2 := cell_regrown (box_cell XX.out 2 (v := .int .i64 c) rfl)
    have PX3 := cell_regrown (box_cell XX.out 3 (v := .int .i64 d) rfl)
    refine wp_region_quiet_below (by kernel_rfl) (by kernel_rfl) ?_
    repeat (first | go_big_quiet_step (first | (go_at_call 13; exact ks.out _ _) | (go_at_call 10; exact ko.out _ _)) | quiet_step (first | (go_at_call 13; exact ks.out _ _) | (go_at_call 10; exact ko.out _ _)))
    refine wpQuiet_nil ?_
    intro _ hw'
    obtain ⟨⟨dq, osq⟩, hw''⟩ := hw'
    have hbq := below_regrown W dq osq
    rw [← hw''] at hbq
    clear hw''
    rename_i W'
    have XB3 := hid (kept XB2.out hbq)
    have XX3 := hid (kept XX.out hbq)
    have B3 := hid (catB B2.out hbq)
    clear PB0 PB1 PB2 PB3 PX0 PX1 PX2 PX3 ks ko hbq
    go_wp2_with fail
    have ks := hid (rg (w := W') (fun w' _ => HS.out w'))
    have PB0 := cell_regrown (box_cell XB3.out 0 (v := .int .i64 lv) rfl)
    have PB1 := cell_regrown (box_cell XB3.out 1 (v := .int .i64 mo) rfl)
    have PB2 := cell_regrown (box_cell XB3.out 2 (v := .int .i64 ra) rfl)
    have PB3 := cell_regrown (box_cell XB3.out 3 (v := .int .i64 at') rfl)
    have PX0 := cell_regrown (box_cell XX3.out 0 (v := .int .i64 a) rfl)
    have PX1 := cell_regrown (box_cell XX3.out 1 (v := .int .i64 b) rfl)
    have PX2 := cell_regrown (box_cell XX3.out 2 (v := .int .i64 c) rfl)
    have PX3 := cell_regrown (box_cell XX3.out 3 (v := .int .i64 d) rfl)
    refine wp_region_quiet_below (by kernel_rfl) (by kernel_rfl) ?_
    repeat (first | go_big_quiet_step ((go_at_call 13; exact ks.out _ _)) | quiet_step ((go_at_call 13; exact ks.out _ _)))
    refine wpQuiet_nil ?_
    intro _ hw'
    obtain ⟨⟨dq, osq⟩, hw''⟩ := hw'
    have hbq := below_regrown W' dq osq
    rw [← hw''] at hbq
    clear hw''
    have B4 := hid (catB B3.out hbq)
    go_wp2_with fail
    go_ret
    exact ⟨rfl, B4.out⟩

theorem walk_FnBucketAt (a0 : Option Addr) (len0 cap0 : Nat) (z0 : List Int) (a1 : Option Addr) (len1 cap1 : Nat) (z1 : List Int) (w : World) (w0 : IsRow .u8 w a0 len0 cap0 z0) (_w1 : IsRow .u8 w a1 len1 cap1 z1) :
    Calls Try.prog 4 #[.slice a0 len0 cap0, .slice a1 len1 cap1] w fun e w' => e = .returned (.bool true) ∧ Below w.heap.size w w' := by
  by_cases h0 : len0 ≤ 1048576
  · by_cases h1 : len1 ≤ 1048576
    · exact bktAt_other a0 a1 len0 cap0 len1 cap1 z0 w w0 h0 h1
    · have h0' : decide ((1048576 : Int) < (len0 : Int)) = false := decide_eq_false (by omega)
      have h1' : decide ((1048576 : Int) < (len1 : Int)) = true := decide_eq_true (by omega)
      clear w0
      go_enter Try.func4, Try.ntmps4
      go_wp2
      go_ret
      exact ⟨rfl, Below.refl _ _⟩
  · have h0' : decide ((1048576 : Int) < (len0 : Int)) = true := decide_eq_true (by omega)
    clear w0
    go_enter Try.func4, Try.ntmps4
    go_wp2
    go_ret
    exact ⟨rfl, Below.refl _ _⟩
end Go.Proofs.Ytpjkddccjdpbaaa
