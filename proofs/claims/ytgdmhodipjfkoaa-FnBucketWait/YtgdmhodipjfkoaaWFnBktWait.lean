/- The walk of the law on how long one waits. -/
import Derived.Test.YtgdmhodipjfkoaaDrawBtW
import Derived.Test.YtgdmhodipjfkoaaBktT
import Derived.Test.YtgdmhodipjfkoaaBktST
namespace Go.Proofs.Ytgdmhodipjfkoaa
open Go.ChangeShapes Go.WideShapes Go.ChangeAt Go.RowKit Go.Sort

theorem div_up (m ra : Int) (hr : 1 ≤ ra) (hm : 1 ≤ m) : m ≤ ra * ((m + ra - 1) / ra) ∧ ra * ((m + ra - 1) / ra) ≤ m + ra - 1 ∧ 1 ≤ (m + ra - 1) / ra ∧ (m + ra - 1) / ra ≤ m := by
  have e := Int.emod_add_mul_ediv (m + ra - 1) ra
  have h1 := Int.emod_nonneg (m + ra - 1) (b := ra) (by omega)
  have h2 := Int.emod_lt_of_pos (m + ra - 1) (b := ra) (by omega)
  refine ⟨by omega, by omega, ?_, ?_⟩
  · rw [Int.le_ediv_iff_mul_le (by omega)]; omega
  · refine Int.le_of_lt_add_one ?_
    rw [Int.ediv_lt_iff_lt_mul (by omega)]
    have h3 : m * 1 ≤ m * ra := Int.mul_le_mul_of_nonneg_left hr (by omega)
    rw [Int.add_mul]
    omega

/-- What both say of how long one waits. -/
theorem wait_say (lv mo ra at' now n : Int) (hN : n ≤ 200000) : ∃ k : Int,
    (∀ w, Calls Try.prog 12 #[.agg #[.int .i64 lv, .int .i64 mo, .int .i64 ra, .int .i64 at'], .int .i64 now, .int .i64 n] w fun e w' => e = .returned (.int .i64 k) ∧ Below w.heap.size w w') ∧
    (∀ w, Calls Try.prog 13 #[.agg #[.int .i64 lv, .int .i64 mo, .int .i64 ra, .int .i64 at'], .int .i64 now, .int .i64 n] w fun e w' => e = .returned (.int .i64 k) ∧ Below w.heap.size w w') ∧
    -1 ≤ k ∧ k ≤ 300000 ∧ (0 ≤ k → bokP lv mo ra at' ∧ 0 ≤ n ∧ at' ≤ now ∧ n ≤ min (lv + ra * (now + k - at')) mo ∧ (k = 0 ∨ ¬ n ≤ min (lv + ra * (now + k - 1 - at')) mo)) := by
  by_cases h : bokP lv mo ra at' ∧ 0 ≤ n ∧ at' ≤ now ∧ now ≤ 99999
  · obtain ⟨hk, k0, k1, k2⟩ := h
    have l0 := hk.2.2.2.2.1
    have l1 := hk.2.2.2.2.2.1
    have l2 := hk.2.1
    have p1 : 0 ≤ ra * (now - at') := Int.mul_nonneg hk.2.2.1 (by omega)
    by_cases h3 : n ≤ min (lv + ra * (now - at')) mo
    · exact ⟨0, fun w => implBucketWait_now lv mo ra at' now n _ w rfl hk k0 k1 k2 h3, fun w => specBucketWait_now lv mo ra at' now n _ w rfl hk k0 k1 k2 h3, by omega, by omega, fun _ => ⟨hk, k0, k1, by rw [Int.add_zero]; exact h3, .inl rfl⟩⟩
    · by_cases h4 : mo < n
      · exact ⟨-1, fun w => implBucketWait_big lv mo ra at' now n _ w rfl hk k0 k1 k2 (by omega) h4, fun w => specBucketWait_big lv mo ra at' now n _ w rfl hk k0 k1 k2 (by omega) h4, by omega, by omega, fun h => by omega⟩
      · by_cases h5 : ra = 0
        · exact ⟨-1, fun w => implBucketWait_dry lv mo ra at' now n _ w rfl hk k0 k1 k2 (by omega) (by omega) h5, fun w => specBucketWait_dry lv mo ra at' now n _ w rfl hk k0 k1 k2 (by omega) (by omega) h5, by omega, by omega, fun h => by omega⟩
        · have hr : 1 ≤ ra := by have := hk.2.2.1; omega
          have hx : min (lv + ra * (now - at')) mo = lv + ra * (now - at') := by omega
          obtain ⟨X, hX⟩ : ∃ X, X = lv + ra * (now - at') := ⟨_, rfl⟩
          have hX' : X = min (lv + ra * (now - at')) mo := by omega
          obtain ⟨d1, d2, d3, d4⟩ := div_up (n - X) ra hr (by omega)
          refine ⟨(n - X + ra - 1) / ra, fun w => implBucketWait_some lv mo ra at' now n X w hX' hk k0 k1 k2 (by omega) (by omega) hr (by omega), fun w => specBucketWait_some lv mo ra at' now n X w hX' hk k0 k1 k2 (by omega) (by omega) hr (by omega), by omega, by omega, fun _ => ⟨hk, k0, k1, ?_, .inr ?_⟩⟩
          · have e1 : ra * (now + (n - X + ra - 1) / ra - at') = ra * (now - at') + ra * ((n - X + ra - 1) / ra) := by rw [← Int.mul_add]; congr 1; omega
            rw [e1]
            omega
          · have e1 : ra * (now + (n - X + ra - 1) / ra - 1 - at') = ra * (now - at') + ra * ((n - X + ra - 1) / ra) - ra := by
              rw [show now + (n - X + ra - 1) / ra - 1 - at' = (now - at') + (n - X + ra - 1) / ra + -1 by omega, Int.mul_add, Int.mul_add]
              omega
            rw [e1]
            omega
  · exact ⟨-1, fun w => implBucketWait_no lv mo ra at' now n w h, fun w => specBucketWait_no lv mo ra at' now n w h, by omega, by omega, fun h => by omega⟩

/-- What the program says of what is taken. -/
theorem take_one (lv mo ra at' now n : Int) : ∃ (a b c d : Int) (t : Bool),
    (∀ w, Calls Try.prog 6 #[.agg #[.int .i64 lv, .int .i64 mo, .int .i64 ra, .int .i64 at'], .int .i64 now, .int .i64 n] w fun e w' => e = .returned (.tuple #[.agg #[.int .i64 a, .int .i64 b, .int .i64 c, .int .i64 d], .bool t]) ∧ Below w.heap.size w w') ∧
    t = decide ((bokP lv mo ra at' ∧ 0 ≤ n ∧ at' ≤ now ∧ now ≤ 99999) ∧ n ≤ min (lv + ra * (now - at')) mo) := by
  by_cases h : bokP lv mo ra at' ∧ 0 ≤ n ∧ at' ≤ now ∧ now ≤ 99999
  · obtain ⟨hk, k0, k1, k2⟩ := h
    by_cases h3 : n ≤ min (lv + ra * (now - at')) mo
    · exact ⟨_, mo, ra, now, true, fun w => implBucketTake_yes lv mo ra at' now n _ w rfl hk k0 k1 k2 h3, (decide_eq_true ⟨⟨hk, k0, k1, k2⟩, h3⟩).symm⟩
    · exact ⟨_, mo, ra, now, false, fun w => implBucketTake_few lv mo ra at' now n _ w rfl hk k0 k1 k2 (by omega), (decide_eq_false (fun h => h3 h.2)).symm⟩
  · exact ⟨0, 0, 0, 0, false, fun w => implBucketTake_no lv mo ra at' now n w h, (decide_eq_false (fun h2 => h h2.1)).symm⟩

set_option maxHeartbeats 4000000 in
theorem bktWait_other (a0 : Option Addr) (len0 cap0 : Nat) (z0 : List Int) (w : World) (w0 : IsRow .u8 w a0 len0 cap0 z0) (h0 : len0 ≤ 1048576) :
    Calls Try.prog 4 #[.slice a0 len0 cap0] w fun e w' => e = .returned (.bool true) ∧ Below w.heap.size w w' := by
  have h0' : decide ((1048576 : Int) < (len0 : Int)) = false := decide_eq_false (by omega)
  have W0 := hid w0
  clear w0
  go_enter Try.func4, Try.ntmps4
  go_wp2_with fail
  refine (drawBucketWait a0 len0 cap0 z0 w W0.out).mono ?_
  rintro e w1 ⟨lv, mo, ra, at', now, n, rfl, k1, k2, k3, k4, b1⟩
  have B1 := hid b1
  clear b1
  obtain ⟨k, hi, hs, q1, q2, hc⟩ := wait_say lv mo ra at' now n k4
  have HS := hid hs
  have HI := hid hi
  have HC := hid hc
  clear hs hi hc
  have B2 := hid (catB B1.out (belowB w1 (.cells #[.int .i64 lv, .int .i64 mo, .int .i64 ra, .int .i64 at'] 24)))
  have XB := hid (laid w1 #[.int .i64 lv, .int .i64 mo, .int .i64 ra, .int .i64 at'] 24)
  repeat ((fail_if_success (with_reducible show Code.wp _ (Code.region 4 _ _) _ _ _)); (first | go_values | go_skip | go_guarded | go_step | go_upon | go_back | go_simp))
  obtain ⟨W, hW⟩ : ∃ W, W = w1.alloc (.cells #[.int .i64 lv, .int .i64 mo, .int .i64 ra, .int .i64 at'] 24) := ⟨_, rfl⟩
  rw [← hW] at XB B2 ⊢
  clear hW
  have p0 := box_cell XB.out 0 (v := .int .i64 lv) rfl
  have p1 := box_cell XB.out 1 (v := .int .i64 mo) rfl
  have p2 := box_cell XB.out 2 (v := .int .i64 ra) rfl
  have p3 := box_cell XB.out 3 (v := .int .i64 at') rfl
  go_wp2_with fail
  refine (HI.out _).mono ?_
  rintro e w2 ⟨rfl, b2⟩
  have XB2 := hid (kept XB.out b2)
  have B3 := hid (catB B2.out b2)
  clear b2 p0 p1 p2 p3 B2 XB
  have p0 := box_cell XB2.out 0 (v := .int .i64 lv) rfl
  have p1 := box_cell XB2.out 1 (v := .int .i64 mo) rfl
  have p2 := box_cell XB2.out 2 (v := .int .i64 ra) rfl
  have p3 := box_cell XB2.out 3 (v := .int .i64 at') rfl
  have hkk : (k != k) = false := by simp
  have hsm : IntKind.i64.wrap (now + k) = now + k := wrap_small _ (by omega) (by omega)
  go_wp2_with fail
  refine (HS.out _).mono ?_
  rintro e w3 ⟨rfl, b3⟩
  have XB3 := hid (kept XB2.out b3)
  have B4 := hid (catB B3.out b3)
  clear b3 p0 p1 p2 p3 B3 XB2
  have p0 := box_cell XB3.out 0 (v := .int .i64 lv) rfl
  have p1 := box_cell XB3.out 1 (v := .int .i64 mo) rfl
  have p2 := box_cell XB3.out 2 (v := .int .i64 ra) rfl
  have p3 := box_cell XB3.out 3 (v := .int .i64 at') rfl
  by_cases hk0 : k < 0 ∨ 99999 < now + k
  · have hd : (decide (k < 0) = true) ∨ (decide (k < 0) = false ∧ decide (99999 < now + k) = true) := by
      by_cases h : k < 0
      · exact .inl (decide_eq_true h)
      · exact .inr ⟨decide_eq_false h, decide_eq_true (hk0.resolve_left h)⟩
    clear hk0
    rcases hd with hd | ⟨hd, hd2⟩
    all_goals
      go_wp2_with fail
      refine (HS.out _).mono ?_
      rintro e w4 ⟨rfl, b4⟩
      have B5 := hid (catB B4.out b4)
      clear b4
      go_wp2_with fail
      go_ret
      exact ⟨by simp, B5.out⟩
  · obtain ⟨bo, j0, j1, j2, j3⟩ := HC.out (by omega)
    have hd : decide (k < 0) = false := decide_eq_false (by omega)
    have hd2 : decide (99999 < now + k) = false := decide_eq_false (by omega)
    obtain ⟨a, b, c, d, t, f1, ht⟩ := take_one lv mo ra at' (now + k) n
    obtain rfl : t = true := by rw [ht]; exact decide_eq_true ⟨⟨bo, j0, by omega, by omega⟩, j2⟩
    obtain ⟨a2, b2, c2, d2, t2, f2, ht2⟩ := take_one lv mo ra at' (now + k - 1) n
    have hfin : (k == 0) = true ∨ ((k == 0) = false ∧ t2 = false) := by
      by_cases hz : k = 0
      · exact .inl (by simp [hz])
      · refine .inr ⟨by simp [hz], ?_⟩
        rw [ht2]
        exact decide_eq_false (fun h => by have := h.2; have := j3.resolve_left hz; omega)
    have F1 := hid f1
    have F2 := hid f2
    have hsm2 : IntKind.i64.wrap (now + k - 1) = now + k - 1 := wrap_small _ (by omega) (by omega)
    clear f1 f2 ht ht2 j0 j1 j2 j3 bo hk0 HC HI HS
    go_wp2_with fail
    refine (F1.out _).mono ?_
    rintro e w4 ⟨rfl, b4⟩
    have XB5 := hid (kept (kept XB3.out b4) (belowB w4 (.cells #[.int .i64 a, .int .i64 b, .int .i64 c, .int .i64 d] 24)))
    have B5 := hid (catB (catB B4.out b4) (belowB w4 (.cells #[.int .i64 a, .int .i64 b, .int .i64 c, .int .i64 d] 24)))
    clear b4 p0 p1 p2 p3 B4 XB3
    repeat ((fail_if_success (with_reducible show Code.wp _ (Code.region 8 _ _) _ _ _)); (first | go_values | go_skip | go_guarded | go_step | go_upon | go_back | go_simp))
    obtain ⟨V5, hV5⟩ : ∃ V, V = w4.alloc (.cells #[.int .i64 a, .int .i64 b, .int .i64 c, .int .i64 d] 24) := ⟨_, rfl⟩
    rw [← hV5] at XB5 B5 ⊢
    clear hV5
    have p0 := box_cell XB5.out 0 (v := .int .i64 lv) rfl
    have p1 := box_cell XB5.out 1 (v := .int .i64 mo) rfl
    have p2 := box_cell XB5.out 2 (v := .int .i64 ra) rfl
    have p3 := box_cell XB5.out 3 (v := .int .i64 at') rfl
    go_wp2_with fail
    refine (F2.out _).mono ?_
    rintro e w5 ⟨rfl, b5⟩
    have B6 := hid (catB (catB B5.out b5) (belowB w5 (.cells #[.int .i64 a2, .int .i64 b2, .int .i64 c2, .int .i64 d2] 24)))
    clear b5 p0 p1 p2 p3 B5 XB5
    rcases hfin with hz | ⟨hz, rfl⟩
    all_goals
      go_wp2_with fail
      go_ret
      exact ⟨rfl, B6.out⟩

theorem walk_FnBucketWait (a0 : Option Addr) (len0 cap0 : Nat) (z0 : List Int) (w : World) (w0 : IsRow .u8 w a0 len0 cap0 z0) :
    Calls Try.prog 4 #[.slice a0 len0 cap0] w fun e w' => e = .returned (.bool true) ∧ Below w.heap.size w w' := by
  by_cases h0 : len0 ≤ 1048576
  · exact bktWait_other a0 len0 cap0 z0 w w0 h0
  · have h0' : decide ((1048576 : Int) < (len0 : Int)) = true := decide_eq_true (by omega)
    clear w0
    go_enter Try.func4, Try.ntmps4
    go_wp2
    go_ret
    exact ⟨rfl, Below.refl _ _⟩
end Go.Proofs.Ytgdmhodipjfkoaa
