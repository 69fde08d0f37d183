/- Buckets, by the model. -/
import Derived.Test.YtpjkddccjdpbaaaBktA
import Derived.Test.YtpjkddccjdpbaaaIn
namespace Go.Proofs.Ytpjkddccjdpbaaa
open Go.ChangeShapes Go.WideShapes Go.ChangeAt Go.RowKit Go.Sort

theorem specBucketOk_yes (lv mo ra at' : Int) (w : World) (h : bokP lv mo ra at') :
    Calls Try.prog 10 #[.agg #[.int .i64 lv, .int .i64 mo, .int .i64 ra, .int .i64 at']] w fun e w' => e = .returned (.bool true) ∧ Below w.heap.size w w' := by
  obtain ⟨h1, h2, h3, h4, h5, h6, h7, h8⟩ := h
  go_enter Try.func10, Try.ntmps10
  go_wp2_with (go_at_call 23; refine (l1In_yes _ _ _ _ (by omega)).mono ?_; rintro e w2 ⟨rfl, hw⟩; subst hw)
  go_ret
  exact ⟨rfl, belowB _ _⟩
theorem specBucketOk_no (lv mo ra at' : Int) (w : World) (h : ¬ bokP lv mo ra at') :
    Calls Try.prog 10 #[.agg #[.int .i64 lv, .int .i64 mo, .int .i64 ra, .int .i64 at']] w fun e w' => e = .returned (.bool false) ∧ Below w.heap.size w w' := by
  unfold bokP at h
  have K : (mo < 0 ∨ 99999 < mo) ∨ ((0 ≤ mo ∧ mo ≤ 99999) ∧ (lv < 0 ∨ mo < lv)) ∨ ((0 ≤ mo ∧ mo ≤ 99999) ∧ (0 ≤ lv ∧ lv ≤ mo) ∧ (ra < 0 ∨ 99999 < ra)) ∨
      ((0 ≤ mo ∧ mo ≤ 99999) ∧ (0 ≤ lv ∧ lv ≤ mo) ∧ (0 ≤ ra ∧ ra ≤ 99999) ∧ (at' < 0 ∨ 99999 < at')) := by omega
  clear h
  rcases K with K | ⟨K1, K⟩ | ⟨K1, K2, K⟩ | ⟨K1, K2, K3, K⟩
  all_goals
    go_enter Try.func10, Try.ntmps10
    go_wp2_with (first
      | (go_at_call 23; refine (l1In_yes _ _ _ _ (by omega)).mono ?_; rintro e w2 ⟨rfl, hw⟩; subst hw)
      | (go_at_call 23; refine (l1In_no _ _ _ _ (by omega)).mono ?_; rintro e w2 ⟨rfl, hw⟩; subst hw))
    go_ret
    exact ⟨rfl, belowB _ _⟩

set_option maxHeartbeats 2000000 in
theorem l11At_any (lv mo ra at' now x : Int) (w : World) (hx : x = min (lv + ra * (now - at')) mo) (hk : bokP lv mo ra at') (h1 : at' ≤ now) (h2 : now ≤ 99999) :
    Calls Try.prog 24 #[.agg #[.int .i64 lv, .int .i64 mo, .int .i64 ra, .int .i64 at'], .int .i64 now] w fun e w' => e = .returned (.agg #[.int .i64 x, .int .i64 mo, .int .i64 ra, .int .i64 now]) ∧ Below w.heap.size w w' := by
  obtain ⟨k1, k2, k3, k4, k5, k6, k7, k8⟩ := hk
  have m := mul_bound (a := ra) (b := now - at') k3 k4 (by omega) (by omega)
  obtain ⟨y, hy⟩ : ∃ y, y = lv + ra * (now - at') := ⟨_, rfl⟩
  have w2 : IntKind.i64.wrap (ra * (now - at')) = ra * (now - at') := by simp [IntKind.wrap, IntKind.bits, IntKind.signed]; omega
  have w3 : IntKind.i64.wrap (lv + ra * (now - at')) = y := by rw [hy]; simp [IntKind.wrap, IntKind.bits, IntKind.signed]; omega
  by_cases hc : y ≤ mo
  · have e : x = lv + ra * (now - at') := by omega
    clear hx w2 w3
    go_enter Try.func24, Try.ntmps24
    go_wp2
    subst e
    refine bodyPost_ret (v := .agg #[.int .i64 (lv + ra * (now - at')), .int .i64 mo, .int .i64 ra, .int .i64 now]) ?_ rfl ⟨rfl, below2 _ _ _⟩
    simp [results, Try.results24, go_sem]
  · have e : x = mo := by omega
    clear hx w2 w3
    go_enter Try.func24, Try.ntmps24
    go_wp2
    refine bodyPost_ret (v := .agg #[.int .i64 mo, .int .i64 mo, .int .i64 ra, .int .i64 now]) ?_ rfl ⟨rfl, below2 _ _ _⟩
    simp [results, Try.results24, go_sem]

set_option maxHeartbeats 2000000 in
theorem specBucketAt_no (lv mo ra at' now : Int) (w : World) (h : ¬ (bokP lv mo ra at' ∧ 0 ≤ now ∧ now ≤ 99999)) :
    Calls Try.prog 13 #[.agg #[.int .i64 lv, .int .i64 mo, .int .i64 ra, .int .i64 at'], .int .i64 now] w fun e w' => e = .returned (.agg #[.int .i64 0, .int .i64 0, .int .i64 0, .int .i64 0]) ∧ Below w.heap.size w w' := by
  by_cases hk : bokP lv mo ra at'
  · have K : now < 0 ∨ 99999 < now := by simp only [hk, true_and] at h; omega
    clear h
    go_enter Try.func13, Try.ntmps13
    go_wp2_with fail
    refine (specBucketOk_yes lv mo ra at' _ hk).mono ?_
    rintro e w1 ⟨rfl, b1⟩
    have Y := laid2 w #[.int .i64 lv, .int .i64 mo, .int .i64 ra, .int .i64 at'] #[.int .i64 0, .int .i64 0, .int .i64 0, .int .i64 0] 24 24
    have Y2 := hid (kept Y.2 b1)
    have Y1 := hid (kept Y.1 b1)
    have B1 := hid (catB (below2 _ _ _) b1)
    have q0 := box_cell Y2.out 0 (v := .int .i64 0) rfl
    have q1 := box_cell Y2.out 1 (v := .int .i64 0) rfl
    have q2 := box_cell Y2.out 2 (v := .int .i64 0) rfl
    have q3 := box_cell Y2.out 3 (v := .int .i64 0) rfl
    have f0 := box_frozen Y2.out 0
    have f1 := box_frozen Y2.out 1
    have f2 := box_frozen Y2.out 2
    have f3 := box_frozen Y2.out 3
    have s2 : w.heap.size + 1 < w1.heap.size := lt_of_block Y2.out
    clear b1 Y
    have p0 := box_cell Y1.out 0 (v := .int .i64 lv) rfl
    have p1 := box_cell Y1.out 1 (v := .int .i64 mo) rfl
    have p2 := box_cell Y1.out 2 (v := .int .i64 ra) rfl
    have p3 := box_cell Y1.out 3 (v := .int .i64 at') rfl
    go_wp2_with (go_at_call 23; refine (l1In_no _ _ _ _ (by omega)).mono ?_; rintro e w2 ⟨rfl, hw⟩; subst hw)
    obtain ⟨W, hW, k0, k1, k2, k3⟩ := set4C Y2.out (.int .i64 0) (.int .i64 0) (.int .i64 0) (.int .i64 0)
    have HB := set4B B1.out (g := w.heap.size + 1) (by omega) (.int .i64 0) (.int .i64 0) (.int .i64 0) (.int .i64 0)
    rw [← hW] at HB ⊢
    refine bodyPost_ret (v := .agg #[.int .i64 0, .int .i64 0, .int .i64 0, .int .i64 0]) ?_ rfl ⟨rfl, HB⟩
    simp [results, Try.results13, go_sem, k0, k1, k2, k3]
  · clear h
    go_enter Try.func13, Try.ntmps13
    go_wp2_with fail
    refine (specBucketOk_no lv mo ra at' _ hk).mono ?_
    rintro e w1 ⟨rfl, b1⟩
    have Y := laid2 w #[.int .i64 lv, .int .i64 mo, .int .i64 ra, .int .i64 at'] #[.int .i64 0, .int .i64 0, .int .i64 0, .int .i64 0] 24 24
    have Y2 := hid (kept Y.2 b1)
    have Y1 := hid (kept Y.1 b1)
    have B1 := hid (catB (below2 _ _ _) b1)
    have q0 := box_cell Y2.out 0 (v := .int .i64 0) rfl
    have q1 := box_cell Y2.out 1 (v := .int .i64 0) rfl
    have q2 := box_cell Y2.out 2 (v := .int .i64 0) rfl
    have q3 := box_cell Y2.out 3 (v := .int .i64 0) rfl
    have f0 := box_frozen Y2.out 0
    have f1 := box_frozen Y2.out 1
    have f2 := box_frozen Y2.out 2
    have f3 := box_frozen Y2.out 3
    have s2 : w.heap.size + 1 < w1.heap.size := lt_of_block Y2.out
    clear b1 Y
    have p0 := box_cell Y1.out 0 (v := .int .i64 lv) rfl
    have p1 := box_cell Y1.out 1 (v := .int .i64 mo) rfl
    have p2 := box_cell Y1.out 2 (v := .int .i64 ra) rfl
    have p3 := box_cell Y1.out 3 (v := .int .i64 at') rfl
    go_wp2_with fail
    obtain ⟨W, hW, k0, k1, k2, k3⟩ := set4C Y2.out (.int .i64 0) (.int .i64 0) (.int .i64 0) (.int .i64 0)
    have HB := set4B B1.out (g := w.heap.size + 1) (by omega) (.int .i64 0) (.int .i64 0) (.int .i64 0) (.int .i64 0)
    rw [← hW] at HB ⊢
    refine bodyPost_ret (v := .agg #[.int .i64 0, .int .i64 0, .int .i64 0, .int .i64 0]) ?_ rfl ⟨rfl, HB⟩
    simp [results, Try.results13, go_sem, k0, k1, k2, k3]

set_option maxHeartbeats 2000000 in
theorem specBucketAt_old (lv mo ra at' now : Int) (w : World) (hk : bokP lv mo ra at') (h1 : 0 ≤ now) (h2 : now ≤ 99999) (h3 : now < at') :
    Calls Try.prog 13 #[.agg #[.int .i64 lv, .int .i64 mo, .int .i64 ra, .int .i64 at'], .int .i64 now] w fun e w' => e = .returned (.agg #[.int .i64 lv, .int .i64 mo, .int .i64 ra, .int .i64 at']) ∧ Below w.heap.size w w' := by
  go_enter Try.func13, Try.ntmps13
  go_wp2_with fail
  refine (specBucketOk_yes lv mo ra at' _ hk).mono ?_
  rintro e w1 ⟨rfl, b1⟩
  have Y := laid2 w #[.int .i64 lv, .int .i64 mo, .int .i64 ra, .int .i64 at'] #[.int .i64 0, .int .i64 0, .int .i64 0, .int .i64 0] 24 24
  have Y2 := hid (kept Y.2 b1)
  have Y1 := hid (kept Y.1 b1)
  have B1 := hid (catB (below2 _ _ _) b1)
  have q0 := box_cell Y2.out 0 (v := .int .i64 0) rfl
  have q1 := box_cell Y2.out 1 (v := .int .i64 0) rfl
  have q2 := box_cell Y2.out 2 (v := .int .i64 0) rfl
  have q3 := box_cell Y2.out 3 (v := .int .i64 0) rfl
  have f0 := box_frozen Y2.out 0
  have f1 := box_frozen Y2.out 1
  have f2 := box_frozen Y2.out 2
  have f3 := box_frozen Y2.out 3
  have s2 : w.heap.size + 1 < w1.heap.size := lt_of_block Y2.out
  clear b1 Y
  have p0 := box_cell Y1.out 0 (v := .int .i64 lv) rfl
  have p1 := box_cell Y1.out 1 (v := .int .i64 mo) rfl
  have p2 := box_cell Y1.out 2 (v := .int .i64 ra) rfl
  have p3 := box_cell Y1.out 3 (v := .int .i64 at') rfl
  go_wp2_with (go_at_call 23; refine (l1In_yes _ _ _ _ (by omega)).mono ?_; rintro e w2 ⟨rfl, hw⟩; subst hw)
  obtain ⟨W, hW, k0, k1, k2, k3⟩ := set4C Y2.out (.int .i64 lv) (.int .i64 mo) (.int .i64 ra) (.int .i64 at')
  have HB := set4B B1.out (g := w.heap.size + 1) (by omega) (.int .i64 lv) (.int .i64 mo) (.int .i64 ra) (.int .i64 at')
  rw [← hW] at HB ⊢
  refine bodyPost_ret (v := .agg #[.int .i64 lv, .int .i64 mo, .int .i64 ra, .int .i64 at']) ?_ rfl ⟨rfl, HB⟩
  simp [results, Try.results13, go_sem, k0, k1, k2, k3]

set_option maxHeartbeats 2000000 in
theorem specBucketAt_new (lv mo ra at' now x : Int) (w : World) (hx : x = min (lv + ra * (now - at')) mo) (hk : bokP lv mo ra at') (h1 : at' ≤ now) (h2 : now ≤ 99999) :
    Calls Try.prog 13 #[.agg #[.int .i64 lv, .int .i64 mo, .int .i64 ra, .int .i64 at'], .int .i64 now] w fun e w' => e = .returned (.agg #[.int .i64 x, .int .i64 mo, .int .i64 ra, .int .i64 now]) ∧ Below w.heap.size w w' := by
  have h0 : 0 ≤ now := by have := hk.2.2.2.2.2.2.1; omega
  have HX := hid hx
  clear hx
  go_enter Try.func13, Try.ntmps13
  go_wp2_with fail
  refine (specBucketOk_yes lv mo ra at' _ hk).mono ?_
  rintro e w1 ⟨rfl, b1⟩
  have Y := laid2 w #[.int .i64 lv, .int .i64 mo, .int .i64 ra, .int .i64 at'] #[.int .i64 0, .int .i64 0, .int .i64 0, .int .i64 0] 24 24
  have Y2 := hid (kept Y.2 b1)
  have Y1 := hid (kept Y.1 b1)
  have B1 := hid (catB (below2 _ _ _) b1)
  have q0 := box_cell Y2.out 0 (v := .int .i64 0) rfl
  have q1 := box_cell Y2.out 1 (v := .int .i64 0) rfl
  have q2 := box_cell Y2.out 2 (v := .int .i64 0) rfl
  have q3 := box_cell Y2.out 3 (v := .int .i64 0) rfl
  have f0 := box_frozen Y2.out 0
  have f1 := box_frozen Y2.out 1
  have f2 := box_frozen Y2.out 2
  have f3 := box_frozen Y2.out 3
  have s2 : w.heap.size + 1 < w1.heap.size := lt_of_block Y2.out
  clear b1 Y
  have p0 := box_cell Y1.out 0 (v := .int .i64 lv) rfl
  have p1 := box_cell Y1.out 1 (v := .int .i64 mo) rfl
  have p2 := box_cell Y1.out 2 (v := .int .i64 ra) rfl
  have p3 := box_cell Y1.out 3 (v := .int .i64 at') rfl
  go_wp2_with (go_at_call 23; refine (l1In_yes _ _ _ _ (by omega)).mono ?_; rintro e w2 ⟨rfl, hw⟩; subst hw)
  refine (l11At_any lv mo ra at' now x _ HX.out hk h1 h2).mono ?_
  rintro e w2 ⟨rfl, b2⟩
  have Z2 := hid (kept Y2.out b2)
  have B2 := hid (catB B1.out b2)
  clear b2 q0 q1 q2 q3 f0 f1 f2 f3 s2 p0 p1 p2 p3
  have q0 := box_cell Z2.out 0 (v := .int .i64 0) rfl
  have q1 := box_cell Z2.out 1 (v := .int .i64 0) rfl
  have q2 := box_cell Z2.out 2 (v := .int .i64 0) rfl
  have q3 := box_cell Z2.out 3 (v := .int .i64 0) rfl
  have f0 := box_frozen Z2.out 0
  have f1 := box_frozen Z2.out 1
  have f2 := box_frozen Z2.out 2
  have f3 := box_frozen Z2.out 3
  have s2 : w.heap.size + 1 < w2.heap.size := lt_of_block Z2.out
  go_wp2_with fail
  obtain ⟨W, hW, k0, k1, k2, k3⟩ := set4C Z2.out (.int .i64 x) (.int .i64 mo) (.int .i64 ra) (.int .i64 now)
  have HB := set4B B2.out (g := w.heap.size + 1) (by omega) (.int .i64 x) (.int .i64 mo) (.int .i64 ra) (.int .i64 now)
  rw [← hW] at HB ⊢
  refine bodyPost_ret (v := .agg #[.int .i64 x, .int .i64 mo, .int .i64 ra, .int .i64 now]) ?_ rfl ⟨rfl, HB⟩
  simp [results, Try.results13, go_sem, k0, k1, k2, k3]
end Go.Proofs.Ytpjkddccjdpbaaa
