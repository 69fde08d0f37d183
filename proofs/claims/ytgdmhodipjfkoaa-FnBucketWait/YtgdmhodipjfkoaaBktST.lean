/- Buckets: what is taken, and how long it takes, by the model. -/
import Derived.Test.YtgdmhodipjfkoaaBktS
namespace Go.Proofs.Ytgdmhodipjfkoaa
open Go.ChangeShapes Go.WideShapes Go.ChangeAt Go.RowKit Go.Sort

theorem set4D {g : Nat} {w : World} {a0 b0 c0 d0 : Value} {t : TypeId} (h : w.heap[g]? = some (.cells #[a0, b0, c0, d0] t (0, 0))) (a b c d : Value) :
    ∃ W, W = (((w.setCell ⟨g, 0, none⟩ a).setCell ⟨g, 1, none⟩ b).setCell ⟨g, 2, none⟩ c).setCell ⟨g, 3, none⟩ d ∧ W.heap[g]? = some (.cells #[a, b, c, d] t (0, 0)) :=
  ⟨_, rfl, set_block (set_block (set_block (set_block h 0 a) 1 b) 2 c) 3 d⟩

set_option maxHeartbeats 2000000 in
theorem specBucketTake_no (lv mo ra at' now n : Int) (w : World) (h : ¬ (bokP lv mo ra at' ∧ 0 ≤ n ∧ at' ≤ now ∧ now ≤ 99999)) :
    Calls Try.prog 7 #[.agg #[.int .i64 lv, .int .i64 mo, .int .i64 ra, .int .i64 at'], .int .i64 now, .int .i64 n] w fun e w' => e = .returned (.tuple #[.agg #[.int .i64 0, .int .i64 0, .int .i64 0, .int .i64 0], .bool false]) ∧ Below w.heap.size w w' := by
  by_cases hk : bokP lv mo ra at'
  · have ka : 0 ≤ at' := hk.2.2.2.2.2.2.1
    have K : (now < 0 ∨ 99999 < now) ∨ ((0 ≤ now ∧ now ≤ 99999) ∧ now < at') ∨ ((0 ≤ now ∧ now ≤ 99999) ∧ decide (now < at') = false ∧ n < 0) := by
      simp only [decide_eq_false_iff_not]; simp only [hk, true_and] at h; omega
    clear h
    rcases K with K | ⟨K1, K⟩ | ⟨K1, K2, K⟩
    all_goals
      go_enter Try.func7, Try.ntmps7
      go_wp2_with fail
      refine (specBucketOk_yes lv mo ra at' _ hk).mono ?_
      rintro e w1 ⟨rfl, b1⟩
      have Y := laid2 w #[.int .i64 lv, .int .i64 mo, .int .i64 ra, .int .i64 at'] #[.int .i64 0, .int .i64 0, .int .i64 0, .int .i64 0] 24 24
      have Y2 := hid (kept Y.2 b1)
      have Y1 := hid (kept Y.1 b1)
      have B1 := hid (catB (below2 _ _ _) b1)
      have q0 := box_cell Y2.out 0 (v := .int .i64 0) rfl
      have q1 := box_cell Y2.out 1 (v := .int .i64 0) rfl
      have q2 := box_cell Y2.out 2 (v := .int .i64 0) rfl
      have q3 := box_cell Y2.out 3 (v := .int .i64 0) rfl
      have f0 := box_frozen Y2.out 0
      have f1 := box_frozen Y2.out 1
      have f2 := box_frozen Y2.out 2
      have f3 := box_frozen Y2.out 3
      have s2 : w.heap.size + 1 < w1.heap.size := lt_of_block Y2.out
      clear b1 Y
      have p0 := box_cell Y1.out 0 (v := .int .i64 lv) rfl
      have p1 := box_cell Y1.out 1 (v := .int .i64 mo) rfl
      have p2 := box_cell Y1.out 2 (v := .int .i64 ra) rfl
      have p3 := box_cell Y1.out 3 (v := .int .i64 at') rfl
      go_wp2_with (first | (go_at_call 20; refine (l1In_yes _ _ _ _ (by omega)).mono ?_; rintro e w2 ⟨rfl, hw⟩; subst hw) | (go_at_call 20; refine (l1In_no _ _ _ _ (by omega)).mono ?_; rintro e w2 ⟨rfl, hw⟩; subst hw))
      obtain ⟨W, hW, k0, k1, k2, k3⟩ := set4C Y2.out (.int .i64 0) (.int .i64 0) (.int .i64 0) (.int .i64 0)
      have HB := set4B B1.out (g := w.heap.size + 1) (by omega) (.int .i64 0) (.int .i64 0) (.int .i64 0) (.int .i64 0)
      rw [← hW] at HB ⊢
      refine bodyPost_ret (v := .tuple #[.agg #[.int .i64 0, .int .i64 0, .int .i64 0, .int .i64 0], .bool false]) ?_ rfl ⟨rfl, HB⟩
      simp [results, Try.results7, go_sem, k0, k1, k2, k3]
  · clear h
    go_enter Try.func7, Try.ntmps7
    go_wp2_with fail
    refine (specBucketOk_no lv mo ra at' _ hk).mono ?_
    rintro e w1 ⟨rfl, b1⟩
    have Y := laid2 w #[.int .i64 lv, .int .i64 mo, .int .i64 ra, .int .i64 at'] #[.int .i64 0, .int .i64 0, .int .i64 0, .int .i64 0] 24 24
    have Y2 := hid (kept Y.2 b1)
    have Y1 := hid (kept Y.1 b1)
    have B1 := hid (catB (below2 _ _ _) b1)
    have q0 := box_cell Y2.out 0 (v := .int .i64 0) rfl
    have q1 := box_cell Y2.out 1 (v := .int .i64 0) rfl
    have q2 := box_cell Y2.out 2 (v := .int .i64 0) rfl
    have q3 := box_cell Y2.out 3 (v := .int .i64 0) rfl
    have f0 := box_frozen Y2.out 0
    have f1 := box_frozen Y2.out 1
    have f2 := box_frozen Y2.out 2
    have f3 := box_frozen Y2.out 3
    have s2 : w.heap.size + 1 < w1.heap.size := lt_of_block Y2.out
    clear b1 Y
    have p0 := box_cell Y1.out 0 (v := .int .i64 lv) rfl
    have p1 := box_cell Y1.out 1 (v := .int .i64 mo) rfl
    have p2 := box_cell Y1.out 2 (v := .int .i64 ra) rfl
    have p3 := box_cell Y1.out 3 (v := .int .i64 at') rfl
    go_wp2_with fail
    obtain ⟨W, hW, k0, k1, k2, k3⟩ := set4C Y2.out (.int .i64 0) (.int .i64 0) (.int .i64 0) (.int .i64 0)
    have HB := set4B B1.out (g := w.heap.size + 1) (by omega) (.int .i64 0) (.int .i64 0) (.int .i64 0) (.int .i64 0)
    rw [← hW] at HB ⊢
    refine bodyPost_ret (v := .tuple #[.agg #[.int .i64 0, .int .i64 0, .int .i64 0, .int .i64 0], .bool false]) ?_ rfl ⟨rfl, HB⟩
    simp [results, Try.results7, go_sem, k0, k1, k2, k3]

set_option maxHeartbeats 2000000 in
theorem specBucketWait_no (lv mo ra at' now n : Int) (w : World) (h : ¬ (bokP lv mo ra at' ∧ 0 ≤ n ∧ at' ≤ now ∧ now ≤ 99999)) :
    Calls Try.prog 13 #[.agg #[.int .i64 lv, .int .i64 mo, .int .i64 ra, .int .i64 at'], .int .i64 now, .int .i64 n] w fun e w' => e = .returned (.int .i64 (-1)) ∧ Below w.heap.size w w' := by
  by_cases hk : bokP lv mo ra at'
  · have ka : 0 ≤ at' := hk.2.2.2.2.2.2.1
    have K : (now < 0 ∨ 99999 < now) ∨ ((0 ≤ now ∧ now ≤ 99999) ∧ now < at') ∨ ((0 ≤ now ∧ now ≤ 99999) ∧ decide (now < at') = false ∧ n < 0) := by
      simp only [decide_eq_false_iff_not]; simp only [hk, true_and] at h; omega
    clear h
    rcases K with K | ⟨K1, K⟩ | ⟨K1, K2, K⟩
    all_goals
      go_enter Try.func13, Try.ntmps13
      go_wp2_with fail
      refine (specBucketOk_yes lv mo ra at' _ hk).mono ?_
      rintro e w1 ⟨rfl, b1⟩
      have Y1 := hid (kept (laid w #[.int .i64 lv, .int .i64 mo, .int .i64 ra, .int .i64 at'] 24) b1)
      have B1 := hid (catB (belowB _ _) b1)
      clear b1
      have p0 := box_cell Y1.out 0 (v := .int .i64 lv) rfl
      have p1 := box_cell Y1.out 1 (v := .int .i64 mo) rfl
      have p2 := box_cell Y1.out 2 (v := .int .i64 ra) rfl
      have p3 := box_cell Y1.out 3 (v := .int .i64 at') rfl
      go_wp2_with (first | (go_at_call 20; refine (l1In_yes _ _ _ _ (by omega)).mono ?_; rintro e w2 ⟨rfl, hw⟩; subst hw) | (go_at_call 20; refine (l1In_no _ _ _ _ (by omega)).mono ?_; rintro e w2 ⟨rfl, hw⟩; subst hw))
      go_ret
      exact ⟨rfl, B1.out⟩
  · clear h
    go_enter Try.func13, Try.ntmps13
    go_wp2_with fail
    refine (specBucketOk_no lv mo ra at' _ hk).mono ?_
    rintro e w1 ⟨rfl, b1⟩
    have Y1 := hid (kept (laid w #[.int .i64 lv, .int .i64 mo, .int .i64 ra, .int .i64 at'] 24) b1)
    have B1 := hid (catB (belowB _ _) b1)
    clear b1
    have p0 := box_cell Y1.out 0 (v := .int .i64 lv) rfl
    have p1 := box_cell Y1.out 1 (v := .int .i64 mo) rfl
    have p2 := box_cell Y1.out 2 (v := .int .i64 ra) rfl
    have p3 := box_cell Y1.out 3 (v := .int .i64 at') rfl
    go_wp2_with fail
    go_ret
    exact ⟨rfl, B1.out⟩

set_option maxHeartbeats 2000000 in
theorem specBucketTake_yes (lv mo ra at' now n x : Int) (w : World) (hx : x = min (lv + ra * (now - at')) mo) (hk : bokP lv mo ra at') (h0 : 0 ≤ n) (h1 : at' ≤ now) (h2 : now ≤ 99999) (h3 : n ≤ x) :
    Calls Try.prog 7 #[.agg #[.int .i64 lv, .int .i64 mo, .int .i64 ra, .int .i64 at'], .int .i64 now, .int .i64 n] w fun e w' => e = .returned (.tuple #[.agg #[.int .i64 (x - n), .int .i64 mo, .int .i64 ra, .int .i64 now], .bool true]) ∧ Below w.heap.size w w' := by
  have ka : 0 ≤ at' := hk.2.2.2.2.2.2.1
  have hv : x ≤ mo := by omega
  have hm : mo ≤ 99999 := hk.2.1
  have hr : 0 ≤ ra ∧ ra ≤ 99999 := ⟨hk.2.2.1, hk.2.2.2.1⟩
  have kn : decide (n < 0) = false := by simp; omega
  have kn' : decide (now < at') = false := by simp; omega
  have HX := hid hx
  clear hx
  go_enter Try.func7, Try.ntmps7
  go_wp2_with fail
  refine (specBucketOk_yes lv mo ra at' _ hk).mono ?_
  rintro e w1 ⟨rfl, b1⟩
  have Y := laid2 w #[.int .i64 lv, .int .i64 mo, .int .i64 ra, .int .i64 at'] #[.int .i64 0, .int .i64 0, .int .i64 0, .int .i64 0] 24 24
  have Y2 := hid (kept Y.2 b1)
  have Y1 := hid (kept Y.1 b1)
  have B1 := hid (catB (below2 _ _ _) b1)
  have q0 := box_cell Y2.out 0 (v := .int .i64 0) rfl
  have q1 := box_cell Y2.out 1 (v := .int .i64 0) rfl
  have q2 := box_cell Y2.out 2 (v := .int .i64 0) rfl
  have q3 := box_cell Y2.out 3 (v := .int .i64 0) rfl
  have f0 := box_frozen Y2.out 0
  have f1 := box_frozen Y2.out 1
  have f2 := box_frozen Y2.out 2
  have f3 := box_frozen Y2.out 3
  have s2 : w.heap.size + 1 < w1.heap.size := lt_of_block Y2.out
  clear b1 Y
  have p0 := box_cell Y1.out 0 (v := .int .i64 lv) rfl
  have p1 := box_cell Y1.out 1 (v := .int .i64 mo) rfl
  have p2 := box_cell Y1.out 2 (v := .int .i64 ra) rfl
  have p3 := box_cell Y1.out 3 (v := .int .i64 at') rfl
  go_wp2_with (go_at_call 20; refine (l1In_yes _ _ _ _ (by omega)).mono ?_; rintro e w2 ⟨rfl, hw⟩; subst hw)
  refine (l11At_any lv mo ra at' now x _ HX.out hk h1 h2).mono ?_
  rintro e w2 ⟨rfl, b2⟩
  have Z2 := hid (kept Y2.out b2)
  have B2 := hid (catB B1.out b2)
  clear b2 q0 q1 q2 q3 f0 f1 f2 f3 s2 p0 p1 p2 p3
  have q0 := box_cell Z2.out 0 (v := .int .i64 0) rfl
  have q1 := box_cell Z2.out 1 (v := .int .i64 0) rfl
  have q2 := box_cell Z2.out 2 (v := .int .i64 0) rfl
  have q3 := box_cell Z2.out 3 (v := .int .i64 0) rfl
  have f0 := box_frozen Z2.out 0
  have f1 := box_frozen Z2.out 1
  have f2 := box_frozen Z2.out 2
  have f3 := box_frozen Z2.out 3
  have s2 : w.heap.size + 1 < w2.heap.size := lt_of_block Z2.out
  go_wp2_with fail
  obtain ⟨W, hW, Z⟩ := set4D Z2.out (.int .i64 (x - n)) (.int .i64 mo) (.int .i64 ra) (.int .i64 now)
  have HB := set4B B2.out (g := w.heap.size + 1) (by omega) (.int .i64 (x - n)) (.int .i64 mo) (.int .i64 ra) (.int .i64 now)
  rw [← hW] at HB ⊢
  have ZA := kept Z (belowB W (.cells #[.int .i64 (x - n), .int .i64 mo, .int .i64 ra, .int .i64 now] 24))
  have HA := HB.trans ((belowB W (.cells #[.int .i64 (x - n), .int .i64 mo, .int .i64 ra, .int .i64 now] 24)).mono HB.size)
  obtain ⟨V, hV⟩ : ∃ V, V = W.alloc (.cells #[.int .i64 (x - n), .int .i64 mo, .int .i64 ra, .int .i64 now] 24) := ⟨_, rfl⟩
  have HV : W.alloc (.cells #[.int .i64 (x - n), .int .i64 mo, .int .i64 ra, .int .i64 now] 24) = V := hV.symm
  rw [HV] at ZA HA
  refine bodyPost_ret (v := .tuple #[.agg #[.int .i64 (x - n), .int .i64 mo, .int .i64 ra, .int .i64 now], .bool true]) ?_ rfl ⟨rfl, by rw [HV]; exact HA⟩
  rw [HV]
  have k0 := box_cell ZA 0 (v := .int .i64 (x - n)) rfl
  have k1 := box_cell ZA 1 (v := .int .i64 mo) rfl
  have k2 := box_cell ZA 2 (v := .int .i64 ra) rfl
  have k3 := box_cell ZA 3 (v := .int .i64 now) rfl
  clear HV hV ZA Z hW
  simp [results, Try.results7, go_sem, k0, k1, k2, k3]

set_option maxHeartbeats 2000000 in
theorem specBucketTake_few (lv mo ra at' now n x : Int) (w : World) (hx : x = min (lv + ra * (now - at')) mo) (hk : bokP lv mo ra at') (h0 : 0 ≤ n) (h1 : at' ≤ now) (h2 : now ≤ 99999) (h3 : x < n) :
    Calls Try.prog 7 #[.agg #[.int .i64 lv, .int .i64 mo, .int .i64 ra, .int .i64 at'], .int .i64 now, .int .i64 n] w fun e w' => e = .returned (.tuple #[.agg #[.int .i64 x, .int .i64 mo, .int .i64 ra, .int .i64 now], .bool false]) ∧ Below w.heap.size w w' := by
  have ka : 0 ≤ at' := hk.2.2.2.2.2.2.1
  have hv : x ≤ mo := by omega
  have hm : mo ≤ 99999 := hk.2.1
  have hr : 0 ≤ ra ∧ ra ≤ 99999 := ⟨hk.2.2.1, hk.2.2.2.1⟩
  have kn : decide (n < 0) = false := by simp; omega
  have kn' : decide (now < at') = false := by simp; omega
  have HX := hid hx
  clear hx
  go_enter Try.func7, Try.ntmps7
  go_wp2_with fail
  refine (specBucketOk_yes lv mo ra at' _ hk).mono ?_
  rintro e w1 ⟨rfl, b1⟩
  have Y := laid2 w #[.int .i64 lv, .int .i64 mo, .int .i64 ra, .int .i64 at'] #[.int .i64 0, .int .i64 0, .int .i64 0, .int .i64 0] 24 24
  have Y2 := hid (kept Y.2 b1)
  have Y1 := hid (kept Y.1 b1)
  have B1 := hid (catB (below2 _ _ _) b1)
  have q0 := box_cell Y2.out 0 (v := .int .i64 0) rfl
  have q1 := box_cell Y2.out 1 (v := .int .i64 0) rfl
  have q2 := box_cell Y2.out 2 (v := .int .i64 0) rfl
  have q3 := box_cell Y2.out 3 (v := .int .i64 0) rfl
  have f0 := box_frozen Y2.out 0
  have f1 := box_frozen Y2.out 1
  have f2 := box_frozen Y2.out 2
  have f3 := box_frozen Y2.out 3
  have s2 : w.heap.size + 1 < w1.heap.size := lt_of_block Y2.out
  clear b1 Y
  have p0 := box_cell Y1.out 0 (v := .int .i64 lv) rfl
  have p1 := box_cell Y1.out 1 (v := .int .i64 mo) rfl
  have p2 := box_cell Y1.out 2 (v := .int .i64 ra) rfl
  have p3 := box_cell Y1.out 3 (v := .int .i64 at') rfl
  go_wp2_with (go_at_call 20; refine (l1In_yes _ _ _ _ (by omega)).mono ?_; rintro e w2 ⟨rfl, hw⟩; subst hw)
  refine (l11At_any lv mo ra at' now x _ HX.out hk h1 h2).mono ?_
  rintro e w2 ⟨rfl, b2⟩
  have Z2 := hid (kept Y2.out b2)
  have B2 := hid (catB B1.out b2)
  clear b2 q0 q1 q2 q3 f0 f1 f2 f3 s2 p0 p1 p2 p3
  have q0 := box_cell Z2.out 0 (v := .int .i64 0) rfl
  have q1 := box_cell Z2.out 1 (v := .int .i64 0) rfl
  have q2 := box_cell Z2.out 2 (v := .int .i64 0) rfl
  have q3 := box_cell Z2.out 3 (v := .int .i64 0) rfl
  have f0 := box_frozen Z2.out 0
  have f1 := box_frozen Z2.out 1
  have f2 := box_frozen Z2.out 2
  have f3 := box_frozen Z2.out 3
  have s2 : w.heap.size + 1 < w2.heap.size := lt_of_block Z2.out
  go_wp2_with fail
  obtain ⟨W, hW, Z⟩ := set4D Z2.out (.int .i64 x) (.int .i64 mo) (.int .i64 ra) (.int .i64 now)
  have HB := set4B B2.out (g := w.heap.size + 1) (by omega) (.int .i64 x) (.int .i64 mo) (.int .i64 ra) (.int .i64 now)
  rw [← hW] at HB ⊢
  have ZA := kept Z (belowB W (.cells #[.int .i64 x, .int .i64 mo, .int .i64 ra, .int .i64 now] 24))
  have HA := HB.trans ((belowB W (.cells #[.int .i64 x, .int .i64 mo, .int .i64 ra, .int .i64 now] 24)).mono HB.size)
  obtain ⟨V, hV⟩ : ∃ V, V = W.alloc (.cells #[.int .i64 x, .int .i64 mo, .int .i64 ra, .int .i64 now] 24) := ⟨_, rfl⟩
  have HV : W.alloc (.cells #[.int .i64 x, .int .i64 mo, .int .i64 ra, .int .i64 now] 24) = V := hV.symm
  rw [HV] at ZA HA
  refine bodyPost_ret (v := .tuple #[.agg #[.int .i64 x, .int .i64 mo, .int .i64 ra, .int .i64 now], .bool false]) ?_ rfl ⟨rfl, by rw [HV]; exact HA⟩
  rw [HV]
  have k0 := box_cell ZA 0 (v := .int .i64 x) rfl
  have k1 := box_cell ZA 1 (v := .int .i64 mo) rfl
  have k2 := box_cell ZA 2 (v := .int .i64 ra) rfl
  have k3 := box_cell ZA 3 (v := .int .i64 now) rfl
  clear HV hV ZA Z hW
  simp [results, Try.results7, go_sem, k0, k1, k2, k3]

theorem specBucketWait_now (lv mo ra at' now n x : Int) (w : World) (hx : x = min (lv + ra * (now - at')) mo) (hk : bokP lv mo ra at') (h0 : 0 ≤ n) (h1 : at' ≤ now) (h2 : now ≤ 99999) (h3 : n ≤ x) :
    Calls Try.prog 13 #[.agg #[.int .i64 lv, .int .i64 mo, .int .i64 ra, .int .i64 at'], .int .i64 now, .int .i64 n] w fun e w' => e = .returned (.int .i64 0) ∧ Below w.heap.size w w' := by
  have ka : 0 ≤ at' := hk.2.2.2.2.2.2.1
  have hv : x ≤ mo := by omega
  have hm : mo ≤ 99999 := hk.2.1
  have hr : 0 ≤ ra ∧ ra ≤ 99999 := ⟨hk.2.2.1, hk.2.2.2.1⟩
  have kn : decide (n < 0) = false := by simp; omega
  have kn' : decide (now < at') = false := by simp; omega
  have HX := hid hx
  clear hx
  go_enter Try.func13, Try.ntmps13
  go_wp2_with fail
  refine (specBucketOk_yes lv mo ra at' _ hk).mono ?_
  rintro e w1 ⟨rfl, b1⟩
  have Y1 := hid (kept (laid w #[.int .i64 lv, .int .i64 mo, .int .i64 ra, .int .i64 at'] 24) b1)
  have B1 := hid (catB (belowB _ _) b1)
  clear b1
  have p0 := box_cell Y1.out 0 (v := .int .i64 lv) rfl
  have p1 := box_cell Y1.out 1 (v := .int .i64 mo) rfl
  have p2 := box_cell Y1.out 2 (v := .int .i64 ra) rfl
  have p3 := box_cell Y1.out 3 (v := .int .i64 at') rfl
  go_wp2_with (go_at_call 20; refine (l1In_yes _ _ _ _ (by omega)).mono ?_; rintro e w2 ⟨rfl, hw⟩; subst hw)
  refine (l11At_any lv mo ra at' now x _ HX.out hk h1 h2).mono ?_
  rintro e w2 ⟨rfl, b2⟩
  have B2 := hid (catB B1.out b2)
  clear b2 p0 p1 p2 p3
  go_wp2_with fail
  go_ret
  exact ⟨rfl, catB B2.out (belowB _ _)⟩

theorem specBucketWait_big (lv mo ra at' now n x : Int) (w : World) (hx : x = min (lv + ra * (now - at')) mo) (hk : bokP lv mo ra at') (h0 : 0 ≤ n) (h1 : at' ≤ now) (h2 : now ≤ 99999) (h3 : x < n) (h4 : mo < n) :
    Calls Try.prog 13 #[.agg #[.int .i64 lv, .int .i64 mo, .int .i64 ra, .int .i64 at'], .int .i64 now, .int .i64 n] w fun e w' => e = .returned (.int .i64 (-1)) ∧ Below w.heap.size w w' := by
  have ka : 0 ≤ at' := hk.2.2.2.2.2.2.1
  have hv : x ≤ mo := by omega
  have hm : mo ≤ 99999 := hk.2.1
  have hr : 0 ≤ ra ∧ ra ≤ 99999 := ⟨hk.2.2.1, hk.2.2.2.1⟩
  have kn : decide (n < 0) = false := by simp; omega
  have kn' : decide (now < at') = false := by simp; omega
  have HX := hid hx
  clear hx
  go_enter Try.func13, Try.ntmps13
  go_wp2_with fail
  refine (specBucketOk_yes lv mo ra at' _ hk).mono ?_
  rintro e w1 ⟨rfl, b1⟩
  have Y1 := hid (kept (laid w #[.int .i64 lv, .int .i64 mo, .int .i64 ra, .int .i64 at'] 24) b1)
  have B1 := hid (catB (belowB _ _) b1)
  clear b1
  have p0 := box_cell Y1.out 0 (v := .int .i64 lv) rfl
  have p1 := box_cell Y1.out 1 (v := .int .i64 mo) rfl
  have p2 := box_cell Y1.out 2 (v := .int .i64 ra) rfl
  have p3 := box_cell Y1.out 3 (v := .int .i64 at') rfl
  go_wp2_with (go_at_call 20; refine (l1In_yes _ _ _ _ (by omega)).mono ?_; rintro e w2 ⟨rfl, hw⟩; subst hw)
  refine (l11At_any lv mo ra at' now x _ HX.out hk h1 h2).mono ?_
  rintro e w2 ⟨rfl, b2⟩
  have B2 := hid (catB B1.out b2)
  clear b2 p0 p1 p2 p3
  go_wp2_with fail
  go_ret
  exact ⟨rfl, catB B2.out (belowB _ _)⟩

theorem specBucketWait_dry (lv mo ra at' now n x : Int) (w : World) (hx : x = min (lv + ra * (now - at')) mo) (hk : bokP lv mo ra at') (h0 : 0 ≤ n) (h1 : at' ≤ now) (h2 : now ≤ 99999) (h3 : x < n) (h4 : n ≤ mo) (h5 : ra = 0) :
    Calls Try.prog 13 #[.agg #[.int .i64 lv, .int .i64 mo, .int .i64 ra, .int .i64 at'], .int .i64 now, .int .i64 n] w fun e w' => e = .returned (.int .i64 (-1)) ∧ Below w.heap.size w w' := by
  have ka : 0 ≤ at' := hk.2.2.2.2.2.2.1
  have hv : x ≤ mo := by omega
  have hm : mo ≤ 99999 := hk.2.1
  have hr : 0 ≤ ra ∧ ra ≤ 99999 := ⟨hk.2.2.1, hk.2.2.2.1⟩
  have kn : decide (n < 0) = false := by simp; omega
  have kn' : decide (now < at') = false := by simp; omega
  have HX := hid hx
  have h4' : decide (mo < n) = false := by simp; omega
  have h5' : (ra == 0) = true := by simp [h5]
  clear h5
  clear hx
  go_enter Try.func13, Try.ntmps13
  go_wp2_with fail
  refine (specBucketOk_yes lv mo ra at' _ hk).mono ?_
  rintro e w1 ⟨rfl, b1⟩
  have Y1 := hid (kept (laid w #[.int .i64 lv, .int .i64 mo, .int .i64 ra, .int .i64 at'] 24) b1)
  have B1 := hid (catB (belowB _ _) b1)
  clear b1
  have p0 := box_cell Y1.out 0 (v := .int .i64 lv) rfl
  have p1 := box_cell Y1.out 1 (v := .int .i64 mo) rfl
  have p2 := box_cell Y1.out 2 (v := .int .i64 ra) rfl
  have p3 := box_cell Y1.out 3 (v := .int .i64 at') rfl
  go_wp2_with (go_at_call 20; refine (l1In_yes _ _ _ _ (by omega)).mono ?_; rintro e w2 ⟨rfl, hw⟩; subst hw)
  refine (l11At_any lv mo ra at' now x _ HX.out hk h1 h2).mono ?_
  rintro e w2 ⟨rfl, b2⟩
  have B2 := hid (catB B1.out b2)
  clear b2 p0 p1 p2 p3
  go_wp2_with fail
  go_ret
  exact ⟨rfl, catB B2.out (belowB _ _)⟩

theorem specBucketWait_some (lv mo ra at' now n x : Int) (w : World) (hx : x = min (lv + ra * (now - at')) mo) (hk : bokP lv mo ra at') (h0 : 0 ≤ n) (h1 : at' ≤ now) (h2 : now ≤ 99999) (h3 : x < n) (h4 : n ≤ mo) (h5 : 1 ≤ ra) (h6 : 0 ≤ x) :
    Calls Try.prog 13 #[.agg #[.int .i64 lv, .int .i64 mo, .int .i64 ra, .int .i64 at'], .int .i64 now, .int .i64 n] w fun e w' => e = .returned (.int .i64 ((n - x + ra - 1) / ra)) ∧ Below w.heap.size w w' := by
  have ka : 0 ≤ at' := hk.2.2.2.2.2.2.1
  have hv : x ≤ mo := by omega
  have hm : mo ≤ 99999 := hk.2.1
  have hr : 0 ≤ ra ∧ ra ≤ 99999 := ⟨hk.2.2.1, hk.2.2.2.1⟩
  have kn : decide (n < 0) = false := by simp; omega
  have kn' : decide (now < at') = false := by simp; omega
  have HX := hid hx
  have h4' : decide (mo < n) = false := by simp; omega
  have h5' : (ra == 0) = false := by simp; omega
  clear hx
  go_enter Try.func13, Try.ntmps13
  go_wp2_with fail
  refine (specBucketOk_yes lv mo ra at' _ hk).mono ?_
  rintro e w1 ⟨rfl, b1⟩
  have Y1 := hid (kept (laid w #[.int .i64 lv, .int .i64 mo, .int .i64 ra, .int .i64 at'] 24) b1)
  have B1 := hid (catB (belowB _ _) b1)
  clear b1
  have p0 := box_cell Y1.out 0 (v := .int .i64 lv) rfl
  have p1 := box_cell Y1.out 1 (v := .int .i64 mo) rfl
  have p2 := box_cell Y1.out 2 (v := .int .i64 ra) rfl
  have p3 := box_cell Y1.out 3 (v := .int .i64 at') rfl
  go_wp2_with (go_at_call 20; refine (l1In_yes _ _ _ _ (by omega)).mono ?_; rintro e w2 ⟨rfl, hw⟩; subst hw)
  refine (l11At_any lv mo ra at' now x _ HX.out hk h1 h2).mono ?_
  rintro e w2 ⟨rfl, b2⟩
  have B2 := hid (catB B1.out b2)
  clear b2 p0 p1 p2 p3
  go_wp2_with fail
  go_ret
  exact ⟨rfl, catB B2.out (belowB _ _)⟩
end Go.Proofs.Ytgdmhodipjfkoaa
