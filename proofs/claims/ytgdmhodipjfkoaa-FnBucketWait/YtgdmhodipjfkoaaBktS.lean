/- Buckets, by the model. -/
import Derived.Test.YtgdmhodipjfkoaaBktA
import Derived.Test.YtgdmhodipjfkoaaIn
namespace Go.Proofs.Ytgdmhodipjfkoaa
open Go.ChangeShapes Go.WideShapes Go.ChangeAt Go.RowKit Go.Sort

theorem specBucketOk_yes (lv mo ra at' : Int) (w : World) (h : bokP lv mo ra at') :
    Calls Try.prog 9 #[.agg #[.int .i64 lv, .int .i64 mo, .int .i64 ra, .int .i64 at']] w fun e w' => e = .returned (.bool true) ∧ Below w.heap.size w w' := by
  obtain ⟨h1, h2, h3, h4, h5, h6, h7, h8⟩ := h
  go_enter Try.func9, Try.ntmps9
  go_wp2_with (go_at_call 20; refine (l1In_yes _ _ _ _ (by omega)).mono ?_; rintro e w2 ⟨rfl, hw⟩; subst hw)
  go_ret
  exact ⟨rfl, belowB _ _⟩
theorem specBucketOk_no (lv mo ra at' : Int) (w : World) (h : ¬ bokP lv mo ra at') :
    Calls Try.prog 9 #[.agg #[.int .i64 lv, .int .i64 mo, .int .i64 ra, .int .i64 at']] w fun e w' => e = .returned (.bool false) ∧ Below w.heap.size w w' := by
  unfold bokP at h
  have K : (mo < 0 ∨ 99999 < mo) ∨ ((0 ≤ mo ∧ mo ≤ 99999) ∧ (lv < 0 ∨ mo < lv)) ∨ ((0 ≤ mo ∧ mo ≤ 99999) ∧ (0 ≤ lv ∧ lv ≤ mo) ∧ (ra < 0 ∨ 99999 < ra)) ∨
      ((0 ≤ mo ∧ mo ≤ 99999) ∧ (0 ≤ lv ∧ lv ≤ mo) ∧ (0 ≤ ra ∧ ra ≤ 99999) ∧ (at' < 0 ∨ 99999 < at')) := by omega
  clear h
  rcases K with K | ⟨K1, K⟩ | ⟨K1, K2, K⟩ | ⟨K1, K2, K3, K⟩
  all_goals
    go_enter Try.func9, Try.ntmps9
    go_wp2_with (first
      | (go_at_call 20; refine (l1In_yes _ _ _ _ (by omega)).mono ?_; rintro e w2 ⟨rfl, hw⟩; subst hw)
      | (go_at_call 20; refine (l1In_no _ _ _ _ (by omega)).mono ?_; rintro e w2 ⟨rfl, hw⟩; subst hw))
    go_ret
    exact ⟨rfl, belowB _ _⟩

set_option maxHeartbeats 2000000 in
theorem l11At_any (lv mo ra at' now x : Int) (w : World) (hx : x = min (lv + ra * (now - at')) mo) (hk : bokP lv mo ra at') (h1 : at' ≤ now) (h2 : now ≤ 99999) :
    Calls Try.prog 21 #[.agg #[.int .i64 lv, .int .i64 mo, .int .i64 ra, .int .i64 at'], .int .i64 now] w fun e w' => e = .returned (.agg #[.int .i64 x, .int .i64 mo, .int .i64 ra, .int .i64 now]) ∧ Below w.heap.size w w' := by
  obtain ⟨k1, k2, k3, k4, k5, k6, k7, k8⟩ := hk
  have m := mul_bound (a := ra) (b := now - at') k3 k4 (by omega) (by omega)
  obtain ⟨y, hy⟩ : ∃ y, y = lv + ra * (now - at') := ⟨_, rfl⟩
  have w2 : IntKind.i64.wrap (ra * (now - at')) = ra * (now - at') := by simp [IntKind.wrap, IntKind.bits, IntKind.signed]; omega
  have w3 : IntKind.i64.wrap (lv + ra * (now - at')) = y := by rw [hy]; simp [IntKind.wrap, IntKind.bits, IntKind.signed]; omega
  by_cases hc : y ≤ mo
  · have e : x = lv + ra * (now - at') := by omega
    clear hx w2 w3
    go_enter Try.func21, Try.ntmps21
    go_wp2
    subst e
    refine bodyPost_ret (v := .agg #[.int .i64 (lv + ra * (now - at')), .int .i64 mo, .int .i64 ra, .int .i64 now]) ?_ rfl ⟨rfl, below2 _ _ _⟩
    simp [results, Try.results21, go_sem]
  · have e : x = mo := by omega
    clear hx w2 w3
    go_enter Try.func21, Try.ntmps21
    go_wp2
    refine bodyPost_ret (v := .agg #[.int .i64 mo, .int .i64 mo, .int .i64 ra, .int .i64 now]) ?_ rfl ⟨rfl, below2 _ _ _⟩
    simp [results, Try.results21, go_sem]
end Go.Proofs.Ytgdmhodipjfkoaa
