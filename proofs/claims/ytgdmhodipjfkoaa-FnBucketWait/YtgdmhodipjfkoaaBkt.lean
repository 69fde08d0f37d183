/- Buckets: numbers in limits, and what is ok by the program. -/
import Derived.Test.YtgdmhodipjfkoaaQB
import Derived.BigRegion
namespace Go.Proofs.Ytgdmhodipjfkoaa
open Go.ChangeShapes Go.WideShapes Go.ChangeAt Go.RowKit Go.Sort

/-- A bucket that is ok: level, most, rate, tick. -/
def bokP (lv mo ra at' : Int) : Prop := 0 ≤ mo ∧ mo ≤ 99999 ∧ 0 ≤ ra ∧ ra ≤ 99999 ∧ 0 ≤ lv ∧ lv ≤ mo ∧ 0 ≤ at' ∧ at' ≤ 99999
instance (lv mo ra at' : Int) : Decidable (bokP lv mo ra at') := by unfold bokP; infer_instance

theorem belowB (w : World) (o : Obj) : Below w.heap.size w (w.alloc o) := (Below.refl _ _).alloc (Nat.le_refl _) o
theorem catB {a b c : World} (h : Below a.heap.size a b) (k : Below b.heap.size b c) : Below a.heap.size a c := h.trans (k.mono h.size)

theorem count_yes (n : Int) (w : World) (h : 0 ≤ n ∧ n ≤ 99999) : Calls Try.prog 22 #[.int .i64 n] w fun e w' => e = .returned (.bool true) ∧ w' = w := by
  obtain ⟨h1, h2⟩ := h
  go_enter Try.func22, Try.ntmps22
  go_wp2
  go_ret
  exact ⟨rfl, rfl⟩
theorem count_no (n : Int) (w : World) (h : n < 0 ∨ 99999 < n) : Calls Try.prog 22 #[.int .i64 n] w fun e w' => e = .returned (.bool false) ∧ w' = w := by
  by_cases h1 : 0 ≤ n
  · have h2 : decide (n ≤ 99999) = false := by simp; omega
    clear h
    go_enter Try.func22, Try.ntmps22
    go_wp2
    go_ret
    exact ⟨rfl, rfl⟩
  · have h2 : decide (0 ≤ n) = false := by simp; omega
    clear h
    go_enter Try.func22, Try.ntmps22
    go_wp2
    go_ret
    exact ⟨rfl, rfl⟩
theorem time_yes (n : Int) (w : World) (h : 0 ≤ n ∧ n ≤ 99999) : Calls Try.prog 23 #[.int .i64 n] w fun e w' => e = .returned (.bool true) ∧ w' = w := by
  obtain ⟨h1, h2⟩ := h
  go_enter Try.func23, Try.ntmps23
  go_wp2
  go_ret
  exact ⟨rfl, rfl⟩
theorem time_no (n : Int) (w : World) (h : n < 0 ∨ 99999 < n) : Calls Try.prog 23 #[.int .i64 n] w fun e w' => e = .returned (.bool false) ∧ w' = w := by
  by_cases h1 : 0 ≤ n
  · have h2 : decide (n ≤ 99999) = false := by simp; omega
    clear h
    go_enter Try.func23, Try.ntmps23
    go_wp2
    go_ret
    exact ⟨rfl, rfl⟩
  · have h2 : decide (0 ≤ n) = false := by simp; omega
    clear h
    go_enter Try.func23, Try.ntmps23
    go_wp2
    go_ret
    exact ⟨rfl, rfl⟩

theorem implBucketOk_yes (lv mo ra at' : Int) (w : World) (h : bokP lv mo ra at') :
    Calls Try.prog 8 #[.agg #[.int .i64 lv, .int .i64 mo, .int .i64 ra, .int .i64 at']] w fun e w' => e = .returned (.bool true) ∧ Below w.heap.size w w' := by
  obtain ⟨h1, h2, h3, h4, h5, h6, h7, h8⟩ := h
  go_enter Try.func8, Try.ntmps8
  go_wp2_with (first
    | (go_at_call 22; refine (count_yes _ _ (by omega)).mono ?_; rintro e w2 ⟨rfl, hw⟩; subst hw)
    | (go_at_call 23; refine (time_yes _ _ (by omega)).mono ?_; rintro e w2 ⟨rfl, hw⟩; subst hw))
  go_ret
  exact ⟨rfl, belowB _ _⟩
theorem implBucketOk_no (lv mo ra at' : Int) (w : World) (h : ¬ bokP lv mo ra at') :
    Calls Try.prog 8 #[.agg #[.int .i64 lv, .int .i64 mo, .int .i64 ra, .int .i64 at']] w fun e w' => e = .returned (.bool false) ∧ Below w.heap.size w w' := by
  unfold bokP at h
  have K : (mo < 0 ∨ 99999 < mo) ∨ ((0 ≤ mo ∧ mo ≤ 99999) ∧ (ra < 0 ∨ 99999 < ra)) ∨ (((0 ≤ mo ∧ mo ≤ 99999) ∧ 0 ≤ ra ∧ ra ≤ 99999) ∧ decide (0 ≤ lv) = false) ∨
      (((0 ≤ mo ∧ mo ≤ 99999) ∧ 0 ≤ ra ∧ ra ≤ 99999) ∧ 0 ≤ lv ∧ decide (lv ≤ mo) = false) ∨ (((0 ≤ mo ∧ mo ≤ 99999) ∧ 0 ≤ ra ∧ ra ≤ 99999) ∧ 0 ≤ lv ∧ lv ≤ mo ∧ (at' < 0 ∨ 99999 < at')) := by
    simp only [decide_eq_false_iff_not]; omega
  clear h
  rcases K with K | K | ⟨K1, K⟩ | ⟨K1, K2, K⟩ | ⟨K1, K2, K3, K⟩
  all_goals
    go_enter Try.func8, Try.ntmps8
    go_wp2_with (first
      | (go_at_call 22; refine (count_yes _ _ (by omega)).mono ?_; rintro e w2 ⟨rfl, hw⟩; subst hw)
      | (go_at_call 22; refine (count_no _ _ (by omega)).mono ?_; rintro e w2 ⟨rfl, hw⟩; subst hw)
      | (go_at_call 23; refine (time_no _ _ (by omega)).mono ?_; rintro e w2 ⟨rfl, hw⟩; subst hw))
    go_ret
    exact ⟨rfl, belowB _ _⟩
end Go.Proofs.Ytgdmhodipjfkoaa
