/- Frames that are ok, by the program. -/
import Derived.Test.YtnfjplmpaeiagaaFrmO
namespace Go.Proofs.Ytnfjplmpaeiagaa
open Go.ChangeShapes Go.WideShapes Go.ChangeAt Go.RowKit Go.Sort

theorem houseOk_yes (n : Int) (w : World) (h : 0 ≤ n ∧ n ≤ 1) : Calls Try.prog 48 #[.int .i64 n] w fun e w' => e = .returned (.bool true) ∧ w' = w := by
  obtain ⟨h1, h2⟩ := h
  have h3 : n < 2 := by omega
  go_enter Try.func48, Try.ntmps48
  go_wp2
  go_ret
  exact ⟨rfl, rfl⟩
theorem houseOk_no (n : Int) (w : World) (h : n < 0 ∨ 1 < n) : Calls Try.prog 48 #[.int .i64 n] w fun e w' => e = .returned (.bool false) ∧ w' = w := by
  by_cases h1 : 0 ≤ n
  · have h2 : decide (n < 2) = false := by simp; omega
    clear h
    go_enter Try.func48, Try.ntmps48
    go_wp2
    go_ret
    exact ⟨rfl, rfl⟩
  · have h2 : decide (0 ≤ n) = false := by simp; omega
    clear h
    go_enter Try.func48, Try.ntmps48
    go_wp2
    go_ret
    exact ⟨rfl, rfl⟩
theorem countF_yes (n : Int) (w : World) (h : 0 ≤ n ∧ n ≤ 99999) : Calls Try.prog 57 #[.int .i64 n] w fun e w' => e = .returned (.bool true) ∧ w' = w := by
  obtain ⟨h1, h2⟩ := h
  go_enter Try.func57, Try.ntmps57
  go_wp2
  go_ret
  exact ⟨rfl, rfl⟩
theorem countF_no (n : Int) (w : World) (h : n < 0 ∨ 99999 < n) : Calls Try.prog 57 #[.int .i64 n] w fun e w' => e = .returned (.bool false) ∧ w' = w := by
  by_cases h1 : 0 ≤ n
  · have h2 : decide (n ≤ 99999) = false := by simp; omega
    clear h
    go_enter Try.func57, Try.ntmps57
    go_wp2
    go_ret
    exact ⟨rfl, rfl⟩
  · have h2 : decide (0 ≤ n) = false := by simp; omega
    clear h
    go_enter Try.func57, Try.ntmps57
    go_wp2
    go_ret
    exact ⟨rfl, rfl⟩
theorem editionOk_yes (n : Int) (w : World) (h : 1 ≤ n ∧ n ≤ 99999) : Calls Try.prog 49 #[.int .i64 n] w fun e w' => e = .returned (.bool true) ∧ w' = w := by
  obtain ⟨h1, h2⟩ := h
  have h3 : 0 < n := by omega
  go_enter Try.func49, Try.ntmps49
  go_wp2_with (go_at_call 57; refine (countF_yes _ _ (by omega)).mono ?_; rintro e w2 ⟨rfl, hw⟩; subst hw)
  go_ret
  exact ⟨rfl, rfl⟩
theorem editionOk_no (n : Int) (w : World) (h : n < 1 ∨ 99999 < n) : Calls Try.prog 49 #[.int .i64 n] w fun e w' => e = .returned (.bool false) ∧ w' = w := by
  by_cases h1 : 1 ≤ n
  · have h2 : decide (n ≤ 99999) = false := by simp; omega
    have h3 : 0 < n := by omega
    have h4 : 99999 < n := by omega
    clear h
    go_enter Try.func49, Try.ntmps49
    go_wp2_with (go_at_call 57; refine (countF_no _ _ (by omega)).mono ?_; rintro e w2 ⟨rfl, hw⟩; subst hw)
    go_ret
    exact ⟨rfl, rfl⟩
  · have h2 : decide (1 ≤ n) = false := by simp; omega
    have h3 : decide (0 < n) = false := by simp; omega
    clear h
    by_cases h0 : 0 ≤ n
    · go_enter Try.func49, Try.ntmps49
      go_wp2_with (go_at_call 57; refine (countF_yes _ _ (by omega)).mono ?_; rintro e w2 ⟨rfl, hw⟩; subst hw)
      go_ret
      exact ⟨rfl, rfl⟩
    · go_enter Try.func49, Try.ntmps49
      go_wp2_with (go_at_call 57; refine (countF_no _ _ (by omega)).mono ?_; rintro e w2 ⟨rfl, hw⟩; subst hw)
      go_ret
      exact ⟨rfl, rfl⟩
theorem empty_any (f : Fr) (w : World) :
    Calls Try.prog 54 #[.agg #[.int .i64 f.h, .int .i64 f.e, .int .i64 f.b, .int .i64 f.d, .bool f.u]] w fun e w' => e = .returned (.bool (decide (f.e = 0))) ∧ Below w.heap.size w w' := by
  go_enter Try.func54, Try.ntmps54
  go_wp2
  go_ret
  exact ⟨rfl, u_b1 _ _⟩

set_option maxHeartbeats 1000000 in
theorem blockOk_any (f : Fr) (w : World) :
    Calls Try.prog 32 #[.agg #[.int .i64 f.h, .int .i64 f.e, .int .i64 f.b, .int .i64 f.d, .bool f.u]] w fun e w' => e = .returned (.bool (decide (blkP f))) ∧ Below w.heap.size w w' := by
  by_cases hp : blkP f
  · have HD := hid (decide_eq_true hp)
    rw [HD.out]
    obtain ⟨h1, h2, h3, h4⟩ := hp
    have h5 : f.b < 24 := by omega
    go_enter Try.func32, Try.ntmps32
    go_wp2_with (first
      | (go_at_call 48; refine (houseOk_yes _ _ h1).mono ?_; rintro e w2 ⟨rfl, hw⟩; subst hw)
      | (go_at_call 49; refine (editionOk_yes _ _ h2).mono ?_; rintro e w2 ⟨rfl, hw⟩; subst hw))
    go_ret
    exact ⟨rfl, u_b1 _ _⟩
  · have HD := hid (decide_eq_false hp)
    rw [HD.out]
    have K : (f.h < 0 ∨ 1 < f.h) ∨ ((0 ≤ f.h ∧ f.h ≤ 1) ∧ (f.e < 1 ∨ 99999 < f.e)) ∨ ((0 ≤ f.h ∧ f.h ≤ 1) ∧ (1 ≤ f.e ∧ f.e ≤ 99999) ∧ decide (0 ≤ f.b) = false) ∨ ((0 ≤ f.h ∧ f.h ≤ 1) ∧ (1 ≤ f.e ∧ f.e ≤ 99999) ∧ 0 ≤ f.b ∧ decide (f.b < 24) = false) := by
      unfold blkP at hp
      simp only [decide_eq_false_iff_not]
      omega
    clear hp HD
    rcases K with K | ⟨K1, K⟩ | ⟨K1, K2, K⟩ | ⟨K1, K2, K3, K⟩
    all_goals
      go_enter Try.func32, Try.ntmps32
      go_wp2_with (first
        | (go_at_call 48; refine (houseOk_yes _ _ (by exact K1)).mono ?_; rintro e w2 ⟨rfl, hw⟩; subst hw)
        | (go_at_call 48; refine (houseOk_no _ _ (by exact K)).mono ?_; rintro e w2 ⟨rfl, hw⟩; subst hw)
        | (go_at_call 49; refine (editionOk_yes _ _ (by exact K2)).mono ?_; rintro e w2 ⟨rfl, hw⟩; subst hw)
        | (go_at_call 49; refine (editionOk_no _ _ (by exact K)).mono ?_; rintro e w2 ⟨rfl, hw⟩; subst hw))
      go_ret
      exact ⟨rfl, u_b1 _ _⟩

set_option maxHeartbeats 1000000 in
theorem frameOk_any (f : Fr) (w : World) :
    Calls Try.prog 55 #[.agg #[.int .i64 f.h, .int .i64 f.e, .int .i64 f.b, .int .i64 f.d, .bool f.u]] w fun e w' => e = .returned (.bool (decide (frP f))) ∧ Below w.heap.size w w' := by
  by_cases he : f.e = 0
  · have hE := run_eq_frame0 f
    have HD := hid (show decide (frP f) = decide (f = Fr.no) by unfold frP; simp [he])
    rw [HD.out]
    generalize decide (f = Fr.no) = t at hE ⊢
    clear HD
    have hm := empty_any f
    obtain ⟨h, e, b, d, u⟩ := f
    dsimp only at he hE hm ⊢
    subst he
    have HM := hid hm
    clear hm
    go_enter Try.func55, Try.ntmps55
    go_wp2_with (go_at_call 54; refine (HM.out _).mono ?_; rintro e w2 ⟨rfl, b2⟩; have p2 := kept (laid w #[.int .i64 h, .int .i64 0, .int .i64 b, .int .i64 d, .bool u] 45) b2; have q0 := box_cell p2 0 rfl; have q1 := box_cell p2 1 rfl; have q2 := box_cell p2 2 rfl; have q3 := box_cell p2 3 rfl; have q4 := box_cell p2 4 rfl; have B2 := hid (u_cat (u_b1 _ _) b2))
    go_ret
    exact ⟨rfl, B2.out⟩
  · have HN := hid (show decide (frP f) = (decide (blkP f) && decide (0 ≤ f.d ∧ f.d ≤ 99999)) by
      have : frP f ↔ (blkP f ∧ 0 ≤ f.d ∧ f.d ≤ 99999) := by unfold frP; rw [if_neg he]
      rw [decide_eq_decide.2 this]; exact Bool.decide_and _ _)
    have he' := hid (decide_eq_false he)
    clear he
    have HM := hid (empty_any f)
    have HK := hid (blockOk_any f)
    have HW := hid (laid w #[.int .i64 f.h, .int .i64 f.e, .int .i64 f.b, .int .i64 f.d, .bool f.u] 45)
    go_enter Try.func55, Try.ntmps55
    go_wp2_with fail
    refine (HM.out _).mono ?_
    rw [he'.out]
    rintro e w2 ⟨rfl, b2⟩
    have p2 := hid (kept HW.out b2)
    have q0 := box_cell p2.out 0 rfl
    have q1 := box_cell p2.out 1 rfl
    have q2 := box_cell p2.out 2 rfl
    have q3 := box_cell p2.out 3 rfl
    have q4 := box_cell p2.out 4 rfl
    have B2 := hid (u_cat (u_b1 _ _) b2)
    clear b2
    go_wp2_with fail
    refine (HK.out _).mono ?_
    rintro e w3 ⟨rfl, b3⟩
    have p3 := hid (kept p2.out b3)
    have B3 := hid (u_cat B2.out b3)
    clear b3 q0 q1 q2 q3 q4
    have q3 := box_cell p3.out 3 rfl
    by_cases hb : blkP f
    · have hb' := hid (decide_eq_true hb)
      by_cases hd : 0 ≤ f.d ∧ f.d ≤ 99999
      · have hd' := hid (decide_eq_true hd)
        rw [hb'.out]
        clear hb
        go_wp2_with (go_at_call 57; refine (countF_yes _ _ hd).mono ?_; rintro e w4 ⟨rfl, hw⟩; subst hw)
        go_ret
        exact ⟨ret_bool (by rw [HN.out, hb'.out, hd'.out]; rfl), B3.out⟩
      · have hd' := hid (decide_eq_false hd)
        rw [hb'.out]
        clear hb
        have hd2 : f.d < 0 ∨ 99999 < f.d := by omega
        clear hd
        go_wp2_with (go_at_call 57; refine (countF_no _ _ hd2).mono ?_; rintro e w4 ⟨rfl, hw⟩; subst hw)
        go_ret
        exact ⟨ret_bool (by rw [HN.out, hb'.out, hd'.out]; rfl), B3.out⟩
    · have hb' := hid (decide_eq_false hb)
      rw [hb'.out]
      clear hb
      go_wp2_with fail
      go_ret
      exact ⟨ret_bool (by rw [HN.out, hb'.out]; rfl), B3.out⟩
end Go.Proofs.Ytnfjplmpaeiagaa
