/- Buckets: what is taken, and how long it takes, by the program. -/
import Derived.Test.YtgdmhodipjfkoaaBktA
namespace Go.Proofs.Ytgdmhodipjfkoaa
open Go.ChangeShapes Go.WideShapes Go.ChangeAt Go.RowKit Go.Sort

set_option maxHeartbeats 2000000 in
theorem implBucketTake_no (lv mo ra at' now n : Int) (w : World) (h : ¬ (bokP lv mo ra at' ∧ 0 ≤ n ∧ at' ≤ now ∧ now ≤ 99999)) :
    Calls Try.prog 6 #[.agg #[.int .i64 lv, .int .i64 mo, .int .i64 ra, .int .i64 at'], .int .i64 now, .int .i64 n] w fun e w' => e = .returned (.tuple #[.agg #[.int .i64 0, .int .i64 0, .int .i64 0, .int .i64 0], .bool false]) ∧ Below w.heap.size w w' := by
  go_enter Try.func6, Try.ntmps6
  go_wp2_with fail
  refine (asks_no lv mo ra at' now n _ h).mono ?_
  rintro e w1 ⟨rfl, b1⟩
  have Y := laid2 w #[.int .i64 lv, .int .i64 mo, .int .i64 ra, .int .i64 at'] #[.int .i64 0, .int .i64 0, .int .i64 0, .int .i64 0] 24 24
  have Y2 := hid (kept Y.2 b1)
  have B1 := hid (catB (below2 _ _ _) b1)
  have q0 := box_cell Y2.out 0 (v := .int .i64 0) rfl
  have q1 := box_cell Y2.out 1 (v := .int .i64 0) rfl
  have q2 := box_cell Y2.out 2 (v := .int .i64 0) rfl
  have q3 := box_cell Y2.out 3 (v := .int .i64 0) rfl
  have f0 := box_frozen Y2.out 0
  have f1 := box_frozen Y2.out 1
  have f2 := box_frozen Y2.out 2
  have f3 := box_frozen Y2.out 3
  have s2 : w.heap.size + 1 < w1.heap.size := lt_of_block Y2.out
  clear b1 Y
  go_wp2_with fail
  obtain ⟨W, hW, k0, k1, k2, k3⟩ := set4C Y2.out (.int .i64 0) (.int .i64 0) (.int .i64 0) (.int .i64 0)
  have HB := set4B B1.out (g := w.heap.size + 1) (by omega) (.int .i64 0) (.int .i64 0) (.int .i64 0) (.int .i64 0)
  rw [← hW] at HB ⊢
  refine bodyPost_ret (v := .tuple #[.agg #[.int .i64 0, .int .i64 0, .int .i64 0, .int .i64 0], .bool false]) ?_ rfl ⟨rfl, HB⟩
  simp [results, Try.results6, go_sem, k0, k1, k2, k3]

set_option maxHeartbeats 2000000 in
theorem implBucketTake_yes (lv mo ra at' now n x : Int) (w : World) (hx : x = min (lv + ra * (now - at')) mo) (hk : bokP lv mo ra at') (h0 : 0 ≤ n) (h1 : at' ≤ now) (h2 : now ≤ 99999) (h3 : n ≤ x) :
    Calls Try.prog 6 #[.agg #[.int .i64 lv, .int .i64 mo, .int .i64 ra, .int .i64 at'], .int .i64 now, .int .i64 n] w fun e w' => e = .returned (.tuple #[.agg #[.int .i64 (x - n), .int .i64 mo, .int .i64 ra, .int .i64 now], .bool true]) ∧ Below w.heap.size w w' := by
  have hv : x ≤ 99999 := by have := hk.2.1; omega
  have HX := hid hx
  clear hx
  go_enter Try.func6, Try.ntmps6
  go_wp2_with fail
  refine (asks_yes lv mo ra at' now n _ hk h0 h1 h2).mono ?_
  rintro e w1 ⟨rfl, b1⟩
  have Y := laid2 w #[.int .i64 lv, .int .i64 mo, .int .i64 ra, .int .i64 at'] #[.int .i64 0, .int .i64 0, .int .i64 0, .int .i64 0] 24 24
  have Y2 := hid (kept Y.2 b1)
  have Y1 := hid (kept Y.1 b1)
  have B1 := hid (catB (below2 _ _ _) b1)
  clear b1 Y
  go_wp2_with fail
  refine (pour_any _ lv mo ra at' now _ Y1.out hk h1 h2).mono ?_
  rintro e w2 ⟨rfl, z1, t2⟩
  rw [← HX.out] at z1
  have Z1 := hid z1
  have Z2 := hid ((t2.block (w.heap.size + 1) (by omega)).trans Y2.out)
  have B2 := hid (B1.out.trans (t2.below (Nat.le_refl _)))
  clear t2 z1
  go_wp2_with fail
  refine (draw_yes _ x mo ra now n _ Z1.out h0 h3 hv).mono ?_
  rintro e w3 ⟨rfl, z1, t3⟩
  have U1 := hid z1
  have U2 := hid ((t3.block (w.heap.size + 1) (by omega)).trans Z2.out)
  have B3 := hid (B2.out.trans (t3.below (Nat.le_refl _)))
  clear t3 z1
  have q0 := box_cell U2.out 0 (v := .int .i64 0) rfl
  have q1 := box_cell U2.out 1 (v := .int .i64 0) rfl
  have q2 := box_cell U2.out 2 (v := .int .i64 0) rfl
  have q3 := box_cell U2.out 3 (v := .int .i64 0) rfl
  have f0 := box_frozen U2.out 0
  have f1 := box_frozen U2.out 1
  have f2 := box_frozen U2.out 2
  have f3 := box_frozen U2.out 3
  have p0 := box_cell U1.out 0 (v := .int .i64 (x - n)) rfl
  have p1 := box_cell U1.out 1 (v := .int .i64 mo) rfl
  have p2 := box_cell U1.out 2 (v := .int .i64 ra) rfl
  have p3 := box_cell U1.out 3 (v := .int .i64 now) rfl
  have s2 : w.heap.size + 1 < w3.heap.size := lt_of_block U2.out
  go_wp2_with fail
  obtain ⟨W, hW, k0, k1, k2, k3⟩ := set4C U2.out (.int .i64 (x - n)) (.int .i64 mo) (.int .i64 ra) (.int .i64 now)
  have HB := set4B B3.out (g := w.heap.size + 1) (by omega) (.int .i64 (x - n)) (.int .i64 mo) (.int .i64 ra) (.int .i64 now)
  rw [← hW] at HB ⊢
  refine bodyPost_ret (v := .tuple #[.agg #[.int .i64 (x - n), .int .i64 mo, .int .i64 ra, .int .i64 now], .bool true]) ?_ rfl ⟨rfl, HB⟩
  simp [results, Try.results6, go_sem, k0, k1, k2, k3]

set_option maxHeartbeats 2000000 in
theorem implBucketTake_few (lv mo ra at' now n x : Int) (w : World) (hx : x = min (lv + ra * (now - at')) mo) (hk : bokP lv mo ra at') (h0 : 0 ≤ n) (h1 : at' ≤ now) (h2 : now ≤ 99999) (h3 : x < n) :
    Calls Try.prog 6 #[.agg #[.int .i64 lv, .int .i64 mo, .int .i64 ra, .int .i64 at'], .int .i64 now, .int .i64 n] w fun e w' => e = .returned (.tuple #[.agg #[.int .i64 x, .int .i64 mo, .int .i64 ra, .int .i64 now], .bool false]) ∧ Below w.heap.size w w' := by
  have hv : x ≤ 99999 := by have := hk.2.1; omega
  have HX := hid hx
  clear hx
  go_enter Try.func6, Try.ntmps6
  go_wp2_with fail
  refine (asks_yes lv mo ra at' now n _ hk h0 h1 h2).mono ?_
  rintro e w1 ⟨rfl, b1⟩
  have Y := laid2 w #[.int .i64 lv, .int .i64 mo, .int .i64 ra, .int .i64 at'] #[.int .i64 0, .int .i64 0, .int .i64 0, .int .i64 0] 24 24
  have Y2 := hid (kept Y.2 b1)
  have Y1 := hid (kept Y.1 b1)
  have B1 := hid (catB (below2 _ _ _) b1)
  clear b1 Y
  go_wp2_with fail
  refine (pour_any _ lv mo ra at' now _ Y1.out hk h1 h2).mono ?_
  rintro e w2 ⟨rfl, z1, t2⟩
  rw [← HX.out] at z1
  have Z1 := hid z1
  have Z2 := hid ((t2.block (w.heap.size + 1) (by omega)).trans Y2.out)
  have B2 := hid (B1.out.trans (t2.below (Nat.le_refl _)))
  clear t2 z1
  go_wp2_with fail
  refine (draw_no _ x mo ra now n _ Z1.out h3).mono ?_
  rintro e w3 ⟨rfl, hw⟩
  have U1 := hid Z1.out
  have U2 := hid Z2.out
  have B3 := hid B2.out
  rw [← hw] at U1 U2 B3
  clear Z1 Z2 B2 hw
  have q0 := box_cell U2.out 0 (v := .int .i64 0) rfl
  have q1 := box_cell U2.out 1 (v := .int .i64 0) rfl
  have q2 := box_cell U2.out 2 (v := .int .i64 0) rfl
  have q3 := box_cell U2.out 3 (v := .int .i64 0) rfl
  have f0 := box_frozen U2.out 0
  have f1 := box_frozen U2.out 1
  have f2 := box_frozen U2.out 2
  have f3 := box_frozen U2.out 3
  have p0 := box_cell U1.out 0 (v := .int .i64 x) rfl
  have p1 := box_cell U1.out 1 (v := .int .i64 mo) rfl
  have p2 := box_cell U1.out 2 (v := .int .i64 ra) rfl
  have p3 := box_cell U1.out 3 (v := .int .i64 now) rfl
  have s2 : w.heap.size + 1 < w3.heap.size := lt_of_block U2.out
  go_wp2_with fail
  obtain ⟨W, hW, k0, k1, k2, k3⟩ := set4C U2.out (.int .i64 x) (.int .i64 mo) (.int .i64 ra) (.int .i64 now)
  have HB := set4B B3.out (g := w.heap.size + 1) (by omega) (.int .i64 x) (.int .i64 mo) (.int .i64 ra) (.int .i64 now)
  rw [← hW] at HB ⊢
  refine bodyPost_ret (v := .tuple #[.agg #[.int .i64 x, .int .i64 mo, .int .i64 ra, .int .i64 now], .bool false]) ?_ rfl ⟨rfl, HB⟩
  simp [results, Try.results6, go_sem, k0, k1, k2, k3]

theorem divUp_any (a b : Int) (w : World) (h1 : 0 ≤ a) (h2 : a ≤ 99999) (h3 : 1 ≤ b) (h4 : b ≤ 99999) :
    Calls Try.prog 24 #[.int .i64 a, .int .i64 b] w fun e w' => e = .returned (.int .i64 ((a + b - 1) / b)) ∧ w' = w := by
  go_enter Try.func24, Try.ntmps24
  go_wp2
  go_ret
  exact ⟨rfl, rfl⟩

theorem implBucketWait_no (lv mo ra at' now n : Int) (w : World) (h : ¬ (bokP lv mo ra at' ∧ 0 ≤ n ∧ at' ≤ now ∧ now ≤ 99999)) :
    Calls Try.prog 12 #[.agg #[.int .i64 lv, .int .i64 mo, .int .i64 ra, .int .i64 at'], .int .i64 now, .int .i64 n] w fun e w' => e = .returned (.int .i64 (-1)) ∧ Below w.heap.size w w' := by
  go_enter Try.func12, Try.ntmps12
  go_wp2_with fail
  refine (asks_no lv mo ra at' now n _ h).mono ?_
  rintro e w1 ⟨rfl, b1⟩
  have B1 := hid (catB (belowB _ _) b1)
  clear b1
  go_wp2_with fail
  go_ret
  exact ⟨rfl, B1.out⟩

theorem implBucketWait_now (lv mo ra at' now n x : Int) (w : World) (hx : x = min (lv + ra * (now - at')) mo) (hk : bokP lv mo ra at') (h0 : 0 ≤ n) (h1 : at' ≤ now) (h2 : now ≤ 99999) (h3 : n ≤ x) :
    Calls Try.prog 12 #[.agg #[.int .i64 lv, .int .i64 mo, .int .i64 ra, .int .i64 at'], .int .i64 now, .int .i64 n] w fun e w' => e = .returned (.int .i64 0) ∧ Below w.heap.size w w' := by
  have hv : x ≤ mo := by omega
  have hm : mo ≤ 99999 := hk.2.1
  have hr : 0 ≤ ra ∧ ra ≤ 99999 := ⟨hk.2.2.1, hk.2.2.2.1⟩
  have HX := hid hx
  clear hx
  go_enter Try.func12, Try.ntmps12
  go_wp2_with fail
  refine (asks_yes lv mo ra at' now n _ hk h0 h1 h2).mono ?_
  rintro e w1 ⟨rfl, b1⟩
  have Y1 := hid (kept (laid w #[.int .i64 lv, .int .i64 mo, .int .i64 ra, .int .i64 at'] 24) b1)
  have B1 := hid (catB (belowB _ _) b1)
  clear b1
  go_wp2_with fail
  refine (pour_any _ lv mo ra at' now _ Y1.out hk h1 h2).mono ?_
  rintro e w2 ⟨rfl, z1, t2⟩
  rw [← HX.out] at z1
  have Z1 := hid z1
  have B2 := hid (B1.out.trans (t2.below (Nat.le_refl _)))
  clear t2 z1
  have p0 := box_cell Z1.out 0 (v := .int .i64 x) rfl
  have p1 := box_cell Z1.out 1 (v := .int .i64 mo) rfl
  have p2 := box_cell Z1.out 2 (v := .int .i64 ra) rfl
  have p3 := box_cell Z1.out 3 (v := .int .i64 now) rfl
  go_wp2_with (fail)
  go_ret
  exact ⟨rfl, B2.out⟩

theorem implBucketWait_big (lv mo ra at' now n x : Int) (w : World) (hx : x = min (lv + ra * (now - at')) mo) (hk : bokP lv mo ra at') (h0 : 0 ≤ n) (h1 : at' ≤ now) (h2 : now ≤ 99999) (h3 : x < n) (h4 : mo < n) :
    Calls Try.prog 12 #[.agg #[.int .i64 lv, .int .i64 mo, .int .i64 ra, .int .i64 at'], .int .i64 now, .int .i64 n] w fun e w' => e = .returned (.int .i64 (-1)) ∧ Below w.heap.size w w' := by
  have hv : x ≤ mo := by omega
  have hm : mo ≤ 99999 := hk.2.1
  have hr : 0 ≤ ra ∧ ra ≤ 99999 := ⟨hk.2.2.1, hk.2.2.2.1⟩
  have HX := hid hx
  clear hx
  go_enter Try.func12, Try.ntmps12
  go_wp2_with fail
  refine (asks_yes lv mo ra at' now n _ hk h0 h1 h2).mono ?_
  rintro e w1 ⟨rfl, b1⟩
  have Y1 := hid (kept (laid w #[.int .i64 lv, .int .i64 mo, .int .i64 ra, .int .i64 at'] 24) b1)
  have B1 := hid (catB (belowB _ _) b1)
  clear b1
  go_wp2_with fail
  refine (pour_any _ lv mo ra at' now _ Y1.out hk h1 h2).mono ?_
  rintro e w2 ⟨rfl, z1, t2⟩
  rw [← HX.out] at z1
  have Z1 := hid z1
  have B2 := hid (B1.out.trans (t2.below (Nat.le_refl _)))
  clear t2 z1
  have p0 := box_cell Z1.out 0 (v := .int .i64 x) rfl
  have p1 := box_cell Z1.out 1 (v := .int .i64 mo) rfl
  have p2 := box_cell Z1.out 2 (v := .int .i64 ra) rfl
  have p3 := box_cell Z1.out 3 (v := .int .i64 now) rfl
  go_wp2_with (fail)
  go_ret
  exact ⟨rfl, B2.out⟩

theorem implBucketWait_dry (lv mo ra at' now n x : Int) (w : World) (hx : x = min (lv + ra * (now - at')) mo) (hk : bokP lv mo ra at') (h0 : 0 ≤ n) (h1 : at' ≤ now) (h2 : now ≤ 99999) (h3 : x < n) (h4 : n ≤ mo) (h5 : ra = 0) :
    Calls Try.prog 12 #[.agg #[.int .i64 lv, .int .i64 mo, .int .i64 ra, .int .i64 at'], .int .i64 now, .int .i64 n] w fun e w' => e = .returned (.int .i64 (-1)) ∧ Below w.heap.size w w' := by
  have hv : x ≤ mo := by omega
  have hm : mo ≤ 99999 := hk.2.1
  have hr : 0 ≤ ra ∧ ra ≤ 99999 := ⟨hk.2.2.1, hk.2.2.2.1⟩
  have HX := hid hx
  have h4' : decide (mo < n) = false := by simp; omega
  have h5' : (ra == 0) = true := by simp [h5]
  clear h5
  clear hx
  go_enter Try.func12, Try.ntmps12
  go_wp2_with fail
  refine (asks_yes lv mo ra at' now n _ hk h0 h1 h2).mono ?_
  rintro e w1 ⟨rfl, b1⟩
  have Y1 := hid (kept (laid w #[.int .i64 lv, .int .i64 mo, .int .i64 ra, .int .i64 at'] 24) b1)
  have B1 := hid (catB (belowB _ _) b1)
  clear b1
  go_wp2_with fail
  refine (pour_any _ lv mo ra at' now _ Y1.out hk h1 h2).mono ?_
  rintro e w2 ⟨rfl, z1, t2⟩
  rw [← HX.out] at z1
  have Z1 := hid z1
  have B2 := hid (B1.out.trans (t2.below (Nat.le_refl _)))
  clear t2 z1
  have p0 := box_cell Z1.out 0 (v := .int .i64 x) rfl
  have p1 := box_cell Z1.out 1 (v := .int .i64 mo) rfl
  have p2 := box_cell Z1.out 2 (v := .int .i64 ra) rfl
  have p3 := box_cell Z1.out 3 (v := .int .i64 now) rfl
  go_wp2_with (fail)
  go_ret
  exact ⟨rfl, B2.out⟩

theorem implBucketWait_some (lv mo ra at' now n x : Int) (w : World) (hx : x = min (lv + ra * (now - at')) mo) (hk : bokP lv mo ra at') (h0 : 0 ≤ n) (h1 : at' ≤ now) (h2 : now ≤ 99999) (h3 : x < n) (h4 : n ≤ mo) (h5 : 1 ≤ ra) (h6 : 0 ≤ x) :
    Calls Try.prog 12 #[.agg #[.int .i64 lv, .int .i64 mo, .int .i64 ra, .int .i64 at'], .int .i64 now, .int .i64 n] w fun e w' => e = .returned (.int .i64 ((n - x + ra - 1) / ra)) ∧ Below w.heap.size w w' := by
  have hv : x ≤ mo := by omega
  have hm : mo ≤ 99999 := hk.2.1
  have hr : 0 ≤ ra ∧ ra ≤ 99999 := ⟨hk.2.2.1, hk.2.2.2.1⟩
  have HX := hid hx
  have h4' : decide (mo < n) = false := by simp; omega
  have h5' : (ra == 0) = false := by simp; omega
  clear hx
  go_enter Try.func12, Try.ntmps12
  go_wp2_with fail
  refine (asks_yes lv mo ra at' now n _ hk h0 h1 h2).mono ?_
  rintro e w1 ⟨rfl, b1⟩
  have Y1 := hid (kept (laid w #[.int .i64 lv, .int .i64 mo, .int .i64 ra, .int .i64 at'] 24) b1)
  have B1 := hid (catB (belowB _ _) b1)
  clear b1
  go_wp2_with fail
  refine (pour_any _ lv mo ra at' now _ Y1.out hk h1 h2).mono ?_
  rintro e w2 ⟨rfl, z1, t2⟩
  rw [← HX.out] at z1
  have Z1 := hid z1
  have B2 := hid (B1.out.trans (t2.below (Nat.le_refl _)))
  clear t2 z1
  have p0 := box_cell Z1.out 0 (v := .int .i64 x) rfl
  have p1 := box_cell Z1.out 1 (v := .int .i64 mo) rfl
  have p2 := box_cell Z1.out 2 (v := .int .i64 ra) rfl
  have p3 := box_cell Z1.out 3 (v := .int .i64 now) rfl
  go_wp2_with (go_at_call 24; refine (divUp_any _ _ _ (by omega) (by omega) (by omega) (by omega)).mono ?_; rintro e w3 ⟨rfl, hw⟩; subst hw)
  go_ret
  exact ⟨rfl, B2.out⟩
end Go.Proofs.Ytgdmhodipjfkoaa
