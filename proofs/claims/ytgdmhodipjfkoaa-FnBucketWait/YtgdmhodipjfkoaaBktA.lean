/- Buckets at a later tick, and what is taken, by the program. -/
import Derived.Test.YtgdmhodipjfkoaaBktP
namespace Go.Proofs.Ytgdmhodipjfkoaa
open Go.ChangeShapes Go.WideShapes Go.ChangeAt Go.RowKit Go.Sort

theorem pour_none (g : Nat) (lv mo ra at' now : Int) (w : World) (h : w.heap[g]? = some (.cells #[.int .i64 lv, .int .i64 mo, .int .i64 ra, .int .i64 at'] 24 (0, 0))) (hn : now < at') :
    Calls Try.prog 18 #[.pointer (some ⟨g, 0, none⟩), .int .i64 now] w fun e w' => e = .returned (.tuple #[]) ∧ w' = w := by
  have c3 := box_cell h 3 (v := .int .i64 at') rfl
  clear h
  go_enter Try.func18, Try.ntmps18
  go_wp2_with fail
  first | go_end0 | refine bodyPost_ret (results_none rfl _ _ _) rfl ?_
  exact ⟨rfl, rfl⟩
theorem draw_yes (g : Nat) (lv mo ra at' n : Int) (w : World) (h : w.heap[g]? = some (.cells #[.int .i64 lv, .int .i64 mo, .int .i64 ra, .int .i64 at'] 24 (0, 0))) (hn : 0 ≤ n) (hl : n ≤ lv) (hv : lv ≤ 99999) :
    Calls Try.prog 19 #[.pointer (some ⟨g, 0, none⟩), .int .i64 n] w fun e w' => e = .returned (.bool true) ∧ w'.heap[g]? = some (.cells #[.int .i64 (lv - n), .int .i64 mo, .int .i64 ra, .int .i64 at'] 24 (0, 0)) ∧ Touch g w w' := by
  have c0 := box_cell h 0 (v := .int .i64 lv) rfl
  have f0 := box_frozen h 0
  have H := hid h
  clear h
  go_enter Try.func19, Try.ntmps19
  go_wp2_with fail
  go_ret
  exact ⟨rfl, set_block H.out 0 _, Touch.setCell w ⟨g, 0, none⟩ _⟩
theorem draw_no (g : Nat) (lv mo ra at' n : Int) (w : World) (h : w.heap[g]? = some (.cells #[.int .i64 lv, .int .i64 mo, .int .i64 ra, .int .i64 at'] 24 (0, 0))) (hl : lv < n) :
    Calls Try.prog 19 #[.pointer (some ⟨g, 0, none⟩), .int .i64 n] w fun e w' => e = .returned (.bool false) ∧ w' = w := by
  have c0 := box_cell h 0 (v := .int .i64 lv) rfl
  clear h
  go_enter Try.func19, Try.ntmps19
  go_wp2_with fail
  go_ret
  exact ⟨rfl, rfl⟩

theorem asks_yes (lv mo ra at' now n : Int) (w : World) (h : bokP lv mo ra at') (hn : 0 ≤ n) (ha : at' ≤ now) (ht : now ≤ 99999) :
    Calls Try.prog 17 #[.agg #[.int .i64 lv, .int .i64 mo, .int .i64 ra, .int .i64 at'], .int .i64 now, .int .i64 n] w fun e w' => e = .returned (.bool true) ∧ Below w.heap.size w w' := by
  go_enter Try.func17, Try.ntmps17
  go_wp2_with fail
  refine (implBucketOk_yes lv mo ra at' _ h).mono ?_
  rintro e w1 ⟨rfl, b1⟩
  have X := hid (kept (laid w #[.int .i64 lv, .int .i64 mo, .int .i64 ra, .int .i64 at'] 24) b1)
  have c3 := box_cell X.out 3 (v := .int .i64 at') rfl
  have B1 := hid (catB (belowB _ _) b1)
  clear b1 X
  go_wp2_with fail
  go_ret
  exact ⟨rfl, B1.out⟩
theorem asks_no (lv mo ra at' now n : Int) (w : World) (h : ¬ (bokP lv mo ra at' ∧ 0 ≤ n ∧ at' ≤ now ∧ now ≤ 99999)) :
    Calls Try.prog 17 #[.agg #[.int .i64 lv, .int .i64 mo, .int .i64 ra, .int .i64 at'], .int .i64 now, .int .i64 n] w fun e w' => e = .returned (.bool false) ∧ Below w.heap.size w w' := by
  by_cases hk : bokP lv mo ra at'
  · have K : decide (0 ≤ n) = false ∨ (0 ≤ n ∧ decide (at' ≤ now) = false) ∨ (0 ≤ n ∧ at' ≤ now ∧ decide (now ≤ 99999) = false) := by
      simp only [decide_eq_false_iff_not]; simp only [hk, true_and] at h; omega
    clear h
    rcases K with K | ⟨K1, K⟩ | ⟨K1, K2, K⟩
    all_goals
      go_enter Try.func17, Try.ntmps17
      go_wp2_with fail
      refine (implBucketOk_yes lv mo ra at' _ hk).mono ?_
      rintro e w1 ⟨rfl, b1⟩
      have X := hid (kept (laid w #[.int .i64 lv, .int .i64 mo, .int .i64 ra, .int .i64 at'] 24) b1)
      have c3 := box_cell X.out 3 (v := .int .i64 at') rfl
      have B1 := hid (catB (belowB _ _) b1)
      clear b1 X hk
      go_wp2_with fail
      go_ret
      exact ⟨rfl, B1.out⟩
  · go_enter Try.func17, Try.ntmps17
    go_wp2_with fail
    refine (implBucketOk_no lv mo ra at' _ hk).mono ?_
    rintro e w1 ⟨rfl, b1⟩
    have B1 := hid (catB (belowB _ _) b1)
    clear b1
    go_wp2_with fail
    go_ret
    exact ⟨rfl, B1.out⟩

/-- Two blocks that were just laid. -/
theorem laid2 (w : World) (cs ds : Array Value) (t u : TypeId) : ((w.alloc (.cells cs t)).alloc (.cells ds u)).heap[w.heap.size]? = some (.cells cs t (0, 0)) ∧ ((w.alloc (.cells cs t)).alloc (.cells ds u)).heap[w.heap.size + 1]? = some (.cells ds u (0, 0)) := by
  refine ⟨kept (laid w cs t) (belowB _ _), ?_⟩
  have := laid (w.alloc (.cells cs t)) ds u
  simpa using this
theorem below2 (w : World) (a b : Obj) : Below w.heap.size w ((w.alloc a).alloc b) := ((Below.refl _ _).alloc (Nat.le_refl _) _).alloc (by simp) _

theorem set4B {B g : Nat} {w w' : World} (h : Below B w w') (hg : B ≤ g) (a b c d : Value) : Below B w ((((w'.setCell ⟨g, 0, none⟩ a).setCell ⟨g, 1, none⟩ b).setCell ⟨g, 2, none⟩ c).setCell ⟨g, 3, none⟩ d) :=
  (((h.setCell (p := ⟨g, 0, none⟩) hg _).setCell (p := ⟨g, 1, none⟩) hg _).setCell (p := ⟨g, 2, none⟩) hg _).setCell (p := ⟨g, 3, none⟩) hg _

theorem set4C {g : Nat} {w : World} {a0 b0 c0 d0 : Value} {t : TypeId} (h : w.heap[g]? = some (.cells #[a0, b0, c0, d0] t (0, 0))) (a b c d : Value) :
    ∃ W, W = (((w.setCell ⟨g, 0, none⟩ a).setCell ⟨g, 1, none⟩ b).setCell ⟨g, 2, none⟩ c).setCell ⟨g, 3, none⟩ d ∧ W.cell? ⟨g, 0, none⟩ = some a ∧ W.cell? ⟨g, 1, none⟩ = some b ∧ W.cell? ⟨g, 2, none⟩ = some c ∧ W.cell? ⟨g, 3, none⟩ = some d := by
  have Z := set_block (set_block (set_block (set_block h 0 a) 1 b) 2 c) 3 d
  exact ⟨_, rfl, box_cell Z 0 rfl, box_cell Z 1 rfl, box_cell Z 2 rfl, box_cell Z 3 rfl⟩

set_option maxHeartbeats 2000000 in
theorem implBucketAt_no (lv mo ra at' now : Int) (w : World) (h : ¬ (bokP lv mo ra at' ∧ 0 ≤ now ∧ now ≤ 99999)) :
    Calls Try.prog 10 #[.agg #[.int .i64 lv, .int .i64 mo, .int .i64 ra, .int .i64 at'], .int .i64 now] w fun e w' => e = .returned (.agg #[.int .i64 0, .int .i64 0, .int .i64 0, .int .i64 0]) ∧ Below w.heap.size w w' := by
  by_cases hk : bokP lv mo ra at'
  · have K : now < 0 ∨ 99999 < now := by simp only [hk, true_and] at h; omega
    clear h
    go_enter Try.func10, Try.ntmps10
    go_wp2_with fail
    refine (implBucketOk_yes lv mo ra at' _ hk).mono ?_
    rintro e w1 ⟨rfl, b1⟩
    have Y := laid2 w #[.int .i64 lv, .int .i64 mo, .int .i64 ra, .int .i64 at'] #[.int .i64 0, .int .i64 0, .int .i64 0, .int .i64 0] 24 24
    have Y2 := hid (kept Y.2 b1)
    have B1 := hid (catB (below2 _ _ _) b1)
    have q0 := box_cell Y2.out 0 (v := .int .i64 0) rfl
    have q1 := box_cell Y2.out 1 (v := .int .i64 0) rfl
    have q2 := box_cell Y2.out 2 (v := .int .i64 0) rfl
    have q3 := box_cell Y2.out 3 (v := .int .i64 0) rfl
    have f0 := box_frozen Y2.out 0
    have f1 := box_frozen Y2.out 1
    have f2 := box_frozen Y2.out 2
    have f3 := box_frozen Y2.out 3
    have s2 : w.heap.size + 1 < w1.heap.size := lt_of_block Y2.out
    clear b1 Y
    go_wp2_with ((go_at_call 23; refine (time_no _ _ (by omega)).mono ?_; rintro e w2 ⟨rfl, hw⟩; subst hw))
    obtain ⟨W, hW, k0, k1, k2, k3⟩ := set4C Y2.out (.int .i64 0) (.int .i64 0) (.int .i64 0) (.int .i64 0)
    have HB := set4B B1.out (g := w.heap.size + 1) (by omega) (.int .i64 0) (.int .i64 0) (.int .i64 0) (.int .i64 0)
    rw [← hW] at HB ⊢
    refine bodyPost_ret (v := .agg #[.int .i64 0, .int .i64 0, .int .i64 0, .int .i64 0]) ?_ rfl ⟨rfl, HB⟩
    simp [results, Try.results10, go_sem, k0, k1, k2, k3]
  · clear h
    go_enter Try.func10, Try.ntmps10
    go_wp2_with fail
    refine (implBucketOk_no lv mo ra at' _ hk).mono ?_
    rintro e w1 ⟨rfl, b1⟩
    have Y := laid2 w #[.int .i64 lv, .int .i64 mo, .int .i64 ra, .int .i64 at'] #[.int .i64 0, .int .i64 0, .int .i64 0, .int .i64 0] 24 24
    have Y2 := hid (kept Y.2 b1)
    have B1 := hid (catB (below2 _ _ _) b1)
    have q0 := box_cell Y2.out 0 (v := .int .i64 0) rfl
    have q1 := box_cell Y2.out 1 (v := .int .i64 0) rfl
    have q2 := box_cell Y2.out 2 (v := .int .i64 0) rfl
    have q3 := box_cell Y2.out 3 (v := .int .i64 0) rfl
    have f0 := box_frozen Y2.out 0
    have f1 := box_frozen Y2.out 1
    have f2 := box_frozen Y2.out 2
    have f3 := box_frozen Y2.out 3
    have s2 : w.heap.size + 1 < w1.heap.size := lt_of_block Y2.out
    clear b1 Y
    go_wp2_with fail
    obtain ⟨W, hW, k0, k1, k2, k3⟩ := set4C Y2.out (.int .i64 0) (.int .i64 0) (.int .i64 0) (.int .i64 0)
    have HB := set4B B1.out (g := w.heap.size + 1) (by omega) (.int .i64 0) (.int .i64 0) (.int .i64 0) (.int .i64 0)
    rw [← hW] at HB ⊢
    refine bodyPost_ret (v := .agg #[.int .i64 0, .int .i64 0, .int .i64 0, .int .i64 0]) ?_ rfl ⟨rfl, HB⟩
    simp [results, Try.results10, go_sem, k0, k1, k2, k3]

set_option maxHeartbeats 2000000 in
theorem implBucketAt_old (lv mo ra at' now : Int) (w : World) (hk : bokP lv mo ra at') (h1 : 0 ≤ now) (h2 : now ≤ 99999) (h3 : now < at') :
    Calls Try.prog 10 #[.agg #[.int .i64 lv, .int .i64 mo, .int .i64 ra, .int .i64 at'], .int .i64 now] w fun e w' => e = .returned (.agg #[.int .i64 lv, .int .i64 mo, .int .i64 ra, .int .i64 at']) ∧ Below w.heap.size w w' := by
  go_enter Try.func10, Try.ntmps10
  go_wp2_with fail
  refine (implBucketOk_yes lv mo ra at' _ hk).mono ?_
  rintro e w1 ⟨rfl, b1⟩
  have Y := laid2 w #[.int .i64 lv, .int .i64 mo, .int .i64 ra, .int .i64 at'] #[.int .i64 0, .int .i64 0, .int .i64 0, .int .i64 0] 24 24
  have Y2 := hid (kept Y.2 b1)
  have Y1 := hid (kept Y.1 b1)
  have B1 := hid (catB (below2 _ _ _) b1)
  have q0 := box_cell Y2.out 0 (v := .int .i64 0) rfl
  have q1 := box_cell Y2.out 1 (v := .int .i64 0) rfl
  have q2 := box_cell Y2.out 2 (v := .int .i64 0) rfl
  have q3 := box_cell Y2.out 3 (v := .int .i64 0) rfl
  have f0 := box_frozen Y2.out 0
  have f1 := box_frozen Y2.out 1
  have f2 := box_frozen Y2.out 2
  have f3 := box_frozen Y2.out 3
  have s2 : w.heap.size + 1 < w1.heap.size := lt_of_block Y2.out
  clear b1 Y
  have p0 := box_cell Y1.out 0 (v := .int .i64 lv) rfl
  have p1 := box_cell Y1.out 1 (v := .int .i64 mo) rfl
  have p2 := box_cell Y1.out 2 (v := .int .i64 ra) rfl
  have p3 := box_cell Y1.out 3 (v := .int .i64 at') rfl
  go_wp2_with (first
    | (go_at_call 23; refine (time_yes _ _ (by omega)).mono ?_; rintro e w2 ⟨rfl, hw⟩; subst hw)
    | (go_at_call 18; refine (pour_none _ lv mo ra at' now _ Y1.out h3).mono ?_; rintro e w2 ⟨rfl, hw⟩; subst hw))
  obtain ⟨W, hW, k0, k1, k2, k3⟩ := set4C Y2.out (.int .i64 lv) (.int .i64 mo) (.int .i64 ra) (.int .i64 at')
  have HB := set4B B1.out (g := w.heap.size + 1) (by omega) (.int .i64 lv) (.int .i64 mo) (.int .i64 ra) (.int .i64 at')
  rw [← hW] at HB ⊢
  refine bodyPost_ret (v := .agg #[.int .i64 lv, .int .i64 mo, .int .i64 ra, .int .i64 at']) ?_ rfl ⟨rfl, HB⟩
  simp [results, Try.results10, go_sem, k0, k1, k2, k3]

set_option maxHeartbeats 2000000 in
theorem implBucketAt_new (lv mo ra at' now : Int) (w : World) (hk : bokP lv mo ra at') (h1 : at' ≤ now) (h2 : now ≤ 99999) :
    Calls Try.prog 10 #[.agg #[.int .i64 lv, .int .i64 mo, .int .i64 ra, .int .i64 at'], .int .i64 now] w fun e w' => e = .returned (.agg #[.int .i64 (min (lv + ra * (now - at')) mo), .int .i64 mo, .int .i64 ra, .int .i64 now]) ∧ Below w.heap.size w w' := by
  have h0 : 0 ≤ now := by have := hk.2.2.2.2.2.2.1; omega
  obtain ⟨x, hx⟩ : ∃ x, x = min (lv + ra * (now - at')) mo := ⟨_, rfl⟩
  rw [← hx]
  have HX := hid hx
  clear hx
  go_enter Try.func10, Try.ntmps10
  go_wp2_with fail
  refine (implBucketOk_yes lv mo ra at' _ hk).mono ?_
  rintro e w1 ⟨rfl, b1⟩
  have Y := laid2 w #[.int .i64 lv, .int .i64 mo, .int .i64 ra, .int .i64 at'] #[.int .i64 0, .int .i64 0, .int .i64 0, .int .i64 0] 24 24
  have Y2 := hid (kept Y.2 b1)
  have Y1 := hid (kept Y.1 b1)
  have B1 := hid (catB (below2 _ _ _) b1)
  clear b1 Y
  go_wp2_with ((go_at_call 23; refine (time_yes _ _ (by omega)).mono ?_; rintro e w2 ⟨rfl, hw⟩; subst hw))
  refine (pour_any _ lv mo ra at' now _ Y1.out hk h1 h2).mono ?_
  rintro e w2 ⟨rfl, z1, t2⟩
  rw [← HX.out] at z1
  have Z1 := hid z1
  have Z2 := hid ((t2.block (w.heap.size + 1) (by omega)).trans Y2.out)
  have B2 := hid (B1.out.trans (t2.below (Nat.le_refl _)))
  clear t2 z1
  have p0 := box_cell Z1.out 0 (v := .int .i64 x) rfl
  have p1 := box_cell Z1.out 1 (v := .int .i64 mo) rfl
  have p2 := box_cell Z1.out 2 (v := .int .i64 ra) rfl
  have p3 := box_cell Z1.out 3 (v := .int .i64 now) rfl
  have q0 := box_cell Z2.out 0 (v := .int .i64 0) rfl
  have q1 := box_cell Z2.out 1 (v := .int .i64 0) rfl
  have q2 := box_cell Z2.out 2 (v := .int .i64 0) rfl
  have q3 := box_cell Z2.out 3 (v := .int .i64 0) rfl
  have f0 := box_frozen Z2.out 0
  have f1 := box_frozen Z2.out 1
  have f2 := box_frozen Z2.out 2
  have f3 := box_frozen Z2.out 3
  have s2 : w.heap.size + 1 < w2.heap.size := lt_of_block Z2.out
  go_wp2_with fail
  obtain ⟨W, hW, k0, k1, k2, k3⟩ := set4C Z2.out (.int .i64 x) (.int .i64 mo) (.int .i64 ra) (.int .i64 now)
  have HB := set4B B2.out (g := w.heap.size + 1) (by omega) (.int .i64 x) (.int .i64 mo) (.int .i64 ra) (.int .i64 now)
  rw [← hW] at HB ⊢
  refine bodyPost_ret (v := .agg #[.int .i64 x, .int .i64 mo, .int .i64 ra, .int .i64 now]) ?_ rfl ⟨rfl, HB⟩
  simp [results, Try.results10, go_sem, k0, k1, k2, k3]
end Go.Proofs.Ytgdmhodipjfkoaa
