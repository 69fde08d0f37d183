/- The walk of the law on RowDraw. -/
import Derived.Test.YtdgnpgcledljcaaDoorDrawJ
import Derived.Test.YtdgnpgcledljcaaDoorInts
namespace Go.Proofs.YtdgnpgcledljcaaDoor
open Go.ChangeShapes Go.WideShapes Go.ChangeAt Go.RowKit

theorem implRowDraw_out (c s : Int) (w : World) (h : ¬ ((1 ≤ c ∧ c ≤ 24) ∧ 0 ≤ s ∧ s ≤ 2147483647)) :
    Calls Tryd.prog 12 #[.int .i64 c, .int .i64 s] w fun e w' => ∃ v, e = .returned v ∧ w'.ownsRow w.heap.size 3 1 v ([] : List Int).length (([] : List Int).map (Value.int .i64)) ∧ Below w.heap.size w w' := by
  by_cases hs : 0 ≤ s ∧ s ≤ 2147483647
  · by_cases hc : c < 1
    · clear h
      go_enter Tryd.func12, Tryd.ntmps12
      go_wp2_with (go_at_call 20; refine (seedOf_in s _ hs.1 hs.2).mono ?_; rintro e w' ⟨rfl, hq⟩; replace hq := hq.symm; subst hq)
      go_ret
      exact ⟨_, rfl, World.ownsRow_nil _ _ _ _, Below.refl _ _⟩
    · have hc2 : (24 : Int) < c := by omega
      clear h
      go_enter Tryd.func12, Tryd.ntmps12
      go_wp2_with (go_at_call 20; refine (seedOf_in s _ hs.1 hs.2).mono ?_; rintro e w' ⟨rfl, hq⟩; replace hq := hq.symm; subst hq)
      go_ret
      exact ⟨_, rfl, World.ownsRow_nil _ _ _ _, Below.refl _ _⟩
  · have hs2 : s < 0 ∨ 2147483647 < s := by omega
    clear h hs
    go_enter Tryd.func12, Tryd.ntmps12
    go_wp2_with (go_at_call 20; refine (seedOf_out s _ hs2).mono ?_; rintro e w' ⟨rfl, hq⟩; replace hq := hq.symm; subst hq)
    go_ret
    exact ⟨_, rfl, World.ownsRow_nil _ _ _ _, Below.refl _ _⟩

theorem specRowDraw_in (count : Nat) (seed : Int) (w : World) (h1 : 1 ≤ count) (h2 : count ≤ 24) (s1 : 0 ≤ seed) (s2 : seed ≤ 2147483647) :
    Calls Tryd.prog 11 #[.int .i64 count, .int .i64 seed] w fun e w' => ∃ v, e = .returned v ∧ w'.ownsRow w.heap.size 3 1 v (drawI count seed).length ((drawI count seed).map (Value.int .i64)) ∧ Below w.heap.size w w' := by
  go_enter Tryd.func11, Tryd.ntmps11
  go_wp2_with (first
    | (go_at_call 18; refine (l1In_yes _ _ _ _ (by omega)).mono ?_; rintro e w' ⟨rfl, hq⟩; replace hq := hq.symm; subst hq)
    | (go_at_call 19; refine (l4Row_any count seed _ h1 h2 s1 s2).mono ?_; rintro e w' ⟨v, rfl, ho, hb⟩))
  go_ret
  exact ⟨_, rfl, ho, hb⟩
theorem specRowDraw_out (c s : Int) (w : World) (h : ¬ ((1 ≤ c ∧ c ≤ 24) ∧ 0 ≤ s ∧ s ≤ 2147483647)) :
    Calls Tryd.prog 11 #[.int .i64 c, .int .i64 s] w fun e w' => ∃ v, e = .returned v ∧ w'.ownsRow w.heap.size 3 1 v ([] : List Int).length (([] : List Int).map (Value.int .i64)) ∧ Below w.heap.size w w' := by
  by_cases hc : 1 ≤ c ∧ c ≤ 24
  · have hs : s < 0 ∨ 2147483647 < s := by omega
    clear h
    go_enter Tryd.func11, Tryd.ntmps11
    go_wp2_with (first
      | (go_at_call 18; refine (l1In_yes _ _ _ _ (by omega)).mono ?_; rintro e w' ⟨rfl, hq⟩; replace hq := hq.symm; subst hq)
      | (go_at_call 18; refine (l1In_no _ _ _ _ (by omega)).mono ?_; rintro e w' ⟨rfl, hq⟩; replace hq := hq.symm; subst hq))
    go_ret
    exact ⟨_, rfl, World.ownsRow_lit _ #[] 0 (Nat.le_refl _) (Nat.zero_le _) rfl, (Below.refl _ _).alloc (Nat.le_refl _) _⟩
  · have hc2 : c < 1 ∨ 24 < c := by omega
    clear h hc
    go_enter Tryd.func11, Tryd.ntmps11
    go_wp2_with (go_at_call 18; refine (l1In_no _ _ _ _ (by omega)).mono ?_; rintro e w' ⟨rfl, hq⟩; replace hq := hq.symm; subst hq)
    go_ret
    exact ⟨_, rfl, World.ownsRow_lit _ #[] 0 (Nat.le_refl _) (Nat.zero_le _) rfl, (Below.refl _ _).alloc (Nat.le_refl _) _⟩

set_option maxHeartbeats 1000000 in
theorem rowDraw_law (c s : Int) (D : List Int) (hD : D.length ≤ 1000) (w : World) (hT : Tab w)
    (hs : ∀ w : World, Calls Tryd.prog 11 #[.int .i64 c, .int .i64 s] w fun e w' => ∃ v, e = .returned v ∧ w'.ownsRow w.heap.size 3 1 v D.length (D.map (Value.int .i64)) ∧ Below w.heap.size w w')
    (hi : ∀ w : World, Tab w → Calls Tryd.prog 12 #[.int .i64 c, .int .i64 s] w fun e w' => ∃ v, e = .returned v ∧ w'.ownsRow w.heap.size 3 1 v D.length (D.map (Value.int .i64)) ∧ Below w.heap.size w w') :
    Calls Tryd.prog 4 #[.int .i64 c, .int .i64 s] w fun e w' => e = .returned (.bool true) ∧ Below w.heap.size w w' := by
  go_enter Tryd.func4, Tryd.ntmps4
  go_wp2_with fail
  refine (hs _).mono ?_
  rintro e w1 ⟨v0, rfl, o0, b1⟩
  obtain ⟨a0, c0, rfl, -, -⟩ := owns_ints o0
  go_wp2_with fail
  refine (hi _ (hT.below b1)).mono ?_
  rintro e w2 ⟨v1, rfl, o1, b2⟩
  obtain ⟨a1, c1, rfl, -, i1⟩ := owns_ints o1
  go_wp2_with fail
  refine (eqIntS_any a1 a0 c1 c0 D D w2 i1 (owns_at (owns_below o0 b2)) (by omega)).mono ?_
  rintro e w2' ⟨rfl, n1, rfl⟩
  have b3 : Below w1.heap.size w1 (w2.drewN n1) := below_drewN b2 n1
  go_wp2_with fail
  refine (markIntS_any w1.heap.size _ D.length D 1 (w2.drewN n1) o1 (by omega) (by omega) (by omega)).mono ?_
  rintro e w3 ⟨rfl, o3, g3⟩
  have b4 : Below w1.heap.size w1 w3 := b3.trans (grown_base g3 o1 b3.size)
  have b4w : Below w.heap.size w w3 := b1.trans (b4.mono b1.size)
  go_wp2_with fail
  refine (heldIntS_any a1 c1 D.length 1 w3 (owns_at o3) (by omega) (by omega) (by omega)).mono ?_
  rintro e w' ⟨rfl, hq⟩
  replace hq := hq.symm
  subst hq
  go_wp2_with fail
  refine (hi _ (hT.below b4w)).mono ?_
  rintro e w4 ⟨v2, rfl, o4, b5⟩
  obtain ⟨a2, c2, rfl, -, i4⟩ := owns_ints o4
  have b6 : Below w1.heap.size w1 w4 := b4.trans (b5.mono b4.size)
  go_wp2_with fail
  refine (eqIntS_any a2 a0 c2 c0 D D w4 i4 (owns_at (owns_below o0 b6)) (by omega)).mono ?_
  rintro e w4' ⟨rfl, n2, rfl⟩
  go_wp2_with fail
  refine (heldIntS_any a1 c1 D.length 1 (w4.drewN n2) ((owns_at (owns_below o3 b5)).drewN n2) (by omega) (by omega) (by omega)).mono ?_
  rintro e w' ⟨rfl, hq⟩
  replace hq := hq.symm
  subst hq
  go_wp2_with fail
  go_ret
  exact ⟨rfl, b1.trans (below_drewN (b6.mono b1.size) n2)⟩

theorem walk_FnExactRowDraw (a0 : Int) (a1 : Int) (w : World) (_w0 : (Lit.int .i64 a0).wf = true) (_w1 : (Lit.int .i64 a1).wf = true) (hT : Tab w) :
    Calls Tryd.prog 4 #[.int .i64 a0, .int .i64 a1] w fun e w' => e = .returned (.bool true) ∧ Below w.heap.size w w' := by
  by_cases h : (1 ≤ a0 ∧ a0 ≤ 24) ∧ 0 ≤ a1 ∧ a1 ≤ 2147483647
  · obtain ⟨⟨h1, h2⟩, h3, h4⟩ := h
    obtain ⟨count, rfl⟩ := Int.eq_ofNat_of_zero_le (show 0 ≤ a0 by omega)
    have hl := (drawSt_len count (nx (nx a1)) (drawN count a1) (drawN_le count a1 (by omega))).2
    have hn := drawN_le count a1 (by omega)
    exact rowDraw_law _ a1 (drawI count a1) (by unfold drawI; omega) w hT (fun w => specRowDraw_in count a1 w (by omega) (by omega) h3 h4) (fun w hT => implRowDraw_in count a1 w (by omega) (by omega) h3 h4 hT)
  · exact rowDraw_law a0 a1 [] (by simp) w hT (fun w => specRowDraw_out a0 a1 w h) (fun w _ => implRowDraw_out a0 a1 w h)
end Go.Proofs.YtdgnpgcledljcaaDoor
