/- The draw of two blocks. -/
import Derived.Test.YtefpjomhedlpnaaBlkR
namespace Go.Proofs.Ytefpjomhedlpnaa
open Go.ChangeShapes Go.WideShapes Go.ChangeAt Go.RowKit

set_option maxHeartbeats 1000000 in
theorem drawBlockXor (a : Option Addr) (len cap : Nat) (zs : List Int) (w : World) (h : Bytes w a len cap zs) :
    Calls Try.prog 6 #[.slice a len cap] w fun e w' => ∃ s t, e = .returned (.tuple #[.string s, .string t]) ∧ s.size ≤ 17 ∧ t.size ≤ 17 ∧ Below w.heap.size w w' := by
  go_enter Try.func6, Try.ntmps6
  go_wp2_with fail
  refine (l1Open_any a len cap zs _ h).mono ?_
  rintro e w1 ⟨rfl, hr1, hb1⟩
  have HB := hid hb1
  clear h hb1
  obtain ⟨G, hG⟩ : ∃ G, G = w.heap.size := ⟨_, rfl⟩
  rw [← hG] at hr1 ⊢
  have HG := hid hG
  clear hG
  go_wp2_with fail
  refine (pick_any G 0 17 _ hr1 (by omega) (by omega) (by omega)).mono ?_
  rintro e w2 ⟨r1, rfl, r1a, r1b, hr2, ht2⟩
  obtain ⟨n, rfl⟩ := Int.eq_ofNat_of_zero_le r1a
  have H2 := hid ht2
  clear ht2 hr1
  go_wp2_with fail
  refine (pick_any G (0 + 1) 10 _ hr2 (by omega) (by omega) (by omega)).mono ?_
  rintro e w3 ⟨r2, rfl, r2a, r2b, hr3, ht3⟩
  have H3 := hid ht3
  clear ht3 hr2
  by_cases hz : r2 = 0
  · go_wp2_with fail
    refine (l15Block_any G (0 + 1 + 1) n _ hr3 (by omega) (by omega)).mono ?_
    rintro e w4 ⟨s, rfl, s1, hr4, hg4⟩
    have H4 := hid hg4
    clear hg4 hr3
    go_wp2_with fail
    refine (l15Block_any G (0 + 1 + 1 + 2 * n) (n + 1) _ hr4 (by omega) (by omega)).mono ?_
    rintro e w5 ⟨t, rfl, s2, hr5, hg5⟩
    go_wp2_with fail
    go_ret2
    refine ⟨_, _, rfl, by omega, by omega, ?_⟩
    have hg := HG.out
    subst hg
    have q1 := HB.out.trans (H2.out.below (Nat.le_refl _))
    have q2 := q1.trans (H3.out.below (Nat.le_refl _))
    have q3 := q2.trans (grown_below H4.out (Nat.le_refl _) q2.size)
    exact q3.trans (grown_below hg5 (Nat.le_refl _) q3.size)
  · have hz' : (r2 == 0) = false := by rw [beq_eq_false_iff_ne]; exact hz
    go_wp2_with fail
    refine (l15Block_any G (0 + 1 + 1) n _ hr3 (by omega) (by omega)).mono ?_
    rintro e w4 ⟨s, rfl, s1, hr4, hg4⟩
    have H4 := hid hg4
    clear hg4 hr3
    go_wp2_with fail
    refine (l15Block_any G (0 + 1 + 1 + 2 * n) n _ hr4 (by omega) (by omega)).mono ?_
    rintro e w5 ⟨t, rfl, s2, hr5, hg5⟩
    go_wp2_with fail
    go_ret2
    refine ⟨_, _, rfl, by omega, by omega, ?_⟩
    have hg := HG.out
    subst hg
    have q1 := HB.out.trans (H2.out.below (Nat.le_refl _))
    have q2 := q1.trans (H3.out.below (Nat.le_refl _))
    have q3 := q2.trans (grown_below H4.out (Nat.le_refl _) q2.size)
    exact q3.trans (grown_below hg5 (Nat.le_refl _) q3.size)
end Go.Proofs.Ytefpjomhedlpnaa
