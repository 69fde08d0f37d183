/- The draw of a count and a seed. -/
import Derived.Test.YtajjhdfhccdgaaaDoorDrawL
import Derived.Deep.RegionWith
import Derived.BigRegion
namespace Go.Proofs.YtajjhdfhccdgaaaDoor
open Go.ChangeShapes Go.WideShapes Go.ChangeAt Go.RowKit

set_option maxHeartbeats 1000000 in
theorem drawRowDraw (a : Option Addr) (len cap : Nat) (zs : List Int) (w : World) (h : Bytes w a len cap zs) :
    Calls Tryd.prog 12 #[.slice a len cap] w fun e w' => ∃ c s : Int, e = .returned (.tuple #[.int .i64 c, .int .i64 s]) ∧ 0 ≤ c ∧ c ≤ 26 ∧ -1 ≤ s ∧ s ≤ 2147483648 ∧ Below w.heap.size w w' := by
  go_enter Tryd.func12, Tryd.ntmps12
  go_wp2_with fail
  refine (l1Open_any a len cap zs _ h).mono ?_
  rintro e w1 ⟨rfl, hr1, hb1⟩
  have HB := hid hb1
  clear h hb1
  obtain ⟨G, hG⟩ : ∃ G, G = w.heap.size := ⟨_, rfl⟩
  rw [← hG] at hr1 ⊢
  have HG := hid hG
  clear hG
  go_wp2_with fail
  refine (pick_any G 0 27 _ hr1 (by omega) (by omega) (by omega)).mono ?_
  rintro e w2 ⟨r1, rfl, r1a, r1b, hr2, ht2⟩
  have H2 := hid ht2
  clear ht2 hr1
  go_wp2_with fail
  refine (l15Seed_any G (0 + 1) _ hr2 (by omega)).mono ?_
  rintro e w3 ⟨s, rfl, s1, s2, hr3, hg3⟩
  go_wp2_with fail
  go_ret2
  refine ⟨_, _, rfl, by omega, by omega, by omega, by omega, ?_⟩
  have hg := HG.out
  subst hg
  have q1 := HB.out.trans (H2.out.below (Nat.le_refl _))
  exact q1.trans (grown_below hg3 (Nat.le_refl _) q1.size)
end Go.Proofs.YtajjhdfhccdgaaaDoor
