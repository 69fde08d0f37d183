/- A block that is drawn. -/
import Derived.Test.YtndgjgknkgmhfaaDoorBlkB
import Derived.Test.YtndgjgknkgmhfaaDoorDrawL
import Derived.Deep.RegionWith
import Derived.Deep.RegionLaw
import Derived.BigRegion
namespace Go.Proofs.YtndgjgknkgmhfaaDoor
open Go.ChangeShapes Go.WideShapes Go.ChangeAt Go.RowKit

set_option maxHeartbeats 1000000 in
theorem l15Block_any (g p n : Nat) (w : World) (hr : Rd w g p) (hp : p ≤ 1000000) (hn : n ≤ 100) :
    Calls Tryd.prog 24 #[.pointer (some ⟨g, 0, none⟩), .int .i64 n] w fun e w' => ∃ s, e = .returned (.string s) ∧ s.size = n ∧ Rd w' g (p + 2 * n) ∧ w.grownBy w' (some g) := by
  obtain ⟨i0, hi, hz0, hz1, hz2⟩ := info_parts Tryd.info5
  have hglt := hr.lt
  go_enter Tryd.func24, Tryd.ntmps24
  go_wp2
  go_loopw [5, 6] (fun v i wr => ∃ k : Nat, ∃ xs : List Int, k ≤ n ∧ i = .int .i64 k ∧ wr.ownsRow w.heap.size 5 1 v k (xs.map (Value.int .u8)) ∧ Rd wr g (p + 2 * k) ∧ w.grownBy wr (some g)) (fun _ i _ => n - (intOf i).toNat)
  case atStart =>
    exact ⟨0, [], by omega, rfl, World.ownsRow_lit w #[] 0 (Nat.le_refl _) (Nat.zero_le _) rfl, hr.kept ((Below.refl _ _).alloc (Nat.le_refl _) _), below_grown ((Below.refl _ _).alloc (Nat.le_refl _) _) _⟩
  case round =>
    obtain ⟨k, xs, hk, rfl, hown, hr1, hgr⟩ := hrel
    by_cases hlt : k < n
    · go_wp2_with fail
      refine (pick_any g (p + 2 * k) 4 _ hr1 (by omega) (by omega) (by omega)).mono ?_
      rintro e w2 ⟨r1, rfl, r1a, r1b, hr2, ht2⟩
      have hown2 := ht2.owns hown hglt
      have hgr2 := grown_trans hgr ht2.grown
      clear ht2 hown hgr
      go_wp2_with fail
      refine (pick_any g (p + 2 * k + 1) 80 _ hr2 (by omega) (by omega) (by omega)).mono ?_
      rintro e w3 ⟨r2, rfl, r2a, r2b, hr3, ht3⟩
      have hown3 := ht3.owns hown2 hglt
      have hgr3 := grown_trans hgr2 ht3.grown
      clear ht3 hown2 hgr2
      have hr12 : 0 ≤ r1 * r2 ∧ r1 * r2 ≤ 237 := by
        rcases (show r1 = 0 ∨ r1 = 1 ∨ r1 = 2 ∨ r1 = 3 from by omega) with rfl | rfl | rfl | rfl <;> omega
      obtain ⟨R, hR⟩ : ∃ R, R = r1 * r2 := ⟨_, rfl⟩
      rw [← hR] at hr12
      have hsz3 := hgr3.size
      go_wp2_with (at_builtin; refine append_one 22 5 i0 _ 1 Tryd.underlying22 hi hz0 hz1 hz2 rfl _ _ rfl rfl rfl rfl rfl rfl hown3 hsz3 (by omega) (by omega) ?_; intro v' w4 hown4 hb4)
      go_roundw
      case rel => exact ⟨k + 1, xs ++ [r1 * r2], by omega, by go_num, by rw [List.map_append]; exact hown4, hr3.keptB hb4 hglt, grown_then hgr3 hb4⟩
      case measure => simp [intOf]; omega
    · obtain rfl : k = n := by omega
      have hcv := owns_text (P := Tryd.prog) (src := 22) (dst := 9) hown Tryd.underlying22 Tryd.underlying5 Tryd.underlying9
      have hxl : xs.length = k := by simpa using hown.1
      have HW := hid (And.intro hxl (And.intro hr1 hgr))
      clear hown hr1 hgr hxl hr
      go_wp2
      go_ret
      exact ⟨_, rfl, by rw [strOfNums_size]; exact HW.out.1, HW.out.2⟩
end Go.Proofs.YtndgjgknkgmhfaaDoor
