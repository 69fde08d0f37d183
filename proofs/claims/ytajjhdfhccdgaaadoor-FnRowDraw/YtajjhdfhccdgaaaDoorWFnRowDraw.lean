/- The walk of the law that a drawn row is a row. -/
import Derived.Test.YtajjhdfhccdgaaaDoorDrawR
import Derived.Test.YtajjhdfhccdgaaaDoorDrawP
import Derived.Test.YtajjhdfhccdgaaaDoorWhInts
import Derived.Test.YtajjhdfhccdgaaaDoorWhIn
import Derived.Test.YtajjhdfhccdgaaaDoorRowI
namespace Go.Proofs.YtajjhdfhccdgaaaDoor
open Go.ChangeShapes Go.WideShapes Go.ChangeAt Go.RowKit

/-- What both answer at a count and a seed. -/
def DrawSays (f g : Nat) (c s : Int) (D : List Int) : Prop :=
  D.length ≤ 24 ∧
  (∀ w : World, Tab w → Calls Tryd.prog f #[.int .i64 c, .int .i64 s] w fun e w' => ∃ v, e = .returned v ∧ w'.ownsRow w.heap.size 3 1 v D.length (D.map (Value.int .i64)) ∧ Below w.heap.size w w') ∧
  (∀ w : World, Calls Tryd.prog g #[.int .i64 c, .int .i64 s] w fun e w' => ∃ v, e = .returned v ∧ w'.ownsRow w.heap.size 3 1 v D.length (D.map (Value.int .i64)) ∧ Below w.heap.size w w') ∧
  (((c < 1 ∨ 24 < c ∨ s < 0 ∨ 2147483647 < s) ∧ D = []) ∨ ((1 ≤ c ∧ c ≤ 24) ∧ (0 ≤ s ∧ s ≤ 2147483647) ∧ rowOkB D c = true ∧ 1 ≤ D.length ∧ (D.length : Int) ≤ c))
theorem draw_says (c s : Int) : ∃ D, DrawSays 13 14 c s D := by
  by_cases h : (1 ≤ c ∧ c ≤ 24) ∧ 0 ≤ s ∧ s ≤ 2147483647
  · obtain ⟨⟨h1, h2⟩, h3, h4⟩ := h
    obtain ⟨count, rfl⟩ := Int.eq_ofNat_of_zero_le (show 0 ≤ c by omega)
    obtain ⟨k1, k2, k3⟩ := drawI_ok count s (by omega) (by omega)
    exact ⟨drawI count s, by omega, fun w hT => implRowDraw_in count s w (by omega) (by omega) h3 h4 hT, fun w => specRowDraw_in count s w (by omega) (by omega) h3 h4, .inr ⟨⟨h1, h2⟩, ⟨h3, h4⟩, k1, k2, by omega⟩⟩
  · exact ⟨[], by simp, fun w _ => implRowDraw_out c s w h, fun w => specRowDraw_out c s w h, .inl ⟨by omega, rfl⟩⟩

set_option maxHeartbeats 1000000 in
theorem walk_FnRowDraw (a0 : Option Addr) (len0 cap0 : Nat) (z0 : List Int) (w : World) (w0 : IsRow .u8 w a0 len0 cap0 z0) (hT : Tab w) :
    Calls Tryd.prog 4 #[.slice a0 len0 cap0] w fun e w' => e = .returned (.bool true) ∧ Below w.heap.size w w' := by
  by_cases h : 1048576 < len0
  · have h' : (1048576 : Int) < (len0 : Int) := by omega
    clear w0 hT
    go_enter Tryd.func4, Tryd.ntmps4
    go_wp2
    go_ret
    exact ⟨rfl, Below.refl _ _⟩
  · have h' : ¬ (1048576 : Int) < (len0 : Int) := by omega
    go_enter Tryd.func4, Tryd.ntmps4
    go_wp2_with fail
    refine (drawRowDraw a0 len0 cap0 z0 w w0).mono ?_
    rintro e w1 ⟨c, s, rfl, hc1, hc2, hs1, hs2, bel⟩
    clear w0 h
    obtain ⟨D, hl, hi, hs, hcase⟩ := draw_says c s
    have HT := hid (hT.below bel)
    have HB := hid bel
    clear hT bel
    go_wp2_with fail
    refine (hi _ HT.out).mono ?_
    rintro e w2 ⟨v1, rfl, o1, b1⟩
    obtain ⟨a1, c1, rfl, -, i1⟩ := owns_ints o1
    go_wp2_with fail
    refine (hs _).mono ?_
    rintro e w3 ⟨v2, rfl, o2, b2⟩
    obtain ⟨a2, c2, rfl, -, i2⟩ := owns_ints o2
    have i3 := i1.below b2
    go_wp2_with fail
    refine (whInts_any a1 a2 c1 c2 D D w3 i3 i2 (by omega)).mono ?_
    rintro e w3' ⟨rfl, n1, rfl⟩
    have b3 : Below w1.heap.size w1 (w3.drewN n1) := below_drewN (b1.trans (b2.mono b1.size)) n1
    have HB3 := hid b3
    have i4 := i3.drewN n1
    clear b1 b2 b3 i1 i2 i3 o1 o2
    go_wp2_with fail
    refine (hi _ (HT.out.below HB3.out)).mono ?_
    rintro e w4 ⟨v3, rfl, o3, b4⟩
    obtain ⟨a3, c3, rfl, -, i5⟩ := owns_ints o3
    have i6 := i4.below b4
    go_wp2_with fail
    refine (whInts_any a1 a3 c1 c3 D D w4 i6 i5 (by omega)).mono ?_
    rintro e w4' ⟨rfl, n2, rfl⟩
    have HB5 : Hid (Below w.heap.size w (w4.drewN n2)) := below_drewN ((HB.out.trans (HB3.out.mono HB.out.size)).trans (b4.mono (HB.out.trans (HB3.out.mono HB.out.size)).size)) n2
    have i7 := i6.drewN n2
    clear b4 i4 i5 i6 o3 hi hs
    rcases hcase with ⟨hout, rfl⟩ | ⟨⟨hc3, hc4⟩, ⟨hs3, hs4⟩, hok, hl1, hl2⟩
    · by_cases hcc : c < 1 ∨ 24 < c
      · go_wp2_with (go_at_call 15; refine (whIn_no _ _ _ _ (by omega)).mono ?_; rintro e w' ⟨rfl, hq⟩; replace hq := hq.symm; subst hq)
        go_ret
        exact ⟨rfl, HB5.out⟩
      · go_wp2_with (first
          | (go_at_call 15; refine (whIn_yes _ _ _ _ (by omega) (by omega)).mono ?_; rintro e w' ⟨rfl, hq⟩; replace hq := hq.symm; subst hq)
          | (go_at_call 15; refine (whIn_no _ _ _ _ (by omega)).mono ?_; rintro e w' ⟨rfl, hq⟩; replace hq := hq.symm; subst hq))
        go_ret
        exact ⟨rfl, HB5.out⟩
    · have HI := hid i7
      have HOK := hid hok
      clear i7 hok
      go_wp2_with (first
        | (go_at_call 15; refine (whIn_yes _ _ _ _ (by omega) (by omega)).mono ?_; rintro e w' ⟨rfl, hq⟩; replace hq := hq.symm; subst hq)
        | (go_at_call 9; refine (implRowOk_in a1 c1 D c _ HI.out (by omega)).mono ?_; rintro e w' ⟨rfl, hq⟩; replace hq := hq.symm; subst hq; rw [HOK.out]))
      go_ret
      exact ⟨rfl, HB5.out⟩
end Go.Proofs.YtajjhdfhccdgaaaDoor
