/- The walk of the promise on what is in just one of two rows. -/
import Derived.Test.YtndgjgknkgmhfaaDoorDrawX
import Derived.Test.YtndgjgknkgmhfaaDoorWhHas
import Derived.Test.YtndgjgknkgmhfaaDoorWhInts
import Derived.Test.YtndgjgknkgmhfaaDoorXorC
import Derived.Test.YtndgjgknkgmhfaaDoorRowI
namespace Go.Proofs.YtndgjgknkgmhfaaDoor
open Go.ChangeShapes Go.WideShapes Go.ChangeAt Go.RowKit

theorem bcatX {a b c : World} (h : Below a.heap.size a b) (k : Below b.heap.size b c) : Below a.heap.size a c := h.trans (k.mono h.size)
theorem rowOk24 (xs : List Int) : rowOkB xs 24 = ascB (-1) 24 xs := by simp [rowOkB]

set_option maxHeartbeats 8000000 in
theorem walk_FnRowXor (a0 : Option Addr) (len0 cap0 : Nat) (z0 : List Int) (w : World) (w0 : IsRow .u8 w a0 len0 cap0 z0) (hT : Tab w) :
    Calls Tryd.prog 3 #[.slice a0 len0 cap0] w fun e w' => e = .returned (.bool true) ∧ Below w.heap.size w w' := by
  by_cases h : len0 ≤ 1048576
  · have h' : ¬ (1048576 : Int) < (len0 : Int) := by omega
    have W0 := hid w0
    have HT := hid hT
    clear w0 hT
    go_enter Tryd.func3, Tryd.ntmps3
    go_wp2_with fail
    refine (drawRowXor a0 len0 cap0 z0 _ W0.out).mono ?_
    rintro e w1 ⟨p, c, q, d, xs, ys, rfl, i1, i2, hx, hy, b1⟩
    have hl := xorR_len xs ys
    have I1 := hid i1
    have I2 := hid i2
    have B1 := hid b1
    clear i1 i2 b1 W0
    go_wp2_with fail
    refine (implRowXor_any p q c d xs ys _ I1.out I2.out (by omega) (by omega) (HT.out.below B1.out)).mono ?_
    rintro e w2 ⟨v2, rfl, o2, b2⟩
    obtain ⟨x, f, rfl, -, i3⟩ := owns_ints o2
    have J1 := hid (I1.out.below b2)
    have J2 := hid (I2.out.below b2)
    have J3 := hid i3
    have B2 := hid (bcatX B1.out b2)
    clear o2 i3 b2 I1 I2 B1
    go_wp2_with fail
    refine (specRowXor_any p q c d xs ys _ J1.out J2.out (by omega) (by omega)).mono ?_
    rintro e w3 ⟨v3, rfl, o3, b3⟩
    obtain ⟨y, g, rfl, -, i4⟩ := owns_ints o3
    go_wp2_with fail
    refine (whInts_any x y f g (xorR xs ys) (xorR xs ys) _ (J3.out.below b3) i4 (by omega)).mono ?_
    rintro e w4 ⟨rfl, n4, rfl⟩
    have D4 := below_drewN b3 n4
    have I1 := hid (J1.out.below D4)
    have I2 := hid (J2.out.below D4)
    have I3 := hid (J3.out.below D4)
    have B4 := hid (bcatX B2.out D4)
    clear o3 i4 b3 D4 J1 J2 J3 B2
    go_wp2_with fail
    refine (implRowOk_in p c xs 24 _ I1.out (by omega)).mono ?_
    rintro e w5 ⟨rfl, hw⟩
    subst hw
    go_wp2_with fail
    refine (specRowOk_any p c xs 24 _ I1.out (by omega) (by omega) (by omega)).mono ?_
    rintro e w6 ⟨rfl, d6⟩
    have J1 := hid (I1.out.below (d6.below _))
    have J2 := hid (I2.out.below (d6.below _))
    have J3 := hid (I3.out.below (d6.below _))
    have B6 := hid (bcatX B4.out (d6.below _))
    clear d6 I1 I2 I3 B4
    go_wp2_with fail
    refine (specRowOk_any p c xs 24 _ J1.out (by omega) (by omega) (by omega)).mono ?_
    rintro e w7 ⟨rfl, d7⟩
    have I1 := hid (J1.out.below (d7.below _))
    have I2 := hid (J2.out.below (d7.below _))
    have I3 := hid (J3.out.below (d7.below _))
    have B7 := hid (bcatX B6.out (d7.below _))
    clear d7 J1 J2 J3 B6
    rw [rowOk24]
    cases h1 : ascB (-1) 24 xs with
    | false =>
      clear h1
      go_wp2_with fail
      refine (specRowXor_any p q c d xs ys _ I1.out I2.out (by omega) (by omega)).mono ?_
      rintro e wa ⟨va, rfl, oa, ba⟩
      obtain ⟨ya, ga, rfl, -, ia⟩ := owns_ints oa
      go_wp2_with fail
      refine (whInts_any x ya f ga (xorR xs ys) (xorR xs ys) _ (I3.out.below ba) ia (by omega)).mono ?_
      rintro e wb ⟨rfl, nb, rfl⟩
      have Db := below_drewN ba nb
      go_wp2_with fail
      go_ret
      exact ⟨ret_bool (by simp), bcatX B7.out Db⟩
    | true =>
      have H1 := hid h1
      clear h1
      go_wp2_with fail
      refine (specRowOk_any q d ys 24 _ I2.out (by omega) (by omega) (by omega)).mono ?_
      rintro e w8 ⟨rfl, d8⟩
      have J1 := hid (I1.out.below (d8.below _))
      have J2 := hid (I2.out.below (d8.below _))
      have J3 := hid (I3.out.below (d8.below _))
      have B8 := hid (bcatX B7.out (d8.below _))
      clear d8 I1 I2 I3 B7
      rw [rowOk24]
      cases h2 : ascB (-1) 24 ys with
      | false =>
        clear h2
        go_wp2_with fail
        refine (specRowXor_any p q c d xs ys _ J1.out J2.out (by omega) (by omega)).mono ?_
        rintro e wa ⟨va, rfl, oa, ba⟩
        obtain ⟨ya, ga, rfl, -, ia⟩ := owns_ints oa
        go_wp2_with fail
        refine (whInts_any x ya f ga (xorR xs ys) (xorR xs ys) _ (J3.out.below ba) ia (by omega)).mono ?_
        rintro e wb ⟨rfl, nb, rfl⟩
        have Db := below_drewN ba nb
        go_wp2_with fail
        go_ret
        exact ⟨ret_bool (by simp), bcatX B8.out Db⟩
      | true =>
        have H2 := hid h2
        have HA := hid (xorR_asc H1.out h2)
        have HK := hid (xorR_back H1.out h2)
        have HW := hid (xorR_swap H1.out h2)
        have HH := hid (xorR_has H1.out h2)
        have T8 := hid (HT.out.below B8.out)
        clear h2
        go_wp2_with fail
        go_loop [6] (fun i => ∃ k : Nat, k ≤ 24 ∧ i = .int .i64 k) (fun i => 24 - (intOf i).toNat)
        case atStart => exact ⟨0, Nat.zero_le _, rfl⟩
        case round =>
          obtain ⟨k, hk, rfl⟩ := hrel
          by_cases hlt : k < 24
          · have hq := HH.out (k : Int)
            cases e1 : decide ((k : Int) ∈ xs) <;> cases e2 : decide ((k : Int) ∈ ys) <;> cases e3 : decide ((k : Int) ∈ xorR xs ys) <;> rw [e1, e2, e3] at hq <;> first
              | (exfalso; revert hq; decide)
              | (have E1 := hid e1
                 have E2 := hid e2
                 have E3 := hid e3
                 clear e1 e2 e3 hq
                 go_wp2_with fail
                 refine (whHas_any x f (xorR xs ys) k _ J3.out (by omega)).mono ?_
                 rintro e wa ⟨rfl, hw⟩
                 rw [E3.out]
                 subst hw
                 go_wp2_with fail
                 refine (whHas_any p c xs k _ J1.out (by omega)).mono ?_
                 rintro e wa ⟨rfl, hw⟩
                 rw [E1.out]
                 subst hw
                 go_wp2_with fail
                 refine (whHas_any q d ys k _ J2.out (by omega)).mono ?_
                 rintro e wa ⟨rfl, hw⟩
                 rw [E2.out]
                 subst hw
                 go_wp2_with fail
                 go_round
                 case rel => exact ⟨k + 1, by omega, by go_num⟩
                 case measure => simp [intOf]; omega)
          · go_wp2_with fail
            refine (implRowOk_in x f (xorR xs ys) 24 _ J3.out (by omega)).mono ?_
            rintro e wa ⟨rfl, hw⟩
            subst hw
            rw [rowOk24, HA.out]
            go_wp2_with fail
            refine (implRowXor_any x q f d (xorR xs ys) ys _ J3.out J2.out (by omega) (by omega) T8.out).mono ?_
            rintro e wb ⟨vb, rfl, ob, bb⟩
            rw [HK.out] at ob
            obtain ⟨xb, fb, rfl, -, ib⟩ := owns_ints ob
            go_wp2_with fail
            refine (whInts_any xb p fb c xs xs _ ib (J1.out.below bb) (by omega)).mono ?_
            rintro e wc ⟨rfl, nc, rfl⟩
            have Dc := hid (below_drewN bb nc)
            clear ob ib bb
            go_wp2_with fail
            refine (implRowXor_any q p d c ys xs _ (J2.out.below Dc.out) (J1.out.below Dc.out) (by omega) (by omega) (T8.out.below Dc.out)).mono ?_
            rintro e wd ⟨vd, rfl, od, bd⟩
            rw [HW.out] at od
            obtain ⟨xd, fd, rfl, -, id'⟩ := owns_ints od
            go_wp2_with fail
            refine (whInts_any xd x fd f (xorR xs ys) (xorR xs ys) _ id' ((J3.out.below Dc.out).below bd) (by omega)).mono ?_
            rintro e we ⟨rfl, ne, rfl⟩
            go_wp2_with fail
            go_ret
            exact ⟨ret_bool (by simp), bcatX (bcatX B8.out Dc.out) (below_drewN bd ne)⟩
  · have h' : (1048576 : Int) < (len0 : Int) := by omega
    clear w0
    go_enter Tryd.func3, Tryd.ntmps3
    go_wp2
    go_ret
    exact ⟨rfl, Below.refl _ _⟩
end Go.Proofs.YtndgjgknkgmhfaaDoor
