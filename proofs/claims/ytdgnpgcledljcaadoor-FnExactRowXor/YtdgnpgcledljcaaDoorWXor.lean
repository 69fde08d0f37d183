/- The walk of the law on RowXor. -/
import Derived.Test.YtdgnpgcledljcaaDoorXorB
namespace Go.Proofs.YtdgnpgcledljcaaDoor
open Go.ChangeShapes Go.WideShapes Go.ChangeAt Go.RowKit

theorem bcat {a b c : World} (h : Below a.heap.size a b) (k : Below b.heap.size b c) : Below a.heap.size a c := h.trans (k.mono h.size)
theorem grown_sub {W w w' : World} {B : Nat} {base : Nat} {e : TypeId} {size : Nat} {v : Value} {n : Nat} {xs : List Value} (hb : Below B W w) (hg : w.grownBy w' v.ownBlock) (ho : w.ownsRow base e size v n xs) (h1 : B ≤ base) (h2 : base ≤ w.heap.size) : Below B W w' :=
  hb.trans ((grown_base hg ho h2).mono h1)

set_option maxHeartbeats 2000000 in
theorem rowXor_law (a0 a1 : Option Addr) (cap0 cap1 : Nat) (xs ys : List Int) (w : World) (i0 : IntsAt w a0 xs) (i1 : IntsAt w a1 ys) (hx : xs.length ≤ 1048576) (hy : ys.length ≤ 1048576) (hT : Tab w) :
    Calls Tryd.prog 3 #[.slice a0 xs.length cap0, .slice a1 ys.length cap1] w fun e w' => e = .returned (.bool true) ∧ Below w.heap.size w w' := by
  have hx2 : ¬ (1048576 : Int) < (xs.length : Int) := by omega
  have hy2 : ¬ (1048576 : Int) < (ys.length : Int) := by omega
  have hR := xorR_len xs ys
  go_enter Tryd.func3, Tryd.ntmps3
  go_wp2_with fail
  refine (toIntS_any a0 cap0 xs w i0 hx).mono ?_
  rintro e w1 ⟨v1, rfl, o1, b1⟩
  obtain ⟨p1, c1, rfl, -, j1⟩ := owns_ints o1
  go_wp2_with fail
  refine (toIntS_any a1 cap1 ys w1 (i1.below b1) hy).mono ?_
  rintro e w2 ⟨v2, rfl, o2, b2⟩
  obtain ⟨p2, c2, rfl, -, j2⟩ := owns_ints o2
  have B2 := bcat b1 b2
  go_wp2_with fail
  refine (specRowXor_any p1 p2 c1 c2 xs ys w2 (j1.below b2) j2 hx hy).mono ?_
  rintro e w3 ⟨v3, rfl, o3, b3⟩
  obtain ⟨p3, c3, rfl, -, j3⟩ := owns_ints o3
  have B3 := bcat B2 b3
  clear o1 o2 j1 j2 b1 b2 b3 B2
  go_wp2_with fail
  refine (toIntS_any a0 cap0 xs w3 (i0.below B3) hx).mono ?_
  rintro e w4 ⟨v4, rfl, o4, b4⟩
  obtain ⟨p4, c4, rfl, -, j4⟩ := owns_ints o4
  have B4 := bcat B3 b4
  go_wp2_with fail
  refine (toIntS_any a1 cap1 ys w4 (i1.below B4) hy).mono ?_
  rintro e w5 ⟨v5, rfl, o5, b5⟩
  obtain ⟨p5, c5, rfl, -, j5⟩ := owns_ints o5
  have B5 := bcat B4 b5
  go_wp2_with fail
  refine (implRowXor_any p4 p5 c4 c5 xs ys w5 (j4.below b5) j5 hx hy (hT.below B5)).mono ?_
  rintro e w6 ⟨v6, rfl, o6, b6⟩
  obtain ⟨p6, c6, rfl, -, j6⟩ := owns_ints o6
  have B6 := bcat B5 b6
  have q3 : Below w3.heap.size w3 w6 := bcat (bcat b4 b5) b6
  go_wp2_with fail
  refine (eqIntS_any p6 p3 c6 c3 (xorR xs ys) (xorR xs ys) w6 j6 (j3.below q3) (by omega)).mono ?_
  rintro e w7 ⟨rfl, n7, rfl⟩
  have D7 := below_drewN (Below.refl w6.heap.size w6) n7
  have B7 := bcat B6 D7
  go_wp2_with fail
  refine (toIntS_any a0 cap0 xs (w6.drewN n7) (i0.below B7) hx).mono ?_
  rintro e w8 ⟨v8, rfl, o8, b8⟩
  obtain ⟨p8, c8, rfl, -, j8⟩ := owns_ints o8
  have D8 := bcat D7 b8
  go_wp2_with fail
  refine (eqIntS_any p4 p8 c4 c8 xs xs w8 (((j4.below b5).below b6).below D8) j8 (by omega)).mono ?_
  rintro e w9 ⟨rfl, n9, rfl⟩
  have D9 := bcat D8 (below_drewN (Below.refl w8.heap.size w8) n9)
  go_wp2_with fail
  refine (toIntS_any a1 cap1 ys (w8.drewN n9) (i1.below (bcat B6 D9)) hy).mono ?_
  rintro e w10 ⟨v10, rfl, o10, b10⟩
  obtain ⟨p10, c10, rfl, -, j10⟩ := owns_ints o10
  have D10 := bcat D9 b10
  go_wp2_with fail
  refine (eqIntS_any p5 p10 c5 c10 ys ys w10 ((j5.below b6).below D10) j10 (by omega)).mono ?_
  rintro e w11 ⟨rfl, n11, rfl⟩
  have D11 := bcat D10 (below_drewN (Below.refl w10.heap.size w10) n11)
  have O4 := owns_below (owns_below (owns_below o4 b5) b6) D11
  have O5 := owns_below (owns_below o5 b6) D11
  have O6 := owns_below o6 D11
  have O3 := owns_below (owns_below o3 q3) D11
  have A45 := owns_apart o4 o5 (Nat.le_refl _)
  have A46 := owns_apart o4 o6 b5.size
  have A56 := owns_apart o5 o6 (Nat.le_refl _)
  have A34 := owns_apart o3 o4 (Nat.le_refl _)
  have A35 := owns_apart o3 o5 b4.size
  have A36 := owns_apart o3 o6 (Nat.le_trans b4.size b5.size)
  have B11 := bcat B6 D11
  have hs3 : w3.heap.size ≤ (w10.drewN n11).heap.size := Nat.le_trans q3.size D11.size
  have hs4 : w4.heap.size ≤ (w10.drewN n11).heap.size := Nat.le_trans (Nat.le_trans b5.size b6.size) D11.size
  have hs5 : w5.heap.size ≤ (w10.drewN n11).heap.size := Nat.le_trans b6.size D11.size
  have hw3 : w.heap.size ≤ w3.heap.size := B3.size
  have hw4 : w.heap.size ≤ w4.heap.size := B4.size
  have hw5 : w.heap.size ≤ w5.heap.size := B5.size
  clear D7 D8 D9 D10 D11 B7 o8 o10 j8 j10 b8 b10 o4 o5 o6 o3 j3 j4 j5 j6 q3 b4 b5 b6 B3 B4 B5 B6
  go_wp2_with fail
  refine (markIntS_any w3.heap.size _ xs.length xs 1 (w10.drewN n11) O4 (by omega) (by omega) (by omega)).mono ?_
  rintro e w12 ⟨rfl, o12, g12⟩
  have B12 := grown_sub B11 g12 O4 hw3 hs3
  have M5 := owns_grown O5 g12 A45.2
  have M6 := owns_grown O6 g12 A46.2
  have M3 := owns_grown O3 g12 A34.1
  clear O4 O5 O6 O3 o12
  go_wp2_with fail
  refine (markIntS_any w4.heap.size _ ys.length ys _ w12 M5 (by omega) (by omega) (by omega)).mono ?_
  rintro e w13 ⟨rfl, o13, g13⟩
  have B13 := grown_sub B12 g13 M5 hw4 (Nat.le_trans hs4 g12.size)
  have N6 := owns_grown M6 g13 A56.2
  have N3 := owns_grown M3 g13 A35.1
  clear M5 M6 M3 o13
  go_wp2_with fail
  refine (eqIntS_any p6 p3 c6 c3 (xorR xs ys) (xorR xs ys) w13 (owns_at N6) (owns_at N3) (by omega)).mono ?_
  rintro e w14 ⟨rfl, n14, rfl⟩
  have P6 := owns_below N6 (below_drewN (Below.refl w13.heap.size w13) n14)
  have P3 := owns_below N3 (below_drewN (Below.refl w13.heap.size w13) n14)
  have B14 := below_drewN B13 n14
  go_wp2_with fail
  refine (markIntS_any w5.heap.size _ (xorR xs ys).length (xorR xs ys) 1 (w13.drewN n14) P6 (by omega) (by omega) (by omega)).mono ?_
  rintro e w15 ⟨rfl, o15, g15⟩
  have B15 := grown_sub B14 g15 P6 hw5 (Nat.le_trans (Nat.le_trans hs5 g12.size) g13.size)
  have R3 := owns_grown P3 g15 A36.1
  clear P6 P3 N6 N3
  go_wp2_with fail
  refine (heldIntS_any p6 c6 (xorR xs ys).length 1 w15 (owns_at o15) (by omega) (by omega) (by omega)).mono ?_
  rintro e w' ⟨rfl, hq⟩
  replace hq := hq.symm
  subst hq
  go_wp2_with fail
  refine (toIntS_any a0 cap0 xs w15 (i0.below B15) hx).mono ?_
  rintro e w16 ⟨v16, rfl, o16, b16⟩
  obtain ⟨p16, c16, rfl, -, j16⟩ := owns_ints o16
  have B16 := bcat B15 b16
  go_wp2_with fail
  refine (toIntS_any a1 cap1 ys w16 (i1.below B16) hy).mono ?_
  rintro e w17 ⟨v17, rfl, o17, b17⟩
  obtain ⟨p17, c17, rfl, -, j17⟩ := owns_ints o17
  have B17 := bcat B16 b17
  go_wp2_with fail
  refine (implRowXor_any p16 p17 c16 c17 xs ys w17 (j16.below b17) j17 hx hy (hT.below B17)).mono ?_
  rintro e w18 ⟨v18, rfl, o18, b18⟩
  obtain ⟨p18, c18, rfl, -, j18⟩ := owns_ints o18
  have B18 := bcat B17 b18
  have Z := bcat (bcat b16 b17) b18
  go_wp2_with fail
  refine (eqIntS_any p18 p3 c18 c3 (xorR xs ys) (xorR xs ys) w18 j18 (owns_at (owns_below R3 Z)) (by omega)).mono ?_
  rintro e w19 ⟨rfl, n19, rfl⟩
  go_wp2_with fail
  refine (heldIntS_any p6 c6 (xorR xs ys).length 1 (w18.drewN n19) ((owns_at (owns_below o15 Z)).drewN n19) (by omega) (by omega) (by omega)).mono ?_
  rintro e w' ⟨rfl, hq⟩
  replace hq := hq.symm
  subst hq
  go_wp2_with fail
  go_ret
  exact ⟨rfl, below_drewN B18 n19⟩

theorem walk_FnExactRowXor (a0 : Option Addr) (len0 cap0 : Nat) (z0 : List Int) (a1 : Option Addr) (len1 cap1 : Nat) (z1 : List Int) (w : World) (w0 : IsRow .i64 w a0 len0 cap0 z0) (w1 : IsRow .i64 w a1 len1 cap1 z1) (hT : Tab w) :
    Calls Tryd.prog 3 #[.slice a0 len0 cap0, .slice a1 len1 cap1] w fun e w' => e = .returned (.bool true) ∧ Below w.heap.size w w' := by
  by_cases h0 : len0 ≤ 1048576
  · by_cases h1 : len1 ≤ 1048576
    · have hl := isRow_len w0
      have hs := isRow_len w1
      have := rowXor_law a0 a1 cap0 cap1 (z0.take len0) (z1.take len1) w (isRow_ints w0) (isRow_ints w1) (by omega) (by omega) hT
      rw [hl, hs] at this
      exact this
    · have h0' : ¬ (1048576 : Int) < (len0 : Int) := by omega
      have h' : (1048576 : Int) < (len1 : Int) := by omega
      clear w0 w1 hT
      go_enter Tryd.func3, Tryd.ntmps3
      go_wp2
      go_ret
      exact ⟨rfl, Below.refl _ _⟩
  · have h' : (1048576 : Int) < (len0 : Int) := by omega
    clear w0 w1 hT
    go_enter Tryd.func3, Tryd.ntmps3
    go_wp2
    go_ret
    exact ⟨rfl, Below.refl _ _⟩
end Go.Proofs.YtdgnpgcledljcaaDoor
