/- The walk of the promise on all blocks of two rows. -/
import Derived.Test.YtndgjgknkgmhfaaDoorDrawSum
import Derived.Test.YtndgjgknkgmhfaaDoorSumX
namespace Go.Proofs.YtndgjgknkgmhfaaDoor
open Go.ChangeShapes Go.WideShapes Go.ChangeAt Go.RowKit

theorem bcatS {a b c : World} (h : Below a.heap.size a b) (k : Below b.heap.size b c) : Below a.heap.size a c := h.trans (k.mono h.size)

theorem isRow_below {k : IntKind} {w w' : World} {a : Option Addr} {len cap : Nat} {zs : List Int} (h : IsRow k w a len cap zs) (hb : Below w.heap.size w w') : IsRow k w' a len cap zs := by
  rcases h with h | ⟨x, h1, h2, h3, h4, h5, h6⟩
  · exact .inl h
  · exact .inr ⟨x, h1, h2, h3, h4, fun i hi => by rw [hb.cell (p := x.add i) (block_lt_of_cell (h5 i hi))]; exact h5 i hi, h6⟩

set_option maxHeartbeats 8000000 in
theorem rowSum_small (a0 a1 : Option Addr) (len0 cap0 len1 cap1 : Nat) (z0 z1 : List Int) (w : World) (w0 : IsRow .u8 w a0 len0 cap0 z0) (w1 : IsRow .u8 w a1 len1 cap1 z1) (hT : Tab w) (h0 : len0 ≤ 1048576) (h1 : len1 ≤ 1048576) :
    Calls Tryd.prog 4 #[.slice a0 len0 cap0, .slice a1 len1 cap1] w fun e w' => e = .returned (.bool true) ∧ Below w.heap.size w w' := by
  have h0' : decide ((1048576 : Int) < (len0 : Int)) = false := decide_eq_false (by omega)
  have h1' : decide ((1048576 : Int) < (len1 : Int)) = false := decide_eq_false (by omega)
  have W0 := hid w0
  have W1 := hid w1
  have HT := hid hT
  clear w0 w1 hT
  go_enter Tryd.func4, Tryd.ntmps4
  go_wp2_with fail
  refine (drawRowSum a0 len0 cap0 z0 _ W0.out).mono ?_
  rintro e wa ⟨p, c, q, d, ss, xs, rfl, s1, i1, hl1, hl2, hsz, ba⟩
  have S1 := hid s1
  have I1 := hid i1
  have Z1 := hid hsz
  have BA := hid ba
  clear s1 i1 hsz ba W0
  go_wp2_with fail
  refine (drawRowSum a1 len1 cap1 z1 _ (isRow_below W1.out BA.out)).mono ?_
  rintro e wb ⟨p', c', q', d', ss', ys, rfl, s2, i2, hl3, hl4, hsz', bb⟩
  have S2 := hid (S1.out.below bb)
  have I2 := hid (I1.out.below bb)
  have J2 := hid i2
  have BB := hid (bcatS BA.out bb)
  clear s2 i2 hsz' bb S1 I1 BA W1
  go_wp2_with fail
  refine (implRowSum_any p q c d ss xs _ S2.out I2.out (by omega) (by omega) (fun k => Nat.le_trans (Z1.out k) (by omega))).mono ?_
  rintro e wc ⟨rfl, bc⟩
  have S3 := hid (S2.out.below bc)
  have I3 := hid (I2.out.below bc)
  have J3 := hid (J2.out.below bc)
  have BC := hid (bcatS BB.out bc)
  clear bc S2 I2 J2 BB
  go_wp2_with fail
  refine (specRowSum_any p q c d ss xs _ S3.out I3.out (by omega) (by omega) (fun k => Nat.le_trans (Z1.out k) (by omega))).mono ?_
  rintro e wd ⟨rfl, bd⟩
  have S4 := hid (S3.out.below bd)
  have I4 := hid (I3.out.below bd)
  have J4 := hid (J3.out.below bd)
  have BD := hid (bcatS BC.out bd)
  clear bd S3 I3 J3 BC
  cases g1 : sumOkB ss xs with
  | false =>
    clear g1
    go_wp2_with fail
    go_ret
    exact ⟨ret_bool (by simp), BD.out⟩
  | true =>
    have G1 := hid g1
    clear g1
    go_wp2_with fail
    refine (implRowSum_any p q' c d' ss ys _ S4.out J4.out (by omega) (by omega) (fun k => Nat.le_trans (Z1.out k) (by omega))).mono ?_
    rintro e we ⟨rfl, be⟩
    have S5 := hid (S4.out.below be)
    have I5 := hid (I4.out.below be)
    have J5 := hid (J4.out.below be)
    have BE := hid (bcatS BD.out be)
    clear be S4 I4 J4 BD
    cases g2 : sumOkB ss ys with
    | false =>
      have HE := hid (sum_no g2)
      clear g2
      rw [HE.out]
      go_wp2_with fail
      go_ret
      exact ⟨ret_bool (by simp), BE.out⟩
    | true =>
      obtain ⟨l1, l2, l3⟩ := sum_law G1.out g2
      have L1 := hid l1
      have L2 := hid l2
      have L3 := hid l3
      have hlx := xorR_len xs ys
      clear g2 l1 l2 l3
      have hzz : (sumOf ss xs).size ≤ maxLen := by
        have h := of_decide_eq_true (show decide ((sumOf ss xs).size = (sumOf ss ys).size ∧ (sumOf ss xs).size ≤ 16) = true from L2.out)
        unfold maxLen; omega
      have HZ := hid hzz
      clear hzz
      go_wp2_with fail
      refine (implRowXor_any q q' d d' xs ys _ I5.out J5.out (by omega) (by omega) (HT.out.below BE.out)).mono ?_
      rintro e wf ⟨vf, rfl, of', bf⟩
      obtain ⟨x, f, rfl, -, ix⟩ := owns_ints of'
      have S6 := hid (S5.out.below bf)
      have IX := hid ix
      have BF := hid (bcatS BE.out bf)
      clear of' ix bf
      go_wp2_with fail
      refine (implRowSum_any p x c f ss (xorR xs ys) _ S6.out IX.out (by omega) (by omega) (fun k => Nat.le_trans (Z1.out k) (by omega))).mono ?_
      rintro e wg ⟨rfl, bg⟩
      rw [L1.out, L3.out]
      have BG := hid (bcatS BF.out bg)
      clear bg
      go_wp2_with fail
      refine (implBlockXor_any (sumOf ss xs) (sumOf ss ys) _ HZ.out).mono ?_
      rintro e wh ⟨rfl, bh⟩
      rw [L2.out]
      have BH := hid (bcatS BG.out bh)
      clear bh
      go_wp2_with fail
      go_ret
      exact ⟨ret_bool (by simp), BH.out⟩

theorem walk_FnRowSum (a0 : Option Addr) (len0 cap0 : Nat) (z0 : List Int) (a1 : Option Addr) (len1 cap1 : Nat) (z1 : List Int) (w : World) (w0 : IsRow .u8 w a0 len0 cap0 z0) (w1 : IsRow .u8 w a1 len1 cap1 z1) (hT : Tab w) :
    Calls Tryd.prog 4 #[.slice a0 len0 cap0, .slice a1 len1 cap1] w fun e w' => e = .returned (.bool true) ∧ Below w.heap.size w w' := by
  by_cases h0 : len0 ≤ 1048576
  · by_cases h1 : len1 ≤ 1048576
    · exact rowSum_small a0 a1 len0 cap0 len1 cap1 z0 z1 w w0 w1 hT h0 h1
    · have h0' : decide ((1048576 : Int) < (len0 : Int)) = false := decide_eq_false (by omega)
      have h1' : (1048576 : Int) < (len1 : Int) := by omega
      clear w0 w1 hT
      go_enter Tryd.func4, Tryd.ntmps4
      go_wp2
      go_ret
      exact ⟨rfl, Below.refl _ _⟩
  · have h0' : (1048576 : Int) < (len0 : Int) := by omega
    clear w0 w1 hT
    go_enter Tryd.func4, Tryd.ntmps4
    go_wp2
    go_ret
    exact ⟨rfl, Below.refl _ _⟩
end Go.Proofs.YtndgjgknkgmhfaaDoor
