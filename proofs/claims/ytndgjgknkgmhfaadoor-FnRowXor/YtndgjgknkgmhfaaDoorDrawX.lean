/- The draw of two rows. -/
import Derived.Test.YtndgjgknkgmhfaaDoorRowS
namespace Go.Proofs.YtndgjgknkgmhfaaDoor
open Go.ChangeShapes Go.WideShapes Go.ChangeAt Go.RowKit

set_option maxHeartbeats 1000000 in
theorem drawRowXor (a : Option Addr) (len cap : Nat) (zs : List Int) (w : World) (h : Bytes w a len cap zs) :
    Calls Tryd.prog 5 #[.slice a len cap] w fun e w' => ∃ p c q d, ∃ xs ys : List Int, e = .returned (.tuple #[.slice p xs.length c, .slice q ys.length d]) ∧ IntsAt w' p xs ∧ IntsAt w' q ys ∧ xs.length ≤ 100 ∧ ys.length ≤ 100 ∧ Below w.heap.size w w' := by
  go_enter Tryd.func5, Tryd.ntmps5
  go_wp2_with fail
  refine (l1Open_any a len cap zs _ h).mono ?_
  rintro e w1 ⟨rfl, hr1, hb1⟩
  have HB := hid hb1
  clear h hb1
  obtain ⟨G, hG⟩ : ∃ G, G = w.heap.size := ⟨_, rfl⟩
  rw [← hG] at hr1 ⊢
  have HG := hid hG
  have hglt := hr1.lt
  clear hG
  go_wp2_with fail
  refine (l15BadRow_any G 0 24 _ hr1 (by omega) (by omega)).mono ?_
  rintro e w2 ⟨v, xs, rfl, ho, hl, hm, hr2, hg2⟩
  obtain ⟨p, c, rfl⟩ := owns_slice ho
  have HO := hid ho
  have HM := hid hm
  have HG2 := hid hg2
  clear ho hm hg2 hr1
  go_wp2_with fail
  refine (pick_any G (0 + 24 + 1) 24 _ hr2 (by omega) (by omega) (by omega)).mono ?_
  rintro e w3 ⟨r, rfl, ra, rb, hr3, ht3⟩
  obtain ⟨k, rfl⟩ := Int.eq_ofNat_of_zero_le ra
  have HT3 := hid ht3
  clear ht3 hr2
  go_wp2_with fail
  rw [show (1 + (k : Int)) = ((1 + k : Nat) : Int) by omega]
  refine (l15BadRow_any G (0 + 24 + 1 + 1) (1 + k) _ hr3 (by omega) (by omega)).mono ?_
  rintro e w4 ⟨v2, ys, rfl, ho4, hl4, hm4, hr4, hg4⟩
  obtain ⟨q, d, rfl⟩ := owns_slice ho4
  have HO4 := hid ho4
  have HG4 := hid hg4
  clear ho4 hm4 hg4
  go_wp2_with fail
  go_ret2
  have hg := HG.out
  subst hg
  have b1 := HB.out
  have b2 := b1.trans (grown_below HG2.out (Nat.le_refl _) b1.size)
  have b3 := b2.trans (HT3.out.below (Nat.le_refl _))
  have o3 := HT3.out.owns HO.out hglt
  have o4 := owns_grown o3 HG4.out (fun j hj e => by have := (HO.out.lt j hj).1; injection e with e; omega)
  exact ⟨p, c, q, d, xs, ys, rfl, owns_at o4, owns_at HO4.out, by omega, by omega, b3.trans (grown_below HG4.out (Nat.le_refl _) b3.size)⟩
end Go.Proofs.YtndgjgknkgmhfaaDoor
