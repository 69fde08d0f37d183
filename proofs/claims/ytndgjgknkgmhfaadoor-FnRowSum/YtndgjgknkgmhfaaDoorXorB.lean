/- RowXor: the model's and the program's. -/
import Derived.Test.YtndgjgknkgmhfaaDoorXor
namespace Go.Proofs.YtndgjgknkgmhfaaDoor
open Go.ChangeShapes Go.WideShapes Go.ChangeAt Go.RowKit

/-- What RowXor answers. -/
def xorR (xs ys : List Int) : List Int := if ascB (-1) 24 xs && ascB (-1) 24 ys then xorM xs ys else []
theorem xorR_yes {xs ys : List Int} (h1 : ascB (-1) 24 xs = true) (h2 : ascB (-1) 24 ys = true) : xorR xs ys = xorM xs ys := by simp [xorR, h1, h2]
theorem xorR_no {xs ys : List Int} (h : ascB (-1) 24 xs = false ∨ ascB (-1) 24 ys = false) : xorR xs ys = [] := by rcases h with h | h <;> simp [xorR, h]
theorem bitsOf_len (r : Nat) : (bitsOf r).length ≤ 24 := bitsTo_len r 24
theorem xorR_len (xs ys : List Int) : (xorR xs ys).length ≤ 24 := by
  cases h1 : ascB (-1) 24 xs
  · rw [xorR_no (.inl h1)]; simp
  · cases h2 : ascB (-1) 24 ys
    · rw [xorR_no (.inr h2)]; simp
    · rw [xorR_yes h1 h2, xorM_bits h1 h2]; exact bitsOf_len _

theorem specRowXor_any (a b : Option Addr) (ca cb : Nat) (xs ys : List Int) (w : World) (ha : IntsAt w a xs) (hb : IntsAt w b ys) (hx : xs.length ≤ 1048576) (hy : ys.length ≤ 1048576) :
    Calls Tryd.prog 8 #[.slice a xs.length ca, .slice b ys.length cb] w fun e w' => ∃ v, e = .returned v ∧ w'.ownsRow w.heap.size 3 1 v (xorR xs ys).length ((xorR xs ys).map (Value.int .i64)) ∧ Below w.heap.size w w' := by
  cases h1 : ascB (-1) 24 xs
  · rw [xorR_no (.inl h1)]
    have H1 := hid h1
    clear h1
    go_enter Tryd.func8, Tryd.ntmps8
    go_wp2_with (go_at_call 10; refine (specRowOk_in a ca xs 24 _ ha (by omega) (by omega) (by omega)).mono ?_; rintro e w1 ⟨rfl, hd⟩; rw [H1.out])
    go_ret
    exact ⟨_, rfl, World.ownsRow_lit _ #[] 0 ((hd.below w.heap.size).size) (Nat.zero_le _) rfl, (hd.below w.heap.size).alloc (hd.below w.heap.size).size _⟩
  · cases h2 : ascB (-1) 24 ys
    · rw [xorR_no (.inr h2)]
      have H1 := hid h1
      have H2 := hid h2
      clear h1 h2
      go_enter Tryd.func8, Tryd.ntmps8
      go_wp2_with fail
      refine (specRowOk_in a ca xs 24 _ ha (by omega) (by omega) (by omega)).mono ?_
      rintro e w1 ⟨rfl, hd⟩
      rw [H1.out]
      go_wp2_with fail
      refine (specRowOk_in b cb ys 24 _ (hb.below (hd.below _)) (by omega) (by omega) (by omega)).mono ?_
      rintro e w2 ⟨rfl, hd2⟩
      rw [H2.out]
      have hd3 := hd.trans hd2
      go_wp2_with fail
      go_ret
      exact ⟨_, rfl, World.ownsRow_lit _ #[] 0 ((hd3.below w.heap.size).size) (Nat.zero_le _) rfl, (hd3.below w.heap.size).alloc (hd3.below w.heap.size).size _⟩
    · rw [xorR_yes h1 h2]
      have H1 := hid h1
      have H2 := hid h2
      clear h1 h2
      go_enter Tryd.func8, Tryd.ntmps8
      go_wp2_with fail
      refine (specRowOk_in a ca xs 24 _ ha (by omega) (by omega) (by omega)).mono ?_
      rintro e w1 ⟨rfl, hd⟩
      rw [H1.out]
      go_wp2_with fail
      refine (specRowOk_in b cb ys 24 _ (hb.below (hd.below _)) (by omega) (by omega) (by omega)).mono ?_
      rintro e w2 ⟨rfl, hd2⟩
      rw [H2.out]
      have hd3 := hd.trans hd2
      go_wp2_with fail
      refine (l2Xor_any a b ca cb xs ys _ (ha.below (hd3.below _)) (hb.below (hd3.below _)) hx hy).mono ?_
      rintro e w3 ⟨v, rfl, ho, hb3⟩
      go_wp2_with fail
      go_ret
      exact ⟨_, rfl, owns_base ho (hd3.below w.heap.size).size, (hd3.below w.heap.size).trans (hb3.mono (hd3.below w.heap.size).size)⟩

theorem xor_lt24 {a b : Nat} (ha : a < 16777216) (hb : b < 16777216) : a ^^^ b < 16777216 := Nat.xor_lt_two_pow (n := 24) ha hb
theorem setXor_any (a b : Nat) (w : World) (ha : a < 16777216) (hb : b < 16777216) :
    Calls Tryd.prog 20 #[.int .u32 a, .int .u32 b] w fun e w' => e = .returned (.int .u32 ((a ^^^ b : Nat) : Int)) ∧ w' = w := by
  go_enter Tryd.func20, Tryd.ntmps20
  go_wp2
  go_ret
  exact ⟨ret_int (u32_xor_nat a b (by omega) (by omega)), rfl⟩

theorem implRowXor_any (a b : Option Addr) (ca cb : Nat) (xs ys : List Int) (w : World) (ha : IntsAt w a xs) (hb : IntsAt w b ys) (hx : xs.length ≤ 1048576) (hy : ys.length ≤ 1048576) (hT : Tab w) :
    Calls Tryd.prog 6 #[.slice a xs.length ca, .slice b ys.length cb] w fun e w' => ∃ v, e = .returned v ∧ w'.ownsRow w.heap.size 3 1 v (xorR xs ys).length ((xorR xs ys).map (Value.int .i64)) ∧ Below w.heap.size w w' := by
  cases h1 : ascB (-1) 24 xs
  · rw [xorR_no (.inl h1)]
    have H1 := hid h1
    clear h1
    go_enter Tryd.func6, Tryd.ntmps6
    go_wp2_with fail
    refine (rowSetOf_in a ca xs 24 _ ha (by omega) (by omega) (by omega)).mono ?_
    rintro e w' ⟨rfl, hq⟩
    replace hq := hq.symm
    subst hq
    rw [H1.out]
    go_wp2_with fail
    refine (rowSetOf_in b cb ys 24 _ hb (by omega) (by omega) (by omega)).mono ?_
    rintro e w' ⟨rfl, hq⟩
    replace hq := hq.symm
    subst hq
    go_wp2_with fail
    go_ret
    exact ⟨_, rfl, World.ownsRow_nil _ _ _ _, Below.refl _ _⟩
  · cases h2 : ascB (-1) 24 ys
    · rw [xorR_no (.inr h2)]
      have H1 := hid h1
      have H2 := hid h2
      clear h1 h2
      go_enter Tryd.func6, Tryd.ntmps6
      go_wp2_with fail
      refine (rowSetOf_in a ca xs 24 _ ha (by omega) (by omega) (by omega)).mono ?_
      rintro e w' ⟨rfl, hq⟩
      replace hq := hq.symm
      subst hq
      rw [H1.out]
      go_wp2_with fail
      refine (rowSetOf_in b cb ys 24 _ hb (by omega) (by omega) (by omega)).mono ?_
      rintro e w' ⟨rfl, hq⟩
      replace hq := hq.symm
      subst hq
      rw [H2.out]
      go_wp2_with fail
      go_ret
      exact ⟨_, rfl, World.ownsRow_nil _ _ _ _, Below.refl _ _⟩
    · rw [xorR_yes h1 h2, xorM_bits h1 h2]
      have s1 := setI_small h1
      have s2 := setI_small h2
      have e1 := rowBits_yes h1
      have e2 := rowBits_yes h2
      have H1 := hid h1
      have H2 := hid h2
      have E1 := hid e1
      have E2 := hid e2
      clear h1 h2 e1 e2
      go_enter Tryd.func6, Tryd.ntmps6
      go_wp2_with fail
      refine (rowSetOf_in a ca xs 24 _ ha (by omega) (by omega) (by omega)).mono ?_
      rintro e w' ⟨rfl, hq⟩
      replace hq := hq.symm
      subst hq
      rw [H1.out, E1.out]
      go_wp2_with fail
      refine (rowSetOf_in b cb ys 24 _ hb (by omega) (by omega) (by omega)).mono ?_
      rintro e w' ⟨rfl, hq⟩
      replace hq := hq.symm
      subst hq
      rw [H2.out, E2.out]
      go_wp2_with fail
      refine (setXor_any _ _ _ s1 s2).mono ?_
      rintro e w' ⟨rfl, hq⟩
      replace hq := hq.symm
      subst hq
      go_wp2_with fail
      refine (numbers_any _ _ (xor_lt24 s1 s2) hT).mono ?_
      rintro e w1 ⟨v, rfl, ho, hb1⟩
      go_wp2_with fail
      go_ret
      exact ⟨_, rfl, ho, hb1⟩

end Go.Proofs.YtndgjgknkgmhfaaDoor
