/- The walk of the law that all parts are given away. -/
import Derived.Test.YtefpjomhedlpnaaDrawD
import Derived.Test.YtefpjomhedlpnaaDegM
import Derived.Test.YtefpjomhedlpnaaWhIn
namespace Go.Proofs.Ytefpjomhedlpnaa
open Go.ChangeShapes Go.WideShapes Go.ChangeAt Go.RowKit

set_option maxHeartbeats 1000000 in
theorem walk_FnDegrees (a0 : Option Addr) (len0 cap0 : Nat) (z0 : List Int) (w : World) (w0 : IsRow .u8 w a0 len0 cap0 z0) :
    Calls Try.prog 5 #[.slice a0 len0 cap0] w fun e w' => e = .returned (.bool true) ∧ Below w.heap.size w w' := by
  by_cases h : 1048576 < len0
  · have h' : (1048576 : Int) < (len0 : Int) := by omega
    clear w0
    go_enter Try.func5, Try.ntmps5
    go_wp2
    go_ret
    exact ⟨rfl, Below.refl _ _⟩
  · have h' : ¬ (1048576 : Int) < (len0 : Int) := by omega
    go_enter Try.func5, Try.ntmps5
    go_wp2_with fail
    refine (drawDegreeOf a0 len0 cap0 z0 w w0).mono ?_
    rintro e w1 ⟨c, p, rfl, hc1, hc2, hp1, hp2, hb⟩
    clear w0 h
    obtain ⟨D, m, hl, hi, hdo, hs, hsd, hcase⟩ := deg_says c p
    have HB := hid hb
    go_wp2_with fail
    refine (hi _).mono ?_
    rintro e w2 ⟨v1, rfl, o1, b1⟩
    obtain ⟨a1, c1, rfl, -, i1⟩ := owns_ints o1
    go_wp2_with fail
    refine (hdo _).mono ?_
    rintro e w3 ⟨rfl, b2⟩
    have i2 := i1.below b2
    go_wp2_with fail
    refine (hs _).mono ?_
    rintro e w4 ⟨v2, rfl, o2, b3⟩
    obtain ⟨a2, c2, rfl, -, i3⟩ := owns_ints o2
    have i4 := i2.below b3
    go_wp2_with fail
    refine (whInts_any a1 a2 c1 c2 D D w4 i4 i3 (by omega)).mono ?_
    rintro e w4' ⟨rfl, n1, rfl⟩
    go_wp2_with fail
    refine (hsd _).mono ?_
    rintro e w5 ⟨rfl, b4⟩
    have i5 := (i4.drewN n1).below b4
    have HB5 : Hid (Below w.heap.size w w5) := by
      have q1 := HB.out.trans (b1.mono HB.out.size)
      have q2 := q1.trans (b2.mono q1.size)
      have q3 := q2.trans (b3.mono q2.size)
      have q4 := below_drewN q3 n1
      exact q4.trans (b4.mono q4.size)
    clear hb b1 b2 b3 b4 i1 i2 i3 i4 o1 o2 hi hdo hs hsd
    rcases hcase with ⟨rfl, rfl⟩ | ⟨hD, h1, hp, rfl⟩ | ⟨hD, h1, p1, p2, m1, m2, m3, m4, hsum, hat⟩
    · go_wp2_with fail
      go_ret
      exact ⟨rfl, HB5.out⟩
    · have hne : ((D.length : Int) == 0) = false := by rw [beq_eq_false_iff_ne]; omega
      by_cases hp0 : p < 0
      · go_wp2_with fail
        go_ret
        exact ⟨rfl, HB5.out⟩
      · have hp3 : decide (p < 0) = false := by simp; omega
        have hp4 : (65536 : Int) ≤ p := by omega
        clear hp
        go_wp2_with fail
        go_ret
        exact ⟨rfl, HB5.out⟩
    · have hne : ((D.length : Int) == 0) = false := by rw [beq_eq_false_iff_ne]; omega
      have hp3 : decide (p < 0) = false := by simp; omega
      have hp4 : decide ((65536 : Int) ≤ p) = false := by simp; omega
      have HAT := hid hat
      have HSUM := hid hsum
      obtain ⟨j, rfl⟩ : ∃ j, m = j + 1 := ⟨m - 1, by omega⟩
      rw [Nat.add_sub_cancel] at m3 m4
      have HM := hid (And.intro m3 m4)
      obtain ⟨b, off, rfl, hc⟩ := i5 (by intro e; rw [e] at hD; simp at hD; omega)
      have HC := hid hc
      clear hat hsum m3 m4 m1 hc
      go_wp2_with fail
      go_loop [7, 8, 9] (fun s a i => ∃ k : Nat, k ≤ D.length ∧ i = .int .i64 k ∧ s = .int .i64 (sumTo D k) ∧ a = .int .i64 (sumTo D (min k j)) ∧ 0 ≤ sumTo D k ∧ sumTo D k ≤ 65536 * k ∧ 0 ≤ sumTo D (min k j) ∧ sumTo D (min k j) ≤ 65536 * k) (fun _ _ i => D.length - (intOf i).toNat)
      case atStart => exact ⟨0, Nat.zero_le _, rfl, rfl, by simp [sumTo], by simp [sumTo], by simp [sumTo], by simp [sumTo], by simp [sumTo]⟩
      case round =>
        obtain ⟨k, hk, rfl, rfl, rfl, s1, s2, t1, t2⟩ := hrel
        by_cases hlt : k < D.length
        · have hck := HC.out k hlt
          have hat := HAT.out k
          have hss := sumTo_succ D k hlt
          obtain ⟨X, hX⟩ : ∃ X, X = D.getD k 0 := ⟨_, rfl⟩
          rw [← hX] at hck hat hss
          have HS := hid hss
          by_cases hkj : k < j
          · have e1 : min k j = k := by omega
            have e2 : min (k + 1) j = k + 1 := by omega
            rw [e1] at t1 t2 ⊢
            obtain ⟨S, hS⟩ : ∃ S, S = sumTo D k := ⟨_, rfl⟩
            rw [← hS] at s1 s2 t1 t2 ⊢
            have HS2 := hid hS
            clear hX hss hS e1
            have hkj' : (k : Int) + 1 < (j : Int) + 1 := by omega
            go_wp2
            go_round
            case rel => exact ⟨k + 1, by omega, by go_num, by rw [HS.out, ← HS2.out], by rw [e2, HS.out, ← HS2.out], by rw [HS.out, ← HS2.out]; omega, by rw [HS.out, ← HS2.out]; omega, by rw [e2, HS.out, ← HS2.out]; omega, by rw [e2, HS.out, ← HS2.out]; omega⟩
            case measure => simp [intOf]; omega
          · have e1 : min k j = j := by omega
            have e2 : min (k + 1) j = j := by omega
            rw [e1] at t1 t2 ⊢
            obtain ⟨S, hS⟩ : ∃ S, S = sumTo D k := ⟨_, rfl⟩
            obtain ⟨T, hT⟩ : ∃ T, T = sumTo D j := ⟨_, rfl⟩
            rw [← hS] at s1 s2 ⊢
            rw [← hT] at t1 t2 ⊢
            have HS2 := hid hS
            have HT := hid hT
            clear hX hss hS hT e1
            have hkj' : ¬ (k : Int) + 1 < (j : Int) + 1 := by omega
            go_wp2
            go_round
            case rel => exact ⟨k + 1, by omega, by go_num, by rw [HS.out, ← HS2.out], by rw [e2, ← HT.out], by rw [HS.out, ← HS2.out]; omega, by rw [HS.out, ← HS2.out]; omega, by rw [e2, ← HT.out]; omega, by rw [e2, ← HT.out]; omega⟩
            case measure => simp [intOf]; omega
        · obtain rfl : k = D.length := by omega
          have e1 : min D.length j = j := by omega
          have hck := HC.out j (by omega)
          have hat := HAT.out j
          have hm := HM.out
          rw [e1] at t1 t2 ⊢
          rw [HSUM.out]
          obtain ⟨X, hX⟩ : ∃ X, X = D.getD j 0 := ⟨_, rfl⟩
          obtain ⟨T, hT⟩ : ∃ T, T = sumTo D j := ⟨_, rfl⟩
          rw [← hX] at hck hat hm
          rw [← hT] at t1 t2 hm ⊢
          obtain ⟨hm1, hm2⟩ := hm
          clear hX hT e1 s1 s2
          go_wp2_with (go_at_call 14; refine (whIn_yes _ _ _ _ (by omega) (by omega)).mono ?_; rintro e w' ⟨rfl, hq⟩; replace hq := hq.symm; subst hq)
          go_ret
          exact ⟨rfl, HB5.out⟩
end Go.Proofs.Ytefpjomhedlpnaa
