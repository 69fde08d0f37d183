/- A row drawn, the program's way: those that are left as bits. -/
import Derived.Test.YtcoofoiaaljpoaaDoorG23
import Derived.Test.YtcoofoiaaljpoaaDoorG27
import Derived.Test.YtcoofoiaaljpoaaDoorG31
namespace Go.Proofs.YtcoofoiaaljpoaaDoor
open Go.ChangeShapes Go.WideShapes Go.ChangeAt Go.RowKit

set_option maxRecDepth 100000 in
theorem size_any (x : Nat) (w : World) (hx : x < 16777216) :
    Calls Tryd.prog 59 #[.int .u32 x] w fun e w' => e = .returned (.int .i64 ((bitsOf x).length : Int)) ∧ Dr w w' := by
  go_enter Tryd.func59, Tryd.ntmps59
  go_wp2_with (go_at_call 64; refine (ones_any x _ hx).mono ?_; rintro e w' ⟨rfl, hd⟩)
  go_ret
  exact ⟨rfl, hd⟩
set_option maxRecDepth 100000 in
theorem seedNext_any (s : Int) (w : World) (h1 : 0 ≤ s) (h2 : s ≤ 2147483647) :
    Calls Tryd.prog 55 #[.int .u64 s] w fun e w' => e = .returned (.int .u64 (nx s)) ∧ w' = w := by
  go_enter Tryd.func55, Tryd.ntmps55
  go_wp2
  go_ret
  exact ⟨rfl, rfl⟩
theorem wrap64_small (x : Int) (h1 : 0 ≤ x) (h2 : x < 65536) : wrap64 x = x := by unfold wrap64; omega
set_option maxRecDepth 100000 in
theorem seedPick_any (s n : Int) (w : World) (h1 : 0 ≤ s) (h2 : s ≤ 2147483647) (h3 : 1 ≤ n) (h4 : n ≤ 65536) :
    Calls Tryd.prog 54 #[.int .u64 s, .int .i64 n] w fun e w' => e = .returned (.int .i64 (s / 256 % n)) ∧ w' = w := by
  have hw := wrap64_small (s / 256 % n) (Int.emod_nonneg _ (by omega)) (Int.lt_of_lt_of_le (Int.emod_lt_of_pos _ (by omega)) h4)
  go_enter Tryd.func54, Tryd.ntmps54
  go_wp2
  go_ret
  exact ⟨ret_int hw, rfl⟩
set_option maxRecDepth 100000 in
theorem full_any (n : Nat) (w : World) (h1 : 1 ≤ n) (h2 : n ≤ 24) :
    Calls Tryd.prog 56 #[.int .i64 n] w fun e w' => e = .returned (.int .u32 ((2 ^ n - 1 : Nat) : Int)) ∧ w' = w := by
  have hp : 2 ^ n ≤ 2 ^ 24 := Nat.pow_le_pow_right (by omega) h2
  have hp0 : 1 ≤ 2 ^ n := Nat.pow_pos (by omega)
  have e : (((2 : Int) ^ n % 4294967296 - 1) % 4294967296) = ((2 ^ n - 1 : Nat) : Int) := by
    have : ((2 : Int) ^ n) = ((2 ^ n : Nat) : Int) := by simp
    rw [this]
    generalize 2 ^ n = P at hp hp0
    omega
  have HE := hid e
  clear e
  go_enter Tryd.func56, Tryd.ntmps56
  go_wp2
  go_ret
  exact ⟨ret_int HE.out, rfl⟩

set_option maxHeartbeats 1000000 in
set_option maxRecDepth 100000 in
theorem at_any (E k : Nat) (w : World) (hE : E < 16777216) (hk : k < (bitsOf E).length) (hT : Tab w) :
    Calls Tryd.prog 58 #[.int .u32 E, .int .i64 k] w fun e w' => e = .returned (.int .i64 ((bitsOf E).getD k 0)) ∧ w' = w := by
  have hkl : k < 24 := by have := bitsTo_len E 24; rw [bitsTo_all] at this; omega
  go_enter Tryd.func58, Tryd.ntmps58
  go_wp2
  go_loop [0, 6] (fun q i => ∃ (r j : Nat), q = .int .u32 r ∧ i = .int .i64 j ∧ j ≤ k ∧ r < 16777216 ∧ bitsOf r = (bitsOf E).drop j) (fun _ i => k - (intOf i).toNat)
  case atStart => exact ⟨E, 0, rfl, rfl, Nat.zero_le _, hE, rfl⟩
  case round =>
    obtain ⟨r, j, rfl, rfl, hj, hr, he⟩ := hrel
    have h0 : 0 < r := by
      rcases Nat.eq_zero_or_pos r with h | h
      · subst h
        rw [bits_zero] at he
        have := congrArg List.length he
        rw [List.length_drop] at this
        simp at this
        omega
      · exact h
    obtain ⟨t, m, e⟩ := low_ex r r (Nat.le_refl _) h0
    have hlow := low_lt (t := t) (m := m) (by rw [← e]; exact hr)
    have hbc := bits_cons e hr
    have hb1 : r.testBit t = true := by rw [e]; exact low_at t m
    have hlt' := outB_lt hb1 (show t < 32 by omega) (show r < 4294967296 by omega)
    have HE := hid e
    have HB := hid hbc
    have HD := hid he
    clear e hbc he hb1
    by_cases hlt : j < k
    · go_wp2_with (first
        | (go_at_call 63; rw [HE.out]; refine (first_any t m _ hT (by rw [← HE.out]; exact hr)).mono ?_; rintro e w' ⟨rfl, hq⟩; replace hq := hq.symm; subst hq; rw [← HE.out])
        | (go_at_call 60; refine (without_any r t _ (by omega) hlow).mono ?_; rintro e w' ⟨rfl, hq⟩; replace hq := hq.symm; subst hq))
      go_round
      case rel =>
        refine ⟨outB r t, j + 1, rfl, by go_num, by omega, by omega, ?_⟩
        have h1 := HD.out
        rw [HB.out] at h1
        have h2 := congrArg List.tail h1
        rw [List.tail_cons, List.tail_drop] at h2
        exact h2
      case measure => simp [intOf]; omega
    · obtain rfl : k = j := by omega
      go_wp2_with (go_at_call 63; rw [HE.out]; refine (first_any t m _ hT (by rw [← HE.out]; exact hr)).mono ?_; rintro e w' ⟨rfl, hq⟩; replace hq := hq.symm; subst hq; rw [← HE.out])
      go_ret
      refine ⟨ret_int ?_, rfl⟩
      have h1 := HD.out
      rw [HB.out, List.drop_eq_getElem_cons hk] at h1
      rw [getD_eq hk]
      exact (List.cons.inj h1).1
end Go.Proofs.YtcoofoiaaljpoaaDoor
