/- The row of a symbol, by the program. -/
import Derived.Test.YtcoofoiaaljpoaaDoorG20
import Derived.Test.YtcoofoiaaljpoaaDoorG8
import Derived.Test.YtcoofoiaaljpoaaDoorG1
namespace Go.Proofs.YtcoofoiaaljpoaaDoor
open Go.ChangeShapes Go.WideShapes Go.ChangeAt Go.RowKit Go.Sort

set_option maxRecDepth 100000 in
theorem idOk_any (n : Int) (w : World) : Calls Tryd.prog 16 #[.int .i64 n] w fun e w' => e = .returned (.bool (decide (0 ≤ n ∧ n ≤ 9999))) ∧ w' = w := by
  by_cases h1 : 0 ≤ n
  · by_cases h2 : n ≤ 9999
    · have H := hid (show decide (0 ≤ n ∧ n ≤ 9999) = true from decide_eq_true (by omega))
      go_enter Tryd.func16, Tryd.ntmps16
      go_wp2
      go_ret
      first | exact ⟨rfl, rfl⟩ | exact ⟨ret_bool H.out.symm, rfl⟩ | exact ⟨ret_bool (by simp; omega), rfl⟩
    · have h2' : decide (n ≤ 9999) = false := by simp; omega
      have H := hid (show decide (0 ≤ n ∧ n ≤ 9999) = false from decide_eq_false (by omega))
      go_enter Tryd.func16, Tryd.ntmps16
      go_wp2
      go_ret
      first | exact ⟨rfl, rfl⟩ | exact ⟨ret_bool H.out.symm, rfl⟩
  · have h1' : decide (0 ≤ n) = false := by simp; omega
    have H := hid (show decide (0 ≤ n ∧ n ≤ 9999) = false from decide_eq_false (by omega))
    go_enter Tryd.func16, Tryd.ntmps16
    go_wp2
    go_ret
    first | exact ⟨rfl, rfl⟩ | exact ⟨ret_bool H.out.symm, rfl⟩

set_option maxRecDepth 100000 in
/-- The function value that chooses a window. -/
theorem chosen_any (u k : Int) (b : Nat) (w : World) (hc : w.cell? ⟨b, 0, none⟩ = some (.int .i64 k)) :
    Calls Tryd.prog 48 #[.int .i64 u, .pointer (some ⟨b, 0, none⟩)] w fun e w' => e = .returned (.bool (decide (k < u))) ∧ w' = w := by
  go_enter Tryd.func48, Tryd.ntmps48
  go_wp2
  go_ret
  exact ⟨rfl, rfl⟩

set_option maxRecDepth 100000 in
set_option maxHeartbeats 2000000 in
theorem window_any (long size : Int) (a1 a2 : Option Addr) (c1 c2 : Nat) (ws gs : List Int) (k : Int) (b : Nat) (w : World) (ha1 : IntsAt w a1 ws) (ha2 : IntsAt w a2 gs) (hc : w.cell? ⟨b, 0, none⟩ = some (.int .i64 k)) (hl : ws.length = gs.length) (h3 : gs.length ≤ 3) (hg : ∀ j, j < gs.length → 1 ≤ gs.getD j 0 ∧ gs.getD j 0 ≤ 99) (k0 : 0 ≤ k) (k1 : k < gs.sum) :
    Calls Tryd.prog 47 #[.agg #[.int .i64 long, .int .i64 size, .slice a1 ws.length c1, .slice a2 gs.length c2], .func (.func 48) #[] #[.pointer (some ⟨b, 0, none⟩)]] w fun e w' => e = .returned (.int .i64 (winOf ws gs k)) ∧ Below w.heap.size w w' := by
  have hb : b < w.heap.size := block_lt_of_cell hc
  have X := hid (laid w #[.int .i64 long, .int .i64 size, .slice a1 ws.length c1, .slice a2 gs.length c2] 28)
  have I1 := hid (ha1.alloc (.cells #[.int .i64 long, .int .i64 size, .slice a1 ws.length c1, .slice a2 gs.length c2] 28))
  have I2 := hid (ha2.alloc (.cells #[.int .i64 long, .int .i64 size, .slice a1 ws.length c1, .slice a2 gs.length c2] 28))
  have HC := hid (((below_alloc' w (.cells #[.int .i64 long, .int .i64 size, .slice a1 ws.length c1, .slice a2 gs.length c2] 28)).cell (p := ⟨b, 0, none⟩) hb).trans hc)
  have HL := hid hl
  have HGS := hid hg
  have HK := hid k1
  clear ha1 ha2 hc hl hg k1
  go_enter Tryd.func47, Tryd.ntmps47
  go_wp2
  go_loop [5, 11] (fun u i => ∃ j : Nat, j ≤ gs.length ∧ i = .int .i64 j ∧ u = .int .i64 ((gs.take j).sum) ∧ 0 ≤ (gs.take j).sum ∧ (gs.take j).sum ≤ 99 * j ∧ (gs.take j).sum ≤ k ∧ winOf ws gs k = winOf (ws.drop j) (gs.drop j) (k - (gs.take j).sum)) (fun _ i => gs.length - (intOf i).toNat)
  case atStart => exact ⟨0, Nat.zero_le _, rfl, rfl, by simp, by simp, by simpa using k0, by simp⟩
  case round =>
    obtain ⟨j, hj, rfl, rfl, s0, s1, s2, hw⟩ := hrel
    have HW := hid hw
    clear hw
    by_cases hlt : j < gs.length
    · have hjw : j < ws.length := by have := HL.out; omega
      obtain ⟨b2, o2, rfl, hc2⟩ := I2.out (by intro h; simp [h] at hlt)
      obtain ⟨b1, o1, rfl, hc1⟩ := I1.out (by intro h; simp [h] at hjw)
      have g1 := hc2 j hlt
      have g2 := hc1 j hjw
      have hgg := HGS.out j hlt
      have HS := hid (sum_snoc gs j hlt)
      have HD1 := hid (drop_at hjw)
      have HD2 := hid (drop_at hlt)
      obtain ⟨Y, hY⟩ : ∃ Y, Y = gs.getD j 0 := ⟨_, rfl⟩
      obtain ⟨V, hV⟩ : ∃ V, V = ws.getD j 0 := ⟨_, rfl⟩
      obtain ⟨U, hU⟩ : ∃ U, U = (gs.take j).sum := ⟨_, rfl⟩
      rw [← hY] at g1 hgg HS HD2
      rw [← hV] at g2 HD1
      rw [← hU] at s0 s1 s2 HW HS ⊢
      clear hc1 hc2 hY hV hU
      obtain ⟨y1, y2⟩ := hgg
      have jl : (j : Int) < (ws.length : Int) := by omega
      by_cases hk : k < U + Y
      · have hk' : decide (k < U + Y) = true := decide_eq_true hk
        have HR := hid (show winOf ws gs k = V by rw [HW.out, HD1.out, HD2.out, winOf_yes (by omega)])
        go_wp2_with fail
        refine (chosen_any (U + Y) k b _ HC.out).mono ?_
        rintro e wa ⟨rfl, hq⟩
        rw [hk']
        subst hq
        go_wp2_with fail
        go_ret
        exact ⟨ret_int HR.out.symm, below_alloc' _ _⟩
      · have hk' : decide (k < U + Y) = false := decide_eq_false hk
        have HR := hid (show winOf ws gs k = winOf (ws.drop (j + 1)) (gs.drop (j + 1)) (k - (U + Y)) by rw [HW.out, HD1.out, HD2.out, winOf_no (by omega), show k - U - Y = k - (U + Y) by omega])
        go_wp2_with fail
        refine (chosen_any (U + Y) k b _ HC.out).mono ?_
        rintro e wa ⟨rfl, hq⟩
        rw [hk']
        subst hq
        go_wp2_with fail
        go_round
        case rel => exact ⟨j + 1, by omega, by go_num, by rw [HS.out], by rw [HS.out]; omega, by rw [HS.out]; omega, by rw [HS.out]; omega, by rw [HS.out]; exact HR.out⟩
        case measure => simp [intOf]; omega
    · obtain rfl : j = gs.length := by omega
      have := HK.out
      rw [List.take_length] at s2
      omega
end Go.Proofs.YtcoofoiaaljpoaaDoor
