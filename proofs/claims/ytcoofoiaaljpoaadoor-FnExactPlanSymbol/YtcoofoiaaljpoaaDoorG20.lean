/- The seeds: what the functions of chapter 4 on seeds answer, in the program. Which row a symbol has: windows by weights. -/
import Derived.Test.YtcoofoiaaljpoaaDoorG0
import Derived.Test.YtcoofoiaaljpoaaDoorG7
namespace Go.Proofs.YtcoofoiaaljpoaaDoor
open Go.ChangeShapes Go.WideShapes Go.ChangeAt Go.RowKit

/-- The seed behind a seed, of whatever number. -/
def nextI (s : Int) : Int := if 0 ≤ s ∧ s ≤ 2147483647 then (s * 1103515245 + 12345) % 2147483648 else 0
/-- What is picked. -/
def pickI (s n : Int) : Int := if (0 ≤ s ∧ s ≤ 2147483647) ∧ 1 ≤ n ∧ n ≤ 65536 then s / 256 % n else 0

theorem nextI_in {s : Int} (h1 : 0 ≤ s) (h2 : s ≤ 2147483647) : nextI s = (s * 1103515245 + 12345) % 2147483648 := by simp [nextI, h1, h2]
theorem nextI_low {s : Int} (h1 : s < 0) : nextI s = 0 := by unfold nextI; rw [if_neg (by omega)]
theorem nextI_high {s : Int} (h1 : 2147483647 < s) : nextI s = 0 := by unfold nextI; rw [if_neg (by omega)]
theorem pickI_in {s n : Int} (h1 : 0 ≤ s) (h2 : s ≤ 2147483647) (h3 : 1 ≤ n) (h4 : n ≤ 65536) : pickI s n = s / 256 % n := by simp [pickI, h1, h2, h3, h4]
theorem pickI_out {s n : Int} (h : s < 0 ∨ 2147483647 < s ∨ n < 1 ∨ 65536 < n) : pickI s n = 0 := by unfold pickI; rw [if_neg (by omega)]
theorem wrap64_small (x : Int) (h1 : 0 ≤ x) (h2 : x < 65536) : wrap64 x = x := by unfold wrap64; omega
set_option maxRecDepth 100000 in
theorem implNext (s : Int) (w : World) :
    Calls Tryd.prog 46 #[.int .i64 s] w fun e w' => e = .returned (.int .i64 (nextI s)) ∧ w' = w := by
  rcases (show s < 0 ∨ 2147483647 < s ∨ (0 ≤ s ∧ s ≤ 2147483647) from by omega) with h | h | ⟨h1, h2⟩
  · go_enter Tryd.func46, Tryd.ntmps46
    go_wp2
    go_ret
    exact ⟨ret_int (nextI_low h).symm, rfl⟩
  · go_enter Tryd.func46, Tryd.ntmps46
    go_wp2
    go_ret
    exact ⟨ret_int (nextI_high h).symm, rfl⟩
  · go_enter Tryd.func46, Tryd.ntmps46
    go_wp2
    go_ret
    exact ⟨ret_int (nextI_in h1 h2).symm, rfl⟩

set_option maxRecDepth 100000 in
theorem implPick (s n : Int) (w : World) :
    Calls Tryd.prog 45 #[.int .i64 s, .int .i64 n] w fun e w' => e = .returned (.int .i64 (pickI s n)) ∧ w' = w := by
  rcases (show s < 0 ∨ 2147483647 < s ∨ (0 ≤ s ∧ s ≤ 2147483647) from by omega) with h | h | ⟨h1, h2⟩
  · go_enter Tryd.func45, Tryd.ntmps45
    go_wp2
    go_ret
    exact ⟨ret_int (pickI_out (by omega)).symm, rfl⟩
  · go_enter Tryd.func45, Tryd.ntmps45
    go_wp2
    go_ret
    exact ⟨ret_int (pickI_out (by omega)).symm, rfl⟩
  · rcases (show n < 1 ∨ 65536 < n ∨ (1 ≤ n ∧ n ≤ 65536) from by omega) with g | g | ⟨g1, g2⟩
    · go_enter Tryd.func45, Tryd.ntmps45
      go_wp2
      go_ret
      exact ⟨ret_int (pickI_out (by omega)).symm, rfl⟩
    · go_enter Tryd.func45, Tryd.ntmps45
      go_wp2
      go_ret
      exact ⟨ret_int (pickI_out (by omega)).symm, rfl⟩
    · have hw := wrap64_small (s / 256 % n) (Int.emod_nonneg _ (by omega)) (Int.lt_of_lt_of_le (Int.emod_lt_of_pos _ (by omega)) g2)
      go_enter Tryd.func45, Tryd.ntmps45
      go_wp2
      go_ret
      exact ⟨ret_int (hw.trans (pickI_in h1 h2 g1 g2).symm), rfl⟩
end Go.Proofs.YtcoofoiaaljpoaaDoor
namespace Go.Proofs.YtcoofoiaaljpoaaDoor
open Go.ChangeShapes Go.WideShapes Go.ChangeAt Go.RowKit

/-- The first window for which the weights up to it are more than a number. -/
def winOf : List Int → List Int → Int → Int
  | w :: ws, g :: gs, k => if k < g then w else winOf ws gs (k - g)
  | _, _, _ => 0
theorem winOf_yes {w g k : Int} {ws gs : List Int} (h : k < g) : winOf (w :: ws) (g :: gs) k = w := if_pos h
theorem winOf_no {w g k : Int} {ws gs : List Int} (h : ¬ k < g) : winOf (w :: ws) (g :: gs) k = winOf ws gs (k - g) := if_neg h
theorem sum_snoc (gs : List Int) (k : Nat) (h : k < gs.length) : (gs.take (k + 1)).sum = (gs.take k).sum + gs.getD k 0 := by
  rw [List.take_succ_eq_append_getElem h, List.sum_append, getD_eq h]
  simp
theorem drop_at {xs : List Int} {k : Nat} (h : k < xs.length) : xs.drop k = xs.getD k 0 :: xs.drop (k + 1) := by rw [List.drop_eq_getElem_cons h, getD_eq h]
/-- Weights are small, and some. -/
theorem wgt_sum {m : Nat} {gs : List Int} (h : wgtP m gs) : ∀ k, k ≤ gs.length → 0 ≤ (gs.take k).sum ∧ (gs.take k).sum ≤ 99 * k ∧ (k : Int) ≤ (gs.take k).sum
  | 0, _ => by simp
  | k + 1, hk => by
    have ih := wgt_sum h k (by omega)
    have h1 := h.1 k (by omega)
    rw [sum_snoc gs k (by omega)]
    omega
/-- What is picked is found. -/
theorem winOf_mem : ∀ (ws gs : List Int) (k : Int), ws.length = gs.length → 0 ≤ k → k < gs.sum → winOf ws gs k ∈ ws
  | [], [], k, _, h0, h1 => by simp at h1; omega
  | w :: ws, g :: gs, k, hl, h0, h1 => by
    by_cases h : k < g
    · rw [winOf_yes h]; exact List.mem_cons_self
    · rw [winOf_no h]
      exact List.mem_cons_of_mem _ (winOf_mem ws gs (k - g) (by simpa using hl) (by omega) (by rw [List.sum_cons] at h1; omega))
  | [], _ :: _, _, hl, _, _ => by simp at hl
  | _ :: _, [], _, hl, _, _ => by simp at hl
/-- What is picked for a symbol. -/
def pkOf (gs : List Int) (id : Int) : Int := pickI (nextI id) gs.sum
theorem next_bd (id : Int) : 0 ≤ nextI id ∧ nextI id ≤ 2147483647 := by
  unfold nextI; split <;> omega
theorem pk_bd {m : Nat} {gs : List Int} (h : wgtP m gs) (hm : 1 ≤ m) (h3 : m ≤ 3) (id : Int) : 0 ≤ pkOf gs id ∧ pkOf gs id < gs.sum ∧ 1 ≤ gs.sum ∧ gs.sum ≤ 297 := by
  have hs := wgt_sum h gs.length (Nat.le_refl _)
  rw [List.take_length] at hs
  have hl := h.2
  have hn := next_bd id
  unfold pkOf
  rw [pickI_in hn.1 hn.2 (by omega) (by omega)]
  refine ⟨Int.emod_nonneg _ (by omega), Int.emod_lt_of_pos _ (by omega), by omega, by omega⟩
theorem upR_le {ws : List Int} (h : ∀ k, k < ws.length → prev0 ws k < ws.getD k 0) : ∀ d k, k + d < ws.length → ws.getD k 0 ≤ ws.getD (k + d) 0
  | 0, k, _ => by simp
  | d + 1, k, hk => by
    have h1 := upR_le h d k (by omega)
    have h2 := h (k + d + 1) (by omega)
    rw [prev0_succ] at h2
    have : k + (d + 1) = k + d + 1 := by omega
    rw [this]; omega
/-- The window of a symbol. -/
def winN (ws gs : List Int) (id : Int) : Int := winOf ws gs (pkOf gs id)
theorem win_bd {n : Int} {ws gs : List Int} (hw : winP n ws) (hg : wgtP ws.length gs) (hn : n ≤ 24) (id : Int) : 1 ≤ winN ws gs id ∧ winN ws gs id ≤ 24 := by
  obtain ⟨p1, p2, _, _⟩ := pk_bd hg hw.1 hw.2.1 id
  have hm := winOf_mem ws gs (pkOf gs id) hg.2.symm p1 p2
  obtain ⟨k, hk, he⟩ := List.getElem_of_mem hm
  have hup := hw.2.2.1
  have hlast : prev0 ws ws.length = ws.getD (ws.length - 1) 0 := by unfold prev0; rw [if_neg (by have := hw.1; omega)]
  have e : winN ws gs id = ws.getD k 0 := by rw [getD_eq hk]; exact he.symm
  have l1 := upR_le hup (ws.length - 1 - k) k (by omega)
  rw [show k + (ws.length - 1 - k) = ws.length - 1 by omega, ← hlast, hw.2.2.2] at l1
  have l2 := upR_le hup k 0 (by omega)
  rw [Nat.zero_add] at l2
  have l3 := hup 0 hw.1
  have : prev0 ws 0 = 0 := rfl
  omega
end Go.Proofs.YtcoofoiaaljpoaaDoor
