/- The seeds: what the functions of chapter 4 on seeds answer, in the program. -/
import Derived.Test.YtegldmdcdnnegaaDoorBase
namespace Go.Proofs.YtegldmdcdnnegaaDoor
open Go.ChangeShapes Go.WideShapes Go.ChangeAt Go.RowKit

/-- The seed behind a seed, of whatever number. -/
def nextI (s : Int) : Int := if 0 ≤ s ∧ s ≤ 2147483647 then (s * 1103515245 + 12345) % 2147483648 else 0
/-- What is picked. -/
def pickI (s n : Int) : Int := if (0 ≤ s ∧ s ≤ 2147483647) ∧ 1 ≤ n ∧ n ≤ 65536 then s / 256 % n else 0

theorem nextI_in {s : Int} (h1 : 0 ≤ s) (h2 : s ≤ 2147483647) : nextI s = (s * 1103515245 + 12345) % 2147483648 := by simp [nextI, h1, h2]
theorem nextI_low {s : Int} (h1 : s < 0) : nextI s = 0 := by unfold nextI; rw [if_neg (by omega)]
theorem nextI_high {s : Int} (h1 : 2147483647 < s) : nextI s = 0 := by unfold nextI; rw [if_neg (by omega)]
theorem pickI_in {s n : Int} (h1 : 0 ≤ s) (h2 : s ≤ 2147483647) (h3 : 1 ≤ n) (h4 : n ≤ 65536) : pickI s n = s / 256 % n := by simp [pickI, h1, h2, h3, h4]
theorem pickI_out {s n : Int} (h : s < 0 ∨ 2147483647 < s ∨ n < 1 ∨ 65536 < n) : pickI s n = 0 := by unfold pickI; rw [if_neg (by omega)]
theorem wrap64_small (x : Int) (h1 : 0 ≤ x) (h2 : x < 65536) : wrap64 x = x := by unfold wrap64; omega
theorem implNext (s : Int) (w : World) :
    Calls Tryd.prog 72 #[.int .i64 s] w fun e w' => e = .returned (.int .i64 (nextI s)) ∧ w' = w := by
  rcases (show s < 0 ∨ 2147483647 < s ∨ (0 ≤ s ∧ s ≤ 2147483647) from by omega) with h | h | ⟨h1, h2⟩
  · go_enter Tryd.func72, Tryd.ntmps72
    go_wp2
    go_ret
    exact ⟨ret_int (nextI_low h).symm, rfl⟩
  · go_enter Tryd.func72, Tryd.ntmps72
    go_wp2
    go_ret
    exact ⟨ret_int (nextI_high h).symm, rfl⟩
  · go_enter Tryd.func72, Tryd.ntmps72
    go_wp2
    go_ret
    exact ⟨ret_int (nextI_in h1 h2).symm, rfl⟩

theorem implPick (s n : Int) (w : World) :
    Calls Tryd.prog 71 #[.int .i64 s, .int .i64 n] w fun e w' => e = .returned (.int .i64 (pickI s n)) ∧ w' = w := by
  rcases (show s < 0 ∨ 2147483647 < s ∨ (0 ≤ s ∧ s ≤ 2147483647) from by omega) with h | h | ⟨h1, h2⟩
  · go_enter Tryd.func71, Tryd.ntmps71
    go_wp2
    go_ret
    exact ⟨ret_int (pickI_out (by omega)).symm, rfl⟩
  · go_enter Tryd.func71, Tryd.ntmps71
    go_wp2
    go_ret
    exact ⟨ret_int (pickI_out (by omega)).symm, rfl⟩
  · rcases (show n < 1 ∨ 65536 < n ∨ (1 ≤ n ∧ n ≤ 65536) from by omega) with g | g | ⟨g1, g2⟩
    · go_enter Tryd.func71, Tryd.ntmps71
      go_wp2
      go_ret
      exact ⟨ret_int (pickI_out (by omega)).symm, rfl⟩
    · go_enter Tryd.func71, Tryd.ntmps71
      go_wp2
      go_ret
      exact ⟨ret_int (pickI_out (by omega)).symm, rfl⟩
    · have hw := wrap64_small (s / 256 % n) (Int.emod_nonneg _ (by omega)) (Int.lt_of_lt_of_le (Int.emod_lt_of_pos _ (by omega)) g2)
      go_enter Tryd.func71, Tryd.ntmps71
      go_wp2
      go_ret
      exact ⟨ret_int (hw.trans (pickI_in h1 h2 g1 g2).symm), rfl⟩
end Go.Proofs.YtegldmdcdnnegaaDoor
