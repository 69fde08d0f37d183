/- Degrees: what the program and the model answer. -/
import Derived.Test.YtcoofoiaaljpoaaDoorG0
namespace Go.Proofs.YtcoofoiaaljpoaaDoor
open Go.ChangeShapes Go.WideShapes Go.ChangeAt Go.RowKit

/-- How many parts a degree would have. -/
def wishI (count d : Nat) : Int := if d = 1 then 65536 / (count : Int) else 65536 / ((d : Int) * ((d : Int) - 1)) * 7 / 8
/-- What is given away behind k rounds, and what is left. -/
def degSt (count : Nat) : Nat → List Int × Int
  | 0 => ([], 65536)
  | k + 1 => ((degSt count k).1 ++ [min (wishI count (k + 1)) (degSt count k).2], (degSt count k).2 - min (wishI count (k + 1)) (degSt count k).2)
def degI (count : Nat) : List Int := (degSt count (count - 1)).1 ++ [(degSt count (count - 1)).2]

theorem wishI_bd (count d : Nat) (h : 1 ≤ count) (h1 : 1 ≤ d) : 0 ≤ wishI count d ∧ wishI count d ≤ 65536 := by
  unfold wishI
  split
  · exact ⟨Int.ediv_nonneg (by omega) (by omega), Int.ediv_le_self _ (by omega)⟩
  · have hp : (0 : Int) ≤ (d : Int) * ((d : Int) - 1) := Int.mul_nonneg (by omega) (by omega)
    have h3 := Int.ediv_nonneg (a := 65536) (b := (d : Int) * ((d : Int) - 1)) (by omega) hp
    have h4 := Int.ediv_le_self (a := 65536) ((d : Int) * ((d : Int) - 1)) (by omega)
    omega
theorem degSt_len (count k : Nat) : (degSt count k).1.length = k := by
  induction k with
  | zero => rfl
  | succ k ih => simp [degSt, ih]
theorem degSt_bd (count k : Nat) (h : 1 ≤ count) : 0 ≤ (degSt count k).2 ∧ (degSt count k).2 ≤ 65536 := by
  induction k with
  | zero => simp [degSt]
  | succ k ih =>
    have := wishI_bd count (k + 1) h (by omega)
    simp only [degSt]
    omega

/-- What a round does to what is kept of it. -/
theorem deg_step {count k : Nat} {w1 : World} {v' : Value} {base : Nat} {e : TypeId} {n : Int} (hn : n = min (wishI count (k + 1)) (degSt count k).2)
    (h : w1.ownsRow base e 1 v' (k + 1) ((degSt count k).1.map (Value.int .i64) ++ [.int .i64 n])) :
    w1.ownsRow base e 1 v' (k + 1) ((degSt count (k + 1)).1.map (Value.int .i64)) ∧ (degSt count (k + 1)).2 = (degSt count k).2 - n := by
  subst hn
  exact ⟨by simpa [degSt] using h, rfl⟩
theorem wishI_one (count : Nat) : wishI count 1 = 65536 / (count : Int) := rfl
theorem wishI_more (count k : Nat) (h : 1 ≤ k) : wishI count (k + 1) = 65536 / (((k : Int) + 1) * (k : Int)) * 7 / 8 := by
  unfold wishI
  rw [if_neg (by omega)]
  congr 3
  have : (((k + 1 : Nat) : Int)) = (k : Int) + 1 := by omega
  rw [this]
  congr 1
  omega

set_option maxRecDepth 100000 in
set_option maxHeartbeats 400000 in
theorem l4Degrees_any (count : Nat) (h1 : 1 ≤ count) (h2 : count ≤ 24) (w : World) :
    Calls Tryd.prog 50 #[.int .i64 count] w fun e w' => ∃ v, e = .returned v ∧ w'.ownsRow w.heap.size 3 1 v count ((degI count).map (Value.int .i64)) ∧ Below w.heap.size w w' := by
  obtain ⟨i0, hi, hz0, hz1, hz2⟩ := info_parts Tryd.info3
  go_enter Tryd.func50, Tryd.ntmps50
  go_wp2
  go_loopw [3, 4, 5] (fun v l i wr => ∃ k : Nat, k + 1 ≤ count ∧ i = .int .i64 (k + 1) ∧ l = .int .i64 (degSt count k).2 ∧ wr.ownsRow w.heap.size 3 1 v k ((degSt count k).1.map (Value.int .i64)) ∧ Below w.heap.size w wr) (fun _ _ i _ => count - (intOf i).toNat)
  case atStart =>
    exact ⟨0, by omega, rfl, rfl, World.ownsRow_lit w #[] 0 (Nat.le_refl _) (Nat.zero_le _) rfl, (Below.refl _ _).alloc (Nat.le_refl _) _⟩
  case round =>
    obtain ⟨k, hk, rfl, rfl, hown, hnx⟩ := hrel
    have hsz := hnx.size
    have hlb := degSt_bd count k h1
    have hwb := wishI_bd count (k + 1) h1 (by omega)
    obtain ⟨L, hL⟩ : ∃ L, L = (degSt count k).2 := ⟨_, rfl⟩
    have hlast : count = k + 1 → degI count = (degSt count k).1 ++ [L] := fun h => by subst h; simp [degI, hL]
    rw [← hL] at hlb ⊢
    have HL : Hid _ := hL
    clear hL
    by_cases hlt : k + 1 < count
    · clear hlast
      rcases (show k = 0 ∨ 1 ≤ k from by omega) with hk0 | hk0
      · subst hk0
        have e1 := wishI_one count
        obtain ⟨W, hW⟩ : ∃ W, W = 65536 / (count : Int) := ⟨_, rfl⟩
        rw [← hW] at e1
        rw [e1] at hwb
        have HW : Hid _ := hW
        have hW' : (65536 : Int) / (count : Int) = W := hW.symm
        have HE : Hid _ := e1
        clear hW e1
        by_cases hgt : L < W
        all_goals
          go_wp2_with (first | (at_builtin; refine append_one 22 3 i0 _ 8 Tryd.underlying22 hi hz0 hz1 hz2 rfl _ _ rfl rfl rfl rfl rfl rfl hown hsz (by omega) (by omega) ?_; intro v' w1 hown1 hb1) | go_in)
          have hst := deg_step (by rw [HE.out, ← HL.out]; omega) hown1
          go_roundw
          case rel => exact ⟨1, by omega, by go_num, by rw [hst.2, ← HL.out] <;> go_num, hst.1, hnx.trans hb1⟩
          case measure => simp [intOf]; omega
      · have e1 := wishI_more count k hk0
        obtain ⟨W, hW⟩ : ∃ W, W = 65536 / (((k : Int) + 1) * (k : Int)) * 7 / 8 := ⟨_, rfl⟩
        rw [← hW] at e1
        rw [e1] at hwb
        have HE : Hid _ := e1
        have hW' : 65536 / (((k : Int) + 1) * (k : Int)) * 7 / 8 = W := hW.symm
        have hp1 : 1 ≤ ((k : Int) + 1) * (k : Int) := by have := Int.mul_le_mul (a := 1) (b := 1) (c := (k : Int) + 1) (d := k) (by omega) (by omega) (by omega) (by omega); omega
        have hp2 : ((k : Int) + 1) * (k : Int) ≤ 600 := by have := Int.mul_le_mul (a := (k : Int) + 1) (b := k) (c := 24) (d := 23) (by omega) (by omega) (by omega) (by omega); omega
        have hq1 := Int.ediv_nonneg (a := 65536) (b := ((k : Int) + 1) * (k : Int)) (by omega) (by omega)
        have hq2 := Int.ediv_le_self (a := 65536) (((k : Int) + 1) * (k : Int)) (by omega)
        clear hW e1
        by_cases hgt : L < W
        all_goals
          go_wp2_with (first | (at_builtin; refine append_one 22 3 i0 _ 8 Tryd.underlying22 hi hz0 hz1 hz2 rfl _ _ rfl rfl rfl rfl rfl rfl hown hsz (by omega) (by omega) ?_; intro v' w1 hown1 hb1) | go_in)
          have hst := deg_step (by rw [HE.out, ← HL.out]; omega) hown1
          go_roundw
          case rel => exact ⟨k + 1, by omega, by go_num, by rw [hst.2, ← HL.out] <;> go_num, hst.1, hnx.trans hb1⟩
          case measure => simp [intOf]; omega
    · obtain rfl : count = k + 1 := by omega
      have hfin := hlast rfl
      have HF : Hid _ := hfin
      clear hlast hfin
      go_wp2_with (first | (at_builtin; refine append_one 22 3 i0 _ 8 Tryd.underlying22 hi hz0 hz1 hz2 rfl _ _ rfl rfl rfl rfl rfl rfl hown hsz (by omega) (by omega) ?_; intro v' w1 hown1 hb1) | go_in)
      go_ret
      refine ⟨_, rfl, ?_, hnx.trans hb1⟩
      rw [HF.out]
      simpa using hown1
end Go.Proofs.YtcoofoiaaljpoaaDoor
