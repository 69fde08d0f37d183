/- Degrees: what the program and the model answer. Degrees, the program's own: parts are taken by a closure. The number of blocks by a part: the program's and the model's. -/
import Derived.Test.YtegldmdcdnnegaaGreatDoorG0
import Derived.Test.YtegldmdcdnnegaaGreatDoorG1
namespace Go.Proofs.YtegldmdcdnnegaaGreatDoor
open Go.ChangeShapes Go.WideShapes Go.ChangeAt Go.RowKit

/-- How many parts a degree would have. -/
def wishI (count d : Nat) : Int := if d = 1 then 65536 / (count : Int) else 65536 / ((d : Int) * ((d : Int) - 1)) * 7 / 8
/-- What is given away behind k rounds, and what is left. -/
def degSt (count : Nat) : Nat → List Int × Int
  | 0 => ([], 65536)
  | k + 1 => ((degSt count k).1 ++ [min (wishI count (k + 1)) (degSt count k).2], (degSt count k).2 - min (wishI count (k + 1)) (degSt count k).2)
def degI (count : Nat) : List Int := (degSt count (count - 1)).1 ++ [(degSt count (count - 1)).2]

theorem wishI_bd (count d : Nat) (h : 1 ≤ count) (h1 : 1 ≤ d) : 0 ≤ wishI count d ∧ wishI count d ≤ 65536 := by
  unfold wishI
  split
  · exact ⟨Int.ediv_nonneg (by omega) (by omega), Int.ediv_le_self _ (by omega)⟩
  · have hp : (0 : Int) ≤ (d : Int) * ((d : Int) - 1) := Int.mul_nonneg (by omega) (by omega)
    have h3 := Int.ediv_nonneg (a := 65536) (b := (d : Int) * ((d : Int) - 1)) (by omega) hp
    have h4 := Int.ediv_le_self (a := 65536) ((d : Int) * ((d : Int) - 1)) (by omega)
    omega
theorem degSt_len (count k : Nat) : (degSt count k).1.length = k := by
  induction k with
  | zero => rfl
  | succ k ih => simp [degSt, ih]
theorem degSt_bd (count k : Nat) (h : 1 ≤ count) : 0 ≤ (degSt count k).2 ∧ (degSt count k).2 ≤ 65536 := by
  induction k with
  | zero => simp [degSt]
  | succ k ih =>
    have := wishI_bd count (k + 1) h (by omega)
    simp only [degSt]
    omega

/-- What a round does to what is kept of it. -/
theorem deg_step {count k : Nat} {w1 : World} {v' : Value} {base : Nat} {e : TypeId} {n : Int} (hn : n = min (wishI count (k + 1)) (degSt count k).2)
    (h : w1.ownsRow base e 1 v' (k + 1) ((degSt count k).1.map (Value.int .i64) ++ [.int .i64 n])) :
    w1.ownsRow base e 1 v' (k + 1) ((degSt count (k + 1)).1.map (Value.int .i64)) ∧ (degSt count (k + 1)).2 = (degSt count k).2 - n := by
  subst hn
  exact ⟨by simpa [degSt] using h, rfl⟩
theorem wishI_one (count : Nat) : wishI count 1 = 65536 / (count : Int) := rfl
theorem wishI_more (count k : Nat) (h : 1 ≤ k) : wishI count (k + 1) = 65536 / (((k : Int) + 1) * (k : Int)) * 7 / 8 := by
  unfold wishI
  rw [if_neg (by omega)]
  congr 3
  have : (((k + 1 : Nat) : Int)) = (k : Int) + 1 := by omega
  rw [this]
  congr 1
  omega

set_option maxRecDepth 100000 in
set_option maxHeartbeats 400000 in
theorem l4Degrees_any (count : Nat) (h1 : 1 ≤ count) (h2 : count ≤ 24) (w : World) :
    Calls Tryz.prog 101 #[.int .i64 count] w fun e w' => ∃ v, e = .returned v ∧ w'.ownsRow w.heap.size 3 1 v count ((degI count).map (Value.int .i64)) ∧ Below w.heap.size w w' := by
  obtain ⟨i0, hi, hz0, hz1, hz2⟩ := info_parts Tryz.info3
  go_enter Tryz.func101, Tryz.ntmps101
  go_wp2
  go_loopw [3, 4, 5] (fun v l i wr => ∃ k : Nat, k + 1 ≤ count ∧ i = .int .i64 (k + 1) ∧ l = .int .i64 (degSt count k).2 ∧ wr.ownsRow w.heap.size 3 1 v k ((degSt count k).1.map (Value.int .i64)) ∧ Below w.heap.size w wr) (fun _ _ i _ => count - (intOf i).toNat)
  case atStart =>
    exact ⟨0, by omega, rfl, rfl, World.ownsRow_lit w #[] 0 (Nat.le_refl _) (Nat.zero_le _) rfl, (Below.refl _ _).alloc (Nat.le_refl _) _⟩
  case round =>
    obtain ⟨k, hk, rfl, rfl, hown, hnx⟩ := hrel
    have hsz := hnx.size
    have hlb := degSt_bd count k h1
    have hwb := wishI_bd count (k + 1) h1 (by omega)
    obtain ⟨L, hL⟩ : ∃ L, L = (degSt count k).2 := ⟨_, rfl⟩
    have hlast : count = k + 1 → degI count = (degSt count k).1 ++ [L] := fun h => by subst h; simp [degI, hL]
    rw [← hL] at hlb ⊢
    have HL : Hid _ := hL
    clear hL
    by_cases hlt : k + 1 < count
    · clear hlast
      rcases (show k = 0 ∨ 1 ≤ k from by omega) with hk0 | hk0
      · subst hk0
        have e1 := wishI_one count
        obtain ⟨W, hW⟩ : ∃ W, W = 65536 / (count : Int) := ⟨_, rfl⟩
        rw [← hW] at e1
        rw [e1] at hwb
        have HW : Hid _ := hW
        have hW' : (65536 : Int) / (count : Int) = W := hW.symm
        have HE : Hid _ := e1
        clear hW e1
        by_cases hgt : L < W
        all_goals
          go_wp2_with (first | (at_builtin; refine append_one 22 3 i0 _ 8 Tryz.underlying22 hi hz0 hz1 hz2 rfl _ _ rfl rfl rfl rfl rfl rfl hown hsz (by omega) (by omega) ?_; intro v' w1 hown1 hb1) | go_in)
          have hst := deg_step (by rw [HE.out, ← HL.out]; omega) hown1
          go_roundw
          case rel => exact ⟨1, by omega, by go_num, by rw [hst.2, ← HL.out] <;> go_num, hst.1, hnx.trans hb1⟩
          case measure => simp [intOf]; omega
      · have e1 := wishI_more count k hk0
        obtain ⟨W, hW⟩ : ∃ W, W = 65536 / (((k : Int) + 1) * (k : Int)) * 7 / 8 := ⟨_, rfl⟩
        rw [← hW] at e1
        rw [e1] at hwb
        have HE : Hid _ := e1
        have hW' : 65536 / (((k : Int) + 1) * (k : Int)) * 7 / 8 = W := hW.symm
        have hp1 : 1 ≤ ((k : Int) + 1) * (k : Int) := by have := Int.mul_le_mul (a := 1) (b := 1) (c := (k : Int) + 1) (d := k) (by omega) (by omega) (by omega) (by omega); omega
        have hp2 : ((k : Int) + 1) * (k : Int) ≤ 600 := by have := Int.mul_le_mul (a := (k : Int) + 1) (b := k) (c := 24) (d := 23) (by omega) (by omega) (by omega) (by omega); omega
        have hq1 := Int.ediv_nonneg (a := 65536) (b := ((k : Int) + 1) * (k : Int)) (by omega) (by omega)
        have hq2 := Int.ediv_le_self (a := 65536) (((k : Int) + 1) * (k : Int)) (by omega)
        clear hW e1
        by_cases hgt : L < W
        all_goals
          go_wp2_with (first | (at_builtin; refine append_one 22 3 i0 _ 8 Tryz.underlying22 hi hz0 hz1 hz2 rfl _ _ rfl rfl rfl rfl rfl rfl hown hsz (by omega) (by omega) ?_; intro v' w1 hown1 hb1) | go_in)
          have hst := deg_step (by rw [HE.out, ← HL.out]; omega) hown1
          go_roundw
          case rel => exact ⟨k + 1, by omega, by go_num, by rw [hst.2, ← HL.out] <;> go_num, hst.1, hnx.trans hb1⟩
          case measure => simp [intOf]; omega
    · obtain rfl : count = k + 1 := by omega
      have hfin := hlast rfl
      have HF : Hid _ := hfin
      clear hlast hfin
      go_wp2_with (first | (at_builtin; refine append_one 22 3 i0 _ 8 Tryz.underlying22 hi hz0 hz1 hz2 rfl _ _ rfl rfl rfl rfl rfl rfl hown hsz (by omega) (by omega) ?_; intro v' w1 hown1 hb1) | go_in)
      go_ret
      refine ⟨_, rfl, ?_, hnx.trans hb1⟩
      rw [HF.out]
      simpa using hown1
end Go.Proofs.YtegldmdcdnnegaaGreatDoor
namespace Go.Proofs.YtegldmdcdnnegaaGreatDoor
open Go.ChangeShapes Go.WideShapes Go.ChangeAt Go.RowKit

set_option maxRecDepth 100000 in
theorem wish_any (count d : Nat) (h1 : 1 ≤ count) (h2 : count ≤ 24) (g1 : 1 ≤ d) (g2 : d ≤ 24) (w : World) :
    Calls Tryz.prog 117 #[.int .i64 count, .int .i64 d] w fun e w' => e = .returned (.int .i64 (wishI count d)) ∧ w' = w := by
  rcases (show d = 1 ∨ 2 ≤ d from by omega) with rfl | h
  · go_enter Tryz.func117, Tryz.ntmps117
    go_wp2
    go_ret
    exact ⟨ret_int (wishI_one count).symm, rfl⟩
  · obtain ⟨k, rfl⟩ : ∃ k, d = k + 1 := ⟨d - 1, by omega⟩
    have e1 := wishI_more count k (by omega)
    have HE : Hid _ := e1
    have hd : ((k + 1 : Nat) : Int) = (k : Int) + 1 := by omega
    rw [hd]
    have hne : ((k : Int) + 1 == 1) = false := by simp; omega
    have hp1 : 1 ≤ ((k : Int) + 1) * (k : Int) := by have := Int.mul_le_mul (a := 1) (b := 1) (c := (k : Int) + 1) (d := k) (by omega) (by omega) (by omega) (by omega); omega
    have hp2 : ((k : Int) + 1) * (k : Int) ≤ 600 := by have := Int.mul_le_mul (a := (k : Int) + 1) (b := k) (c := 24) (d := 23) (by omega) (by omega) (by omega) (by omega); omega
    have hq1 := Int.ediv_nonneg (a := 65536) (b := ((k : Int) + 1) * (k : Int)) (by omega) (by omega)
    have hq2 := Int.ediv_le_self (a := 65536) (((k : Int) + 1) * (k : Int)) (by omega)
    clear e1 hd
    go_enter Tryz.func117, Tryz.ntmps117
    go_wp2
    go_ret
    exact ⟨ret_int HE.out.symm, rfl⟩

set_option maxRecDepth 100000 in
set_option maxRecDepth 100000 in
/-- The closure: as much as is wished for, as long as it is left. -/
theorem take_any (g : Nat) (x l : Int) (w : World) (hx : 0 ≤ x ∧ x ≤ 65536) (hl : 0 ≤ l ∧ l ≤ 65536) (hcap : w.heap[g]? = some (.cells #[.int .i64 l] 3 (0, 0))) :
    Calls Tryz.prog 118 #[.int .i64 x, .pointer (some ⟨g, 0, none⟩)] w fun e w' => e = .returned (.int .i64 (min x l)) ∧ w'.heap[g]? = some (.cells #[.int .i64 (l - min x l)] 3 (0, 0)) ∧ Touch g w w' := by
  have hc := cell_of_one hcap
  have hf := free_of_one hcap
  have HC : Hid _ := hcap
  clear hcap
  by_cases h : x ≤ l
  · have e1 : min x l = x := by omega
    rw [e1]
    clear e1
    go_enter Tryz.func118, Tryz.ntmps118
    go_wp2
    go_ret
    exact ⟨rfl, one_setCell HC.out, Touch.setCell w ⟨g, 0, none⟩ _⟩
  · have e1 : min x l = l := by omega
    rw [e1]
    have e2 : l - l = 0 := by omega
    rw [e2]
    clear e1 e2
    go_enter Tryz.func118, Tryz.ntmps118
    go_wp2
    go_ret
    exact ⟨rfl, one_setCell HC.out, Touch.setCell w ⟨g, 0, none⟩ _⟩

set_option maxRecDepth 100000 in
theorem taker_any (w : World) :
    Calls Tryz.prog 116 #[] w fun e w' => e = .returned (.func (.func 118) #[] #[.pointer (some ⟨w.heap.size, 0, none⟩)]) ∧ w' = w.alloc (.cells #[.int .i64 65536] 3) := by
  go_enter Tryz.func116, Tryz.ntmps116
  go_wp2
  go_ret
  exact ⟨rfl, rfl⟩

set_option maxHeartbeats 1000000 in
set_option maxRecDepth 100000 in
theorem implDegrees_in (count : Nat) (h1 : 1 ≤ count) (h2 : count ≤ 24) (w : World) :
    Calls Tryz.prog 113 #[.int .i64 count] w fun e w' => ∃ v, e = .returned v ∧ w'.ownsRow w.heap.size 3 1 v count ((degI count).map (Value.int .i64)) ∧ Below w.heap.size w w' := by
  obtain ⟨i0, hi, hz0, hz1, hz2⟩ := info_parts Tryz.info3
  go_enter Tryz.func113, Tryz.ntmps113
  go_wp2_with (go_at_call 116; refine (taker_any _).mono ?_; rintro e w' ⟨rfl, rfl⟩)
  go_loopw [4, 5] (fun v i wr => ∃ k : Nat, k + 1 ≤ count ∧ i = .int .i64 (k + 1) ∧ wr.heap[w.heap.size]? = some (.cells #[.int .i64 (degSt count k).2] 3 (0, 0)) ∧ wr.ownsRow (w.heap.size + 1) 3 1 v k ((degSt count k).1.map (Value.int .i64)) ∧ Below w.heap.size w wr) (fun _ i _ => count - (intOf i).toNat)
  case atStart =>
    exact ⟨0, by omega, rfl, heap_alloc_new w _, World.ownsRow_nil _ _ _ _, (Below.refl _ _).alloc (Nat.le_refl _) _⟩
  case round =>
    obtain ⟨k, hk, rfl, hcap, hown, hnx⟩ := hrel
    have hsz := lt_of_block hcap
    have hlb := degSt_bd count k h1
    have hwb := wishI_bd count (k + 1) h1 (by omega)
    obtain ⟨L, hL⟩ : ∃ L, L = (degSt count k).2 := ⟨_, rfl⟩
    have hlast : count = k + 1 → degI count = (degSt count k).1 ++ [L] := fun h => by subst h; simp [degI, hL]
    rw [← hL] at hlb hcap
    have HL : Hid _ := hL
    have HC : Hid _ := hcap
    clear hL hcap
    by_cases hlt : k + 1 < count
    · clear hlast
      have hwc : ((k : Int) + 1) = ((k + 1 : Nat) : Int) := by omega
      have HWC : Hid _ := hwc
      clear hwc
      go_wp2_with (first
        | (go_at_call 117; rw [HWC.out]; refine (wish_any count (k + 1) h1 h2 (by omega) (by omega) _).mono ?_; rintro e w' ⟨rfl, rfl⟩)
        | (go_at_call 118; refine (take_any w.heap.size _ L _ hwb hlb HC.out).mono ?_; rintro e w2 ⟨rfl, hcap2, ht2⟩; have hown2 := ht2.owns hown (Nat.lt_succ_self _); have HC2 : Hid _ := hcap2; have hsz2 := lt_of_block hcap2; clear hcap2)
        | (at_builtin; refine append_one 22 3 i0 _ 8 Tryz.underlying22 hi hz0 hz1 hz2 rfl _ _ rfl rfl rfl rfl rfl rfl hown2 hsz2 (by omega) (by omega) ?_; intro v' w1 hown1 hb1))
      have hst := deg_step (by rw [← HL.out]) hown1
      have hcap1 := (hb1.block w.heap.size (Nat.lt_succ_self _)).trans HC2.out
      go_roundw
      case rel => exact ⟨k + 1, by omega, by go_num, by rw [hst.2, ← HL.out]; exact hcap1, hst.1, (hnx.trans (ht2.below (Nat.le_refl _))).trans (hb1.mono (Nat.le_succ _))⟩
      case measure => simp [intOf]; omega
    · obtain rfl : count = k + 1 := by omega
      have HF : Hid _ := hlast rfl
      clear hlast
      go_wp2_with (first
        | (go_at_call 118; refine (take_any w.heap.size _ L _ (by omega) hlb HC.out).mono ?_; rintro e w2 ⟨rfl, hcap2, ht2⟩; have hown2 := ht2.owns hown (Nat.lt_succ_self _); have HC2 : Hid _ := hcap2; have hsz2 := lt_of_block hcap2; clear hcap2)
        | (at_builtin; refine append_one 22 3 i0 _ 8 Tryz.underlying22 hi hz0 hz1 hz2 rfl _ _ rfl rfl rfl rfl rfl rfl hown2 hsz2 (by omega) (by omega) ?_; intro v' w1 hown1 hb1))
      go_ret
      refine ⟨_, rfl, ?_, (hnx.trans (ht2.below (Nat.le_refl _))).trans (hb1.mono (Nat.le_succ _))⟩
      rw [HF.out]
      have : min 65536 L = L := by omega
      rw [this] at hown1
      simpa using owns_base hown1 (Nat.le_succ _)

set_option maxRecDepth 100000 in
theorem implDegrees_out (c : Int) (h : c < 1 ∨ 24 < c) (w : World) :
    Calls Tryz.prog 113 #[.int .i64 c] w fun e w' => e = .returned (.slice none 0 0) ∧ w' = w := by
  rcases h with h | h
  · go_enter Tryz.func113, Tryz.ntmps113
    go_wp2
    go_ret
    exact ⟨rfl, rfl⟩
  · have h' : ¬ c < 1 := by omega
    go_enter Tryz.func113, Tryz.ntmps113
    go_wp2
    go_ret
    exact ⟨rfl, rfl⟩
end Go.Proofs.YtegldmdcdnnegaaGreatDoor
namespace Go.Proofs.YtegldmdcdnnegaaGreatDoor
open Go.ChangeShapes Go.WideShapes Go.ChangeAt Go.RowKit

/-- The first number for which the parts up to it are more than the part. -/
def degOf : List Int → Int → Nat
  | [], _ => 0
  | d :: r, p => if p < d then 1 else degOf r (p - d) + 1

/-- The first k together. -/
def sumTo (ds : List Int) (k : Nat) : Int := (ds.take k).sum
theorem sumTo_zero (ds : List Int) : sumTo ds 0 = 0 := rfl
theorem sumTo_succ (ds : List Int) (k : Nat) (h : k < ds.length) : sumTo ds (k + 1) = sumTo ds k + ds.getD k 0 := by
  unfold sumTo
  rw [List.take_succ_eq_append_getElem h, List.sum_append]
  simp [List.getD, h]
theorem sumTo_all (ds : List Int) : sumTo ds ds.length = ds.sum := by unfold sumTo; rw [List.take_length]

theorem degOf_drop (ds : List Int) (p : Int) (k : Nat) (h : k < ds.length) : degOf (ds.drop k) (p - sumTo ds k) = if p - sumTo ds k < ds.getD k 0 then 1 else degOf (ds.drop (k + 1)) (p - sumTo ds (k + 1)) + 1 := by
  rw [List.drop_eq_getElem_cons h, degOf, sumTo_succ ds k h]
  have : ds.getD k 0 = ds[k] := by simp [List.getD, h]
  rw [this, Int.sub_sub]

theorem degSt_sum (count k : Nat) : (degSt count k).1.sum + (degSt count k).2 = 65536 := by
  induction k with
  | zero => simp [degSt]
  | succ k ih => simp only [degSt, List.sum_append, List.sum_cons, List.sum_nil]; omega
theorem degI_sum (count : Nat) : (degI count).sum = 65536 := by
  have := degSt_sum count (count - 1)
  simp only [degI, List.sum_append, List.sum_cons, List.sum_nil]; omega
theorem degI_len (count : Nat) (h : 1 ≤ count) : (degI count).length = count := by
  simp only [degI, List.length_append, degSt_len]; simp; omega
theorem degSt_in (count k : Nat) (h : 1 ≤ count) : ∀ x ∈ (degSt count k).1, 0 ≤ x ∧ x ≤ 65536 := by
  induction k with
  | zero => simp [degSt]
  | succ k ih =>
    intro x hx
    simp only [degSt, List.mem_append, List.mem_singleton] at hx
    rcases hx with hx | hx
    · exact ih x hx
    · have h1 := wishI_bd count (k + 1) h (by omega)
      have h2 := degSt_bd count k h
      omega
theorem degI_in (count : Nat) (h : 1 ≤ count) : ∀ x ∈ degI count, 0 ≤ x ∧ x ≤ 65536 := by
  intro x hx
  simp only [degI, List.mem_append, List.mem_singleton] at hx
  rcases hx with hx | hx
  · exact degSt_in count _ h x hx
  · rw [hx]; exact degSt_bd count _ h
theorem degI_at (count k : Nat) (h : 1 ≤ count) : 0 ≤ (degI count).getD k 0 ∧ (degI count).getD k 0 ≤ 65536 := by
  by_cases hk : k < (degI count).length
  · have : (degI count).getD k 0 = (degI count)[k] := by simp [List.getD, hk]
    rw [this]; exact degI_in count h _ (List.getElem_mem _)
  · simp [List.getD, List.getElem?_eq_none (Nat.le_of_not_lt hk)]

/-- A cell of a row of ints that is owned. -/
theorem owns_int {w : World} {base : Nat} {e : TypeId} {v : Value} {n : Nat} {xs : List Int} (h : w.ownsRow base e 1 v n (xs.map (Value.int .i64))) (hn : 0 < n) :
    ∃ g cap, v = .slice (some ⟨g, 0, none⟩) n cap ∧ base ≤ g ∧ ∀ k, k < n → w.cell? ⟨g, k, none⟩ = some (.int .i64 (xs.getD k 0)) := by
  have hl : xs.length = n := by simpa using h.1
  obtain ⟨g, cap, rfl, hg⟩ := owns_shape h (by intro e; simp at e; rw [e] at hl; simp at hl; omega)
  refine ⟨g, cap, rfl, hg, fun k hk => ?_⟩
  rw [h.cellAt k (by omega)]
  simp [hl, hk, List.getD]

set_option maxHeartbeats 1000000 in
set_option maxRecDepth 100000 in
theorem implDegreeOf_in (count : Nat) (p : Int) (h1 : 1 ≤ count) (h2 : count ≤ 24) (p1 : 0 ≤ p) (p2 : p < 65536) (w : World) :
    Calls Tryz.prog 106 #[.int .i64 count, .int .i64 p] w fun e w' => e = .returned (.int .i64 (degOf (degI count) p)) ∧ Below w.heap.size w w' := by
  have h65 : decide (65536 ≤ p) = false := by simp; omega
  go_enter Tryz.func106, Tryz.ntmps106
  go_wp2_with (go_at_call 113; refine (implDegrees_in count h1 h2 _).mono ?_; rintro e w1 ⟨v, rfl, hown, hb⟩; obtain ⟨g, cap, rfl, hg, hc⟩ := owns_int hown (by omega))
  go_loop [5, 17] (fun u i => ∃ k : Nat, k ≤ count ∧ i = .int .i64 k ∧ u = .int .i64 (sumTo (degI count) k) ∧ 0 ≤ sumTo (degI count) k ∧ sumTo (degI count) k ≤ p ∧ degOf (degI count) p = k + degOf ((degI count).drop k) (p - sumTo (degI count) k)) (fun _ i => count - (intOf i).toNat)
  case atStart => exact ⟨0, by omega, rfl, rfl, by simp [sumTo], by simpa [sumTo] using p1, by simp [sumTo]⟩
  case round =>
    obtain ⟨k, hk, rfl, rfl, hs1, hs2, hd⟩ := hrel
    by_cases hlt : k < count
    · have hd2 := degOf_drop (degI count) p k (by rw [degI_len count h1]; exact hlt)
      have hs := sumTo_succ (degI count) k (by rw [degI_len count h1]; exact hlt)
      have hck := hc k hlt
      have hat := degI_at count k h1
      obtain ⟨D, hD⟩ : ∃ D, D = (degI count).getD k 0 := ⟨_, rfl⟩
      obtain ⟨S, hS⟩ : ∃ S, S = sumTo (degI count) k := ⟨_, rfl⟩
      rw [← hD] at hd2 hs hck hat
      rw [← hS] at hd2 hs hs1 hs2 hd ⊢
      have H1 : Hid _ := hd2
      have H2 : Hid _ := hs
      have H3 : Hid _ := hd
      clear hd2 hs hd hc hD hS hown
      by_cases hgt : p < S + D
      · go_wp2
        go_ret
        refine ⟨ret_int ?_, hb⟩
        rw [H3.out, H1.out, if_pos (by omega)]
        omega
      · go_wp2
        go_round
        case rel => exact ⟨k + 1, by omega, by go_num, by rw [H2.out], by rw [H2.out]; omega, by rw [H2.out]; omega, by rw [H3.out, H1.out, if_neg (by omega)]; omega⟩
        case measure => simp [intOf]; omega
    · exfalso
      obtain rfl : k = count := by omega
      have := sumTo_all (degI k)
      rw [degI_len k h1, degI_sum] at this
      omega

set_option maxRecDepth 100000 in
theorem implDegreeOf_out (c p : Int) (h : p < 0 ∨ 65536 ≤ p ∨ c < 1 ∨ 24 < c) (w : World) :
    Calls Tryz.prog 106 #[.int .i64 c, .int .i64 p] w fun e w' => e = .returned (.int .i64 0) ∧ Below w.heap.size w w' := by
  by_cases h1 : p < 0
  · clear h
    go_enter Tryz.func106, Tryz.ntmps106
    go_wp2
    go_ret
    exact ⟨rfl, Below.refl _ _⟩
  · by_cases h2 : 65536 ≤ p
    · clear h
      go_enter Tryz.func106, Tryz.ntmps106
      go_wp2
      go_ret
      exact ⟨rfl, Below.refl _ _⟩
    · have h3 : c < 1 ∨ 24 < c := by omega
      have h4 : decide (65536 ≤ p) = false := by simp; omega
      clear h
      go_enter Tryz.func106, Tryz.ntmps106
      go_wp2_with (go_at_call 113; refine (implDegrees_out c h3 _).mono ?_; rintro e w1 ⟨rfl, rfl⟩)
      refine wp_loop_rounds 1 ?_
      rw [rounds_succ]
      go_wp2
      go_ret
      exact ⟨rfl, Below.refl _ _⟩

set_option maxHeartbeats 1000000 in
set_option maxRecDepth 100000 in
theorem l4Degree_any (count : Nat) (p : Int) (h1 : 1 ≤ count) (h2 : count ≤ 24) (p1 : 0 ≤ p) (p2 : p < 65536) (w : World) :
    Calls Tryz.prog 69 #[.int .i64 count, .int .i64 p] w fun e w' => e = .returned (.int .i64 (degOf (degI count) p)) ∧ Below w.heap.size w w' := by
  go_enter Tryz.func69, Tryz.ntmps69
  go_wp2_with (go_at_call 101; refine (l4Degrees_any count h1 h2 _).mono ?_; rintro e w1 ⟨v, rfl, hown, hb⟩; obtain ⟨g, cap, rfl, hg, hc⟩ := owns_int hown (by omega))
  go_loop [1, 6] (fun u i => ∃ k : Nat, k + 1 ≤ count ∧ i = .int .i64 (k + 1) ∧ u = .int .i64 (p - sumTo (degI count) k) ∧ 0 ≤ sumTo (degI count) k ∧ sumTo (degI count) k ≤ p ∧ degOf (degI count) p = k + degOf ((degI count).drop k) (p - sumTo (degI count) k)) (fun _ i => count - (intOf i).toNat)
  case atStart => exact ⟨0, by omega, rfl, by simp [sumTo], by simp [sumTo], by simpa [sumTo] using p1, by simp [sumTo]⟩
  case round =>
    obtain ⟨k, hk, rfl, rfl, hs1, hs2, hd⟩ := hrel
    have hd2 := degOf_drop (degI count) p k (by rw [degI_len count h1]; exact hk)
    have hs := sumTo_succ (degI count) k (by rw [degI_len count h1]; exact hk)
    have hck := hc k hk
    have hat := degI_at count k h1
    obtain ⟨D, hD⟩ : ∃ D, D = (degI count).getD k 0 := ⟨_, rfl⟩
    obtain ⟨S, hS⟩ : ∃ S, S = sumTo (degI count) k := ⟨_, rfl⟩
    rw [← hD] at hd2 hs hck hat
    rw [← hS] at hd2 hs hs1 hs2 hd ⊢
    have H1 : Hid _ := hd2
    have H2 : Hid _ := hs
    have H3 : Hid _ := hd
    clear hd2 hs hd hc hD hS hown
    by_cases hlt : k + 1 < count
    · by_cases hgt : p - S < D
      · go_wp2
        go_ret
        refine ⟨ret_int ?_, hb⟩
        rw [H3.out, H1.out, if_pos (by omega)]
        omega
      · go_wp2
        go_round
        case rel => exact ⟨k + 1, by omega, by go_num, by rw [H2.out]; go_num, by rw [H2.out]; omega, by rw [H2.out]; omega, by rw [H3.out, H1.out, if_neg (by omega)]; omega⟩
        case measure => simp [intOf]; omega
    · obtain rfl : count = k + 1 := by omega
      have hall := sumTo_all (degI (k + 1))
      rw [degI_len _ h1, degI_sum, H2.out] at hall
      go_wp2
      go_ret
      refine ⟨ret_int ?_, hb⟩
      rw [H3.out, H1.out, if_pos (by omega)]
      omega
end Go.Proofs.YtegldmdcdnnegaaGreatDoor
