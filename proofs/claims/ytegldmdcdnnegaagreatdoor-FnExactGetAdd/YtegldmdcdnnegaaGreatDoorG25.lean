/- A row drawn, the model's way: those that are left as a list. A row drawn, the program's way: those that are left as bits. RowDraw: the program's and the model's. RowDraw, the program's, of what is no count or seed. -/
import Derived.Test.YtegldmdcdnnegaaGreatDoorG23
import Derived.Test.YtegldmdcdnnegaaGreatDoorG24
import Derived.Test.YtegldmdcdnnegaaGreatDoorG2
namespace Go.Proofs.YtegldmdcdnnegaaGreatDoor
open Go.ChangeShapes Go.WideShapes Go.ChangeAt Go.RowKit

/-- The seed behind a seed that is one. -/
def nx (s : Int) : Int := (s * 1103515245 + 12345) % 2147483648
theorem nx_bd (s : Int) : 0 ≤ nx s ∧ nx s ≤ 2147483647 := by unfold nx; omega
set_option maxRecDepth 100000 in
theorem l4Next_any (s : Int) (w : World) (h1 : 0 ≤ s) (h2 : s ≤ 2147483647) :
    Calls Tryz.prog 68 #[.int .i64 s] w fun e w' => e = .returned (.int .i64 (nx s)) ∧ w' = w := by
  go_enter Tryz.func68, Tryz.ntmps68
  go_wp2
  go_ret
  exact ⟨rfl, rfl⟩
set_option maxRecDepth 100000 in
theorem l4Pick_any (s n : Int) (w : World) (h1 : 0 ≤ s) (h2 : s ≤ 2147483647) (h3 : 1 ≤ n) (h4 : n ≤ 65536) :
    Calls Tryz.prog 70 #[.int .i64 s, .int .i64 n] w fun e w' => e = .returned (.int .i64 (s / 256 % n)) ∧ w' = w := by
  go_enter Tryz.func70, Tryz.ntmps70
  go_wp2
  go_ret
  exact ⟨rfl, rfl⟩

/-- What is drawn behind k steps: the seed, those that are left, those that are taken. -/
def drawSt (count : Nat) (s : Int) : Nat → Int × List Int × List Int
  | 0 => (s, (List.range count).map fun (i : Nat) => (i : Int), [])
  | k + 1 => (nx (drawSt count s k).1, (drawSt count s k).2.1.eraseIdx (nx (drawSt count s k).1 / 256 % (drawSt count s k).2.1.length).toNat,
      intoAt (drawSt count s k).2.2 ((drawSt count s k).2.1.getD (nx (drawSt count s k).1 / 256 % (drawSt count s k).2.1.length).toNat 0) (placeOf (drawSt count s k).2.2 ((drawSt count s k).2.1.getD (nx (drawSt count s k).1 / 256 % (drawSt count s k).2.1.length).toNat 0)))
theorem drawSt_s (count : Nat) (s : Int) (k : Nat) (h : 0 ≤ s ∧ s ≤ 2147483647) : 0 ≤ (drawSt count s k).1 ∧ (drawSt count s k).1 ≤ 2147483647 := by
  cases k with
  | zero => exact h
  | succ k => exact nx_bd _
theorem pick_lt (s : Int) (n : Nat) (h : 0 < n) : 0 ≤ nx s / 256 % n ∧ nx s / 256 % n < n := ⟨Int.emod_nonneg _ (by omega), Int.emod_lt_of_pos _ (by omega)⟩
theorem intoAt_len (xs : List Int) (n : Int) (k : Nat) (h : k ≤ xs.length) : (intoAt xs n k).length = xs.length + 1 := by
  unfold intoAt
  simp only [List.length_append, List.length_take, List.length_drop, List.length_singleton]
  omega
theorem placeOf_le (xs : List Int) (n : Int) : placeOf xs n ≤ xs.length := by
  unfold placeOf
  exact (List.takeWhile_sublist _).length_le
theorem drawSt_len (count : Nat) (s : Int) (k : Nat) (h : k ≤ count) : (drawSt count s k).2.1.length = count - k ∧ (drawSt count s k).2.2.length = k := by
  induction k with
  | zero => simp [drawSt]
  | succ k ih =>
    obtain ⟨i1, i2⟩ := ih (by omega)
    have hp := pick_lt (drawSt count s k).1 (drawSt count s k).2.1.length (by omega)
    refine ⟨?_, ?_⟩
    · simp only [drawSt]
      rw [List.length_eraseIdx_of_lt (by omega)]
      omega
    · simp only [drawSt]
      rw [intoAt_len _ _ _ (placeOf_le _ _), i2]

theorem range_take (k : Nat) : ((List.range (k + 1)).map fun (i : Nat) => (i : Int)) = ((List.range k).map fun (i : Nat) => (i : Int)) ++ [(k : Int)] := by
  rw [List.range_succ, List.map_append]
  rfl
theorem degOf_le (ds : List Int) (p : Int) : degOf ds p ≤ ds.length := by
  induction ds generalizing p with
  | nil => simp [degOf]
  | cons d r ih =>
    rw [degOf]
    split
    · simp
    · have := ih (p - d)
      rw [List.length_cons]
      omega
/-- How many a row has that is drawn. -/
def drawN (count : Nat) (seed : Int) : Nat := degOf (degI count) (nx (nx seed) / 256 % 65536)
/-- The row that is drawn. -/
def drawI (count : Nat) (seed : Int) : List Int := (drawSt count (nx (nx seed)) (drawN count seed)).2.2
theorem drawN_le (count : Nat) (seed : Int) (h : 1 ≤ count) : drawN count seed ≤ count := by
  have := degOf_le (degI count) (nx (nx seed) / 256 % 65536)
  rw [degI_len count h] at this
  exact this

theorem owns_nn {w : World} {base : Nat} {e : TypeId} {v : Value} {n : Nat} {xs : List Value} (h : w.ownsRow base e 1 v n xs) (hn : v ≠ .slice none 0 0 ∨ 0 < n) : v ≠ .slice none 0 0 := by
  rcases hn with hn | hn
  · exact hn
  · intro e
    rcases h.2 with ⟨_, h0⟩ | ⟨g, cap, cur, hv, _⟩
    · omega
    · rw [e] at hv; simp at hv

set_option maxHeartbeats 4000000 in
set_option maxRecDepth 100000 in
theorem l4Row_any (count : Nat) (seed : Int) (w : World) (h1 : 1 ≤ count) (h2 : count ≤ 24) (s1 : 0 ≤ seed) (s2 : seed ≤ 2147483647) :
    Calls Tryz.prog 42 #[.int .i64 count, .int .i64 seed] w fun e w' => ∃ v, e = .returned v ∧ w'.ownsRow w.heap.size 3 1 v (drawI count seed).length ((drawI count seed).map (Value.int .i64)) ∧ Below w.heap.size w w' := by
  obtain ⟨i0, hi, hz0, hz1, hz2⟩ := info_parts Tryz.info3
  have hn1 := nx_bd seed
  have hn2 := nx_bd (nx seed)
  have hdn := drawN_le count seed h1
  obtain ⟨S, hS⟩ : ∃ S, S = nx (nx seed) := ⟨_, rfl⟩
  have hdi : drawI count seed = (drawSt count S (drawN count seed)).2.2 := by rw [hS]; rfl
  have hdg : degOf (degI count) (S / 256 % 65536) = drawN count seed := by rw [hS]; rfl
  rw [hdi]
  obtain ⟨d, hd⟩ : ∃ d, d = drawN count seed := ⟨_, rfl⟩
  rw [← hd] at hdn hdg ⊢
  rw [← hS] at hn2
  have HS := hid hS
  have HG := hid hdg
  have hq1 := Int.emod_nonneg (S / 256) (b := 65536) (by omega)
  have hq2 := Int.emod_lt_of_pos (S / 256) (b := 65536) (by omega)
  clear hd hdi hdg hS
  go_enter Tryz.func42, Tryz.ntmps42
  go_wp2_with fail
  refine (l4Next_any seed _ s1 s2).mono ?_
  rintro e w' ⟨rfl, hq⟩
  replace hq := hq.symm
  subst hq
  go_wp2_with fail
  refine (l4Next_any (nx seed) _ hn1.1 hn1.2).mono ?_
  rintro e w' ⟨rfl, hq⟩
  replace hq := hq.symm
  subst hq
  rw [← HS.out]
  go_wp2_with fail
  refine (l4Pick_any S 65536 _ hn2.1 hn2.2 (by omega) (by omega)).mono ?_
  rintro e w' ⟨rfl, hq⟩
  replace hq := hq.symm
  subst hq
  go_wp2_with fail
  refine (l4Degree_any count (S / 256 % 65536) h1 h2 hq1 hq2 _).mono ?_
  rintro e w1 ⟨rfl, b1⟩
  rw [HG.out]
  go_wp2
  go_loopw [7, 8] (fun v i wr => ∃ k : Nat, k ≤ count ∧ i = .int .i64 k ∧ wr.ownsRow w.heap.size 3 1 v k (((List.range k).map fun (i : Nat) => (i : Int)).map (Value.int .i64)) ∧ v ≠ .slice none 0 0 ∧ Below w.heap.size w wr) (fun _ i _ => count - (intOf i).toNat)
  case atStart => exact ⟨0, Nat.zero_le _, rfl, owns_base (World.ownsRow_lit w1 #[] 0 (Nat.le_refl _) (Nat.zero_le _) rfl) b1.size, by simp, b1.alloc b1.size _⟩
  case round =>
    obtain ⟨k, hk, rfl, hown, hnn, hnx⟩ := hrel
    have hsz := hnx.size
    by_cases hlt : k < count
    · go_wp2_with (at_builtin; refine append_one 22 3 i0 _ 8 Tryz.underlying22 hi hz0 hz1 hz2 rfl _ _ rfl rfl rfl rfl rfl rfl hown hsz (by omega) (by omega) ?_; intro v' w2 hown1 hb1)
      go_roundw
      case rel =>
        refine ⟨k + 1, by omega, by go_num, by rw [range_take k, List.map_append]; exact hown1, ?_, hnx.trans hb1⟩
        obtain ⟨g, c, hv, _⟩ := owns_shape hown1 (by simp)
        rw [hv]; simp
      case measure => simp [intOf]; omega
    · obtain rfl : count = k := by omega
      go_wp2
      go_loopw [5, 7, 9, 10] (fun q v o i wr => ∃ j : Nat, j ≤ d ∧ i = .int .i64 j ∧ q = .int .i64 (drawSt count S j).1 ∧ wr.ownsRow w.heap.size 3 1 v (count - j) ((drawSt count S j).2.1.map (Value.int .i64)) ∧ (j < d → v ≠ .slice none 0 0) ∧ wr.ownsRow w.heap.size 3 1 o j ((drawSt count S j).2.2.map (Value.int .i64)) ∧ o ≠ .slice none 0 0 ∧ Below w.heap.size w wr) (fun _ _ _ i _ => d - (intOf i).toNat)
      case atStart => exact ⟨0, Nat.zero_le _, rfl, rfl, hown.alloc _, fun _ => hnn, owns_base (World.ownsRow_lit wr #[] 0 (Nat.le_refl _) (Nat.zero_le _) rfl) hsz, by simp, hnx.alloc hsz _⟩
      case round =>
        clear hown hnn hnx hsz
        obtain ⟨j, hj, rfl, rfl, hownL, hnL, hownO, hnO, hnx⟩ := hrel
        have hsb := drawSt_s count S j hn2
        have hll := drawSt_len count S j (by omega)
        by_cases hlt : j < d
        · obtain ⟨T, hT⟩ : ∃ T, T = (drawSt count S j).1 := ⟨_, rfl⟩
          obtain ⟨L, hL⟩ : ∃ L, L = (drawSt count S j).2.1 := ⟨_, rfl⟩
          obtain ⟨O, hO⟩ : ∃ O, O = (drawSt count S j).2.2 := ⟨_, rfl⟩
          have e1 : (drawSt count S (j + 1)).1 = nx T := by rw [hT]; rfl
          have e2 : (drawSt count S (j + 1)).2.1 = L.eraseIdx (nx T / 256 % L.length).toNat := by rw [hT, hL]; rfl
          have e3 : (drawSt count S (j + 1)).2.2 = intoAt O (L.getD (nx T / 256 % L.length).toNat 0) (placeOf O (L.getD (nx T / 256 % L.length).toNat 0)) := by rw [hT, hL, hO]; rfl
          rw [← hT] at hsb ⊢
          rw [← hL] at hll hownL
          rw [← hO] at hll hownO
          have hpk := pick_lt T L.length (by omega)
          obtain ⟨p, hp⟩ := Int.eq_ofNat_of_zero_le hpk.1
          rw [hp] at hpk e2 e3
          rw [hll.1] at hp
          rw [Int.toNat_natCast] at e2 e3
          have hpl : p < count - j := by omega
          obtain ⟨X, hX⟩ : ∃ X, X = L.getD p 0 := ⟨_, rfl⟩
          rw [← hX] at e3
          have hbn := nx_bd T
          have hLlen := hll.1
          have hOlen := hll.2
          rw [← hLlen] at hownL
          rw [← hOlen] at hownO
          rcases owns_row hownL with ⟨hbad, _⟩ | ⟨gL, capL, rfl, hcL1, hcL2, hgL, hcL⟩
          · exact absurd hbad (hnL hlt)
          have c1 := hcL p (by omega)
          rw [Nat.zero_add, ← hX] at c1
          have HQ := hid (show Value.int .i64 (nx T) = .int .i64 (drawSt count S (j + 1)).1 by rw [e1])
          have HQL := hid e2
          have HQO := hid e3
          have HP := hid hp
          have HL := hid hLlen
          have HO := hid hOlen
          have HCL := hid hcL
          have HOO := hid hownO
          rw [hLlen] at hcL1 ⊢
          clear e1 e2 e3 hT hL hO hX hp hll hLlen hOlen hownL hpk hcL hownO
          go_wp2_with fail
          refine (l4Next_any T _ hsb.1 hsb.2).mono ?_
          rintro e w' ⟨rfl, hq⟩
          replace hq := hq.symm
          subst hq
          go_wp2_with fail
          refine (l4Pick_any (nx T) ((count - j : Nat) : Int) _ hbn.1 hbn.2 (by omega) (by omega)).mono ?_
          rintro e w' ⟨rfl, hq⟩
          replace hq := hq.symm
          subst hq
          rw [HP.out]
          go_wp2_with fail
          refine (l4Into_any w.heap.size _ O X _ HOO.out hnO (by rw [HO.out]; omega)).mono ?_
          rintro e w2 ⟨v2, rfl, hown2, hb2⟩
          rw [HO.out] at hown2
          have hn2' := hnx.trans (hb2.mono hnx.size)
          have hc2 : ∀ i, i < L.length → w2.cell? ⟨gL, 0 + i, none⟩ = some (.int .i64 (L.getD i 0)) := fun i hi => (hb2.cell (p := ⟨gL, 0 + i, none⟩) hgL).trans (HCL.out i hi)
          have HC2 := hid hc2
          clear hc2 c1
          have hk1 : p ≤ capL := by omega
          have hk2 : ¬ capL < p := by omega
          have hk3 : ¬ (capL : Int) < (p : Int) := by omega
          have hk4 : (p : Int) + 1 ≤ ((count - j : Nat) : Int) := by omega
          have hw1 : IntKind.i64.wrap ((p : Int) + 1) = (p : Int) + 1 := by simp [IntKind.wrap, IntKind.bits, IntKind.signed]; omega
          have hw2 : 0 ≤ (p : Int) + 1 := by omega
          have hw3 : ((p : Int) + 1).toNat = p + 1 := by omega
          by_cases hce : capL = p + 1
          · subst hce
            have hk5 : (p : Int) ≤ (p : Int) + 1 := by omega
            go_wp2
            go_region_law (first
              | (refine step_append_row (base := w2.heap.size) (n := 0) (xs := []) 22 3 i0 _ 8 Tryz.underlying22 hi hz0 hz1 hz2 rfl (.tmp 47) (.tmp 50) rfl rfl rfl _ _ _ ((L.take p).map (Value.int .i64)) rfl (by rw [List.length_map, List.length_take, HL.out]; omega) (fun h => by cases h) ?_ ?_ (ints_one _) ?_ (by omega) (by omega) ?_; exact lit0_a w2 _; (intro ad had; cases had; exact ints_take HC2.out (bw1 w2 _) p); exact (bw1 w2 _).size; intro v4 w4 hown4 hgr4; have hB4 := keep_a hgr4)
              | (refine step_append_row (base := w2.heap.size) (n := 0 + p) (xs := [] ++ (L.take p).map (Value.int .i64)) 22 3 i0 _ 8 Tryz.underlying22 hi hz0 hz1 hz2 rfl (.tmp 51) (.tmp 55) rfl rfl rfl _ _ _ ((L.drop (p + 1)).map (Value.int .i64)) rfl (by rw [List.length_map, List.length_drop, HL.out]; omega) (fun h => by cases h) hown4 ?_ (ints_one _) hB4.size (by omega) (by omega) ?_; (intro ad had; cases had; exact ints_dropz (p + 1) (by rw [HL.out]; omega)); intro v5 w5 hown5 hgr5; have hB5 := keep_2 hB4 hgr5 hown4))
            all_goals
              go_wp2
              go_roundw
              case rel =>
                refine ⟨j + 1, by omega, by go_num, HQ.out, ?_, ?_, ?_, ?_, hn2'.trans (hB5.mono hn2'.size)⟩
                · have e1 : count - (j + 1) = 0 + p + 0 := by omega
                  rw [HQL.out, List.eraseIdx_eq_take_drop_succ, List.map_append, e1]
                  exact owns_base hown5 hn2'.size
                · exact fun hjd => owns_nn hown5 (.inr (by omega))
                · rw [HQO.out]
                  exact owns_base (owns_below hown2 hB5) hnx.size
                · exact owns_nn hown2 (.inr (by omega))
              case measure => simp [intOf]; omega
          · go_wp2
            go_region_law (first
              | (refine step_append_row (base := w2.heap.size) (n := 0) (xs := []) 22 3 i0 _ 8 Tryz.underlying22 hi hz0 hz1 hz2 rfl (.tmp 47) (.tmp 50) rfl rfl rfl _ _ _ ((L.take p).map (Value.int .i64)) rfl (by rw [List.length_map, List.length_take, HL.out]; omega) (fun h => by cases h) ?_ ?_ (ints_one _) ?_ (by omega) (by omega) ?_; exact lit0_a w2 _; (intro ad had; cases had; exact ints_take HC2.out (bw1 w2 _) p); exact (bw1 w2 _).size; intro v4 w4 hown4 hgr4; have hB4 := keep_a hgr4)
              | (refine step_append_row (base := w2.heap.size) (n := 0 + p) (xs := [] ++ (L.take p).map (Value.int .i64)) 22 3 i0 _ 8 Tryz.underlying22 hi hz0 hz1 hz2 rfl (.tmp 51) (.tmp 55) rfl rfl rfl _ _ _ ((L.drop (p + 1)).map (Value.int .i64)) rfl (by rw [List.length_map, List.length_drop, HL.out]) (fun h => by cases h) hown4 ?_ (ints_one _) hB4.size (by omega) (by omega) ?_; (intro ad had; cases had; exact ints_drop0 HC2.out hB4 (p + 1)); intro v5 w5 hown5 hgr5; have hB5 := keep_2 hB4 hgr5 hown4))
            all_goals
              go_wp2
              go_roundw
              case rel =>
                refine ⟨j + 1, by omega, by go_num, HQ.out, ?_, ?_, ?_, ?_, hn2'.trans (hB5.mono hn2'.size)⟩
                · have e1 : count - (j + 1) = 0 + p + (count - j - (p + 1)) := by omega
                  rw [HQL.out, List.eraseIdx_eq_take_drop_succ, List.map_append, e1]
                  exact owns_base hown5 hn2'.size
                · exact fun hjd => owns_nn hown5 (.inr (by omega))
                · rw [HQO.out]
                  exact owns_base (owns_below hown2 hB5) hnx.size
                · exact owns_nn hown2 (.inr (by omega))
              case measure => simp [intOf]; omega
        · obtain rfl : d = j := by omega
          go_wp2
          go_ret
          refine ⟨_, rfl, ?_, hnx⟩
          have := hll.2
          rw [this]
          exact hownO
end Go.Proofs.YtegldmdcdnnegaaGreatDoor
namespace Go.Proofs.YtegldmdcdnnegaaGreatDoor
open Go.ChangeShapes Go.WideShapes Go.ChangeAt Go.RowKit

set_option maxRecDepth 100000 in
theorem size_any (x : Nat) (w : World) (hx : x < 16777216) :
    Calls Tryz.prog 108 #[.int .u32 x] w fun e w' => e = .returned (.int .i64 ((bitsOf x).length : Int)) ∧ Dr w w' := by
  go_enter Tryz.func108, Tryz.ntmps108
  go_wp2_with (go_at_call 114; refine (ones_any x _ hx).mono ?_; rintro e w' ⟨rfl, hd⟩)
  go_ret
  exact ⟨rfl, hd⟩
set_option maxRecDepth 100000 in
theorem seedNext_any (s : Int) (w : World) (h1 : 0 ≤ s) (h2 : s ≤ 2147483647) :
    Calls Tryz.prog 104 #[.int .u64 s] w fun e w' => e = .returned (.int .u64 (nx s)) ∧ w' = w := by
  go_enter Tryz.func104, Tryz.ntmps104
  go_wp2
  go_ret
  exact ⟨rfl, rfl⟩
theorem wrap64_small (x : Int) (h1 : 0 ≤ x) (h2 : x < 65536) : wrap64 x = x := by unfold wrap64; omega
set_option maxRecDepth 100000 in
theorem seedPick_any (s n : Int) (w : World) (h1 : 0 ≤ s) (h2 : s ≤ 2147483647) (h3 : 1 ≤ n) (h4 : n ≤ 65536) :
    Calls Tryz.prog 103 #[.int .u64 s, .int .i64 n] w fun e w' => e = .returned (.int .i64 (s / 256 % n)) ∧ w' = w := by
  have hw := wrap64_small (s / 256 % n) (Int.emod_nonneg _ (by omega)) (Int.lt_of_lt_of_le (Int.emod_lt_of_pos _ (by omega)) h4)
  go_enter Tryz.func103, Tryz.ntmps103
  go_wp2
  go_ret
  exact ⟨ret_int hw, rfl⟩
set_option maxRecDepth 100000 in
theorem full_any (n : Nat) (w : World) (h1 : 1 ≤ n) (h2 : n ≤ 24) :
    Calls Tryz.prog 105 #[.int .i64 n] w fun e w' => e = .returned (.int .u32 ((2 ^ n - 1 : Nat) : Int)) ∧ w' = w := by
  have hp : 2 ^ n ≤ 2 ^ 24 := Nat.pow_le_pow_right (by omega) h2
  have hp0 : 1 ≤ 2 ^ n := Nat.pow_pos (by omega)
  have e : (((2 : Int) ^ n % 4294967296 - 1) % 4294967296) = ((2 ^ n - 1 : Nat) : Int) := by
    have : ((2 : Int) ^ n) = ((2 ^ n : Nat) : Int) := by simp
    rw [this]
    generalize 2 ^ n = P at hp hp0
    omega
  have HE := hid e
  clear e
  go_enter Tryz.func105, Tryz.ntmps105
  go_wp2
  go_ret
  exact ⟨ret_int HE.out, rfl⟩

set_option maxHeartbeats 1000000 in
set_option maxRecDepth 100000 in
theorem at_any (E k : Nat) (w : World) (hE : E < 16777216) (hk : k < (bitsOf E).length) (hT : Tab w) :
    Calls Tryz.prog 107 #[.int .u32 E, .int .i64 k] w fun e w' => e = .returned (.int .i64 ((bitsOf E).getD k 0)) ∧ w' = w := by
  have hkl : k < 24 := by have := bitsTo_len E 24; rw [bitsTo_all] at this; omega
  go_enter Tryz.func107, Tryz.ntmps107
  go_wp2
  go_loop [0, 6] (fun q i => ∃ (r j : Nat), q = .int .u32 r ∧ i = .int .i64 j ∧ j ≤ k ∧ r < 16777216 ∧ bitsOf r = (bitsOf E).drop j) (fun _ i => k - (intOf i).toNat)
  case atStart => exact ⟨E, 0, rfl, rfl, Nat.zero_le _, hE, rfl⟩
  case round =>
    obtain ⟨r, j, rfl, rfl, hj, hr, he⟩ := hrel
    have h0 : 0 < r := by
      rcases Nat.eq_zero_or_pos r with h | h
      · subst h
        rw [bits_zero] at he
        have := congrArg List.length he
        rw [List.length_drop] at this
        simp at this
        omega
      · exact h
    obtain ⟨t, m, e⟩ := low_ex r r (Nat.le_refl _) h0
    have hlow := low_lt (t := t) (m := m) (by rw [← e]; exact hr)
    have hbc := bits_cons e hr
    have hb1 : r.testBit t = true := by rw [e]; exact low_at t m
    have hlt' := outB_lt hb1 (show t < 32 by omega) (show r < 4294967296 by omega)
    have HE := hid e
    have HB := hid hbc
    have HD := hid he
    clear e hbc he hb1
    by_cases hlt : j < k
    · go_wp2_with (first
        | (go_at_call 91; rw [HE.out]; refine (first_any t m _ hT (by rw [← HE.out]; exact hr)).mono ?_; rintro e w' ⟨rfl, hq⟩; replace hq := hq.symm; subst hq; rw [← HE.out])
        | (go_at_call 109; refine (without_any r t _ (by omega) hlow).mono ?_; rintro e w' ⟨rfl, hq⟩; replace hq := hq.symm; subst hq))
      go_round
      case rel =>
        refine ⟨outB r t, j + 1, rfl, by go_num, by omega, by omega, ?_⟩
        have h1 := HD.out
        rw [HB.out] at h1
        have h2 := congrArg List.tail h1
        rw [List.tail_cons, List.tail_drop] at h2
        exact h2
      case measure => simp [intOf]; omega
    · obtain rfl : k = j := by omega
      go_wp2_with (go_at_call 91; rw [HE.out]; refine (first_any t m _ hT (by rw [← HE.out]; exact hr)).mono ?_; rintro e w' ⟨rfl, hq⟩; replace hq := hq.symm; subst hq; rw [← HE.out])
      go_ret
      refine ⟨ret_int ?_, rfl⟩
      have h1 := HD.out
      rw [HB.out, List.drop_eq_getElem_cons hk] at h1
      rw [getD_eq hk]
      exact (List.cons.inj h1).1
end Go.Proofs.YtegldmdcdnnegaaGreatDoor
namespace Go.Proofs.YtegldmdcdnnegaaGreatDoor
open Go.ChangeShapes Go.WideShapes Go.ChangeAt Go.RowKit

set_option maxRecDepth 100000 in
theorem seedOf_in (s : Int) (w : World) (h1 : 0 ≤ s) (h2 : s ≤ 2147483647) :
    Calls Tryz.prog 102 #[.int .i64 s] w fun e w' => e = .returned (.tuple #[.int .u64 s, .bool true]) ∧ w' = w := by
  go_enter Tryz.func102, Tryz.ntmps102
  go_wp2
  go_ret2
  exact ⟨rfl, rfl⟩
set_option maxRecDepth 100000 in
theorem seedOf_out (s : Int) (w : World) (h : s < 0 ∨ 2147483647 < s) :
    Calls Tryz.prog 102 #[.int .i64 s] w fun e w' => e = .returned (.tuple #[.int .u64 0, .bool false]) ∧ w' = w := by
  rcases h with h | h
  · go_enter Tryz.func102, Tryz.ntmps102
    go_wp2
    go_ret2
    exact ⟨rfl, rfl⟩
  · have h' : ¬ s < 0 := by omega
    go_enter Tryz.func102, Tryz.ntmps102
    go_wp2
    go_ret2
    exact ⟨rfl, rfl⟩

set_option maxHeartbeats 4000000 in
set_option maxRecDepth 100000 in
theorem implRowDraw_in (count : Nat) (seed : Int) (w : World) (h1 : 1 ≤ count) (h2 : count ≤ 24) (s1 : 0 ≤ seed) (s2 : seed ≤ 2147483647) (hT : Tab w) :
    Calls Tryz.prog 85 #[.int .i64 count, .int .i64 seed] w fun e w' => ∃ v, e = .returned v ∧ w'.ownsRow w.heap.size 3 1 v (drawI count seed).length ((drawI count seed).map (Value.int .i64)) ∧ Below w.heap.size w w' := by
  have hn1 := nx_bd seed
  have hn2 := nx_bd (nx seed)
  have hdn := drawN_le count seed h1
  obtain ⟨S, hS⟩ : ∃ S, S = nx (nx seed) := ⟨_, rfl⟩
  have hdi : drawI count seed = (drawSt count S (drawN count seed)).2.2 := by rw [hS]; rfl
  have hdg : degOf (degI count) (S / 256 % 65536) = drawN count seed := by rw [hS]; rfl
  rw [hdi]
  obtain ⟨d, hd⟩ : ∃ d, d = drawN count seed := ⟨_, rfl⟩
  rw [← hd] at hdn hdg ⊢
  rw [← hS] at hn2
  have HS := hid hS
  have HG := hid hdg
  have hq1 := Int.emod_nonneg (S / 256) (b := 65536) (by omega)
  have hq2 := Int.emod_lt_of_pos (S / 256) (b := 65536) (by omega)
  have hc1 : ¬ (count : Int) < 1 := by omega
  have hc2 : ¬ (24 : Int) < (count : Int) := by omega
  clear hd hdi hdg hS
  go_enter Tryz.func85, Tryz.ntmps85
  go_wp2_with fail
  refine (seedOf_in seed _ s1 s2).mono ?_
  rintro e w' ⟨rfl, hq⟩
  replace hq := hq.symm
  subst hq
  go_wp2_with fail
  refine (seedNext_any seed _ s1 s2).mono ?_
  rintro e w' ⟨rfl, hq⟩
  replace hq := hq.symm
  subst hq
  go_wp2_with fail
  refine (seedNext_any (nx seed) _ hn1.1 hn1.2).mono ?_
  rintro e w' ⟨rfl, hq⟩
  replace hq := hq.symm
  subst hq
  rw [← HS.out]
  go_wp2_with fail
  refine (full_any count _ h1 h2).mono ?_
  rintro e w' ⟨rfl, hq⟩
  replace hq := hq.symm
  subst hq
  go_wp2_with fail
  refine (seedPick_any S 65536 _ hn2.1 hn2.2 (by omega) (by omega)).mono ?_
  rintro e w' ⟨rfl, hq⟩
  replace hq := hq.symm
  subst hq
  go_wp2_with fail
  refine (implDegreeOf_in count (S / 256 % 65536) h1 h2 hq1 hq2 _).mono ?_
  rintro e w1 ⟨rfl, b1⟩
  rw [HG.out]
  go_wp2_with fail
  go_loopw [5, 7, 8, 34] (fun q a b i wr => ∃ (j D E : Nat), j ≤ d ∧ i = .int .i64 j ∧ q = .int .u64 (drawSt count S j).1 ∧ a = .int .u32 D ∧ b = .int .u32 E ∧ D < 16777216 ∧ E < 16777216 ∧ bitsOf E = (drawSt count S j).2.1 ∧ bitsOf D = (drawSt count S j).2.2 ∧ (∀ x ∈ bitsOf D, x ∉ bitsOf E) ∧ Below w.heap.size w wr) (fun _ _ _ i _ => d - (intOf i).toNat)
  case atStart =>
    refine ⟨0, 0, 2 ^ count - 1, Nat.zero_le _, rfl, rfl, rfl, rfl, by omega, ?_, bits_full count h2, bits_zero, fun x hx => by rw [bits_zero] at hx; simp at hx, b1⟩
    have : 2 ^ count ≤ 2 ^ 24 := Nat.pow_le_pow_right (by omega) h2
    have : 0 < 2 ^ count := Nat.pow_pos (by omega)
    omega
  case round =>
    obtain ⟨j, D, E, hj, rfl, rfl, rfl, rfl, hD, hE, heE, heD, hdis, hnx⟩ := hrel
    have hTr := hT.below hnx
    have hsb := drawSt_s count S j hn2
    have hll := drawSt_len count S j (by omega)
    by_cases hlt : j < d
    · have hEl : (bitsOf E).length = count - j := by rw [heE]; exact hll.1
      obtain ⟨T, hT'⟩ : ∃ T, T = (drawSt count S j).1 := ⟨_, rfl⟩
      have e1 : (drawSt count S (j + 1)).1 = nx T := by rw [hT']; rfl
      have e2 : (drawSt count S (j + 1)).2.1 = (bitsOf E).eraseIdx (nx T / 256 % (bitsOf E).length).toNat := by rw [hT', heE]; rfl
      have e3 : (drawSt count S (j + 1)).2.2 = intoAt (bitsOf D) ((bitsOf E).getD (nx T / 256 % (bitsOf E).length).toNat 0) (placeOf (bitsOf D) ((bitsOf E).getD (nx T / 256 % (bitsOf E).length).toNat 0)) := by rw [hT', heE, heD]; rfl
      rw [← hT'] at hsb ⊢
      have hpk := pick_lt T (bitsOf E).length (by omega)
      obtain ⟨p, hp⟩ := Int.eq_ofNat_of_zero_le hpk.1
      rw [hp] at hpk e2 e3
      rw [Int.toNat_natCast] at e2 e3
      have hpl : p < (bitsOf E).length := by omega
      have hmem : (bitsOf E).getD p 0 ∈ bitsOf E := by rw [getD_eq hpl]; exact List.getElem_mem _
      obtain ⟨n, hn, hn24, hbn⟩ := (bitsOf_mem _ _).1 hmem
      rw [hn] at e3
      have hnD : (n : Int) ∉ bitsOf D := fun h => hdis _ h (by rw [← hn]; exact hmem)
      have f1 := bits_with hn24 hnD
      have f2 := bits_out hE hn24 hpl hn
      rw [← f2] at e2
      rw [← f1] at e3
      have hD' := setI_lt D n hD hn24
      have hE' : outB E n < 16777216 := Nat.lt_of_le_of_lt Nat.and_le_left hE
      have hdis' : ∀ x ∈ bitsOf (D ||| 2 ^ n), x ∉ bitsOf (outB E n) := by
        intro x hx
        rw [f1, into_mem] at hx
        rw [f2, (erase_both (bitsOf_asc E) p hpl).2, hn]
        rintro ⟨hxE, hxn⟩
        rcases hx with hx | hx
        · exact hxn hx
        · exact hdis x hx hxE
      have hbn := nx_bd T
      have H1 := hid (show Value.int .u64 (nx T) = .int .u64 (drawSt count S (j + 1)).1 by rw [e1])
      have H2 := hid e2
      have H3 := hid e3
      have H4 := hid hp
      have H5 := hid hn
      have H6 := hid hEl
      have H7 := hid hdis'
      clear e1 e2 e3 hp hn hdis hdis' f1 f2 hT' heE heD hll hmem hnD hEl
      go_wp2_with fail
      refine (seedNext_any T _ hsb.1 hsb.2).mono ?_
      rintro e w' ⟨rfl, hq⟩
      replace hq := hq.symm
      subst hq
      go_wp2_with fail
      refine (size_any E _ hE).mono ?_
      rintro e w2 ⟨rfl, hd2⟩
      have hn2' := hnx.trans (hd2.below _)
      have hT2 := hT.below hn2'
      go_wp2_with fail
      refine (seedPick_any (nx T) ((bitsOf E).length : Int) _ hbn.1 hbn.2 (by omega) (by rw [H6.out]; omega)).mono ?_
      rintro e w' ⟨rfl, hq⟩
      replace hq := hq.symm
      subst hq
      rw [H4.out]
      go_wp2_with fail
      refine (at_any E p _ hE hpl hT2).mono ?_
      rintro e w' ⟨rfl, hq⟩
      replace hq := hq.symm
      subst hq
      rw [H5.out]
      go_wp2_with fail
      refine (with_any D n _ (by omega) hn24).mono ?_
      rintro e w' ⟨rfl, hq⟩
      replace hq := hq.symm
      subst hq
      go_wp2_with fail
      refine (without_any E n _ (by omega) hn24).mono ?_
      rintro e w' ⟨rfl, hq⟩
      replace hq := hq.symm
      subst hq
      go_wp2_with fail
      go_roundw
      case rel => exact ⟨j + 1, D ||| 2 ^ n, outB E n, by omega, by go_num, H1.out, rfl, rfl, hD', hE', H2.out.symm, H3.out.symm, H7.out, hn2'⟩
      case measure => simp [intOf]; omega
    · obtain rfl : d = j := by omega
      have HD := hid heD
      clear heE heD hdis hll
      go_wp2_with fail
      refine (numbers_any D _ hD hTr).mono ?_
      rintro e w2 ⟨v, rfl, ho, hb2⟩
      go_wp2_with fail
      go_ret
      refine ⟨_, rfl, ?_, hnx.trans (hb2.mono hnx.size)⟩
      have := owns_base ho hnx.size
      rw [HD.out] at this
      exact this
end Go.Proofs.YtegldmdcdnnegaaGreatDoor
namespace Go.Proofs.YtegldmdcdnnegaaGreatDoor
open Go.ChangeShapes Go.WideShapes Go.ChangeAt Go.RowKit

set_option maxRecDepth 100000 in
theorem implRowDraw_out (c s : Int) (w : World) (h : ¬ ((1 ≤ c ∧ c ≤ 24) ∧ 0 ≤ s ∧ s ≤ 2147483647)) :
    Calls Tryz.prog 85 #[.int .i64 c, .int .i64 s] w fun e w' => ∃ v, e = .returned v ∧ w'.ownsRow w.heap.size 3 1 v ([] : List Int).length (([] : List Int).map (Value.int .i64)) ∧ Below w.heap.size w w' := by
  by_cases hs : 0 ≤ s ∧ s ≤ 2147483647
  · by_cases hc : c < 1
    · clear h
      go_enter Tryz.func85, Tryz.ntmps85
      go_wp2_with (go_at_call 102; refine (seedOf_in s _ hs.1 hs.2).mono ?_; rintro e w' ⟨rfl, hq⟩; replace hq := hq.symm; subst hq)
      go_ret
      exact ⟨_, rfl, World.ownsRow_nil _ _ _ _, Below.refl _ _⟩
    · have hc2 : (24 : Int) < c := by omega
      clear h
      go_enter Tryz.func85, Tryz.ntmps85
      go_wp2_with (go_at_call 102; refine (seedOf_in s _ hs.1 hs.2).mono ?_; rintro e w' ⟨rfl, hq⟩; replace hq := hq.symm; subst hq)
      go_ret
      exact ⟨_, rfl, World.ownsRow_nil _ _ _ _, Below.refl _ _⟩
  · have hs2 : s < 0 ∨ 2147483647 < s := by omega
    clear h hs
    go_enter Tryz.func85, Tryz.ntmps85
    go_wp2_with (go_at_call 102; refine (seedOf_out s _ hs2).mono ?_; rintro e w' ⟨rfl, hq⟩; replace hq := hq.symm; subst hq)
    go_ret
    exact ⟨_, rfl, World.ownsRow_nil _ _ _ _, Below.refl _ _⟩
end Go.Proofs.YtegldmdcdnnegaaGreatDoor
