/- A row drawn, the model's way: those that are left as a list. -/
import Derived.Test.YtcoofoiaaljpoaaDoorG26
import Derived.Test.YtcoofoiaaljpoaaDoorG30
namespace Go.Proofs.YtcoofoiaaljpoaaDoor
open Go.ChangeShapes Go.WideShapes Go.ChangeAt Go.RowKit

/-- The seed behind a seed that is one. -/
def nx (s : Int) : Int := (s * 1103515245 + 12345) % 2147483648
theorem nx_bd (s : Int) : 0 ≤ nx s ∧ nx s ≤ 2147483647 := by unfold nx; omega
set_option maxRecDepth 100000 in
theorem l4Next_any (s : Int) (w : World) (h1 : 0 ≤ s) (h2 : s ≤ 2147483647) :
    Calls Tryd.prog 34 #[.int .i64 s] w fun e w' => e = .returned (.int .i64 (nx s)) ∧ w' = w := by
  go_enter Tryd.func34, Tryd.ntmps34
  go_wp2
  go_ret
  exact ⟨rfl, rfl⟩
set_option maxRecDepth 100000 in
theorem l4Pick_any (s n : Int) (w : World) (h1 : 0 ≤ s) (h2 : s ≤ 2147483647) (h3 : 1 ≤ n) (h4 : n ≤ 65536) :
    Calls Tryd.prog 36 #[.int .i64 s, .int .i64 n] w fun e w' => e = .returned (.int .i64 (s / 256 % n)) ∧ w' = w := by
  go_enter Tryd.func36, Tryd.ntmps36
  go_wp2
  go_ret
  exact ⟨rfl, rfl⟩

/-- What is drawn behind k steps: the seed, those that are left, those that are taken. -/
def drawSt (count : Nat) (s : Int) : Nat → Int × List Int × List Int
  | 0 => (s, (List.range count).map fun (i : Nat) => (i : Int), [])
  | k + 1 => (nx (drawSt count s k).1, (drawSt count s k).2.1.eraseIdx (nx (drawSt count s k).1 / 256 % (drawSt count s k).2.1.length).toNat,
      intoAt (drawSt count s k).2.2 ((drawSt count s k).2.1.getD (nx (drawSt count s k).1 / 256 % (drawSt count s k).2.1.length).toNat 0) (placeOf (drawSt count s k).2.2 ((drawSt count s k).2.1.getD (nx (drawSt count s k).1 / 256 % (drawSt count s k).2.1.length).toNat 0)))
theorem drawSt_s (count : Nat) (s : Int) (k : Nat) (h : 0 ≤ s ∧ s ≤ 2147483647) : 0 ≤ (drawSt count s k).1 ∧ (drawSt count s k).1 ≤ 2147483647 := by
  cases k with
  | zero => exact h
  | succ k => exact nx_bd _
theorem pick_lt (s : Int) (n : Nat) (h : 0 < n) : 0 ≤ nx s / 256 % n ∧ nx s / 256 % n < n := ⟨Int.emod_nonneg _ (by omega), Int.emod_lt_of_pos _ (by omega)⟩
theorem intoAt_len (xs : List Int) (n : Int) (k : Nat) (h : k ≤ xs.length) : (intoAt xs n k).length = xs.length + 1 := by
  unfold intoAt
  simp only [List.length_append, List.length_take, List.length_drop, List.length_singleton]
  omega
theorem placeOf_le (xs : List Int) (n : Int) : placeOf xs n ≤ xs.length := by
  unfold placeOf
  exact (List.takeWhile_sublist _).length_le
theorem drawSt_len (count : Nat) (s : Int) (k : Nat) (h : k ≤ count) : (drawSt count s k).2.1.length = count - k ∧ (drawSt count s k).2.2.length = k := by
  induction k with
  | zero => simp [drawSt]
  | succ k ih =>
    obtain ⟨i1, i2⟩ := ih (by omega)
    have hp := pick_lt (drawSt count s k).1 (drawSt count s k).2.1.length (by omega)
    refine ⟨?_, ?_⟩
    · simp only [drawSt]
      rw [List.length_eraseIdx_of_lt (by omega)]
      omega
    · simp only [drawSt]
      rw [intoAt_len _ _ _ (placeOf_le _ _), i2]

theorem range_take (k : Nat) : ((List.range (k + 1)).map fun (i : Nat) => (i : Int)) = ((List.range k).map fun (i : Nat) => (i : Int)) ++ [(k : Int)] := by
  rw [List.range_succ, List.map_append]
  rfl
theorem degOf_le (ds : List Int) (p : Int) : degOf ds p ≤ ds.length := by
  induction ds generalizing p with
  | nil => simp [degOf]
  | cons d r ih =>
    rw [degOf]
    split
    · simp
    · have := ih (p - d)
      rw [List.length_cons]
      omega
/-- How many a row has that is drawn. -/
def drawN (count : Nat) (seed : Int) : Nat := degOf (degI count) (nx (nx seed) / 256 % 65536)
/-- The row that is drawn. -/
def drawI (count : Nat) (seed : Int) : List Int := (drawSt count (nx (nx seed)) (drawN count seed)).2.2
theorem drawN_le (count : Nat) (seed : Int) (h : 1 ≤ count) : drawN count seed ≤ count := by
  have := degOf_le (degI count) (nx (nx seed) / 256 % 65536)
  rw [degI_len count h] at this
  exact this

theorem owns_nn {w : World} {base : Nat} {e : TypeId} {v : Value} {n : Nat} {xs : List Value} (h : w.ownsRow base e 1 v n xs) (hn : v ≠ .slice none 0 0 ∨ 0 < n) : v ≠ .slice none 0 0 := by
  rcases hn with hn | hn
  · exact hn
  · intro e
    rcases h.2 with ⟨_, h0⟩ | ⟨g, cap, cur, hv, _⟩
    · omega
    · rw [e] at hv; simp at hv

set_option maxHeartbeats 4000000 in
set_option maxRecDepth 100000 in
theorem l4Row_any (count : Nat) (seed : Int) (w : World) (h1 : 1 ≤ count) (h2 : count ≤ 24) (s1 : 0 ≤ seed) (s2 : seed ≤ 2147483647) :
    Calls Tryd.prog 25 #[.int .i64 count, .int .i64 seed] w fun e w' => ∃ v, e = .returned v ∧ w'.ownsRow w.heap.size 3 1 v (drawI count seed).length ((drawI count seed).map (Value.int .i64)) ∧ Below w.heap.size w w' := by
  obtain ⟨i0, hi, hz0, hz1, hz2⟩ := info_parts Tryd.info3
  have hn1 := nx_bd seed
  have hn2 := nx_bd (nx seed)
  have hdn := drawN_le count seed h1
  obtain ⟨S, hS⟩ : ∃ S, S = nx (nx seed) := ⟨_, rfl⟩
  have hdi : drawI count seed = (drawSt count S (drawN count seed)).2.2 := by rw [hS]; rfl
  have hdg : degOf (degI count) (S / 256 % 65536) = drawN count seed := by rw [hS]; rfl
  rw [hdi]
  obtain ⟨d, hd⟩ : ∃ d, d = drawN count seed := ⟨_, rfl⟩
  rw [← hd] at hdn hdg ⊢
  rw [← hS] at hn2
  have HS := hid hS
  have HG := hid hdg
  have hq1 := Int.emod_nonneg (S / 256) (b := 65536) (by omega)
  have hq2 := Int.emod_lt_of_pos (S / 256) (b := 65536) (by omega)
  clear hd hdi hdg hS
  go_enter Tryd.func25, Tryd.ntmps25
  go_wp2_with fail
  refine (l4Next_any seed _ s1 s2).mono ?_
  rintro e w' ⟨rfl, hq⟩
  replace hq := hq.symm
  subst hq
  go_wp2_with fail
  refine (l4Next_any (nx seed) _ hn1.1 hn1.2).mono ?_
  rintro e w' ⟨rfl, hq⟩
  replace hq := hq.symm
  subst hq
  rw [← HS.out]
  go_wp2_with fail
  refine (l4Pick_any S 65536 _ hn2.1 hn2.2 (by omega) (by omega)).mono ?_
  rintro e w' ⟨rfl, hq⟩
  replace hq := hq.symm
  subst hq
  go_wp2_with fail
  refine (l4Degree_any count (S / 256 % 65536) h1 h2 hq1 hq2 _).mono ?_
  rintro e w1 ⟨rfl, b1⟩
  rw [HG.out]
  go_wp2
  go_loopw [7, 8] (fun v i wr => ∃ k : Nat, k ≤ count ∧ i = .int .i64 k ∧ wr.ownsRow w.heap.size 3 1 v k (((List.range k).map fun (i : Nat) => (i : Int)).map (Value.int .i64)) ∧ v ≠ .slice none 0 0 ∧ Below w.heap.size w wr) (fun _ i _ => count - (intOf i).toNat)
  case atStart => exact ⟨0, Nat.zero_le _, rfl, owns_base (World.ownsRow_lit w1 #[] 0 (Nat.le_refl _) (Nat.zero_le _) rfl) b1.size, by simp, b1.alloc b1.size _⟩
  case round =>
    obtain ⟨k, hk, rfl, hown, hnn, hnx⟩ := hrel
    have hsz := hnx.size
    by_cases hlt : k < count
    · go_wp2_with (at_builtin; refine append_one 22 3 i0 _ 8 Tryd.underlying22 hi hz0 hz1 hz2 rfl _ _ rfl rfl rfl rfl rfl rfl hown hsz (by omega) (by omega) ?_; intro v' w2 hown1 hb1)
      go_roundw
      case rel =>
        refine ⟨k + 1, by omega, by go_num, by rw [range_take k, List.map_append]; exact hown1, ?_, hnx.trans hb1⟩
        obtain ⟨g, c, hv, _⟩ := owns_shape hown1 (by simp)
        rw [hv]; simp
      case measure => simp [intOf]; omega
    · obtain rfl : count = k := by omega
      go_wp2
      go_loopw [5, 7, 9, 10] (fun q v o i wr => ∃ j : Nat, j ≤ d ∧ i = .int .i64 j ∧ q = .int .i64 (drawSt count S j).1 ∧ wr.ownsRow w.heap.size 3 1 v (count - j) ((drawSt count S j).2.1.map (Value.int .i64)) ∧ (j < d → v ≠ .slice none 0 0) ∧ wr.ownsRow w.heap.size 3 1 o j ((drawSt count S j).2.2.map (Value.int .i64)) ∧ o ≠ .slice none 0 0 ∧ Below w.heap.size w wr) (fun _ _ _ i _ => d - (intOf i).toNat)
      case atStart => exact ⟨0, Nat.zero_le _, rfl, rfl, hown.alloc _, fun _ => hnn, owns_base (World.ownsRow_lit wr #[] 0 (Nat.le_refl _) (Nat.zero_le _) rfl) hsz, by simp, hnx.alloc hsz _⟩
      case round =>
        clear hown hnn hnx hsz
        obtain ⟨j, hj, rfl, rfl, hownL, hnL, hownO, hnO, hnx⟩ := hrel
        have hsb := drawSt_s count S j hn2
        have hll := drawSt_len count S j (by omega)
        by_cases hlt : j < d
        · obtain ⟨T, hT⟩ : ∃ T, T = (drawSt count S j).1 := ⟨_, rfl⟩
          obtain ⟨L, hL⟩ : ∃ L, L = (drawSt count S j).2.1 := ⟨_, rfl⟩
          obtain ⟨O, hO⟩ : ∃ O, O = (drawSt count S j).2.2 := ⟨_, rfl⟩
          have e1 : (drawSt count S (j + 1)).1 = nx T := by rw [hT]; rfl
          have e2 : (drawSt count S (j + 1)).2.1 = L.eraseIdx (nx T / 256 % L.length).toNat := by rw [hT, hL]; rfl
          have e3 : (drawSt count S (j + 1)).2.2 = intoAt O (L.getD (nx T / 256 % L.length).toNat 0) (placeOf O (L.getD (nx T / 256 % L.length).toNat 0)) := by rw [hT, hL, hO]; rfl
          rw [← hT] at hsb ⊢
          rw [← hL] at hll hownL
          rw [← hO] at hll hownO
          have hpk := pick_lt T L.length (by omega)
          obtain ⟨p, hp⟩ := Int.eq_ofNat_of_zero_le hpk.1
          rw [hp] at hpk e2 e3
          rw [hll.1] at hp
          rw [Int.toNat_natCast] at e2 e3
          have hpl : p < count - j := by omega
          obtain ⟨X, hX⟩ : ∃ X, X = L.getD p 0 := ⟨_, rfl⟩
          rw [← hX] at e3
          have hbn := nx_bd T
          have hLlen := hll.1
          have hOlen := hll.2
          rw [← hLlen] at hownL
          rw [← hOlen] at hownO
          rcases owns_row hownL with ⟨hbad, _⟩ | ⟨gL, capL, rfl, hcL1, hcL2, hgL, hcL⟩
          · exact absurd hbad (hnL hlt)
          have c1 := hcL p (by omega)
          rw [Nat.zero_add, ← hX] at c1
          have HQ := hid (show Value.int .i64 (nx T) = .int .i64 (drawSt count S (j + 1)).1 by rw [e1])
          have HQL := hid e2
          have HQO := hid e3
          have HP := hid hp
          have HL := hid hLlen
          have HO := hid hOlen
          have HCL := hid hcL
          have HOO := hid hownO
          rw [hLlen] at hcL1 ⊢
          clear e1 e2 e3 hT hL hO hX hp hll hLlen hOlen hownL hpk hcL hownO
          go_wp2_with fail
          refine (l4Next_any T _ hsb.1 hsb.2).mono ?_
          rintro e w' ⟨rfl, hq⟩
          replace hq := hq.symm
          subst hq
          go_wp2_with fail
          refine (l4Pick_any (nx T) ((count - j : Nat) : Int) _ hbn.1 hbn.2 (by omega) (by omega)).mono ?_
          rintro e w' ⟨rfl, hq⟩
          replace hq := hq.symm
          subst hq
          rw [HP.out]
          go_wp2_with fail
          refine (l4Into_any w.heap.size _ O X _ HOO.out hnO (by rw [HO.out]; omega)).mono ?_
          rintro e w2 ⟨v2, rfl, hown2, hb2⟩
          rw [HO.out] at hown2
          have hn2' := hnx.trans (hb2.mono hnx.size)
          have hc2 : ∀ i, i < L.length → w2.cell? ⟨gL, 0 + i, none⟩ = some (.int .i64 (L.getD i 0)) := fun i hi => (hb2.cell (p := ⟨gL, 0 + i, none⟩) hgL).trans (HCL.out i hi)
          have HC2 := hid hc2
          clear hc2 c1
          have hk1 : p ≤ capL := by omega
          have hk2 : ¬ capL < p := by omega
          have hk3 : ¬ (capL : Int) < (p : Int) := by omega
          have hk4 : (p : Int) + 1 ≤ ((count - j : Nat) : Int) := by omega
          have hw1 : IntKind.i64.wrap ((p : Int) + 1) = (p : Int) + 1 := by simp [IntKind.wrap, IntKind.bits, IntKind.signed]; omega
          have hw2 : 0 ≤ (p : Int) + 1 := by omega
          have hw3 : ((p : Int) + 1).toNat = p + 1 := by omega
          by_cases hce : capL = p + 1
          · subst hce
            have hk5 : (p : Int) ≤ (p : Int) + 1 := by omega
            go_wp2
            go_region_law (first
              | (refine step_append_row (base := w2.heap.size) (n := 0) (xs := []) 22 3 i0 _ 8 Tryd.underlying22 hi hz0 hz1 hz2 rfl (.tmp 47) (.tmp 50) rfl rfl rfl _ _ _ ((L.take p).map (Value.int .i64)) rfl (by rw [List.length_map, List.length_take, HL.out]; omega) (fun h => by cases h) ?_ ?_ (ints_one _) ?_ (by omega) (by omega) ?_; exact lit0_a w2 _; (intro ad had; cases had; exact ints_take HC2.out (bw1 w2 _) p); exact (bw1 w2 _).size; intro v4 w4 hown4 hgr4; have hB4 := keep_a hgr4)
              | (refine step_append_row (base := w2.heap.size) (n := 0 + p) (xs := [] ++ (L.take p).map (Value.int .i64)) 22 3 i0 _ 8 Tryd.underlying22 hi hz0 hz1 hz2 rfl (.tmp 51) (.tmp 55) rfl rfl rfl _ _ _ ((L.drop (p + 1)).map (Value.int .i64)) rfl (by rw [List.length_map, List.length_drop, HL.out]; omega) (fun h => by cases h) hown4 ?_ (ints_one _) hB4.size (by omega) (by omega) ?_; (intro ad had; cases had; exact ints_dropz (p + 1) (by rw [HL.out]; omega)); intro v5 w5 hown5 hgr5; have hB5 := keep_2 hB4 hgr5 hown4))
            all_goals
              go_wp2
              go_roundw
              case rel =>
                refine ⟨j + 1, by omega, by go_num, HQ.out, ?_, ?_, ?_, ?_, hn2'.trans (hB5.mono hn2'.size)⟩
                · have e1 : count - (j + 1) = 0 + p + 0 := by omega
                  rw [HQL.out, List.eraseIdx_eq_take_drop_succ, List.map_append, e1]
                  exact owns_base hown5 hn2'.size
                · exact fun hjd => owns_nn hown5 (.inr (by omega))
                · rw [HQO.out]
                  exact owns_base (owns_below hown2 hB5) hnx.size
                · exact owns_nn hown2 (.inr (by omega))
              case measure => simp [intOf]; omega
          · go_wp2
            go_region_law (first
              | (refine step_append_row (base := w2.heap.size) (n := 0) (xs := []) 22 3 i0 _ 8 Tryd.underlying22 hi hz0 hz1 hz2 rfl (.tmp 47) (.tmp 50) rfl rfl rfl _ _ _ ((L.take p).map (Value.int .i64)) rfl (by rw [List.length_map, List.length_take, HL.out]; omega) (fun h => by cases h) ?_ ?_ (ints_one _) ?_ (by omega) (by omega) ?_; exact lit0_a w2 _; (intro ad had; cases had; exact ints_take HC2.out (bw1 w2 _) p); exact (bw1 w2 _).size; intro v4 w4 hown4 hgr4; have hB4 := keep_a hgr4)
              | (refine step_append_row (base := w2.heap.size) (n := 0 + p) (xs := [] ++ (L.take p).map (Value.int .i64)) 22 3 i0 _ 8 Tryd.underlying22 hi hz0 hz1 hz2 rfl (.tmp 51) (.tmp 55) rfl rfl rfl _ _ _ ((L.drop (p + 1)).map (Value.int .i64)) rfl (by rw [List.length_map, List.length_drop, HL.out]) (fun h => by cases h) hown4 ?_ (ints_one _) hB4.size (by omega) (by omega) ?_; (intro ad had; cases had; exact ints_drop0 HC2.out hB4 (p + 1)); intro v5 w5 hown5 hgr5; have hB5 := keep_2 hB4 hgr5 hown4))
            all_goals
              go_wp2
              go_roundw
              case rel =>
                refine ⟨j + 1, by omega, by go_num, HQ.out, ?_, ?_, ?_, ?_, hn2'.trans (hB5.mono hn2'.size)⟩
                · have e1 : count - (j + 1) = 0 + p + (count - j - (p + 1)) := by omega
                  rw [HQL.out, List.eraseIdx_eq_take_drop_succ, List.map_append, e1]
                  exact owns_base hown5 hn2'.size
                · exact fun hjd => owns_nn hown5 (.inr (by omega))
                · rw [HQO.out]
                  exact owns_base (owns_below hown2 hB5) hnx.size
                · exact owns_nn hown2 (.inr (by omega))
              case measure => simp [intOf]; omega
        · obtain rfl : d = j := by omega
          go_wp2
          go_ret
          refine ⟨_, rfl, ?_, hnx⟩
          have := hll.2
          rw [this]
          exact hownO
end Go.Proofs.YtcoofoiaaljpoaaDoor
