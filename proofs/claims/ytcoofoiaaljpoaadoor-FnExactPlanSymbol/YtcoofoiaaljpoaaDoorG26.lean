/- Appends of whole rows, as steps of a region that draws its order. -/
import Derived.Test.YtcoofoiaaljpoaaDoorG25
import Derived.Deep.RegionLaw
import Derived.BigRegion
namespace Go.Proofs.YtcoofoiaaljpoaaDoor
open Go.ChangeShapes Go.WideShapes Go.ChangeAt Go.RowKit

/-- An empty literal is owned, whatever is laid behind it. -/
theorem lit0_a (w : World) (e : TypeId) : ((w.alloc (.cells #[] e)).drew).ownsRow w.heap.size e 1 (.slice (some ⟨w.heap.size, 0, none⟩) 0 0) 0 [] :=
  (World.ownsRow_lit w #[] 0 (Nat.le_refl _) (Nat.zero_le _) rfl).drew
theorem lit0_b (w : World) (e : TypeId) (B : Obj) : (((w.alloc (.cells #[] e)).alloc B).drew).ownsRow w.heap.size e 1 (.slice (some ⟨w.heap.size, 0, none⟩) 0 0) 0 [] :=
  ((World.ownsRow_lit w #[] 0 (Nat.le_refl _) (Nat.zero_le _) rfl).alloc B).drew
theorem lit0_c (w : World) (e : TypeId) (B : Obj) : (((w.alloc B).alloc (.cells #[] e)).drew).ownsRow w.heap.size e 1 (.slice (some ⟨w.heap.size + 1, 0, none⟩) 0 0) 0 [] := by
  have := World.ownsRow_lit (base := w.heap.size) (e := e) (size := 1) (w.alloc B) #[] 0 (by rw [World.size_alloc]; omega) (Nat.zero_le _) rfl
  rw [World.size_alloc] at this
  exact this.drew
/-- The cells of the first part and of the rest of a row that is read. -/
theorem ints_take {w W : World} {b off : Nat} {xs : List Int} (hc : ∀ i, i < xs.length → w.cell? ⟨b, off + i, none⟩ = some (.int .i64 (xs.getD i 0))) (hb : Below w.heap.size w W) (k : Nat) (j : Nat) (u : Value) (hj : ((xs.take k).map (Value.int .i64))[j]? = some u) : W.cell? ((⟨b, off, none⟩ : Addr).add j) = some u := by
  rw [List.getElem?_map, Option.map_eq_some_iff] at hj
  obtain ⟨x, hx, rfl⟩ := hj
  have hlt : j < (xs.take k).length := by
    rcases Nat.lt_or_ge j (xs.take k).length with h | h
    · exact h
    · rw [List.getElem?_eq_none h] at hx; simp at hx
  rw [List.length_take] at hlt
  have hx' : xs[j]? = some x := by rw [List.getElem?_take] at hx; split at hx <;> simp_all
  have := hc j (by omega)
  rw [addr_add, hb.cell (p := ⟨b, off + j, none⟩) (block_lt_of_cell this), this]
  simp [List.getD, hx']
theorem ints_drop {w W : World} {b off : Nat} {xs : List Int} (hc : ∀ i, i < xs.length → w.cell? ⟨b, off + i, none⟩ = some (.int .i64 (xs.getD i 0))) (hb : Below w.heap.size w W) (k : Nat) (j : Nat) (u : Value) (hj : ((xs.drop k).map (Value.int .i64))[j]? = some u) : W.cell? ((⟨b, off + k, none⟩ : Addr).add j) = some u := by
  rw [List.getElem?_map, Option.map_eq_some_iff] at hj
  obtain ⟨x, hx, rfl⟩ := hj
  rw [List.getElem?_drop] at hx
  have hlt : k + j < xs.length := by
    rcases Nat.lt_or_ge (k + j) xs.length with h | h
    · exact h
    · rw [List.getElem?_eq_none h] at hx; simp at hx
  have := hc (k + j) hlt
  rw [addr_add, Nat.add_assoc, hb.cell (p := ⟨b, off + (k + j), none⟩) (block_lt_of_cell this), this]
  simp [List.getD, hx]
theorem ints_one (xs : List Int) : ∀ u ∈ xs.map (Value.int .i64), u.oneCell' = true := by
  intro u hu
  obtain ⟨x, _, rfl⟩ := List.mem_map.1 hu
  rfl

/-- A number put among others, in order. -/
def intoAt (xs : List Int) (n : Int) (k : Nat) : List Int := xs.take k ++ [n] ++ xs.drop k
/-- The first place whose number is not below. -/
def placeOf (xs : List Int) (n : Int) : Nat := (xs.takeWhile fun x => decide (x < n)).length

theorem place_go {xs : List Int} {n : Int} {k : Nat} (h : k ≤ placeOf xs n) (hk : k < xs.length) (hlt : xs.getD k 0 < n) : k + 1 ≤ placeOf xs n := by
  unfold placeOf at *
  induction xs generalizing k with
  | nil => simp at hk
  | cons x r ih =>
    rw [List.takeWhile_cons] at *
    cases k with
    | zero =>
      have hx : x < n := by simpa using hlt
      rw [if_pos (by simpa using hx)]
      simp
    | succ k =>
      split at h
      · rename_i hx
        rw [List.length_cons] at h
        have := ih (k := k) (by omega) (by simpa using hk) (by simpa using hlt)
        rw [if_pos hx, List.length_cons]
        omega
      · simp at h
theorem place_stop {xs : List Int} {n : Int} {k : Nat} (h : k ≤ placeOf xs n) (hs : k < xs.length → ¬ xs.getD k 0 < n) : placeOf xs n = k := by
  unfold placeOf at *
  induction xs generalizing k with
  | nil => simp at h; simp [h]
  | cons x r ih =>
    rw [List.takeWhile_cons] at *
    cases k with
    | zero =>
      have hx := hs (by simp)
      have : ¬ (decide (x < n) = true) := by simpa using hx
      rw [if_neg this]
      rfl
    | succ k =>
      split at h
      · rename_i hx
        rw [List.length_cons] at h
        have := ih (k := k) (by omega) (fun hk => by have := hs (by simpa using hk); simpa using this)
        rw [if_pos hx, List.length_cons, this]
      · simp at h

/-- All cells of a row that the call owns. -/
theorem owns_row {w : World} {B : Nat} {e : TypeId} {v : Value} {xs : List Int} (h : w.ownsRow B e 1 v xs.length (xs.map (Value.int .i64))) :
    (v = .slice none 0 0 ∧ xs = []) ∨ ∃ g cap, v = .slice (some ⟨g, 0, none⟩) xs.length cap ∧ xs.length ≤ cap ∧ cap ≤ 9223372036854775807 ∧ g < w.heap.size ∧ ∀ i, i < xs.length → w.cell? ⟨g, 0 + i, none⟩ = some (.int .i64 (xs.getD i 0)) := by
  rcases h.2 with ⟨hv, h0⟩ | ⟨g, cap, cur, hv, hg, hh, h1, h2, h3, h4⟩
  · exact .inl ⟨hv, List.eq_nil_of_length_eq_zero h0⟩
  · refine .inr ⟨g, cap, hv, h1, h2, lt_of_block hh, fun i hi => ?_⟩
    rw [hv] at h
    rw [Nat.zero_add, h.cellAt i (by omega)]
    simp [List.getD, hi]

theorem bw1 (w : World) (A : Obj) : Below w.heap.size w ((w.alloc A).drew) := ((Below.refl _ _).alloc (Nat.le_refl _) _).drew
theorem bw2 (w : World) (A B : Obj) : Below w.heap.size w (((w.alloc A).alloc B).drew) := (((Below.refl _ _).alloc (Nat.le_refl _) _).alloc (by rw [World.size_alloc]; omega) _).drew
theorem new2 (w : World) (A B : Obj) : (((w.alloc A).alloc B).drew).heap[w.heap.size + 1]? = some B := by
  have := heap_alloc_new (w.alloc A) B
  rw [World.size_alloc] at this
  exact this
theorem new1 (w : World) (A B : Obj) : (((w.alloc A).alloc B).drew).heap[w.heap.size]? = some A := by
  show ((w.alloc A).alloc B).heap[w.heap.size]? = _
  rw [Below.heap_alloc _ _ _ (by rw [World.size_alloc]; omega)]
  exact heap_alloc_new w A
theorem keep_a {w w1 : World} {e : TypeId} (h : ((w.alloc (.cells #[] e)).drew).grownBy w1 (Value.slice (some ⟨w.heap.size, 0, none⟩) 0 0).ownBlock) : Below w.heap.size w w1 :=
  (bw1 w _).grown h (bw1 w _).size (fun k hk => by simp [Value.ownBlock] at hk; omega)
theorem keep_b {w w1 : World} {e : TypeId} {n : Int} (h : (((w.alloc (.cells #[] e)).alloc (.cells #[.int .i64 n] e)).drew).grownBy w1 (Value.slice (some ⟨w.heap.size, 0, none⟩) 0 0).ownBlock) : Below w.heap.size w w1 ∧ w1.cell? ⟨w.heap.size + 1, 0, none⟩ = some (.int .i64 n) := by
  refine ⟨(bw2 w _ _).grown h (bw2 w _ _).size (fun k hk => by simp [Value.ownBlock] at hk; omega), cell_of_one (t := e) ?_⟩
  rw [h.block (w.heap.size + 1) (lt_of_block (new2 w _ _)) (by simp [Value.ownBlock])]
  exact new2 w _ _
theorem keep_c {w w1 : World} {e : TypeId} {n : Int} (h : (((w.alloc (.cells #[.int .i64 n] e)).alloc (.cells #[] e)).drew).grownBy w1 (Value.slice (some ⟨w.heap.size + 1, 0, none⟩) 0 0).ownBlock) : Below w.heap.size w w1 ∧ w1.cell? ⟨w.heap.size, 0, none⟩ = some (.int .i64 n) := by
  refine ⟨(bw2 w _ _).grown h (bw2 w _ _).size (fun k hk => by simp [Value.ownBlock] at hk; omega), cell_of_one (t := e) ?_⟩
  rw [h.block w.heap.size (lt_of_block (new1 w _ _)) (by simp [Value.ownBlock])]
  exact new1 w _ _
theorem one_cell {w : World} {b : Nat} {n : Int} (h : w.cell? ⟨b, 0, none⟩ = some (.int .i64 n)) (j : Nat) (u : Value) (hj : [Value.int .i64 n][j]? = some u) : w.cell? ((⟨b, 0, none⟩ : Addr).add j) = some u := by
  match j, hj with
  | 0, hj => simp at hj; subst hj; simpa [Addr.add] using h
theorem one_new (w : World) (n : Int) (e : TypeId) : (w.alloc (.cells #[.int .i64 n] e)).cell? ⟨w.heap.size, 0, none⟩ = some (.int .i64 n) := cell_of_one (heap_alloc_new w _)
theorem one_lit (n : Int) : ∀ u ∈ [Value.int .i64 n], u.oneCell' = true := by intro u hu; simp at hu; subst hu; rfl
theorem keep_2 {w W w2 : World} {e : TypeId} {v : Value} {m : Nat} {xs : List Value} (hb : Below w.heap.size w W) (h : W.grownBy w2 v.ownBlock) (ho : W.ownsRow w.heap.size e 1 v m xs) : Below w.heap.size w w2 := hb.trans (grown_base h ho hb.size)
theorem ints_drop0 {w W : World} {b : Nat} {xs : List Int} (hc : ∀ i, i < xs.length → w.cell? ⟨b, 0 + i, none⟩ = some (.int .i64 (xs.getD i 0))) (hb : Below w.heap.size w W) (k : Nat) (j : Nat) (u : Value) (hj : ((xs.drop k).map (Value.int .i64))[j]? = some u) : W.cell? ((⟨b, k, none⟩ : Addr).add j) = some u := by
  have := ints_drop hc hb k j u hj
  rwa [Nat.zero_add] at this

theorem ints_dropz {W : World} {ad : Addr} {xs : List Int} (k : Nat) (h : xs.length ≤ k) (j : Nat) (u : Value) (hj : ((xs.drop k).map (Value.int .i64))[j]? = some u) : W.cell? (ad.add j) = some u := by
  rw [List.drop_eq_nil_of_le h] at hj
  simp at hj

set_option maxRecDepth 100000 in
set_option maxHeartbeats 4000000 in
theorem l4Into_any (B : Nat) (v : Value) (xs : List Int) (n : Int) (w : World) (hv : w.ownsRow B 3 1 v xs.length (xs.map (Value.int .i64))) (hsome : v ≠ .slice none 0 0) (hx : xs.length ≤ 1000) :
    Calls Tryd.prog 37 #[v, .int .i64 n] w fun e w' => ∃ v', e = .returned v' ∧ w'.ownsRow w.heap.size 3 1 v' (xs.length + 1) ((intoAt xs n (placeOf xs n)).map (Value.int .i64)) ∧ Below w.heap.size w w' := by
  obtain ⟨i0, hi, hz0, hz1, hz2⟩ := info_parts Tryd.info3
  rcases owns_row hv with ⟨h, _⟩ | ⟨g, cap, rfl, hc1, hc2, hgl, hc⟩
  · exact absurd h hsome
  · have HC := hid hc
    clear hv hc hsome
    go_enter Tryd.func37, Tryd.ntmps37
    go_wp2
    go_loop [5] (fun i => ∃ k : Nat, k ≤ xs.length ∧ i = .int .i64 k ∧ k ≤ placeOf xs n) (fun i => xs.length - (intOf i).toNat)
    case atStart => exact ⟨0, Nat.zero_le _, rfl, Nat.zero_le _⟩
    case round =>
      obtain ⟨k, hk, rfl, hkp⟩ := hrel
      by_cases hlt : k < xs.length ∧ xs.getD k 0 < n
      · obtain ⟨h1, h2⟩ := hlt
        have hck := HC.out k h1
        rw [Nat.zero_add] at hck
        have HP := hid (place_go hkp h1 h2)
        obtain ⟨X, hX⟩ : ∃ X, X = xs.getD k 0 := ⟨_, rfl⟩
        rw [← hX] at hck h2
        clear hX hkp
        go_wp2
        go_round
        case rel => exact ⟨k + 1, by omega, by go_num, HP.out⟩
        case measure => simp [intOf]; omega
      · have hst := place_stop hkp (fun h hh => hlt ⟨h, hh⟩)
        have HST := hid hst
        clear hst hkp
        by_cases hkl : k < xs.length
        · have hck := HC.out k hkl
          rw [Nat.zero_add] at hck
          obtain ⟨X, hX⟩ : ∃ X, X = xs.getD k 0 := ⟨_, rfl⟩
          have hXn : decide (X < n) = false := decide_eq_false (fun h => hlt ⟨hkl, by rw [← hX]; exact h⟩)
          rw [← hX] at hck
          have hkc : ¬ cap = k := by omega
          have hkc2 : k ≤ cap := by omega
          have hkc3 : ¬ cap < k := by omega
          have hkc4 : ¬ (cap : Int) < (k : Int) := by omega
          clear hX hlt
          go_wp2
          go_region_law (first
            | (refine step_append_row (base := w.heap.size) (n := 0) (xs := []) 22 3 i0 _ 8 Tryd.underlying22 hi hz0 hz1 hz2 rfl (.tmp 20) (.tmp 23) rfl rfl rfl _ _ _ ((xs.take k).map (Value.int .i64)) rfl (by rw [List.length_map, List.length_take]; omega) (fun h => by cases h) ?_ ?_ (ints_one _) ?_ (by omega) (by omega) ?_; (first | exact lit0_a w _ | exact lit0_b w _ _ | exact lit0_c w _ _); (intro ad had; cases had; first | exact ints_take HC.out (bw1 w _) k | exact ints_take HC.out (bw2 w _ _) k); (first | exact (bw1 w _).size | exact (bw2 w _ _).size); intro v1 w1 hown1 hgr1; (first | have hB1 := keep_a hgr1 | obtain ⟨hB1, hN1⟩ := keep_b hgr1 | obtain ⟨hB1, hN1⟩ := keep_c hgr1))
            | (refine step_append_row (base := w.heap.size) (n := 0 + k) (xs := [] ++ (xs.take k).map (Value.int .i64)) 22 3 i0 _ 8 Tryd.underlying22 hi hz0 hz1 hz2 rfl (.tmp 24) (.tmp 26) rfl rfl rfl _ _ _ [Value.int .i64 n] rfl rfl (fun h => by cases h) ?_ ?_ (one_lit n) ?_ (by omega) (by omega) ?_; (first | exact hown1 | exact hown1.alloc _); (intro ad had; cases had; first | exact one_cell hN1 | exact one_cell (one_new w1 n _)); (first | exact hB1.size | exact Nat.le_trans hB1.size (by rw [World.size_alloc]; omega)); intro v2 w2 hown2 hgr2; (first | have hB2 := keep_2 hB1 hgr2 hown1 | have hB2 := keep_2 (hB1.alloc hB1.size _) hgr2 (hown1.alloc _)))
            | (refine step_append_row (base := w.heap.size) 22 3 i0 _ 8 Tryd.underlying22 hi hz0 hz1 hz2 rfl (.tmp 27) (.tmp 30) rfl rfl rfl _ _ _ ((xs.drop k).map (Value.int .i64)) rfl (by rw [List.length_map, List.length_drop]) (fun h => by cases h) hown2 ?_ (ints_one _) hB2.size (by omega) (by omega) ?_; (intro ad had; cases had; exact ints_drop0 HC.out hB2 k); intro v3 w3 hown3 hgr3; have hB3 := keep_2 hB2 hgr3 hown2))
          all_goals
            go_wp2
            go_ret
            refine ⟨v3, rfl, ?_, hB3⟩
            have e1 : 0 + k + 1 + (xs.length - k) = xs.length + 1 := by omega
            rw [e1] at hown3
            rw [HST.out, intoAt, List.map_append, List.map_append]
            exact hown3
        · obtain rfl : k = xs.length := by omega
          have hkc2 : xs.length ≤ cap := hc1
          have hkc3 : ¬ cap < xs.length := by omega
          have hkc4 : ¬ (cap : Int) < (xs.length : Int) := by omega
          clear hlt
          by_cases hce : cap = xs.length
          · subst hce
            go_wp2
            go_region_law (first
              | (refine step_append_row (base := w.heap.size) (n := 0) (xs := []) 22 3 i0 _ 8 Tryd.underlying22 hi hz0 hz1 hz2 rfl (.tmp 20) (.tmp 23) rfl rfl rfl _ _ _ ((xs.take xs.length).map (Value.int .i64)) rfl (by rw [List.length_map, List.length_take]; omega) (fun h => by cases h) ?_ ?_ (ints_one _) ?_ (by omega) (by omega) ?_; (first | exact lit0_a w _ | exact lit0_b w _ _ | exact lit0_c w _ _); (intro ad had; cases had; first | exact ints_take HC.out (bw1 w _) xs.length | exact ints_take HC.out (bw2 w _ _) xs.length); (first | exact (bw1 w _).size | exact (bw2 w _ _).size); intro v1 w1 hown1 hgr1; (first | have hB1 := keep_a hgr1 | obtain ⟨hB1, hN1⟩ := keep_b hgr1 | obtain ⟨hB1, hN1⟩ := keep_c hgr1))
              | (refine step_append_row (base := w.heap.size) (n := 0 + xs.length) (xs := [] ++ (xs.take xs.length).map (Value.int .i64)) 22 3 i0 _ 8 Tryd.underlying22 hi hz0 hz1 hz2 rfl (.tmp 24) (.tmp 26) rfl rfl rfl _ _ _ [Value.int .i64 n] rfl rfl (fun h => by cases h) ?_ ?_ (one_lit n) ?_ (by omega) (by omega) ?_; (first | exact hown1 | exact hown1.alloc _); (intro ad had; cases had; first | exact one_cell hN1 | exact one_cell (one_new w1 n _)); (first | exact hB1.size | exact Nat.le_trans hB1.size (by rw [World.size_alloc]; omega)); intro v2 w2 hown2 hgr2; (first | have hB2 := keep_2 hB1 hgr2 hown1 | have hB2 := keep_2 (hB1.alloc hB1.size _) hgr2 (hown1.alloc _)))
              | (refine step_append_row (base := w.heap.size) 22 3 i0 _ 8 Tryd.underlying22 hi hz0 hz1 hz2 rfl (.tmp 27) (.tmp 30) rfl rfl rfl _ _ _ ((xs.drop xs.length).map (Value.int .i64)) rfl (by simp) (fun h => by cases h) hown2 ?_ (ints_one _) hB2.size (by omega) (by omega) ?_; (intro ad had; cases had; exact ints_dropz xs.length (Nat.le_refl _)); intro v3 w3 hown3 hgr3; have hB3 := keep_2 hB2 hgr3 hown2))
            all_goals
              go_wp2
              go_ret
              refine ⟨v3, rfl, ?_, hB3⟩
              have e1 : 0 + xs.length + 1 + 0 = xs.length + 1 := by omega
              rw [e1] at hown3
              rw [HST.out, intoAt, List.map_append, List.map_append]
              exact hown3
          · go_wp2
            go_region_law (first
              | (refine step_append_row (base := w.heap.size) (n := 0) (xs := []) 22 3 i0 _ 8 Tryd.underlying22 hi hz0 hz1 hz2 rfl (.tmp 20) (.tmp 23) rfl rfl rfl _ _ _ ((xs.take xs.length).map (Value.int .i64)) rfl (by rw [List.length_map, List.length_take]; omega) (fun h => by cases h) ?_ ?_ (ints_one _) ?_ (by omega) (by omega) ?_; (first | exact lit0_a w _ | exact lit0_b w _ _ | exact lit0_c w _ _); (intro ad had; cases had; first | exact ints_take HC.out (bw1 w _) xs.length | exact ints_take HC.out (bw2 w _ _) xs.length); (first | exact (bw1 w _).size | exact (bw2 w _ _).size); intro v1 w1 hown1 hgr1; (first | have hB1 := keep_a hgr1 | obtain ⟨hB1, hN1⟩ := keep_b hgr1 | obtain ⟨hB1, hN1⟩ := keep_c hgr1))
              | (refine step_append_row (base := w.heap.size) (n := 0 + xs.length) (xs := [] ++ (xs.take xs.length).map (Value.int .i64)) 22 3 i0 _ 8 Tryd.underlying22 hi hz0 hz1 hz2 rfl (.tmp 24) (.tmp 26) rfl rfl rfl _ _ _ [Value.int .i64 n] rfl rfl (fun h => by cases h) ?_ ?_ (one_lit n) ?_ (by omega) (by omega) ?_; (first | exact hown1 | exact hown1.alloc _); (intro ad had; cases had; first | exact one_cell hN1 | exact one_cell (one_new w1 n _)); (first | exact hB1.size | exact Nat.le_trans hB1.size (by rw [World.size_alloc]; omega)); intro v2 w2 hown2 hgr2; (first | have hB2 := keep_2 hB1 hgr2 hown1 | have hB2 := keep_2 (hB1.alloc hB1.size _) hgr2 (hown1.alloc _)))
              | (refine step_append_row (base := w.heap.size) 22 3 i0 _ 8 Tryd.underlying22 hi hz0 hz1 hz2 rfl (.tmp 27) (.tmp 30) rfl rfl rfl _ _ _ ((xs.drop xs.length).map (Value.int .i64)) rfl (by simp) (fun h => by cases h) hown2 ?_ (ints_one _) hB2.size (by omega) (by omega) ?_; (intro ad had; cases had; exact ints_dropz xs.length (Nat.le_refl _)); intro v3 w3 hown3 hgr3; have hB3 := keep_2 hB2 hgr3 hown2))
            all_goals
              go_wp2
              go_ret
              refine ⟨v3, rfl, ?_, hB3⟩
              have e1 : 0 + xs.length + 1 + 0 = xs.length + 1 := by omega
              rw [e1] at hown3
              rw [HST.out, intoAt, List.map_append, List.map_append]
              exact hown3
end Go.Proofs.YtcoofoiaaljpoaaDoor
