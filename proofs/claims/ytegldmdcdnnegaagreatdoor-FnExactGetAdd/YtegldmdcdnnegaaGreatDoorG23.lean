/- Appends of whole rows, as steps of a region that draws its order. Sets as bits and as lists, what drawing does to both. -/
import Derived.Test.YtegldmdcdnnegaaGreatDoorG11
import Derived.Deep.RegionLaw
import Derived.BigRegion
import Derived.Test.YtegldmdcdnnegaaGreatDoorG2
namespace Go.Proofs.YtegldmdcdnnegaaGreatDoor
open Go.ChangeShapes Go.WideShapes Go.ChangeAt Go.RowKit

/-- An empty literal is owned, whatever is laid behind it. -/
theorem lit0_a (w : World) (e : TypeId) : ((w.alloc (.cells #[] e)).drew).ownsRow w.heap.size e 1 (.slice (some ⟨w.heap.size, 0, none⟩) 0 0) 0 [] :=
  (World.ownsRow_lit w #[] 0 (Nat.le_refl _) (Nat.zero_le _) rfl).drew
theorem lit0_b (w : World) (e : TypeId) (B : Obj) : (((w.alloc (.cells #[] e)).alloc B).drew).ownsRow w.heap.size e 1 (.slice (some ⟨w.heap.size, 0, none⟩) 0 0) 0 [] :=
  ((World.ownsRow_lit w #[] 0 (Nat.le_refl _) (Nat.zero_le _) rfl).alloc B).drew
theorem lit0_c (w : World) (e : TypeId) (B : Obj) : (((w.alloc B).alloc (.cells #[] e)).drew).ownsRow w.heap.size e 1 (.slice (some ⟨w.heap.size + 1, 0, none⟩) 0 0) 0 [] := by
  have := World.ownsRow_lit (base := w.heap.size) (e := e) (size := 1) (w.alloc B) #[] 0 (by rw [World.size_alloc]; omega) (Nat.zero_le _) rfl
  rw [World.size_alloc] at this
  exact this.drew
/-- The cells of the first part and of the rest of a row that is read. -/
theorem ints_take {w W : World} {b off : Nat} {xs : List Int} (hc : ∀ i, i < xs.length → w.cell? ⟨b, off + i, none⟩ = some (.int .i64 (xs.getD i 0))) (hb : Below w.heap.size w W) (k : Nat) (j : Nat) (u : Value) (hj : ((xs.take k).map (Value.int .i64))[j]? = some u) : W.cell? ((⟨b, off, none⟩ : Addr).add j) = some u := by
  rw [List.getElem?_map, Option.map_eq_some_iff] at hj
  obtain ⟨x, hx, rfl⟩ := hj
  have hlt : j < (xs.take k).length := by
    rcases Nat.lt_or_ge j (xs.take k).length with h | h
    · exact h
    · rw [List.getElem?_eq_none h] at hx; simp at hx
  rw [List.length_take] at hlt
  have hx' : xs[j]? = some x := by rw [List.getElem?_take] at hx; split at hx <;> simp_all
  have := hc j (by omega)
  rw [addr_add, hb.cell (p := ⟨b, off + j, none⟩) (block_lt_of_cell this), this]
  simp [List.getD, hx']
theorem ints_drop {w W : World} {b off : Nat} {xs : List Int} (hc : ∀ i, i < xs.length → w.cell? ⟨b, off + i, none⟩ = some (.int .i64 (xs.getD i 0))) (hb : Below w.heap.size w W) (k : Nat) (j : Nat) (u : Value) (hj : ((xs.drop k).map (Value.int .i64))[j]? = some u) : W.cell? ((⟨b, off + k, none⟩ : Addr).add j) = some u := by
  rw [List.getElem?_map, Option.map_eq_some_iff] at hj
  obtain ⟨x, hx, rfl⟩ := hj
  rw [List.getElem?_drop] at hx
  have hlt : k + j < xs.length := by
    rcases Nat.lt_or_ge (k + j) xs.length with h | h
    · exact h
    · rw [List.getElem?_eq_none h] at hx; simp at hx
  have := hc (k + j) hlt
  rw [addr_add, Nat.add_assoc, hb.cell (p := ⟨b, off + (k + j), none⟩) (block_lt_of_cell this), this]
  simp [List.getD, hx]
theorem ints_one (xs : List Int) : ∀ u ∈ xs.map (Value.int .i64), u.oneCell' = true := by
  intro u hu
  obtain ⟨x, _, rfl⟩ := List.mem_map.1 hu
  rfl

/-- A number put among others, in order. -/
def intoAt (xs : List Int) (n : Int) (k : Nat) : List Int := xs.take k ++ [n] ++ xs.drop k
/-- The first place whose number is not below. -/
def placeOf (xs : List Int) (n : Int) : Nat := (xs.takeWhile fun x => decide (x < n)).length

theorem place_go {xs : List Int} {n : Int} {k : Nat} (h : k ≤ placeOf xs n) (hk : k < xs.length) (hlt : xs.getD k 0 < n) : k + 1 ≤ placeOf xs n := by
  unfold placeOf at *
  induction xs generalizing k with
  | nil => simp at hk
  | cons x r ih =>
    rw [List.takeWhile_cons] at *
    cases k with
    | zero =>
      have hx : x < n := by simpa using hlt
      rw [if_pos (by simpa using hx)]
      simp
    | succ k =>
      split at h
      · rename_i hx
        rw [List.length_cons] at h
        have := ih (k := k) (by omega) (by simpa using hk) (by simpa using hlt)
        rw [if_pos hx, List.length_cons]
        omega
      · simp at h
theorem place_stop {xs : List Int} {n : Int} {k : Nat} (h : k ≤ placeOf xs n) (hs : k < xs.length → ¬ xs.getD k 0 < n) : placeOf xs n = k := by
  unfold placeOf at *
  induction xs generalizing k with
  | nil => simp at h; simp [h]
  | cons x r ih =>
    rw [List.takeWhile_cons] at *
    cases k with
    | zero =>
      have hx := hs (by simp)
      have : ¬ (decide (x < n) = true) := by simpa using hx
      rw [if_neg this]
      rfl
    | succ k =>
      split at h
      · rename_i hx
        rw [List.length_cons] at h
        have := ih (k := k) (by omega) (fun hk => by have := hs (by simpa using hk); simpa using this)
        rw [if_pos hx, List.length_cons, this]
      · simp at h

/-- All cells of a row that the call owns. -/
theorem owns_row {w : World} {B : Nat} {e : TypeId} {v : Value} {xs : List Int} (h : w.ownsRow B e 1 v xs.length (xs.map (Value.int .i64))) :
    (v = .slice none 0 0 ∧ xs = []) ∨ ∃ g cap, v = .slice (some ⟨g, 0, none⟩) xs.length cap ∧ xs.length ≤ cap ∧ cap ≤ 9223372036854775807 ∧ g < w.heap.size ∧ ∀ i, i < xs.length → w.cell? ⟨g, 0 + i, none⟩ = some (.int .i64 (xs.getD i 0)) := by
  rcases h.2 with ⟨hv, h0⟩ | ⟨g, cap, cur, hv, hg, hh, h1, h2, h3, h4⟩
  · exact .inl ⟨hv, List.eq_nil_of_length_eq_zero h0⟩
  · refine .inr ⟨g, cap, hv, h1, h2, lt_of_block hh, fun i hi => ?_⟩
    rw [hv] at h
    rw [Nat.zero_add, h.cellAt i (by omega)]
    simp [List.getD, hi]

theorem bw1 (w : World) (A : Obj) : Below w.heap.size w ((w.alloc A).drew) := ((Below.refl _ _).alloc (Nat.le_refl _) _).drew
theorem bw2 (w : World) (A B : Obj) : Below w.heap.size w (((w.alloc A).alloc B).drew) := (((Below.refl _ _).alloc (Nat.le_refl _) _).alloc (by rw [World.size_alloc]; omega) _).drew
theorem new2 (w : World) (A B : Obj) : (((w.alloc A).alloc B).drew).heap[w.heap.size + 1]? = some B := by
  have := heap_alloc_new (w.alloc A) B
  rw [World.size_alloc] at this
  exact this
theorem new1 (w : World) (A B : Obj) : (((w.alloc A).alloc B).drew).heap[w.heap.size]? = some A := by
  show ((w.alloc A).alloc B).heap[w.heap.size]? = _
  rw [Below.heap_alloc _ _ _ (by rw [World.size_alloc]; omega)]
  exact heap_alloc_new w A
theorem keep_a {w w1 : World} {e : TypeId} (h : ((w.alloc (.cells #[] e)).drew).grownBy w1 (Value.slice (some ⟨w.heap.size, 0, none⟩) 0 0).ownBlock) : Below w.heap.size w w1 :=
  (bw1 w _).grown h (bw1 w _).size (fun k hk => by simp [Value.ownBlock] at hk; omega)
theorem keep_b {w w1 : World} {e : TypeId} {n : Int} (h : (((w.alloc (.cells #[] e)).alloc (.cells #[.int .i64 n] e)).drew).grownBy w1 (Value.slice (some ⟨w.heap.size, 0, none⟩) 0 0).ownBlock) : Below w.heap.size w w1 ∧ w1.cell? ⟨w.heap.size + 1, 0, none⟩ = some (.int .i64 n) := by
  refine ⟨(bw2 w _ _).grown h (bw2 w _ _).size (fun k hk => by simp [Value.ownBlock] at hk; omega), cell_of_one (t := e) ?_⟩
  rw [h.block (w.heap.size + 1) (lt_of_block (new2 w _ _)) (by simp [Value.ownBlock])]
  exact new2 w _ _
theorem keep_c {w w1 : World} {e : TypeId} {n : Int} (h : (((w.alloc (.cells #[.int .i64 n] e)).alloc (.cells #[] e)).drew).grownBy w1 (Value.slice (some ⟨w.heap.size + 1, 0, none⟩) 0 0).ownBlock) : Below w.heap.size w w1 ∧ w1.cell? ⟨w.heap.size, 0, none⟩ = some (.int .i64 n) := by
  refine ⟨(bw2 w _ _).grown h (bw2 w _ _).size (fun k hk => by simp [Value.ownBlock] at hk; omega), cell_of_one (t := e) ?_⟩
  rw [h.block w.heap.size (lt_of_block (new1 w _ _)) (by simp [Value.ownBlock])]
  exact new1 w _ _
theorem one_cell {w : World} {b : Nat} {n : Int} (h : w.cell? ⟨b, 0, none⟩ = some (.int .i64 n)) (j : Nat) (u : Value) (hj : [Value.int .i64 n][j]? = some u) : w.cell? ((⟨b, 0, none⟩ : Addr).add j) = some u := by
  match j, hj with
  | 0, hj => simp at hj; subst hj; simpa [Addr.add] using h
theorem one_new (w : World) (n : Int) (e : TypeId) : (w.alloc (.cells #[.int .i64 n] e)).cell? ⟨w.heap.size, 0, none⟩ = some (.int .i64 n) := cell_of_one (heap_alloc_new w _)
theorem one_lit (n : Int) : ∀ u ∈ [Value.int .i64 n], u.oneCell' = true := by intro u hu; simp at hu; subst hu; rfl
theorem keep_2 {w W w2 : World} {e : TypeId} {v : Value} {m : Nat} {xs : List Value} (hb : Below w.heap.size w W) (h : W.grownBy w2 v.ownBlock) (ho : W.ownsRow w.heap.size e 1 v m xs) : Below w.heap.size w w2 := hb.trans (grown_base h ho hb.size)
theorem ints_drop0 {w W : World} {b : Nat} {xs : List Int} (hc : ∀ i, i < xs.length → w.cell? ⟨b, 0 + i, none⟩ = some (.int .i64 (xs.getD i 0))) (hb : Below w.heap.size w W) (k : Nat) (j : Nat) (u : Value) (hj : ((xs.drop k).map (Value.int .i64))[j]? = some u) : W.cell? ((⟨b, k, none⟩ : Addr).add j) = some u := by
  have := ints_drop hc hb k j u hj
  rwa [Nat.zero_add] at this

theorem ints_dropz {W : World} {ad : Addr} {xs : List Int} (k : Nat) (h : xs.length ≤ k) (j : Nat) (u : Value) (hj : ((xs.drop k).map (Value.int .i64))[j]? = some u) : W.cell? (ad.add j) = some u := by
  rw [List.drop_eq_nil_of_le h] at hj
  simp at hj

set_option maxRecDepth 100000 in
set_option maxHeartbeats 4000000 in
theorem l4Into_any (B : Nat) (v : Value) (xs : List Int) (n : Int) (w : World) (hv : w.ownsRow B 3 1 v xs.length (xs.map (Value.int .i64))) (hsome : v ≠ .slice none 0 0) (hx : xs.length ≤ 1000) :
    Calls Tryz.prog 71 #[v, .int .i64 n] w fun e w' => ∃ v', e = .returned v' ∧ w'.ownsRow w.heap.size 3 1 v' (xs.length + 1) ((intoAt xs n (placeOf xs n)).map (Value.int .i64)) ∧ Below w.heap.size w w' := by
  obtain ⟨i0, hi, hz0, hz1, hz2⟩ := info_parts Tryz.info3
  rcases owns_row hv with ⟨h, _⟩ | ⟨g, cap, rfl, hc1, hc2, hgl, hc⟩
  · exact absurd h hsome
  · have HC := hid hc
    clear hv hc hsome
    go_enter Tryz.func71, Tryz.ntmps71
    go_wp2
    go_loop [5] (fun i => ∃ k : Nat, k ≤ xs.length ∧ i = .int .i64 k ∧ k ≤ placeOf xs n) (fun i => xs.length - (intOf i).toNat)
    case atStart => exact ⟨0, Nat.zero_le _, rfl, Nat.zero_le _⟩
    case round =>
      obtain ⟨k, hk, rfl, hkp⟩ := hrel
      by_cases hlt : k < xs.length ∧ xs.getD k 0 < n
      · obtain ⟨h1, h2⟩ := hlt
        have hck := HC.out k h1
        rw [Nat.zero_add] at hck
        have HP := hid (place_go hkp h1 h2)
        obtain ⟨X, hX⟩ : ∃ X, X = xs.getD k 0 := ⟨_, rfl⟩
        rw [← hX] at hck h2
        clear hX hkp
        go_wp2
        go_round
        case rel => exact ⟨k + 1, by omega, by go_num, HP.out⟩
        case measure => simp [intOf]; omega
      · have hst := place_stop hkp (fun h hh => hlt ⟨h, hh⟩)
        have HST := hid hst
        clear hst hkp
        by_cases hkl : k < xs.length
        · have hck := HC.out k hkl
          rw [Nat.zero_add] at hck
          obtain ⟨X, hX⟩ : ∃ X, X = xs.getD k 0 := ⟨_, rfl⟩
          have hXn : decide (X < n) = false := decide_eq_false (fun h => hlt ⟨hkl, by rw [← hX]; exact h⟩)
          rw [← hX] at hck
          have hkc : ¬ cap = k := by omega
          have hkc2 : k ≤ cap := by omega
          have hkc3 : ¬ cap < k := by omega
          have hkc4 : ¬ (cap : Int) < (k : Int) := by omega
          clear hX hlt
          go_wp2
          go_region_law (first
            | (refine step_append_row (base := w.heap.size) (n := 0) (xs := []) 22 3 i0 _ 8 Tryz.underlying22 hi hz0 hz1 hz2 rfl (.tmp 20) (.tmp 23) rfl rfl rfl _ _ _ ((xs.take k).map (Value.int .i64)) rfl (by rw [List.length_map, List.length_take]; omega) (fun h => by cases h) ?_ ?_ (ints_one _) ?_ (by omega) (by omega) ?_; (first | exact lit0_a w _ | exact lit0_b w _ _ | exact lit0_c w _ _); (intro ad had; cases had; first | exact ints_take HC.out (bw1 w _) k | exact ints_take HC.out (bw2 w _ _) k); (first | exact (bw1 w _).size | exact (bw2 w _ _).size); intro v1 w1 hown1 hgr1; (first | have hB1 := keep_a hgr1 | obtain ⟨hB1, hN1⟩ := keep_b hgr1 | obtain ⟨hB1, hN1⟩ := keep_c hgr1))
            | (refine step_append_row (base := w.heap.size) (n := 0 + k) (xs := [] ++ (xs.take k).map (Value.int .i64)) 22 3 i0 _ 8 Tryz.underlying22 hi hz0 hz1 hz2 rfl (.tmp 24) (.tmp 26) rfl rfl rfl _ _ _ [Value.int .i64 n] rfl rfl (fun h => by cases h) ?_ ?_ (one_lit n) ?_ (by omega) (by omega) ?_; (first | exact hown1 | exact hown1.alloc _); (intro ad had; cases had; first | exact one_cell hN1 | exact one_cell (one_new w1 n _)); (first | exact hB1.size | exact Nat.le_trans hB1.size (by rw [World.size_alloc]; omega)); intro v2 w2 hown2 hgr2; (first | have hB2 := keep_2 hB1 hgr2 hown1 | have hB2 := keep_2 (hB1.alloc hB1.size _) hgr2 (hown1.alloc _)))
            | (refine step_append_row (base := w.heap.size) 22 3 i0 _ 8 Tryz.underlying22 hi hz0 hz1 hz2 rfl (.tmp 27) (.tmp 30) rfl rfl rfl _ _ _ ((xs.drop k).map (Value.int .i64)) rfl (by rw [List.length_map, List.length_drop]) (fun h => by cases h) hown2 ?_ (ints_one _) hB2.size (by omega) (by omega) ?_; (intro ad had; cases had; exact ints_drop0 HC.out hB2 k); intro v3 w3 hown3 hgr3; have hB3 := keep_2 hB2 hgr3 hown2))
          all_goals
            go_wp2
            go_ret
            refine ⟨v3, rfl, ?_, hB3⟩
            have e1 : 0 + k + 1 + (xs.length - k) = xs.length + 1 := by omega
            rw [e1] at hown3
            rw [HST.out, intoAt, List.map_append, List.map_append]
            exact hown3
        · obtain rfl : k = xs.length := by omega
          have hkc2 : xs.length ≤ cap := hc1
          have hkc3 : ¬ cap < xs.length := by omega
          have hkc4 : ¬ (cap : Int) < (xs.length : Int) := by omega
          clear hlt
          by_cases hce : cap = xs.length
          · subst hce
            go_wp2
            go_region_law (first
              | (refine step_append_row (base := w.heap.size) (n := 0) (xs := []) 22 3 i0 _ 8 Tryz.underlying22 hi hz0 hz1 hz2 rfl (.tmp 20) (.tmp 23) rfl rfl rfl _ _ _ ((xs.take xs.length).map (Value.int .i64)) rfl (by rw [List.length_map, List.length_take]; omega) (fun h => by cases h) ?_ ?_ (ints_one _) ?_ (by omega) (by omega) ?_; (first | exact lit0_a w _ | exact lit0_b w _ _ | exact lit0_c w _ _); (intro ad had; cases had; first | exact ints_take HC.out (bw1 w _) xs.length | exact ints_take HC.out (bw2 w _ _) xs.length); (first | exact (bw1 w _).size | exact (bw2 w _ _).size); intro v1 w1 hown1 hgr1; (first | have hB1 := keep_a hgr1 | obtain ⟨hB1, hN1⟩ := keep_b hgr1 | obtain ⟨hB1, hN1⟩ := keep_c hgr1))
              | (refine step_append_row (base := w.heap.size) (n := 0 + xs.length) (xs := [] ++ (xs.take xs.length).map (Value.int .i64)) 22 3 i0 _ 8 Tryz.underlying22 hi hz0 hz1 hz2 rfl (.tmp 24) (.tmp 26) rfl rfl rfl _ _ _ [Value.int .i64 n] rfl rfl (fun h => by cases h) ?_ ?_ (one_lit n) ?_ (by omega) (by omega) ?_; (first | exact hown1 | exact hown1.alloc _); (intro ad had; cases had; first | exact one_cell hN1 | exact one_cell (one_new w1 n _)); (first | exact hB1.size | exact Nat.le_trans hB1.size (by rw [World.size_alloc]; omega)); intro v2 w2 hown2 hgr2; (first | have hB2 := keep_2 hB1 hgr2 hown1 | have hB2 := keep_2 (hB1.alloc hB1.size _) hgr2 (hown1.alloc _)))
              | (refine step_append_row (base := w.heap.size) 22 3 i0 _ 8 Tryz.underlying22 hi hz0 hz1 hz2 rfl (.tmp 27) (.tmp 30) rfl rfl rfl _ _ _ ((xs.drop xs.length).map (Value.int .i64)) rfl (by simp) (fun h => by cases h) hown2 ?_ (ints_one _) hB2.size (by omega) (by omega) ?_; (intro ad had; cases had; exact ints_dropz xs.length (Nat.le_refl _)); intro v3 w3 hown3 hgr3; have hB3 := keep_2 hB2 hgr3 hown2))
            all_goals
              go_wp2
              go_ret
              refine ⟨v3, rfl, ?_, hB3⟩
              have e1 : 0 + xs.length + 1 + 0 = xs.length + 1 := by omega
              rw [e1] at hown3
              rw [HST.out, intoAt, List.map_append, List.map_append]
              exact hown3
          · go_wp2
            go_region_law (first
              | (refine step_append_row (base := w.heap.size) (n := 0) (xs := []) 22 3 i0 _ 8 Tryz.underlying22 hi hz0 hz1 hz2 rfl (.tmp 20) (.tmp 23) rfl rfl rfl _ _ _ ((xs.take xs.length).map (Value.int .i64)) rfl (by rw [List.length_map, List.length_take]; omega) (fun h => by cases h) ?_ ?_ (ints_one _) ?_ (by omega) (by omega) ?_; (first | exact lit0_a w _ | exact lit0_b w _ _ | exact lit0_c w _ _); (intro ad had; cases had; first | exact ints_take HC.out (bw1 w _) xs.length | exact ints_take HC.out (bw2 w _ _) xs.length); (first | exact (bw1 w _).size | exact (bw2 w _ _).size); intro v1 w1 hown1 hgr1; (first | have hB1 := keep_a hgr1 | obtain ⟨hB1, hN1⟩ := keep_b hgr1 | obtain ⟨hB1, hN1⟩ := keep_c hgr1))
              | (refine step_append_row (base := w.heap.size) (n := 0 + xs.length) (xs := [] ++ (xs.take xs.length).map (Value.int .i64)) 22 3 i0 _ 8 Tryz.underlying22 hi hz0 hz1 hz2 rfl (.tmp 24) (.tmp 26) rfl rfl rfl _ _ _ [Value.int .i64 n] rfl rfl (fun h => by cases h) ?_ ?_ (one_lit n) ?_ (by omega) (by omega) ?_; (first | exact hown1 | exact hown1.alloc _); (intro ad had; cases had; first | exact one_cell hN1 | exact one_cell (one_new w1 n _)); (first | exact hB1.size | exact Nat.le_trans hB1.size (by rw [World.size_alloc]; omega)); intro v2 w2 hown2 hgr2; (first | have hB2 := keep_2 hB1 hgr2 hown1 | have hB2 := keep_2 (hB1.alloc hB1.size _) hgr2 (hown1.alloc _)))
              | (refine step_append_row (base := w.heap.size) 22 3 i0 _ 8 Tryz.underlying22 hi hz0 hz1 hz2 rfl (.tmp 27) (.tmp 30) rfl rfl rfl _ _ _ ((xs.drop xs.length).map (Value.int .i64)) rfl (by simp) (fun h => by cases h) hown2 ?_ (ints_one _) hB2.size (by omega) (by omega) ?_; (intro ad had; cases had; exact ints_dropz xs.length (Nat.le_refl _)); intro v3 w3 hown3 hgr3; have hB3 := keep_2 hB2 hgr3 hown2))
            all_goals
              go_wp2
              go_ret
              refine ⟨v3, rfl, ?_, hB3⟩
              have e1 : 0 + xs.length + 1 + 0 = xs.length + 1 := by omega
              rw [e1] at hown3
              rw [HST.out, intoAt, List.map_append, List.map_append]
              exact hown3
end Go.Proofs.YtegldmdcdnnegaaGreatDoor
namespace Go.Proofs.YtegldmdcdnnegaaGreatDoor
open Go.ChangeShapes Go.WideShapes Go.ChangeAt Go.RowKit

theorem asc_hi {lo hi hi' : Int} {xs : List Int} (h : ascB lo hi xs = true) (hh : hi ≤ hi') : ascB lo hi' xs = true := by
  induction xs generalizing lo with
  | nil => rfl
  | cons x r ih =>
    obtain ⟨h1, h2⟩ := asc_cons.1 h
    exact asc_cons.2 ⟨by omega, ih h2⟩
theorem range_asc (n : Nat) (h : n ≤ 24) : ascB (-1) 24 ((List.range n).map fun (i : Nat) => (i : Int)) = true := by
  have := asc_filter (fun _ => true) n 0 (-1) (by omega)
  rw [List.filter_eq_self.2 (by simp), ← List.range_eq_range'] at this
  exact asc_hi this (by omega)
theorem bits_full (n : Nat) (h : n ≤ 24) : bitsOf (2 ^ n - 1) = (List.range n).map fun (i : Nat) => (i : Int) := by
  refine asc_ext (bitsOf_asc _) (range_asc n h) (fun z => ?_)
  rw [bitsOf_mem, List.mem_map]
  constructor
  · rintro ⟨i, rfl, _, hb⟩
    rw [Nat.testBit_two_pow_sub_one, decide_eq_true_eq] at hb
    exact ⟨i, List.mem_range.2 hb, rfl⟩
  · rintro ⟨i, hi, rfl⟩
    have := List.mem_range.1 hi
    exact ⟨i, rfl, by omega, by rw [Nat.testBit_two_pow_sub_one, decide_eq_true_eq]; exact this⟩
/-- The least number, and the others. -/
theorem bits_cons {r t m : Nat} (e : r = 2 ^ t * (2 * m + 1)) (hr : r < 16777216) : bitsOf r = (t : Int) :: bitsOf (outB r t) := by
  have ht := low_lt (t := t) (m := m) (by rw [← e]; exact hr)
  have hbt : r.testBit t = true := by rw [e]; exact low_at t m
  have hlow : ∀ i, i < t → r.testBit i = false := fun i hi => by rw [e]; exact low_under hi
  have hasc : ascB (-1) 24 ((t : Int) :: bitsOf (outB r t)) = true := by
    refine asc_cons.2 ⟨by omega, ?_⟩
    have h1 := bitsOf_asc (outB r t)
    cases hb : bitsOf (outB r t) with
    | nil => rfl
    | cons x q =>
      rw [hb] at h1
      obtain ⟨a1, a2⟩ := asc_cons.1 h1
      refine asc_cons.2 ⟨⟨?_, a1.2⟩, a2⟩
      have hx : x ∈ bitsOf (outB r t) := by rw [hb]; exact List.mem_cons_self ..
      obtain ⟨i, rfl, hi, hbi⟩ := (bitsOf_mem _ _).1 hx
      rw [outB_bit r t i (by omega) (by omega), Bool.and_eq_true] at hbi
      have : ¬ i < t := fun h => by rw [hlow i h] at hbi; simp at hbi
      have : i ≠ t := fun h => by subst h; simp at hbi
      omega
  refine asc_ext (bitsOf_asc _) hasc (fun z => ?_)
  rw [List.mem_cons, bitsOf_mem, bitsOf_mem]
  constructor
  · rintro ⟨i, rfl, hi, hb⟩
    by_cases hit : t = i
    · left; omega
    · right
      exact ⟨i, rfl, hi, by rw [outB_bit r t i (by omega) (by omega), hb]; simp [hit]⟩
  · rintro (h | ⟨i, rfl, hi, hb⟩)
    · exact ⟨t, h, ht, hbt⟩
    · rw [outB_bit r t i (by omega) (by omega), Bool.and_eq_true] at hb
      exact ⟨i, rfl, hi, hb.1⟩
theorem bits_zero : bitsOf 0 = [] := by decide

theorem into_mem (xs : List Int) (n : Int) (k : Nat) (z : Int) : z ∈ intoAt xs n k ↔ z = n ∨ z ∈ xs := by
  unfold intoAt
  rw [List.mem_append, List.mem_append, List.mem_singleton]
  constructor
  · rintro ((h | h) | h)
    · exact .inr (List.mem_of_mem_take h)
    · exact .inl h
    · exact .inr (List.mem_of_mem_drop h)
  · rintro (h | h)
    · exact .inl (.inr h)
    · rw [← List.take_append_drop k xs, List.mem_append] at h
      rcases h with h | h
      · exact .inl (.inl h)
      · exact .inr h
theorem into_asc {lo hi n : Int} {xs : List Int} (h : ascB lo hi xs = true) (h1 : lo < n) (h2 : n < hi) (hn : n ∉ xs) : ascB lo hi (intoAt xs n (placeOf xs n)) = true := by
  induction xs generalizing lo with
  | nil => exact asc_cons.2 ⟨⟨h1, h2⟩, rfl⟩
  | cons x r ih =>
    obtain ⟨a1, a2⟩ := asc_cons.1 h
    have hne : n ≠ x := fun e => hn (by rw [e]; exact List.mem_cons_self ..)
    have hnr : n ∉ r := fun e => hn (List.mem_cons_of_mem _ e)
    unfold placeOf
    rw [List.takeWhile_cons]
    split
    · rename_i hx
      have hx' : x < n := by simpa using hx
      have := ih a2 hx' hnr
      rw [List.length_cons]
      unfold intoAt placeOf at *
      rw [List.take_succ_cons, List.drop_succ_cons, List.cons_append, List.cons_append]
      exact asc_cons.2 ⟨a1, this⟩
    · rename_i hx
      have hx' : ¬ x < n := by simpa using hx
      show ascB lo hi ([] ++ [n] ++ (x :: r)) = true
      rw [List.nil_append, List.singleton_append]
      exact asc_cons.2 ⟨⟨h1, h2⟩, asc_cons.2 ⟨⟨by omega, a1.2⟩, a2⟩⟩
theorem bits_with {D n : Nat} (hn : n < 24) (hx : (n : Int) ∉ bitsOf D) : bitsOf (D ||| 2 ^ n) = intoAt (bitsOf D) n (placeOf (bitsOf D) n) := by
  refine asc_ext (bitsOf_asc _) (into_asc (bitsOf_asc _) (by omega) (by omega) hx) (fun z => ?_)
  rw [into_mem, bitsOf_mem, bitsOf_mem]
  constructor
  · rintro ⟨i, rfl, hi, hb⟩
    rw [Nat.testBit_or, Nat.testBit_two_pow, Bool.or_eq_true, decide_eq_true_eq] at hb
    rcases hb with hb | hb
    · exact .inr ⟨i, rfl, hi, hb⟩
    · exact .inl (by omega)
  · rintro (h | ⟨i, rfl, hi, hb⟩)
    · exact ⟨n, h, hn, by rw [Nat.testBit_or, Nat.testBit_two_pow]; simp⟩
    · exact ⟨i, rfl, hi, by rw [Nat.testBit_or, hb, Bool.true_or]⟩
theorem erase_both {lo hi : Int} {xs : List Int} (h : ascB lo hi xs = true) (k : Nat) (hk : k < xs.length) :
    ascB lo hi (xs.eraseIdx k) = true ∧ ∀ z, z ∈ xs.eraseIdx k ↔ z ∈ xs ∧ z ≠ xs.getD k 0 := by
  induction xs generalizing lo k with
  | nil => simp at hk
  | cons x r ih =>
    obtain ⟨a1, a2⟩ := asc_cons.1 h
    cases k with
    | zero =>
      rw [List.eraseIdx_cons_zero]
      refine ⟨asc_mono a2 (by omega), fun z => ?_⟩
      have hg : (x :: r).getD 0 0 = x := rfl
      rw [hg, List.mem_cons]
      constructor
      · intro hz
        have := asc_mem a2 hz
        exact ⟨.inr hz, by omega⟩
      · rintro ⟨hz | hz, hne⟩
        · exact absurd hz hne
        · exact hz
    | succ k =>
      rw [List.eraseIdx_cons_succ]
      have hk' : k < r.length := by simpa using hk
      obtain ⟨i1, i2⟩ := ih a2 k hk'
      have hg : (x :: r).getD (k + 1) 0 = r.getD k 0 := rfl
      refine ⟨asc_cons.2 ⟨a1, i1⟩, fun z => ?_⟩
      rw [hg, List.mem_cons, List.mem_cons, i2]
      have hm : r.getD k 0 ∈ r := by rw [getD_eq hk']; exact List.getElem_mem _
      have hgt := asc_mem a2 hm
      constructor
      · rintro (hz | ⟨hz, hne⟩)
        · exact ⟨.inl hz, by omega⟩
        · exact ⟨.inr hz, hne⟩
      · rintro ⟨hz | hz, hne⟩
        · exact .inl hz
        · exact .inr ⟨hz, hne⟩
theorem bits_out {E n k : Nat} (hE : E < 16777216) (hn : n < 24) (hk : k < (bitsOf E).length) (hg : (bitsOf E).getD k 0 = n) : bitsOf (outB E n) = (bitsOf E).eraseIdx k := by
  obtain ⟨h1, h2⟩ := erase_both (bitsOf_asc E) k hk
  refine asc_ext (bitsOf_asc _) h1 (fun z => ?_)
  rw [h2, hg, bitsOf_mem, bitsOf_mem]
  constructor
  · rintro ⟨i, rfl, hi, hb⟩
    rw [outB_bit E n i (by omega) (by omega), Bool.and_eq_true] at hb
    exact ⟨⟨i, rfl, hi, hb.1⟩, fun e => by have : n = i := by omega
                                           subst this; simp at hb⟩
  · rintro ⟨⟨i, rfl, hi, hb⟩, hne⟩
    exact ⟨i, rfl, hi, by rw [outB_bit E n i (by omega) (by omega), hb]; simp; omega⟩
end Go.Proofs.YtegldmdcdnnegaaGreatDoor
