/- Which row a symbol has: windows by weights. Plans: what is ok by the program. The row of a symbol, by the program. -/
import Derived.Test.YtegldmdcdnnegaaGreatDoorG21
import Derived.Test.YtegldmdcdnnegaaGreatDoorG0
namespace Go.Proofs.YtegldmdcdnnegaaGreatDoor
open Go.ChangeShapes Go.WideShapes Go.ChangeAt Go.RowKit

/-- The first window for which the weights up to it are more than a number. -/
def winOf : List Int → List Int → Int → Int
  | w :: ws, g :: gs, k => if k < g then w else winOf ws gs (k - g)
  | _, _, _ => 0
theorem winOf_yes {w g k : Int} {ws gs : List Int} (h : k < g) : winOf (w :: ws) (g :: gs) k = w := if_pos h
theorem winOf_no {w g k : Int} {ws gs : List Int} (h : ¬ k < g) : winOf (w :: ws) (g :: gs) k = winOf ws gs (k - g) := if_neg h
theorem sum_snoc (gs : List Int) (k : Nat) (h : k < gs.length) : (gs.take (k + 1)).sum = (gs.take k).sum + gs.getD k 0 := by
  rw [List.take_succ_eq_append_getElem h, List.sum_append, getD_eq h]
  simp
theorem drop_at {xs : List Int} {k : Nat} (h : k < xs.length) : xs.drop k = xs.getD k 0 :: xs.drop (k + 1) := by rw [List.drop_eq_getElem_cons h, getD_eq h]
/-- Weights are small, and some. -/
theorem wgt_sum {m : Nat} {gs : List Int} (h : wgtP m gs) : ∀ k, k ≤ gs.length → 0 ≤ (gs.take k).sum ∧ (gs.take k).sum ≤ 99 * k ∧ (k : Int) ≤ (gs.take k).sum
  | 0, _ => by simp
  | k + 1, hk => by
    have ih := wgt_sum h k (by omega)
    have h1 := h.1 k (by omega)
    rw [sum_snoc gs k (by omega)]
    omega
/-- What is picked is found. -/
theorem winOf_mem : ∀ (ws gs : List Int) (k : Int), ws.length = gs.length → 0 ≤ k → k < gs.sum → winOf ws gs k ∈ ws
  | [], [], k, _, h0, h1 => by simp at h1; omega
  | w :: ws, g :: gs, k, hl, h0, h1 => by
    by_cases h : k < g
    · rw [winOf_yes h]; exact List.mem_cons_self
    · rw [winOf_no h]
      exact List.mem_cons_of_mem _ (winOf_mem ws gs (k - g) (by simpa using hl) (by omega) (by rw [List.sum_cons] at h1; omega))
  | [], _ :: _, _, hl, _, _ => by simp at hl
  | _ :: _, [], _, hl, _, _ => by simp at hl
/-- What is picked for a symbol. -/
def pkOf (gs : List Int) (id : Int) : Int := pickI (nextI id) gs.sum
theorem next_bd (id : Int) : 0 ≤ nextI id ∧ nextI id ≤ 2147483647 := by
  unfold nextI; split <;> omega
theorem pk_bd {m : Nat} {gs : List Int} (h : wgtP m gs) (hm : 1 ≤ m) (h3 : m ≤ 3) (id : Int) : 0 ≤ pkOf gs id ∧ pkOf gs id < gs.sum ∧ 1 ≤ gs.sum ∧ gs.sum ≤ 297 := by
  have hs := wgt_sum h gs.length (Nat.le_refl _)
  rw [List.take_length] at hs
  have hl := h.2
  have hn := next_bd id
  unfold pkOf
  rw [pickI_in hn.1 hn.2 (by omega) (by omega)]
  refine ⟨Int.emod_nonneg _ (by omega), Int.emod_lt_of_pos _ (by omega), by omega, by omega⟩
theorem upR_le {ws : List Int} (h : ∀ k, k < ws.length → prev0 ws k < ws.getD k 0) : ∀ d k, k + d < ws.length → ws.getD k 0 ≤ ws.getD (k + d) 0
  | 0, k, _ => by simp
  | d + 1, k, hk => by
    have h1 := upR_le h d k (by omega)
    have h2 := h (k + d + 1) (by omega)
    rw [prev0_succ] at h2
    have : k + (d + 1) = k + d + 1 := by omega
    rw [this]; omega
/-- The window of a symbol. -/
def winN (ws gs : List Int) (id : Int) : Int := winOf ws gs (pkOf gs id)
theorem win_bd {n : Int} {ws gs : List Int} (hw : winP n ws) (hg : wgtP ws.length gs) (hn : n ≤ 24) (id : Int) : 1 ≤ winN ws gs id ∧ winN ws gs id ≤ 24 := by
  obtain ⟨p1, p2, _, _⟩ := pk_bd hg hw.1 hw.2.1 id
  have hm := winOf_mem ws gs (pkOf gs id) hg.2.symm p1 p2
  obtain ⟨k, hk, he⟩ := List.getElem_of_mem hm
  have hup := hw.2.2.1
  have hlast : prev0 ws ws.length = ws.getD (ws.length - 1) 0 := by unfold prev0; rw [if_neg (by have := hw.1; omega)]
  have e : winN ws gs id = ws.getD k 0 := by rw [getD_eq hk]; exact he.symm
  have l1 := upR_le hup (ws.length - 1 - k) k (by omega)
  rw [show k + (ws.length - 1 - k) = ws.length - 1 by omega, ← hlast, hw.2.2.2] at l1
  have l2 := upR_le hup k 0 (by omega)
  rw [Nat.zero_add] at l2
  have l3 := hup 0 hw.1
  have : prev0 ws 0 = 0 := rfl
  omega
end Go.Proofs.YtegldmdcdnnegaaGreatDoor
namespace Go.Proofs.YtegldmdcdnnegaaGreatDoor
open Go.ChangeShapes Go.WideShapes Go.ChangeAt Go.RowKit

set_option maxRecDepth 100000 in
theorem longOk_any (n : Int) (w : World) : Calls Tryz.prog 75 #[.int .i64 n] w fun e w' => e = .returned (.bool (decide (1 ≤ n ∧ n ≤ 300))) ∧ w' = w := by
  by_cases h1 : 1 ≤ n
  · by_cases h2 : n ≤ 300
    · go_enter Tryz.func75, Tryz.ntmps75
      go_wp2
      go_ret
      exact ⟨ret_bool (by simp; omega), rfl⟩
    · have h2' : decide (n ≤ 300) = false := by simp; omega
      have H := hid (show decide (1 ≤ n ∧ n ≤ 300) = false from decide_eq_false (by omega))
      go_enter Tryz.func75, Tryz.ntmps75
      go_wp2
      go_ret
      first | exact ⟨rfl, rfl⟩ | exact ⟨ret_bool H.out.symm, rfl⟩
  · have h1' : decide (1 ≤ n) = false := by simp; omega
    go_enter Tryz.func75, Tryz.ntmps75
    have H := hid (show decide (1 ≤ n ∧ n ≤ 300) = false from decide_eq_false (by omega))
    go_wp2
    go_ret
    first | exact ⟨rfl, rfl⟩ | exact ⟨ret_bool H.out.symm, rfl⟩

theorem IntsAt.alloc {w : World} {a : Option Addr} {xs : List Int} (h : IntsAt w a xs) (o : Obj) : IntsAt (w.alloc o) a xs := h.below (below_alloc' w o)

set_option maxRecDepth 100000 in
set_option maxHeartbeats 1000000 in
theorem windowsOk_any (long size : Int) (a1 a2 : Option Addr) (c1 n2 c2 : Nat) (ws : List Int) (w : World) (h1 : 1 ≤ long) (h2 : long ≤ 300) (h3 : 1 ≤ size) (h4 : size ≤ 16) (ha : IntsAt w a1 ws) (hx : ws.length ≤ 1152921504606846976) :
    Calls Tryz.prog 76 #[.agg #[.int .i64 long, .int .i64 size, .slice a1 ws.length c1, .slice a2 n2 c2]] w fun e w' => e = .returned (.bool (decide (winP (cntI long size) ws))) ∧ Below w.heap.size w w' := by
  by_cases g1 : ws.length < 1
  · have H := hid (show decide (winP (cntI long size) ws) = false from decide_eq_false (by rintro ⟨h5, h6, _⟩; omega))
    have g1' : decide ((ws.length : Int) < 1) = true := by simp; omega
    go_enter Tryz.func76, Tryz.ntmps76
    go_wp2
    go_ret
    exact ⟨ret_bool H.out.symm, below_alloc' _ _⟩
  have g1' : decide ((ws.length : Int) < 1) = false := by simp; omega
  by_cases g2 : 3 < ws.length
  · have H := hid (show decide (winP (cntI long size) ws) = false from decide_eq_false (by rintro ⟨h5, h6, _⟩; omega))
    have g2' : decide (3 < (ws.length : Int)) = true := by simp; omega
    go_enter Tryz.func76, Tryz.ntmps76
    go_wp2
    go_ret
    exact ⟨ret_bool H.out.symm, below_alloc' _ _⟩
  have g2' : decide (3 < (ws.length : Int)) = false := by simp; omega
  go_enter Tryz.func76, Tryz.ntmps76
  go_wp2
  go_loop [3, 19] (fun l i => ∃ k : Nat, k ≤ ws.length ∧ i = .int .i64 k ∧ l = .int .i64 (prev0 ws k) ∧ ∀ j, j < k → prev0 ws j < ws.getD j 0) (fun _ i => ws.length - (intOf i).toNat)
  case atStart => exact ⟨0, Nat.zero_le _, rfl, rfl, fun j hj => absurd hj (by omega)⟩
  case round =>
    obtain ⟨k, hk, rfl, rfl, hp⟩ := hrel
    have HP : Hid _ := hp
    clear hp
    by_cases hlt : k < ws.length
    · obtain ⟨b, off, rfl, hc⟩ := ha (by intro h; simp [h] at hlt)
      have hb := block_lt_of_cell (hc k hlt)
      have hck := ((below_alloc' w (.cells #[.int .i64 long, .int .i64 size, .slice (some ⟨b, off, none⟩) ws.length c1, .slice a2 n2 c2] 31)).cell (p := ⟨b, off + k, none⟩) hb).trans (hc k hlt)
      have H3 := hid (prev0_succ ws k)
      obtain ⟨X, hX⟩ : ∃ X, X = ws.getD k 0 := ⟨_, rfl⟩
      obtain ⟨L, hL⟩ : ∃ L, L = prev0 ws k := ⟨_, rfl⟩
      rw [← hX] at hck
      rw [← hL]
      have HX := hid hX
      have HL := hid hL
      clear hX hL hc
      by_cases h : X ≤ L
      · have H := hid (show decide (winP (cntI long size) ws) = false from decide_eq_false (by
          rintro ⟨_, _, h', _⟩; have := h' k hlt; rw [← HX.out, ← HL.out] at this; omega))
        go_wp2
        go_ret
        exact ⟨ret_bool H.out.symm, below_alloc' _ _⟩
      · go_wp2
        go_round
        case rel => exact ⟨k + 1, by omega, by go_num, by rw [H3.out, HX.out], fun j hj => by
          rcases Nat.lt_or_ge j k with h' | h'
          · exact HP.out j h'
          · obtain rfl : j = k := by omega
            rw [← HX.out, ← HL.out]; omega⟩
        case measure => simp [intOf]; omega
    · obtain rfl : k = ws.length := by omega
      go_wp2_with (go_at_call 48; refine (implCount long size _ _ _ _ _ _ _ h1 h2 h3 h4).mono ?_; rintro e w1 ⟨rfl, hb1⟩)
      go_ret
      refine ⟨ret_bool ?_, below_cat' (below_alloc' _ _) hb1⟩
      rw [Bool.eq_iff_iff]
      rw [beq_iff_eq, decide_eq_true_eq]
      exact ⟨fun h => ⟨by omega, by omega, HP.out, h⟩, fun h => h.2.2.2⟩

set_option maxRecDepth 100000 in
set_option maxHeartbeats 1000000 in
theorem weightsOk_any (long size : Int) (a1 a2 : Option Addr) (n1 c1 c2 : Nat) (gs : List Int) (w : World) (ha : IntsAt w a2 gs) (hx : gs.length ≤ 1152921504606846976) (_hn : n1 ≤ 1152921504606846976) :
    Calls Tryz.prog 77 #[.agg #[.int .i64 long, .int .i64 size, .slice a1 n1 c1, .slice a2 gs.length c2]] w fun e w' => e = .returned (.bool (decide (wgtP n1 gs))) ∧ Below w.heap.size w w' := by
  go_enter Tryz.func77, Tryz.ntmps77
  go_wp2
  go_loop [8] (fun i => ∃ k : Nat, k ≤ gs.length ∧ i = .int .i64 k ∧ ∀ j, j < k → 1 ≤ gs.getD j 0 ∧ gs.getD j 0 ≤ 99) (fun i => gs.length - (intOf i).toNat)
  case atStart => exact ⟨0, Nat.zero_le _, rfl, fun j hj => absurd hj (by omega)⟩
  case round =>
    obtain ⟨k, hk, rfl, hp⟩ := hrel
    have HP : Hid _ := hp
    clear hp
    by_cases hlt : k < gs.length
    · obtain ⟨b, off, rfl, hc⟩ := ha (by intro h; simp [h] at hlt)
      have hb := block_lt_of_cell (hc k hlt)
      have hck := ((below_alloc' w (.cells #[.int .i64 long, .int .i64 size, .slice a1 n1 c1, .slice (some ⟨b, off, none⟩) gs.length c2] 31)).cell (p := ⟨b, off + k, none⟩) hb).trans (hc k hlt)
      obtain ⟨X, hX⟩ : ∃ X, X = gs.getD k 0 := ⟨_, rfl⟩
      rw [← hX] at hck
      have HX := hid hX
      clear hX hc
      by_cases h : X < 1
      · have H := hid (show decide (wgtP n1 gs) = false from decide_eq_false (by
          rintro ⟨h', _⟩; have := h' k hlt; rw [← HX.out] at this; omega))
        have h' : decide (X < 1) = true := by simpa using h
        go_wp2
        go_ret
        exact ⟨ret_bool H.out.symm, below_alloc' _ _⟩
      · have h' : decide (X < 1) = false := by simpa using h
        by_cases g : 99 < X
        · have H := hid (show decide (wgtP n1 gs) = false from decide_eq_false (by
            rintro ⟨h', _⟩; have := h' k hlt; rw [← HX.out] at this; omega))
          go_wp2
          go_ret
          exact ⟨ret_bool H.out.symm, below_alloc' _ _⟩
        · have g' : decide (99 < X) = false := by simpa using g
          go_wp2
          go_round
          case rel => exact ⟨k + 1, by omega, by go_num, fun j hj => by
            rcases Nat.lt_or_ge j k with h' | h'
            · exact HP.out j h'
            · obtain rfl : j = k := by omega
              rw [← HX.out]; omega⟩
          case measure => simp [intOf]; omega
    · obtain rfl : k = gs.length := by omega
      go_wp2
      go_ret
      refine ⟨ret_bool ?_, below_alloc' _ _⟩
      rw [Bool.eq_iff_iff]
      rw [beq_iff_eq, decide_eq_true_eq]
      exact ⟨fun h => ⟨HP.out, by omega⟩, fun h => by have := h.2; omega⟩

set_option maxRecDepth 100000 in
set_option maxHeartbeats 2000000 in
theorem implPlanOk (long size : Int) (a1 a2 : Option Addr) (c1 c2 : Nat) (ws gs : List Int) (w : World) (ha1 : IntsAt w a1 ws) (ha2 : IntsAt w a2 gs) (hx : ws.length ≤ 1152921504606846976) (hy : gs.length ≤ 1152921504606846976) :
    Calls Tryz.prog 47 #[.agg #[.int .i64 long, .int .i64 size, .slice a1 ws.length c1, .slice a2 gs.length c2]] w fun e w' => e = .returned (.bool (decide (planP long size ws gs))) ∧ Below w.heap.size w w' := by
  by_cases g1 : 1 ≤ long ∧ long ≤ 300
  · have g1' : decide (1 ≤ long ∧ long ≤ 300) = true := by simp [g1]
    obtain ⟨l1, l2⟩ := g1
    by_cases g2 : 1 ≤ size
    · by_cases g3 : size ≤ 16
      · by_cases g4 : cntI long size ≤ 24
        · have g4' : decide (cntI long size ≤ 24) = true := by simpa using g4
          have e : decide (planP long size ws gs) = (decide (winP (cntI long size) ws) && decide (wgtP ws.length gs)) := by
            rw [Bool.eq_iff_iff, Bool.and_eq_true, decide_eq_true_eq, decide_eq_true_eq, decide_eq_true_eq]; exact ⟨fun h => h.2, fun h => ⟨⟨l1, l2, g2, g3, g4⟩, h⟩⟩
          have E := hid e
          clear e
          by_cases g5 : winP (cntI long size) ws
          · have G5 := hid (decide_eq_true g5)
            clear g5
            go_enter Tryz.func47, Tryz.ntmps47
            go_wp2_with fail
            refine (longOk_any long _).mono ?_
            rintro e w0 ⟨rfl, rfl⟩
            rw [g1']
            go_wp2_with fail
            refine (implCount long size _ _ _ _ _ _ _ l1 l2 g2 g3).mono ?_
            rintro e w1 ⟨rfl, hb1⟩
            obtain ⟨hc1, hf1⟩ := bcell hb1
            have hz1 : w.heap.size < w1.heap.size := by have := hb1.size; simp at this; omega
            go_wp2_with fail
            refine (windowsOk_any long size _ _ _ _ _ ws _ l1 l2 g2 g3 ((ha1.alloc _).below hb1) hx).mono ?_
            rintro e w2 ⟨rfl, hb2⟩
            rw [G5.out]
            obtain ⟨hc2, hf2⟩ := bcell hb2
            go_wp2_with fail
            refine (weightsOk_any long size _ _ _ _ _ gs _ (((ha2.alloc _).below hb1).below hb2) hy hx).mono ?_
            rintro e w3 ⟨rfl, hb3⟩
            go_wp2_with fail
            go_ret
            exact ⟨ret_bool (by rw [E.out, G5.out]; simp), below_cat' (below_cat' (below_cat' (below_alloc' _ _) hb1) hb2) hb3⟩
          · have G5 := hid (decide_eq_false g5)
            clear g5
            go_enter Tryz.func47, Tryz.ntmps47
            go_wp2_with fail
            refine (longOk_any long _).mono ?_
            rintro e w0 ⟨rfl, rfl⟩
            rw [g1']
            go_wp2_with fail
            refine (implCount long size _ _ _ _ _ _ _ l1 l2 g2 g3).mono ?_
            rintro e w1 ⟨rfl, hb1⟩
            obtain ⟨hc1, hf1⟩ := bcell hb1
            have hz1 : w.heap.size < w1.heap.size := by have := hb1.size; simp at this; omega
            go_wp2_with fail
            refine (windowsOk_any long size _ _ _ _ _ ws _ l1 l2 g2 g3 ((ha1.alloc _).below hb1) hx).mono ?_
            rintro e w2 ⟨rfl, hb2⟩
            rw [G5.out]
            go_wp2_with fail
            go_ret
            exact ⟨ret_bool (by rw [E.out, G5.out]; simp), below_cat' (below_cat' (below_alloc' _ _) hb1) hb2⟩
        · have g4' : decide (cntI long size ≤ 24) = false := by simpa using g4
          have H := hid (show decide (planP long size ws gs) = false from decide_eq_false (by rintro ⟨⟨p1, p2, p3, p4, p5⟩, _⟩; omega))
          go_enter Tryz.func47, Tryz.ntmps47
          go_wp2_with fail
          refine (longOk_any long _).mono ?_
          rintro e w0 ⟨rfl, rfl⟩
          rw [g1']
          go_wp2_with fail
          refine (implCount long size _ _ _ _ _ _ _ l1 l2 g2 g3).mono ?_
          rintro e w1 ⟨rfl, hb1⟩
          go_wp2_with fail
          go_ret
          exact ⟨ret_bool H.out.symm, below_cat' (below_alloc' _ _) hb1⟩
      · have g3' : decide (size ≤ 16) = false := by simpa using g3
        have H := hid (show decide (planP long size ws gs) = false from decide_eq_false (by rintro ⟨⟨p1, p2, p3, p4, p5⟩, _⟩; omega))
        go_enter Tryz.func47, Tryz.ntmps47
        go_wp2_with fail
        refine (longOk_any long _).mono ?_
        rintro e w0 ⟨rfl, rfl⟩
        rw [g1']
        go_wp2_with fail
        go_ret
        exact ⟨ret_bool H.out.symm, below_alloc' _ _⟩
    · have g2' : decide (1 ≤ size) = false := by simpa using g2
      have H := hid (show decide (planP long size ws gs) = false from decide_eq_false (by rintro ⟨⟨p1, p2, p3, p4, p5⟩, _⟩; omega))
      go_enter Tryz.func47, Tryz.ntmps47
      go_wp2_with fail
      refine (longOk_any long _).mono ?_
      rintro e w0 ⟨rfl, rfl⟩
      rw [g1']
      go_wp2_with fail
      go_ret
      exact ⟨ret_bool H.out.symm, below_alloc' _ _⟩
  · have g1' : decide (1 ≤ long ∧ long ≤ 300) = false := by simpa using g1
    have H := hid (show decide (planP long size ws gs) = false from decide_eq_false (by rintro ⟨⟨p1, p2, p3, p4, p5⟩, _⟩; omega))
    clear g1
    go_enter Tryz.func47, Tryz.ntmps47
    go_wp2_with fail
    refine (longOk_any long _).mono ?_
    rintro e w0 ⟨rfl, rfl⟩
    rw [g1']
    go_wp2_with fail
    go_ret
    exact ⟨ret_bool H.out.symm, below_alloc' _ _⟩
end Go.Proofs.YtegldmdcdnnegaaGreatDoor
namespace Go.Proofs.YtegldmdcdnnegaaGreatDoor
open Go.ChangeShapes Go.WideShapes Go.ChangeAt Go.RowKit Go.Sort

set_option maxRecDepth 100000 in
theorem idOk_any (n : Int) (w : World) : Calls Tryz.prog 50 #[.int .i64 n] w fun e w' => e = .returned (.bool (decide (0 ≤ n ∧ n ≤ 9999))) ∧ w' = w := by
  by_cases h1 : 0 ≤ n
  · by_cases h2 : n ≤ 9999
    · have H := hid (show decide (0 ≤ n ∧ n ≤ 9999) = true from decide_eq_true (by omega))
      go_enter Tryz.func50, Tryz.ntmps50
      go_wp2
      go_ret
      first | exact ⟨rfl, rfl⟩ | exact ⟨ret_bool H.out.symm, rfl⟩ | exact ⟨ret_bool (by simp; omega), rfl⟩
    · have h2' : decide (n ≤ 9999) = false := by simp; omega
      have H := hid (show decide (0 ≤ n ∧ n ≤ 9999) = false from decide_eq_false (by omega))
      go_enter Tryz.func50, Tryz.ntmps50
      go_wp2
      go_ret
      first | exact ⟨rfl, rfl⟩ | exact ⟨ret_bool H.out.symm, rfl⟩
  · have h1' : decide (0 ≤ n) = false := by simp; omega
    have H := hid (show decide (0 ≤ n ∧ n ≤ 9999) = false from decide_eq_false (by omega))
    go_enter Tryz.func50, Tryz.ntmps50
    go_wp2
    go_ret
    first | exact ⟨rfl, rfl⟩ | exact ⟨ret_bool H.out.symm, rfl⟩

set_option maxRecDepth 100000 in
/-- The function value that chooses a window. -/
theorem chosen_any (u k : Int) (b : Nat) (w : World) (hc : w.cell? ⟨b, 0, none⟩ = some (.int .i64 k)) :
    Calls Tryz.prog 84 #[.int .i64 u, .pointer (some ⟨b, 0, none⟩)] w fun e w' => e = .returned (.bool (decide (k < u))) ∧ w' = w := by
  go_enter Tryz.func84, Tryz.ntmps84
  go_wp2
  go_ret
  exact ⟨rfl, rfl⟩

set_option maxRecDepth 100000 in
set_option maxHeartbeats 2000000 in
theorem window_any (long size : Int) (a1 a2 : Option Addr) (c1 c2 : Nat) (ws gs : List Int) (k : Int) (b : Nat) (w : World) (ha1 : IntsAt w a1 ws) (ha2 : IntsAt w a2 gs) (hc : w.cell? ⟨b, 0, none⟩ = some (.int .i64 k)) (hl : ws.length = gs.length) (h3 : gs.length ≤ 3) (hg : ∀ j, j < gs.length → 1 ≤ gs.getD j 0 ∧ gs.getD j 0 ≤ 99) (k0 : 0 ≤ k) (k1 : k < gs.sum) :
    Calls Tryz.prog 83 #[.agg #[.int .i64 long, .int .i64 size, .slice a1 ws.length c1, .slice a2 gs.length c2], .func (.func 84) #[] #[.pointer (some ⟨b, 0, none⟩)]] w fun e w' => e = .returned (.int .i64 (winOf ws gs k)) ∧ Below w.heap.size w w' := by
  have hb : b < w.heap.size := block_lt_of_cell hc
  have X := hid (laid w #[.int .i64 long, .int .i64 size, .slice a1 ws.length c1, .slice a2 gs.length c2] 31)
  have I1 := hid (ha1.alloc (.cells #[.int .i64 long, .int .i64 size, .slice a1 ws.length c1, .slice a2 gs.length c2] 31))
  have I2 := hid (ha2.alloc (.cells #[.int .i64 long, .int .i64 size, .slice a1 ws.length c1, .slice a2 gs.length c2] 31))
  have HC := hid (((below_alloc' w (.cells #[.int .i64 long, .int .i64 size, .slice a1 ws.length c1, .slice a2 gs.length c2] 31)).cell (p := ⟨b, 0, none⟩) hb).trans hc)
  have HL := hid hl
  have HGS := hid hg
  have HK := hid k1
  clear ha1 ha2 hc hl hg k1
  go_enter Tryz.func83, Tryz.ntmps83
  go_wp2
  go_loop [5, 11] (fun u i => ∃ j : Nat, j ≤ gs.length ∧ i = .int .i64 j ∧ u = .int .i64 ((gs.take j).sum) ∧ 0 ≤ (gs.take j).sum ∧ (gs.take j).sum ≤ 99 * j ∧ (gs.take j).sum ≤ k ∧ winOf ws gs k = winOf (ws.drop j) (gs.drop j) (k - (gs.take j).sum)) (fun _ i => gs.length - (intOf i).toNat)
  case atStart => exact ⟨0, Nat.zero_le _, rfl, rfl, by simp, by simp, by simpa using k0, by simp⟩
  case round =>
    obtain ⟨j, hj, rfl, rfl, s0, s1, s2, hw⟩ := hrel
    have HW := hid hw
    clear hw
    by_cases hlt : j < gs.length
    · have hjw : j < ws.length := by have := HL.out; omega
      obtain ⟨b2, o2, rfl, hc2⟩ := I2.out (by intro h; simp [h] at hlt)
      obtain ⟨b1, o1, rfl, hc1⟩ := I1.out (by intro h; simp [h] at hjw)
      have g1 := hc2 j hlt
      have g2 := hc1 j hjw
      have hgg := HGS.out j hlt
      have HS := hid (sum_snoc gs j hlt)
      have HD1 := hid (drop_at hjw)
      have HD2 := hid (drop_at hlt)
      obtain ⟨Y, hY⟩ : ∃ Y, Y = gs.getD j 0 := ⟨_, rfl⟩
      obtain ⟨V, hV⟩ : ∃ V, V = ws.getD j 0 := ⟨_, rfl⟩
      obtain ⟨U, hU⟩ : ∃ U, U = (gs.take j).sum := ⟨_, rfl⟩
      rw [← hY] at g1 hgg HS HD2
      rw [← hV] at g2 HD1
      rw [← hU] at s0 s1 s2 HW HS ⊢
      clear hc1 hc2 hY hV hU
      obtain ⟨y1, y2⟩ := hgg
      have jl : (j : Int) < (ws.length : Int) := by omega
      by_cases hk : k < U + Y
      · have hk' : decide (k < U + Y) = true := decide_eq_true hk
        have HR := hid (show winOf ws gs k = V by rw [HW.out, HD1.out, HD2.out, winOf_yes (by omega)])
        go_wp2_with fail
        refine (chosen_any (U + Y) k b _ HC.out).mono ?_
        rintro e wa ⟨rfl, hq⟩
        rw [hk']
        subst hq
        go_wp2_with fail
        go_ret
        exact ⟨ret_int HR.out.symm, below_alloc' _ _⟩
      · have hk' : decide (k < U + Y) = false := decide_eq_false hk
        have HR := hid (show winOf ws gs k = winOf (ws.drop (j + 1)) (gs.drop (j + 1)) (k - (U + Y)) by rw [HW.out, HD1.out, HD2.out, winOf_no (by omega), show k - U - Y = k - (U + Y) by omega])
        go_wp2_with fail
        refine (chosen_any (U + Y) k b _ HC.out).mono ?_
        rintro e wa ⟨rfl, hq⟩
        rw [hk']
        subst hq
        go_wp2_with fail
        go_round
        case rel => exact ⟨j + 1, by omega, by go_num, by rw [HS.out], by rw [HS.out]; omega, by rw [HS.out]; omega, by rw [HS.out]; omega, by rw [HS.out]; exact HR.out⟩
        case measure => simp [intOf]; omega
    · obtain rfl : j = gs.length := by omega
      have := HK.out
      rw [List.take_length] at s2
      omega
end Go.Proofs.YtegldmdcdnnegaaGreatDoor
