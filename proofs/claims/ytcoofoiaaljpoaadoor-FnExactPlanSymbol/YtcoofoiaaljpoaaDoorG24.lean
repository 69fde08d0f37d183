/- Sets of numbers as bits: the least one, and all of them in order. -/
import Derived.Test.YtcoofoiaaljpoaaDoorG22
namespace Go.Proofs.YtcoofoiaaljpoaaDoor
open Go.ChangeShapes Go.WideShapes Go.ChangeAt Go.RowKit
theorem low_and (t : Nat) : ∀ (n m : Nat), 2 ^ t * (2 * m + 1) < 2 ^ n → (2 ^ t * (2 * m + 1)) &&& (2 ^ n - 2 ^ t * (2 * m + 1)) = 2 ^ t := by
  induction t with
  | zero =>
    intro n m h
    simp only [Nat.pow_zero, Nat.one_mul] at h ⊢
    apply Nat.eq_of_testBit_eq
    intro i
    rw [Nat.testBit_and, Nat.testBit_two_pow_sub_succ (by omega)]
    cases i with
    | zero =>
      have hn : 0 < n := by
        rcases Nat.eq_zero_or_pos n with e | e
        · subst e; simp at h
        · exact e
      simp [Nat.testBit_zero, hn]
    | succ i =>
      rw [Nat.testBit_succ, Nat.testBit_succ, Nat.testBit_succ]
      rw [show (2 * m + 1) / 2 = m by omega, show (2 * m) / 2 = m by omega]
      cases m.testBit i <;> simp
  | succ t ih =>
    intro n m h
    cases n with
    | zero =>
      have : 0 < 2 ^ (t + 1) * (2 * m + 1) := Nat.mul_pos (Nat.pow_pos (by omega)) (by omega)
      simp at h
      omega
    | succ n =>
      have e : 2 ^ (t + 1) * (2 * m + 1) = 2 * (2 ^ t * (2 * m + 1)) := by rw [Nat.pow_succ, Nat.mul_comm (2 ^ t) 2, Nat.mul_assoc]
      have e2 : 2 ^ (n + 1) = 2 * 2 ^ n := by rw [Nat.pow_succ, Nat.mul_comm]
      rw [e, e2] at h ⊢
      have ih' := ih n m (by omega)
      generalize 2 ^ t * (2 * m + 1) = X at h ih' ⊢
      rw [← Nat.mul_sub, Nat.pow_succ, Nat.mul_comm (2 ^ t) 2, ← ih']
      generalize 2 ^ n - X = Y
      apply Nat.eq_of_testBit_eq
      intro i
      rw [Nat.testBit_and]
      cases i with
      | zero => simp
      | succ i => rw [Nat.testBit_succ, Nat.testBit_succ, Nat.testBit_succ, Nat.mul_div_cancel_left _ (by omega), Nat.mul_div_cancel_left _ (by omega), Nat.mul_div_cancel_left _ (by omega), Nat.testBit_and]

/-- The table by which the place of a bit is found. -/
def tabL : List Int := [0, 1, 28, 2, 29, 14, 24, 3, 30, 22, 20, 15, 25, 17, 4, 8, 31, 27, 13, 23, 21, 19, 16, 7, 26, 12, 18, 6, 11, 5, 10, 9]
def Tab (w : World) : Prop := ∀ i, i < 32 → w.cell? ⟨0, i, none⟩ = some (.int .u8 (tabL.getD i 0))
theorem Tab.below {w w' : World} (h : Tab w) (hb : Below w.heap.size w w') : Tab w' := fun i hi => by
  rw [hb.cell (p := ⟨0, i, none⟩) (block_lt_of_cell (h i hi))]; exact h i hi
theorem tab_at : ∀ t : Nat, t < 24 → (2 ^ t * 125613361 % 4294967296 / 134217728) < 32 ∧ tabL.getD (2 ^ t * 125613361 % 4294967296 / 134217728) 0 = (t : Int) := by decide

theorem low_ex (n : Nat) : ∀ x : Nat, x ≤ n → 0 < x → ∃ t m, x = 2 ^ t * (2 * m + 1) := by
  induction n with
  | zero => intro x h1 h2; omega
  | succ n ih =>
    intro x h1 h2
    rcases (show x % 2 = 1 ∨ x % 2 = 0 from by omega) with h | h
    · exact ⟨0, x / 2, by rw [Nat.pow_zero, Nat.one_mul]; omega⟩
    · obtain ⟨t, m, e⟩ := ih (x / 2) (by omega) (by omega)
      refine ⟨t + 1, m, ?_⟩
      rw [Nat.pow_succ, Nat.mul_comm (2 ^ t) 2, Nat.mul_assoc, ← e]
      omega
theorem low_lt {t m : Nat} (h : 2 ^ t * (2 * m + 1) < 16777216) : t < 24 := by
  rcases Nat.lt_or_ge t 24 with h' | h'
  · exact h'
  · have h1 : 2 ^ 24 ≤ 2 ^ t := Nat.pow_le_pow_right (by omega) h'
    have h2 : 2 ^ t * 1 ≤ 2 ^ t * (2 * m + 1) := Nat.mul_le_mul_left _ (by omega)
    omega
theorem low_bits (t m i : Nat) : (2 ^ t * (2 * m + 1)).testBit i = (decide (t ≤ i) && (2 * m + 1).testBit (i - t)) := by
  rw [Nat.mul_comm, Nat.testBit_mul_two_pow]
theorem low_at (t m : Nat) : (2 ^ t * (2 * m + 1)).testBit t = true := by rw [low_bits]; simp
theorem low_under {t m i : Nat} (h : i < t) : (2 ^ t * (2 * m + 1)).testBit i = false := by
  rw [low_bits, decide_eq_false (by omega), Bool.false_and]

theorem idx_eq (t m : Nat) (h : 2 ^ t * (2 * m + 1) < 16777216) :
    (bits .and .u32 ((2 ^ t * (2 * m + 1) : Nat) : Int) (-((2 ^ t * (2 * m + 1) : Nat) : Int) % 4294967296) * 125613361 % 4294967296 / 134217728).toNat = 2 ^ t * 125613361 % 4294967296 / 134217728 := by
  have hl := low_and t 32 m (by omega)
  have hp : 0 < 2 ^ t * (2 * m + 1) := Nat.mul_pos (Nat.pow_pos (by omega)) (by omega)
  generalize 2 ^ t * (2 * m + 1) = x at h hl hp ⊢
  have e : (-(x : Int) % 4294967296) = ((2 ^ 32 - x : Nat) : Int) := by omega
  rw [e, u32_and_nat x (2 ^ 32 - x) (by omega) (by omega), hl]
  generalize 2 ^ t = P
  have e3 : ((P : Int) * 125613361 % 4294967296 / 134217728) = ((P * 125613361 % 4294967296 / 134217728 : Nat) : Int) := by simp
  rw [e3, Int.toNat_natCast]

set_option maxRecDepth 100000 in
theorem tz_any (t m : Nat) (w : World) (hT : Tab w) (hx : 2 ^ t * (2 * m + 1) < 16777216) :
    Calls Tryd.prog 68 #[.int .u32 ((2 ^ t * (2 * m + 1) : Nat) : Int)] w fun e w' => e = .returned (.int .i64 t) ∧ w' = w := by
  have h24 := low_lt hx
  have hi := idx_eq t m hx
  have ht := tab_at t h24
  have hc := hT _ ht.1
  rw [ht.2, ← hi] at hc
  have hp : 0 < 2 ^ t * (2 * m + 1) := Nat.mul_pos (Nat.pow_pos (by omega)) (by omega)
  clear hi ht hT
  generalize 2 ^ t * (2 * m + 1) = x at hx hc hp ⊢
  have hne : ((x : Int) == 0) = false := by simp; omega
  go_enter Tryd.func68, Tryd.ntmps68
  go_wp2
  go_ret
  exact ⟨rfl, rfl⟩

set_option maxRecDepth 100000 in
theorem first_any (t m : Nat) (w : World) (hT : Tab w) (hx : 2 ^ t * (2 * m + 1) < 16777216) :
    Calls Tryd.prog 63 #[.int .u32 ((2 ^ t * (2 * m + 1) : Nat) : Int)] w fun e w' => e = .returned (.int .i64 t) ∧ w' = w := by
  go_enter Tryd.func63, Tryd.ntmps63
  go_wp2_with (go_at_call 68; refine (tz_any t m _ hT hx).mono ?_; rintro e w' ⟨rfl, hq⟩; replace hq := hq.symm; subst hq)
  go_ret
  exact ⟨rfl, rfl⟩

/-- A set without one number. -/
def outB (r t : Nat) : Nat := r &&& (4294967295 - 2 ^ t)
theorem outB_bit (r t i : Nat) (ht : t < 32) (hr : r < 4294967296) : (outB r t).testBit i = (r.testBit i && !(t == i)) := by
  unfold outB
  have h1 : 2 ^ t < 2 ^ 32 := Nat.pow_lt_pow_right (by omega) ht
  rw [Nat.testBit_and, show 4294967295 - 2 ^ t = 2 ^ 32 - (2 ^ t + 1) by omega, Nat.testBit_two_pow_sub_succ h1, Nat.testBit_two_pow]
  by_cases hi : i < 32
  · simp [hi]
    rfl
  · have : r.testBit i = false := Nat.testBit_lt_two_pow (Nat.lt_of_lt_of_le hr (Nat.pow_le_pow_right (n := 2) (i := 32) (by omega) (by omega)))
    simp [this]
theorem outB_lt {r t : Nat} (h : r.testBit t = true) (ht : t < 32) (hr : r < 4294967296) : outB r t < r := by
  have h1 : outB r t ≤ r := Nat.and_le_left
  rcases Nat.lt_or_ge (outB r t) r with h2 | h2
  · exact h2
  · have e : outB r t = r := by omega
    have := outB_bit r t t ht hr
    rw [e, h] at this
    simp at this
theorem andNot_pow (s n : Nat) (hs : s < 4294967296) (hn : n < 24) : bits .andNot .u32 (s : Int) (2 ^ n % 4294967296) = ((outB s n : Nat) : Int) := by
  have h1 : 2 ^ n < 2 ^ 24 := Nat.pow_lt_pow_right (by omega) hn
  have h2 : ((2 : Int) ^ n % 4294967296) = ((2 ^ n : Nat) : Int) := by
    have : ((2 : Int) ^ n) = ((2 ^ n : Nat) : Int) := by simp
    rw [this]
    generalize 2 ^ n = P at h1
    omega
  rw [h2]
  exact u32_andNot_nat s (2 ^ n) hs (by omega)
set_option maxRecDepth 100000 in
theorem without_any (s n : Nat) (w : World) (hs : s < 4294967296) (hn : n < 24) :
    Calls Tryd.prog 60 #[.int .u32 s, .int .i64 n] w fun e w' => e = .returned (.int .u32 (outB s n : Nat)) ∧ w' = w := by
  go_enter Tryd.func60, Tryd.ntmps60
  go_wp2
  go_ret
  exact ⟨ret_int (andNot_pow s n hs hn), rfl⟩

theorem range_snoc (R j t : Nat) (hj : j ≤ t) (h1 : ∀ i, j ≤ i → i < t → R.testBit i = false) (h2 : R.testBit t = true) :
    (List.range (t + 1)).filter (fun i => R.testBit i) = (List.range j).filter (fun i => R.testBit i) ++ [t] := by
  rw [List.range_succ, List.filter_append]
  congr 1
  · clear h2
    induction t with
    | zero => obtain rfl : j = 0 := by omega
              rfl
    | succ t ih =>
      rcases Nat.eq_or_lt_of_le hj with e | e
      · rw [e]
      · rw [List.range_succ, List.filter_append, ih (by omega) (fun i a b => h1 i a (by omega))]
        simp [h1 t (by omega) (by omega)]
  · simp [h2]
theorem range_end (R j : Nat) (hj : j ≤ 24) (h1 : ∀ i, j ≤ i → i < 24 → R.testBit i = false) : (List.range 24).filter (fun i => R.testBit i) = (List.range j).filter (fun i => R.testBit i) := by
  have h : ∀ n, j ≤ n → n ≤ 24 → (List.range n).filter (fun i => R.testBit i) = (List.range j).filter (fun i => R.testBit i) := by
    intro n
    induction n with
    | zero => intro a _; obtain rfl : j = 0 := by omega
              rfl
    | succ n ih =>
      intro a b
      rcases Nat.eq_or_lt_of_le a with e | e
      · rw [e]
      · rw [List.range_succ, List.filter_append, ih (by omega) (by omega)]
        simp [h1 n (by omega) (by omega)]
  exact h 24 hj (Nat.le_refl _)
/-- The numbers of a set below j. -/
def bitsTo (R j : Nat) : List Int := ((List.range j).filter fun i => R.testBit i).map fun (i : Nat) => (i : Int)
theorem bitsTo_all (R : Nat) : bitsTo R 24 = bitsOf R := rfl
theorem bitsTo_len (R j : Nat) : (bitsTo R j).length ≤ j := by
  unfold bitsTo
  rw [List.length_map]
  exact Nat.le_trans (List.length_filter_le _ _) (by rw [List.length_range]; exact Nat.le_refl _)

set_option maxRecDepth 100000 in
set_option maxHeartbeats 1000000 in
theorem numbers_any (R : Nat) (w : World) (hR : R < 16777216) (hT : Tab w) :
    Calls Tryd.prog 61 #[.int .u32 R] w fun e w' => ∃ v, e = .returned v ∧ w'.ownsRow w.heap.size 3 1 v (bitsOf R).length ((bitsOf R).map (Value.int .i64)) ∧ Below w.heap.size w w' := by
  obtain ⟨i0, hi, hz0, hz1, hz2⟩ := info_parts Tryd.info3
  go_enter Tryd.func61, Tryd.ntmps61
  go_wp2
  go_loopw [0, 3] (fun q v wr => ∃ (r j : Nat), q = .int .u32 r ∧ r < 16777216 ∧ j ≤ 24 ∧ (∀ i, r.testBit i = (decide (j ≤ i) && R.testBit i)) ∧ wr.ownsRow w.heap.size 3 1 v (bitsTo R j).length ((bitsTo R j).map (Value.int .i64)) ∧ Below w.heap.size w wr) (fun q _ _ => (intOf q).toNat)
  case atStart => exact ⟨R, 0, rfl, hR, by omega, fun i => by simp, World.ownsRow_nil _ _ _ _, Below.refl _ _⟩
  case round =>
    obtain ⟨r, j, rfl, hr, hj, hb, hown, hnx⟩ := hrel
    have hT' := hT.below hnx
    have hsz := hnx.size
    have HB := hid hb
    clear hb
    rcases Nat.eq_zero_or_pos r with h0 | h0
    · subst h0
      have HW := hid hown
      clear hown
      go_wp2
      go_ret
      refine ⟨_, rfl, ?_, hnx⟩
      have e : bitsTo R j = bitsOf R := by
        unfold bitsTo bitsOf
        rw [range_end R j hj (fun i a b => by have := HB.out i; rw [decide_eq_true a] at this; simpa using this.symm)]
      have := HW.out
      rw [e] at this
      exact this
    · obtain ⟨t, m, e⟩ := low_ex r r (Nat.le_refl _) h0
      have hlow := low_lt (t := t) (m := m) (by rw [← e]; exact hr)
      have b1 : r.testBit t = true := by rw [e]; exact low_at t m
      have b2 : ∀ i, i < t → r.testBit i = false := fun i hi => by rw [e]; exact low_under hi
      have hjt : j ≤ t := by
        have := HB.out t
        rw [b1] at this
        simp at this
        exact this.1
      have hRt : R.testBit t = true := by
        have := HB.out t
        rw [b1] at this
        simp at this
        exact this.2
      have hsn := range_snoc R j t hjt (fun i a b => by have := HB.out i; rw [decide_eq_true a, b2 i b] at this; simpa using this.symm) hRt
      have hbl := bitsTo_len R j
      have hne : ((r : Int) == 0) = false := by simp; omega
      have HS := hid hsn
      have HE := hid e
      have H1 := hid b1
      clear hsn b1 b2 hRt e
      go_wp2_with (first
        | (go_at_call 63; rw [HE.out]; refine (first_any t m _ (by first | exact hT'' | exact hT') (by rw [← HE.out]; exact hr)).mono ?_; rintro e w' ⟨rfl, hq⟩; replace hq := hq.symm; subst hq; rw [← HE.out])
        | (go_at_call 60; refine (without_any r t _ (by omega) hlow).mono ?_; rintro e w' ⟨rfl, hq⟩; replace hq := hq.symm; subst hq)
        | (go_at_call 65; go_in)
        | (at_builtin; refine append_one 22 3 i0 _ 8 Tryd.underlying22 hi hz0 hz1 hz2 rfl _ _ rfl rfl rfl rfl rfl rfl hown hsz (by omega) (by omega) ?_; intro v' w1 hown1 hb1; have hT'' := hT.below (hnx.trans hb1)))
      go_roundw
      case rel =>
        refine ⟨outB r t, t + 1, rfl, Nat.lt_of_le_of_lt (Nat.le_of_lt (outB_lt H1.out (by omega) (by omega))) hr, by omega, fun i => ?_, ?_, hnx.trans hb1⟩
        · rw [outB_bit r t i (by omega) (by omega), HB.out i]
          by_cases hit : t = i
          · subst hit; simp; omega
          · by_cases hji : j ≤ i
            · by_cases hti : t + 1 ≤ i
              · simp [hji, hti, hit]
              · have hlt : i < t := by omega
                have h3 := HB.out i
                rw [HE.out, low_under hlt, decide_eq_true hji] at h3
                simp at h3
                simp [h3]
            · simp [hji, show ¬ t + 1 ≤ i by omega]
        · have e2 : bitsTo R (t + 1) = bitsTo R j ++ [(t : Int)] := by
            unfold bitsTo
            rw [HS.out, List.map_append]
            rfl
          rw [e2, List.length_append, List.map_append]
          exact hown1
      case measure =>
        have := outB_lt H1.out (show t < 32 by omega) (show r < 4294967296 by omega)
        simp [intOf]
        omega
end Go.Proofs.YtcoofoiaaljpoaaDoor
