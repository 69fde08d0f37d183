/- Rows as lists and as bits: plain mathematics. Sets of numbers as bits: the least one, and all of them in order. How many numbers are in a set. -/
import Derived.Test.YtegldmdcdnnegaaGreatDoorG1
namespace Go.Proofs.YtegldmdcdnnegaaGreatDoor
open Go.ChangeShapes Go.WideShapes Go.ChangeAt Go.RowKit

theorem asc_cons {lo hi x : Int} {r : List Int} : ascB lo hi (x :: r) = true ↔ (lo < x ∧ x < hi) ∧ ascB x hi r = true := by
  rw [ascB, Bool.and_eq_true, decide_eq_true_eq]
theorem asc_mem {lo hi : Int} {xs : List Int} (h : ascB lo hi xs = true) {x : Int} (hx : x ∈ xs) : lo < x ∧ x < hi := by
  induction xs generalizing lo with
  | nil => simp at hx
  | cons y r ih =>
    obtain ⟨h1, h2⟩ := asc_cons.1 h
    rcases List.mem_cons.1 hx with rfl | hx
    · exact h1
    · have := ih h2 hx
      omega
theorem asc_mono {lo lo' hi : Int} {xs : List Int} (h : ascB lo hi xs = true) (hl : lo' ≤ lo) : ascB lo' hi xs = true := by
  cases xs with
  | nil => rfl
  | cons y r =>
    obtain ⟨h1, h2⟩ := asc_cons.1 h
    exact asc_cons.2 ⟨by omega, h2⟩
/-- Two ascending lists of the same numbers are one. -/
theorem asc_ext {lo hi : Int} {xs ys : List Int} (hx : ascB lo hi xs = true) (hy : ascB lo hi ys = true) (h : ∀ z, z ∈ xs ↔ z ∈ ys) : xs = ys := by
  induction xs generalizing lo ys with
  | nil =>
    cases ys with
    | nil => rfl
    | cons y s => exact absurd ((h y).2 (List.mem_cons_self ..)) (by simp)
  | cons x r ih =>
    cases ys with
    | nil => exact absurd ((h x).1 (List.mem_cons_self ..)) (by simp)
    | cons y s =>
      obtain ⟨h1, h2⟩ := asc_cons.1 hx
      obtain ⟨h3, h4⟩ := asc_cons.1 hy
      have e : x = y := by
        have a1 := (h x).1 (List.mem_cons_self ..)
        have a2 := (h y).2 (List.mem_cons_self ..)
        rcases List.mem_cons.1 a1 with e | a1
        · exact e
        · rcases List.mem_cons.1 a2 with e | a2
          · exact e.symm
          · have := asc_mem h2 a2
            have := asc_mem h4 a1
            omega
      subst e
      congr 1
      refine ih h2 h4 (fun z => ⟨fun hz => ?_, fun hz => ?_⟩)
      · rcases List.mem_cons.1 ((h z).1 (List.mem_cons_of_mem _ hz)) with e | hz'
        · subst e; have := asc_mem h2 hz; omega
        · exact hz'
      · rcases List.mem_cons.1 ((h z).2 (List.mem_cons_of_mem _ hz)) with e | hz'
        · subst e; have := asc_mem h4 hz; omega
        · exact hz'

/-- What is in just one of two ascending lists. -/
def xorM : List Int → List Int → List Int
  | [], b => b
  | x :: a, [] => x :: a
  | x :: a, y :: b => if x < y then x :: xorM a (y :: b) else if y < x then y :: xorM (x :: a) b else xorM a b
theorem xorM_nil (a : List Int) : xorM a [] = a := by cases a <;> simp [xorM]
theorem xorM_lt {x y : Int} {a b : List Int} (h : x < y) : xorM (x :: a) (y :: b) = x :: xorM a (y :: b) := by rw [xorM, if_pos h]
theorem xorM_gt {x y : Int} {a b : List Int} (h : y < x) : xorM (x :: a) (y :: b) = y :: xorM (x :: a) b := by rw [xorM, if_neg (by omega), if_pos h]
theorem xorM_eq {x : Int} {a b : List Int} : xorM (x :: a) (x :: b) = xorM a b := by rw [xorM, if_neg (by omega), if_neg (by omega)]

theorem xorM_both (n : Nat) : ∀ {lo hi : Int} {a b : List Int}, a.length + b.length ≤ n → ascB lo hi a = true → ascB lo hi b = true →
    ascB lo hi (xorM a b) = true ∧ ∀ z, z ∈ xorM a b ↔ (z ∈ a ∧ z ∉ b ∨ z ∉ a ∧ z ∈ b) := by
  induction n with
  | zero =>
    intro lo hi a b hn ha hb
    obtain rfl : a = [] := List.eq_nil_of_length_eq_zero (by omega)
    obtain rfl : b = [] := List.eq_nil_of_length_eq_zero (by omega)
    exact ⟨by simp [xorM, ascB], fun z => by simp [xorM]⟩
  | succ n ih =>
    intro lo hi a b hn ha hb
    cases a with
    | nil => exact ⟨by simpa [xorM] using hb, fun z => by simp [xorM]⟩
    | cons x a =>
      cases b with
      | nil => exact ⟨by simpa [xorM] using ha, fun z => by simp [xorM]⟩
      | cons y b =>
        obtain ⟨a1, a2⟩ := asc_cons.1 ha
        obtain ⟨b1, b2⟩ := asc_cons.1 hb
        simp only [List.length_cons] at hn
        rcases Int.lt_trichotomy x y with h | h | h
        · obtain ⟨i1, i2⟩ := ih (a := a) (b := y :: b) (lo := x) (by simp only [List.length_cons]; omega) a2 (asc_cons.2 ⟨by omega, b2⟩)
          rw [xorM_lt h]
          refine ⟨asc_cons.2 ⟨a1, i1⟩, fun z => ?_⟩
          rw [List.mem_cons, i2]
          have hxy : x ∉ y :: b := by
            intro hx
            rcases List.mem_cons.1 hx with e | hx
            · omega
            · have := asc_mem b2 hx; omega
          have hxa : x ∉ a := fun hx => by have := asc_mem a2 hx; omega
          by_cases e : z = x
          · subst e; simp [hxy]
          · simp only [List.mem_cons (a := z) (b := x), e, false_or]
        · subst h
          obtain ⟨i1, i2⟩ := ih (a := a) (b := b) (lo := x) (by omega) a2 b2
          rw [xorM_eq]
          refine ⟨asc_mono i1 (by omega), fun z => ?_⟩
          rw [i2]
          have hxa : x ∉ a := fun hx => by have := asc_mem a2 hx; omega
          have hxb : x ∉ b := fun hx => by have := asc_mem b2 hx; omega
          by_cases e : z = x
          · subst e; simp [hxa, hxb]
          · simp only [List.mem_cons, e, false_or]
        · obtain ⟨i1, i2⟩ := ih (a := x :: a) (b := b) (lo := y) (by simp only [List.length_cons]; omega) (asc_cons.2 ⟨by omega, a2⟩) b2
          rw [xorM_gt h]
          refine ⟨asc_cons.2 ⟨b1, i1⟩, fun z => ?_⟩
          rw [List.mem_cons, i2]
          have hyx : y ∉ x :: a := by
            intro hx
            rcases List.mem_cons.1 hx with e | hx
            · omega
            · have := asc_mem a2 hx; omega
          have hyb : y ∉ b := fun hx => by have := asc_mem b2 hx; omega
          by_cases e : z = y
          · subst e; simp [hyx]
          · simp only [List.mem_cons (a := z) (b := y), e, false_or]

/-- The numbers of a set, ascending. -/
def bitsOf (r : Nat) : List Int := ((List.range 24).filter fun i => r.testBit i).map fun (i : Nat) => (i : Int)
theorem bitsOf_mem (r : Nat) (z : Int) : z ∈ bitsOf r ↔ ∃ i : Nat, z = i ∧ i < 24 ∧ r.testBit i = true := by
  unfold bitsOf
  simp only [List.mem_map, List.mem_filter, List.mem_range]
  constructor
  · rintro ⟨i, ⟨h1, h2⟩, rfl⟩; exact ⟨i, rfl, h1, h2⟩
  · rintro ⟨i, rfl, h1, h2⟩; exact ⟨i, ⟨h1, h2⟩, rfl⟩
theorem asc_filter (f : Nat → Bool) (n k : Nat) (lo : Int) (h : lo < k) : ascB lo ((k + n : Nat) : Int) (((List.range' k n).filter f).map fun (i : Nat) => (i : Int)) = true := by
  induction n generalizing k lo with
  | zero => rfl
  | succ n ih =>
    rw [List.range'_succ, List.filter_cons]
    split
    · rw [List.map_cons, asc_cons]
      exact ⟨⟨h, by omega⟩, by have := ih (k + 1) k (by omega); rw [show k + 1 + n = k + (n + 1) by omega] at this; exact this⟩
    · have := ih (k + 1) lo (by omega)
      rw [show k + 1 + n = k + (n + 1) by omega] at this
      exact this
theorem bitsOf_asc (r : Nat) : ascB (-1) 24 (bitsOf r) = true := by
  have := asc_filter (fun i => r.testBit i) 24 0 (-1) (by omega)
  rw [← List.range_eq_range'] at this
  exact this

theorem foldl_bits (xs : List Int) (s : Nat) (i : Nat) : (xs.foldl (fun s x => s ||| 2 ^ x.toNat) s).testBit i = (s.testBit i || xs.any fun x => x.toNat == i) := by
  induction xs generalizing s with
  | nil => simp
  | cons x r ih =>
    rw [List.foldl_cons, ih, Nat.testBit_or, Nat.testBit_two_pow, List.any_cons, Bool.or_assoc]
    congr 2
theorem setI_bit (xs : List Int) (i : Nat) : (setI xs).testBit i = xs.any fun x => x.toNat == i := by
  unfold setI
  rw [foldl_bits]
  simp
theorem setI_mem {xs : List Int} {hi : Int} (h : ascB (-1) hi xs = true) (i : Nat) : (setI xs).testBit i = true ↔ (i : Int) ∈ xs := by
  rw [setI_bit, List.any_eq_true]
  constructor
  · rintro ⟨x, hx, he⟩
    have := asc_mem h hx
    have e : x = (i : Int) := by have := beq_iff_eq.1 he; omega
    rw [← e]; exact hx
  · intro hx
    exact ⟨_, hx, by simp⟩
/-- A row is the numbers of its bits. -/
theorem bits_set {xs : List Int} (h : ascB (-1) 24 xs = true) : bitsOf (setI xs) = xs := by
  refine asc_ext (bitsOf_asc _) h (fun z => ?_)
  rw [bitsOf_mem]
  constructor
  · rintro ⟨i, rfl, _, hb⟩; exact (setI_mem h i).1 hb
  · intro hz
    have := asc_mem h hz
    obtain ⟨i, rfl⟩ := Int.eq_ofNat_of_zero_le (show 0 ≤ z by omega)
    exact ⟨i, rfl, by omega, (setI_mem h i).2 hz⟩
/-- What is in just one of two rows is the bits that are unlike. -/
theorem xorM_bits {xs ys : List Int} (hx : ascB (-1) 24 xs = true) (hy : ascB (-1) 24 ys = true) : xorM xs ys = bitsOf (setI xs ^^^ setI ys) := by
  obtain ⟨h1, h2⟩ := xorM_both _ (Nat.le_refl _) hx hy
  refine asc_ext h1 (bitsOf_asc _) (fun z => ?_)
  rw [h2, bitsOf_mem]
  constructor
  · intro h
    have hz : -1 < z ∧ z < 24 := by
      rcases h with ⟨h, _⟩ | ⟨_, h⟩
      · exact asc_mem hx h
      · exact asc_mem hy h
    obtain ⟨i, rfl⟩ := Int.eq_ofNat_of_zero_le (show 0 ≤ z by omega)
    refine ⟨i, rfl, by omega, ?_⟩
    rw [Nat.testBit_xor]
    have e1 := setI_mem hx i
    have e2 := setI_mem hy i
    cases ha : (setI xs).testBit i <;> cases hb : (setI ys).testBit i <;> simp_all
  · rintro ⟨i, rfl, _, hb⟩
    rw [Nat.testBit_xor] at hb
    have e1 := setI_mem hx i
    have e2 := setI_mem hy i
    cases ha : (setI xs).testBit i <;> cases hb' : (setI ys).testBit i <;> simp_all
end Go.Proofs.YtegldmdcdnnegaaGreatDoor
namespace Go.Proofs.YtegldmdcdnnegaaGreatDoor
open Go.ChangeShapes Go.WideShapes Go.ChangeAt Go.RowKit
theorem low_and (t : Nat) : ∀ (n m : Nat), 2 ^ t * (2 * m + 1) < 2 ^ n → (2 ^ t * (2 * m + 1)) &&& (2 ^ n - 2 ^ t * (2 * m + 1)) = 2 ^ t := by
  induction t with
  | zero =>
    intro n m h
    simp only [Nat.pow_zero, Nat.one_mul] at h ⊢
    apply Nat.eq_of_testBit_eq
    intro i
    rw [Nat.testBit_and, Nat.testBit_two_pow_sub_succ (by omega)]
    cases i with
    | zero =>
      have hn : 0 < n := by
        rcases Nat.eq_zero_or_pos n with e | e
        · subst e; simp at h
        · exact e
      simp [Nat.testBit_zero, hn]
    | succ i =>
      rw [Nat.testBit_succ, Nat.testBit_succ, Nat.testBit_succ]
      rw [show (2 * m + 1) / 2 = m by omega, show (2 * m) / 2 = m by omega]
      cases m.testBit i <;> simp
  | succ t ih =>
    intro n m h
    cases n with
    | zero =>
      have : 0 < 2 ^ (t + 1) * (2 * m + 1) := Nat.mul_pos (Nat.pow_pos (by omega)) (by omega)
      simp at h
      omega
    | succ n =>
      have e : 2 ^ (t + 1) * (2 * m + 1) = 2 * (2 ^ t * (2 * m + 1)) := by rw [Nat.pow_succ, Nat.mul_comm (2 ^ t) 2, Nat.mul_assoc]
      have e2 : 2 ^ (n + 1) = 2 * 2 ^ n := by rw [Nat.pow_succ, Nat.mul_comm]
      rw [e, e2] at h ⊢
      have ih' := ih n m (by omega)
      generalize 2 ^ t * (2 * m + 1) = X at h ih' ⊢
      rw [← Nat.mul_sub, Nat.pow_succ, Nat.mul_comm (2 ^ t) 2, ← ih']
      generalize 2 ^ n - X = Y
      apply Nat.eq_of_testBit_eq
      intro i
      rw [Nat.testBit_and]
      cases i with
      | zero => simp
      | succ i => rw [Nat.testBit_succ, Nat.testBit_succ, Nat.testBit_succ, Nat.mul_div_cancel_left _ (by omega), Nat.mul_div_cancel_left _ (by omega), Nat.mul_div_cancel_left _ (by omega), Nat.testBit_and]

/-- The table by which the place of a bit is found. -/
def tabL : List Int := [0, 1, 28, 2, 29, 14, 24, 3, 30, 22, 20, 15, 25, 17, 4, 8, 31, 27, 13, 23, 21, 19, 16, 7, 26, 12, 18, 6, 11, 5, 10, 9]
def Tab (w : World) : Prop := ∀ i, i < 32 → w.cell? ⟨1, i, none⟩ = some (.int .u8 (tabL.getD i 0))
theorem Tab.below {w w' : World} (h : Tab w) (hb : Below w.heap.size w w') : Tab w' := fun i hi => by
  rw [hb.cell (p := ⟨1, i, none⟩) (block_lt_of_cell (h i hi))]; exact h i hi
theorem tab_at : ∀ t : Nat, t < 24 → (2 ^ t * 125613361 % 4294967296 / 134217728) < 32 ∧ tabL.getD (2 ^ t * 125613361 % 4294967296 / 134217728) 0 = (t : Int) := by decide

theorem low_ex (n : Nat) : ∀ x : Nat, x ≤ n → 0 < x → ∃ t m, x = 2 ^ t * (2 * m + 1) := by
  induction n with
  | zero => intro x h1 h2; omega
  | succ n ih =>
    intro x h1 h2
    rcases (show x % 2 = 1 ∨ x % 2 = 0 from by omega) with h | h
    · exact ⟨0, x / 2, by rw [Nat.pow_zero, Nat.one_mul]; omega⟩
    · obtain ⟨t, m, e⟩ := ih (x / 2) (by omega) (by omega)
      refine ⟨t + 1, m, ?_⟩
      rw [Nat.pow_succ, Nat.mul_comm (2 ^ t) 2, Nat.mul_assoc, ← e]
      omega
theorem low_lt {t m : Nat} (h : 2 ^ t * (2 * m + 1) < 16777216) : t < 24 := by
  rcases Nat.lt_or_ge t 24 with h' | h'
  · exact h'
  · have h1 : 2 ^ 24 ≤ 2 ^ t := Nat.pow_le_pow_right (by omega) h'
    have h2 : 2 ^ t * 1 ≤ 2 ^ t * (2 * m + 1) := Nat.mul_le_mul_left _ (by omega)
    omega
theorem low_bits (t m i : Nat) : (2 ^ t * (2 * m + 1)).testBit i = (decide (t ≤ i) && (2 * m + 1).testBit (i - t)) := by
  rw [Nat.mul_comm, Nat.testBit_mul_two_pow]
theorem low_at (t m : Nat) : (2 ^ t * (2 * m + 1)).testBit t = true := by rw [low_bits]; simp
theorem low_under {t m i : Nat} (h : i < t) : (2 ^ t * (2 * m + 1)).testBit i = false := by
  rw [low_bits, decide_eq_false (by omega), Bool.false_and]

theorem idx_eq (t m : Nat) (h : 2 ^ t * (2 * m + 1) < 16777216) :
    (bits .and .u32 ((2 ^ t * (2 * m + 1) : Nat) : Int) (-((2 ^ t * (2 * m + 1) : Nat) : Int) % 4294967296) * 125613361 % 4294967296 / 134217728).toNat = 2 ^ t * 125613361 % 4294967296 / 134217728 := by
  have hl := low_and t 32 m (by omega)
  have hp : 0 < 2 ^ t * (2 * m + 1) := Nat.mul_pos (Nat.pow_pos (by omega)) (by omega)
  generalize 2 ^ t * (2 * m + 1) = x at h hl hp ⊢
  have e : (-(x : Int) % 4294967296) = ((2 ^ 32 - x : Nat) : Int) := by omega
  rw [e, u32_and_nat x (2 ^ 32 - x) (by omega) (by omega), hl]
  generalize 2 ^ t = P
  have e3 : ((P : Int) * 125613361 % 4294967296 / 134217728) = ((P * 125613361 % 4294967296 / 134217728 : Nat) : Int) := by simp
  rw [e3, Int.toNat_natCast]

set_option maxRecDepth 100000 in
theorem tz_any (t m : Nat) (w : World) (hT : Tab w) (hx : 2 ^ t * (2 * m + 1) < 16777216) :
    Calls Tryz.prog 112 #[.int .u32 ((2 ^ t * (2 * m + 1) : Nat) : Int)] w fun e w' => e = .returned (.int .i64 t) ∧ w' = w := by
  have h24 := low_lt hx
  have hi := idx_eq t m hx
  have ht := tab_at t h24
  have hc := hT _ ht.1
  rw [ht.2, ← hi] at hc
  have hp : 0 < 2 ^ t * (2 * m + 1) := Nat.mul_pos (Nat.pow_pos (by omega)) (by omega)
  clear hi ht hT
  generalize 2 ^ t * (2 * m + 1) = x at hx hc hp ⊢
  have hne : ((x : Int) == 0) = false := by simp; omega
  go_enter Tryz.func112, Tryz.ntmps112
  go_wp2
  go_ret
  exact ⟨rfl, rfl⟩

set_option maxRecDepth 100000 in
theorem first_any (t m : Nat) (w : World) (hT : Tab w) (hx : 2 ^ t * (2 * m + 1) < 16777216) :
    Calls Tryz.prog 91 #[.int .u32 ((2 ^ t * (2 * m + 1) : Nat) : Int)] w fun e w' => e = .returned (.int .i64 t) ∧ w' = w := by
  go_enter Tryz.func91, Tryz.ntmps91
  go_wp2_with (go_at_call 112; refine (tz_any t m _ hT hx).mono ?_; rintro e w' ⟨rfl, hq⟩; replace hq := hq.symm; subst hq)
  go_ret
  exact ⟨rfl, rfl⟩

/-- A set without one number. -/
def outB (r t : Nat) : Nat := r &&& (4294967295 - 2 ^ t)
theorem outB_bit (r t i : Nat) (ht : t < 32) (hr : r < 4294967296) : (outB r t).testBit i = (r.testBit i && !(t == i)) := by
  unfold outB
  have h1 : 2 ^ t < 2 ^ 32 := Nat.pow_lt_pow_right (by omega) ht
  rw [Nat.testBit_and, show 4294967295 - 2 ^ t = 2 ^ 32 - (2 ^ t + 1) by omega, Nat.testBit_two_pow_sub_succ h1, Nat.testBit_two_pow]
  by_cases hi : i < 32
  · simp [hi]
    rfl
  · have : r.testBit i = false := Nat.testBit_lt_two_pow (Nat.lt_of_lt_of_le hr (Nat.pow_le_pow_right (n := 2) (i := 32) (by omega) (by omega)))
    simp [this]
theorem outB_lt {r t : Nat} (h : r.testBit t = true) (ht : t < 32) (hr : r < 4294967296) : outB r t < r := by
  have h1 : outB r t ≤ r := Nat.and_le_left
  rcases Nat.lt_or_ge (outB r t) r with h2 | h2
  · exact h2
  · have e : outB r t = r := by omega
    have := outB_bit r t t ht hr
    rw [e, h] at this
    simp at this
theorem andNot_pow (s n : Nat) (hs : s < 4294967296) (hn : n < 24) : bits .andNot .u32 (s : Int) (2 ^ n % 4294967296) = ((outB s n : Nat) : Int) := by
  have h1 : 2 ^ n < 2 ^ 24 := Nat.pow_lt_pow_right (by omega) hn
  have h2 : ((2 : Int) ^ n % 4294967296) = ((2 ^ n : Nat) : Int) := by
    have : ((2 : Int) ^ n) = ((2 ^ n : Nat) : Int) := by simp
    rw [this]
    generalize 2 ^ n = P at h1
    omega
  rw [h2]
  exact u32_andNot_nat s (2 ^ n) hs (by omega)
set_option maxRecDepth 100000 in
theorem without_any (s n : Nat) (w : World) (hs : s < 4294967296) (hn : n < 24) :
    Calls Tryz.prog 109 #[.int .u32 s, .int .i64 n] w fun e w' => e = .returned (.int .u32 (outB s n : Nat)) ∧ w' = w := by
  go_enter Tryz.func109, Tryz.ntmps109
  go_wp2
  go_ret
  exact ⟨ret_int (andNot_pow s n hs hn), rfl⟩

theorem range_snoc (R j t : Nat) (hj : j ≤ t) (h1 : ∀ i, j ≤ i → i < t → R.testBit i = false) (h2 : R.testBit t = true) :
    (List.range (t + 1)).filter (fun i => R.testBit i) = (List.range j).filter (fun i => R.testBit i) ++ [t] := by
  rw [List.range_succ, List.filter_append]
  congr 1
  · clear h2
    induction t with
    | zero => obtain rfl : j = 0 := by omega
              rfl
    | succ t ih =>
      rcases Nat.eq_or_lt_of_le hj with e | e
      · rw [e]
      · rw [List.range_succ, List.filter_append, ih (by omega) (fun i a b => h1 i a (by omega))]
        simp [h1 t (by omega) (by omega)]
  · simp [h2]
theorem range_end (R j : Nat) (hj : j ≤ 24) (h1 : ∀ i, j ≤ i → i < 24 → R.testBit i = false) : (List.range 24).filter (fun i => R.testBit i) = (List.range j).filter (fun i => R.testBit i) := by
  have h : ∀ n, j ≤ n → n ≤ 24 → (List.range n).filter (fun i => R.testBit i) = (List.range j).filter (fun i => R.testBit i) := by
    intro n
    induction n with
    | zero => intro a _; obtain rfl : j = 0 := by omega
              rfl
    | succ n ih =>
      intro a b
      rcases Nat.eq_or_lt_of_le a with e | e
      · rw [e]
      · rw [List.range_succ, List.filter_append, ih (by omega) (by omega)]
        simp [h1 n (by omega) (by omega)]
  exact h 24 hj (Nat.le_refl _)
/-- The numbers of a set below j. -/
def bitsTo (R j : Nat) : List Int := ((List.range j).filter fun i => R.testBit i).map fun (i : Nat) => (i : Int)
theorem bitsTo_all (R : Nat) : bitsTo R 24 = bitsOf R := rfl
theorem bitsTo_len (R j : Nat) : (bitsTo R j).length ≤ j := by
  unfold bitsTo
  rw [List.length_map]
  exact Nat.le_trans (List.length_filter_le _ _) (by rw [List.length_range]; exact Nat.le_refl _)

set_option maxRecDepth 100000 in
set_option maxHeartbeats 1000000 in
theorem numbers_any (R : Nat) (w : World) (hR : R < 16777216) (hT : Tab w) :
    Calls Tryz.prog 98 #[.int .u32 R] w fun e w' => ∃ v, e = .returned v ∧ w'.ownsRow w.heap.size 3 1 v (bitsOf R).length ((bitsOf R).map (Value.int .i64)) ∧ Below w.heap.size w w' := by
  obtain ⟨i0, hi, hz0, hz1, hz2⟩ := info_parts Tryz.info3
  go_enter Tryz.func98, Tryz.ntmps98
  go_wp2
  go_loopw [0, 3] (fun q v wr => ∃ (r j : Nat), q = .int .u32 r ∧ r < 16777216 ∧ j ≤ 24 ∧ (∀ i, r.testBit i = (decide (j ≤ i) && R.testBit i)) ∧ wr.ownsRow w.heap.size 3 1 v (bitsTo R j).length ((bitsTo R j).map (Value.int .i64)) ∧ Below w.heap.size w wr) (fun q _ _ => (intOf q).toNat)
  case atStart => exact ⟨R, 0, rfl, hR, by omega, fun i => by simp, World.ownsRow_nil _ _ _ _, Below.refl _ _⟩
  case round =>
    obtain ⟨r, j, rfl, hr, hj, hb, hown, hnx⟩ := hrel
    have hT' := hT.below hnx
    have hsz := hnx.size
    have HB := hid hb
    clear hb
    rcases Nat.eq_zero_or_pos r with h0 | h0
    · subst h0
      have HW := hid hown
      clear hown
      go_wp2
      go_ret
      refine ⟨_, rfl, ?_, hnx⟩
      have e : bitsTo R j = bitsOf R := by
        unfold bitsTo bitsOf
        rw [range_end R j hj (fun i a b => by have := HB.out i; rw [decide_eq_true a] at this; simpa using this.symm)]
      have := HW.out
      rw [e] at this
      exact this
    · obtain ⟨t, m, e⟩ := low_ex r r (Nat.le_refl _) h0
      have hlow := low_lt (t := t) (m := m) (by rw [← e]; exact hr)
      have b1 : r.testBit t = true := by rw [e]; exact low_at t m
      have b2 : ∀ i, i < t → r.testBit i = false := fun i hi => by rw [e]; exact low_under hi
      have hjt : j ≤ t := by
        have := HB.out t
        rw [b1] at this
        simp at this
        exact this.1
      have hRt : R.testBit t = true := by
        have := HB.out t
        rw [b1] at this
        simp at this
        exact this.2
      have hsn := range_snoc R j t hjt (fun i a b => by have := HB.out i; rw [decide_eq_true a, b2 i b] at this; simpa using this.symm) hRt
      have hbl := bitsTo_len R j
      have hne : ((r : Int) == 0) = false := by simp; omega
      have HS := hid hsn
      have HE := hid e
      have H1 := hid b1
      clear hsn b1 b2 hRt e
      go_wp2_with (first
        | (go_at_call 91; rw [HE.out]; refine (first_any t m _ (by first | exact hT'' | exact hT') (by rw [← HE.out]; exact hr)).mono ?_; rintro e w' ⟨rfl, hq⟩; replace hq := hq.symm; subst hq; rw [← HE.out])
        | (go_at_call 109; refine (without_any r t _ (by omega) hlow).mono ?_; rintro e w' ⟨rfl, hq⟩; replace hq := hq.symm; subst hq)
        | (go_at_call 87; go_in)
        | (at_builtin; refine append_one 22 3 i0 _ 8 Tryz.underlying22 hi hz0 hz1 hz2 rfl _ _ rfl rfl rfl rfl rfl rfl hown hsz (by omega) (by omega) ?_; intro v' w1 hown1 hb1; have hT'' := hT.below (hnx.trans hb1)))
      go_roundw
      case rel =>
        refine ⟨outB r t, t + 1, rfl, Nat.lt_of_le_of_lt (Nat.le_of_lt (outB_lt H1.out (by omega) (by omega))) hr, by omega, fun i => ?_, ?_, hnx.trans hb1⟩
        · rw [outB_bit r t i (by omega) (by omega), HB.out i]
          by_cases hit : t = i
          · subst hit; simp; omega
          · by_cases hji : j ≤ i
            · by_cases hti : t + 1 ≤ i
              · simp [hji, hti, hit]
              · have hlt : i < t := by omega
                have h3 := HB.out i
                rw [HE.out, low_under hlt, decide_eq_true hji] at h3
                simp at h3
                simp [h3]
            · simp [hji, show ¬ t + 1 ≤ i by omega]
        · have e2 : bitsTo R (t + 1) = bitsTo R j ++ [(t : Int)] := by
            unfold bitsTo
            rw [HS.out, List.map_append]
            rfl
          rw [e2, List.length_append, List.map_append]
          exact hown1
      case measure =>
        have := outB_lt H1.out (show t < 32 by omega) (show r < 4294967296 by omega)
        simp [intOf]
        omega
end Go.Proofs.YtegldmdcdnnegaaGreatDoor
namespace Go.Proofs.YtegldmdcdnnegaaGreatDoor
open Go.ChangeShapes Go.WideShapes Go.ChangeAt Go.RowKit

/-- How many bits a byte has. -/
def pc8 (i : Nat) : Nat := ((List.range 8).filter fun j => i.testBit j).length
def popL : List Nat := (List.range 256).map pc8
theorem pop_at (T : ByteArray) (i : Nat) (h : i < T.size) (hT : T.data.toList.map (fun c => c.toNat) = popL) : (T[i]'h).toNat = pc8 i := by
  have hs : i < T.data.toList.length := by rw [Array.length_toList]; exact h
  have h1 : (T.data.toList.map (fun c => c.toNat))[i]? = some ((T[i]'h).toNat) := by
    rw [List.getElem?_map, List.getElem?_eq_getElem hs]
    rfl
  have hl : i < 256 := by
    have := congrArg List.length hT
    rw [List.length_map] at this
    have e : popL.length = 256 := by unfold popL; rw [List.length_map, List.length_range]
    omega
  rw [hT] at h1
  unfold popL at h1
  rw [List.getElem?_map, List.getElem?_range hl] at h1
  exact (Option.some.inj h1).symm
theorem pc8_le (i : Nat) : pc8 i ≤ 8 := Nat.le_trans (List.length_filter_le _ _) (by rw [List.length_range]; exact Nat.le_refl _)
theorem filter_shift (x n k : Nat) : ((List.range' k n).filter fun j => x.testBit j).length = ((List.range n).filter fun j => (x / 2 ^ k).testBit j).length := by
  rw [List.range'_eq_map_range, List.filter_map, List.length_map]
  congr 1
  apply List.filter_congr
  intro j _
  simp only [Function.comp]
  rw [Nat.testBit_div_two_pow, Nat.add_comm]
theorem pc8_mod (x : Nat) : pc8 (x % 256) = pc8 x := by
  unfold pc8
  congr 1
  apply List.filter_congr
  intro j hj
  rw [show 256 = 2 ^ 8 from rfl, Nat.testBit_mod_two_pow, decide_eq_true (List.mem_range.1 hj), Bool.true_and]
theorem bits_len (x : Nat) : (bitsOf x).length = pc8 x + pc8 (x / 256) + pc8 (x / 65536) := by
  unfold bitsOf
  rw [List.length_map, show List.range 24 = List.range' 0 8 ++ List.range' 8 8 ++ List.range' 16 8 from by decide, List.filter_append, List.filter_append, List.length_append, List.length_append, filter_shift, filter_shift, filter_shift, Nat.pow_zero, Nat.div_one]
  rfl

set_option maxRecDepth 100000 in
set_option maxHeartbeats 1000000 in
theorem ones_any (x : Nat) (w : World) (hx : x < 16777216) :
    Calls Tryz.prog 114 #[.int .u32 x] w fun e w' => e = .returned (.int .i64 ((bitsOf x).length : Int)) ∧ Dr w w' := by
  have z1 : (x : Int) / 16777216 = 0 := by omega
  have am : ∀ y : Nat, y < 4294967296 → bits .and .u32 (y : Int) 255 = ((y % 256 : Nat) : Int) := fun y hy => by
    have := u32_and_nat y 255 hy (by omega)
    rw [show y &&& 255 = y % 2 ^ 8 from Nat.and_two_pow_sub_one_eq_mod y 8] at this
    exact this
  obtain ⟨i1, e1⟩ : ∃ i, i = x / 65536 % 256 := ⟨_, rfl⟩
  obtain ⟨i2, e2⟩ : ∃ i, i = x / 256 % 256 := ⟨_, rfl⟩
  obtain ⟨i3, e3⟩ : ∃ i, i = x % 256 := ⟨_, rfl⟩
  have a1 : bits .and .u32 ((x : Int) / 65536) 255 = (i1 : Int) := by rw [e1, ← am _ (by omega)]; rfl
  have a2 : bits .and .u32 ((x : Int) / 256) 255 = (i2 : Int) := by rw [e2, ← am _ (by omega)]; rfl
  have a3 : bits .and .u32 (x : Int) 255 = (i3 : Int) := by rw [e3, ← am _ (by omega)]
  have h1 : (i1 : Int) < 256 := by omega
  have h2 : (i2 : Int) < 256 := by omega
  have h3 : (i3 : Int) < 256 := by omega
  have hfin : (bitsOf x).length = pc8 0 + pc8 i1 + pc8 i2 + pc8 i3 := by
    rw [bits_len, e1, e2, e3, pc8_mod, pc8_mod, pc8_mod, show pc8 0 = 0 from by decide]; omega
  have hb0 := pc8_le 0
  have hb1 := pc8_le i1
  have hb2 := pc8_le i2
  have hb3 := pc8_le i3
  have HF := hid hfin
  have HB := hid (And.intro hb0 (And.intro hb1 (And.intro hb2 hb3)))
  clear e1 e2 e3 am hfin hb0 hb1 hb2 hb3
  go_enter Tryz.func114, Tryz.ntmps114
  go_wp2
  refine wp_region_quiet_lit (by kernel_rfl) (by kernel_rfl) ?_
  repeat (first | go_big_quiet_step (fail) | quiet_step (fail))
  refine wpQuiet_nil ?_
  intro _ hw'
  obtain ⟨nq, hw''⟩ := hw'
  subst hw''
  go_wp2
  go_ret
  refine ⟨ret_int ?_, ⟨nq, rfl⟩⟩
  rw [pop_at _ 0, pop_at _ i1, pop_at _ i2, pop_at _ i3]
  · have e1 := HF.out
    have e2 := HB.out
    omega
  all_goals kernel_rfl
end Go.Proofs.YtegldmdcdnnegaaGreatDoor
