/- Rows as lists and as bits: plain mathematics. -/
import Derived.Test.YtfciopjcbeccgaaGreatDoorG8
namespace Go.Proofs.YtfciopjcbeccgaaGreatDoor
open Go.ChangeShapes Go.WideShapes Go.ChangeAt Go.RowKit

theorem asc_cons {lo hi x : Int} {r : List Int} : ascB lo hi (x :: r) = true ↔ (lo < x ∧ x < hi) ∧ ascB x hi r = true := by
  rw [ascB, Bool.and_eq_true, decide_eq_true_eq]
theorem asc_mem {lo hi : Int} {xs : List Int} (h : ascB lo hi xs = true) {x : Int} (hx : x ∈ xs) : lo < x ∧ x < hi := by
  induction xs generalizing lo with
  | nil => simp at hx
  | cons y r ih =>
    obtain ⟨h1, h2⟩ := asc_cons.1 h
    rcases List.mem_cons.1 hx with rfl | hx
    · exact h1
    · have := ih h2 hx
      omega
theorem asc_mono {lo lo' hi : Int} {xs : List Int} (h : ascB lo hi xs = true) (hl : lo' ≤ lo) : ascB lo' hi xs = true := by
  cases xs with
  | nil => rfl
  | cons y r =>
    obtain ⟨h1, h2⟩ := asc_cons.1 h
    exact asc_cons.2 ⟨by omega, h2⟩
/-- Two ascending lists of the same numbers are one. -/
theorem asc_ext {lo hi : Int} {xs ys : List Int} (hx : ascB lo hi xs = true) (hy : ascB lo hi ys = true) (h : ∀ z, z ∈ xs ↔ z ∈ ys) : xs = ys := by
  induction xs generalizing lo ys with
  | nil =>
    cases ys with
    | nil => rfl
    | cons y s => exact absurd ((h y).2 (List.mem_cons_self ..)) (by simp)
  | cons x r ih =>
    cases ys with
    | nil => exact absurd ((h x).1 (List.mem_cons_self ..)) (by simp)
    | cons y s =>
      obtain ⟨h1, h2⟩ := asc_cons.1 hx
      obtain ⟨h3, h4⟩ := asc_cons.1 hy
      have e : x = y := by
        have a1 := (h x).1 (List.mem_cons_self ..)
        have a2 := (h y).2 (List.mem_cons_self ..)
        rcases List.mem_cons.1 a1 with e | a1
        · exact e
        · rcases List.mem_cons.1 a2 with e | a2
          · exact e.symm
          · have := asc_mem h2 a2
            have := asc_mem h4 a1
            omega
      subst e
      congr 1
      refine ih h2 h4 (fun z => ⟨fun hz => ?_, fun hz => ?_⟩)
      · rcases List.mem_cons.1 ((h z).1 (List.mem_cons_of_mem _ hz)) with e | hz'
        · subst e; have := asc_mem h2 hz; omega
        · exact hz'
      · rcases List.mem_cons.1 ((h z).2 (List.mem_cons_of_mem _ hz)) with e | hz'
        · subst e; have := asc_mem h4 hz; omega
        · exact hz'

/-- What is in just one of two ascending lists. -/
def xorM : List Int → List Int → List Int
  | [], b => b
  | x :: a, [] => x :: a
  | x :: a, y :: b => if x < y then x :: xorM a (y :: b) else if y < x then y :: xorM (x :: a) b else xorM a b
theorem xorM_nil (a : List Int) : xorM a [] = a := by cases a <;> simp [xorM]
theorem xorM_lt {x y : Int} {a b : List Int} (h : x < y) : xorM (x :: a) (y :: b) = x :: xorM a (y :: b) := by rw [xorM, if_pos h]
theorem xorM_gt {x y : Int} {a b : List Int} (h : y < x) : xorM (x :: a) (y :: b) = y :: xorM (x :: a) b := by rw [xorM, if_neg (by omega), if_pos h]
theorem xorM_eq {x : Int} {a b : List Int} : xorM (x :: a) (x :: b) = xorM a b := by rw [xorM, if_neg (by omega), if_neg (by omega)]

theorem xorM_both (n : Nat) : ∀ {lo hi : Int} {a b : List Int}, a.length + b.length ≤ n → ascB lo hi a = true → ascB lo hi b = true →
    ascB lo hi (xorM a b) = true ∧ ∀ z, z ∈ xorM a b ↔ (z ∈ a ∧ z ∉ b ∨ z ∉ a ∧ z ∈ b) := by
  induction n with
  | zero =>
    intro lo hi a b hn ha hb
    obtain rfl : a = [] := List.eq_nil_of_length_eq_zero (by omega)
    obtain rfl : b = [] := List.eq_nil_of_length_eq_zero (by omega)
    exact ⟨by simp [xorM, ascB], fun z => by simp [xorM]⟩
  | succ n ih =>
    intro lo hi a b hn ha hb
    cases a with
    | nil => exact ⟨by simpa [xorM] using hb, fun z => by simp [xorM]⟩
    | cons x a =>
      cases b with
      | nil => exact ⟨by simpa [xorM] using ha, fun z => by simp [xorM]⟩
      | cons y b =>
        obtain ⟨a1, a2⟩ := asc_cons.1 ha
        obtain ⟨b1, b2⟩ := asc_cons.1 hb
        simp only [List.length_cons] at hn
        rcases Int.lt_trichotomy x y with h | h | h
        · obtain ⟨i1, i2⟩ := ih (a := a) (b := y :: b) (lo := x) (by simp only [List.length_cons]; omega) a2 (asc_cons.2 ⟨by omega, b2⟩)
          rw [xorM_lt h]
          refine ⟨asc_cons.2 ⟨a1, i1⟩, fun z => ?_⟩
          rw [List.mem_cons, i2]
          have hxy : x ∉ y :: b := by
            intro hx
            rcases List.mem_cons.1 hx with e | hx
            · omega
            · have := asc_mem b2 hx; omega
          have hxa : x ∉ a := fun hx => by have := asc_mem a2 hx; omega
          by_cases e : z = x
          · subst e; simp [hxy]
          · simp only [List.mem_cons (a := z) (b := x), e, false_or]
        · subst h
          obtain ⟨i1, i2⟩ := ih (a := a) (b := b) (lo := x) (by omega) a2 b2
          rw [xorM_eq]
          refine ⟨asc_mono i1 (by omega), fun z => ?_⟩
          rw [i2]
          have hxa : x ∉ a := fun hx => by have := asc_mem a2 hx; omega
          have hxb : x ∉ b := fun hx => by have := asc_mem b2 hx; omega
          by_cases e : z = x
          · subst e; simp [hxa, hxb]
          · simp only [List.mem_cons, e, false_or]
        · obtain ⟨i1, i2⟩ := ih (a := x :: a) (b := b) (lo := y) (by simp only [List.length_cons]; omega) (asc_cons.2 ⟨by omega, a2⟩) b2
          rw [xorM_gt h]
          refine ⟨asc_cons.2 ⟨b1, i1⟩, fun z => ?_⟩
          rw [List.mem_cons, i2]
          have hyx : y ∉ x :: a := by
            intro hx
            rcases List.mem_cons.1 hx with e | hx
            · omega
            · have := asc_mem a2 hx; omega
          have hyb : y ∉ b := fun hx => by have := asc_mem b2 hx; omega
          by_cases e : z = y
          · subst e; simp [hyx]
          · simp only [List.mem_cons (a := z) (b := y), e, false_or]

/-- The numbers of a set, ascending. -/
def bitsOf (r : Nat) : List Int := ((List.range 24).filter fun i => r.testBit i).map fun (i : Nat) => (i : Int)
theorem bitsOf_mem (r : Nat) (z : Int) : z ∈ bitsOf r ↔ ∃ i : Nat, z = i ∧ i < 24 ∧ r.testBit i = true := by
  unfold bitsOf
  simp only [List.mem_map, List.mem_filter, List.mem_range]
  constructor
  · rintro ⟨i, ⟨h1, h2⟩, rfl⟩; exact ⟨i, rfl, h1, h2⟩
  · rintro ⟨i, rfl, h1, h2⟩; exact ⟨i, ⟨h1, h2⟩, rfl⟩
theorem asc_filter (f : Nat → Bool) (n k : Nat) (lo : Int) (h : lo < k) : ascB lo ((k + n : Nat) : Int) (((List.range' k n).filter f).map fun (i : Nat) => (i : Int)) = true := by
  induction n generalizing k lo with
  | zero => rfl
  | succ n ih =>
    rw [List.range'_succ, List.filter_cons]
    split
    · rw [List.map_cons, asc_cons]
      exact ⟨⟨h, by omega⟩, by have := ih (k + 1) k (by omega); rw [show k + 1 + n = k + (n + 1) by omega] at this; exact this⟩
    · have := ih (k + 1) lo (by omega)
      rw [show k + 1 + n = k + (n + 1) by omega] at this
      exact this
theorem bitsOf_asc (r : Nat) : ascB (-1) 24 (bitsOf r) = true := by
  have := asc_filter (fun i => r.testBit i) 24 0 (-1) (by omega)
  rw [← List.range_eq_range'] at this
  exact this

theorem foldl_bits (xs : List Int) (s : Nat) (i : Nat) : (xs.foldl (fun s x => s ||| 2 ^ x.toNat) s).testBit i = (s.testBit i || xs.any fun x => x.toNat == i) := by
  induction xs generalizing s with
  | nil => simp
  | cons x r ih =>
    rw [List.foldl_cons, ih, Nat.testBit_or, Nat.testBit_two_pow, List.any_cons, Bool.or_assoc]
    congr 2
theorem setI_bit (xs : List Int) (i : Nat) : (setI xs).testBit i = xs.any fun x => x.toNat == i := by
  unfold setI
  rw [foldl_bits]
  simp
theorem setI_mem {xs : List Int} {hi : Int} (h : ascB (-1) hi xs = true) (i : Nat) : (setI xs).testBit i = true ↔ (i : Int) ∈ xs := by
  rw [setI_bit, List.any_eq_true]
  constructor
  · rintro ⟨x, hx, he⟩
    have := asc_mem h hx
    have e : x = (i : Int) := by have := beq_iff_eq.1 he; omega
    rw [← e]; exact hx
  · intro hx
    exact ⟨_, hx, by simp⟩
/-- A row is the numbers of its bits. -/
theorem bits_set {xs : List Int} (h : ascB (-1) 24 xs = true) : bitsOf (setI xs) = xs := by
  refine asc_ext (bitsOf_asc _) h (fun z => ?_)
  rw [bitsOf_mem]
  constructor
  · rintro ⟨i, rfl, _, hb⟩; exact (setI_mem h i).1 hb
  · intro hz
    have := asc_mem h hz
    obtain ⟨i, rfl⟩ := Int.eq_ofNat_of_zero_le (show 0 ≤ z by omega)
    exact ⟨i, rfl, by omega, (setI_mem h i).2 hz⟩
/-- What is in just one of two rows is the bits that are unlike. -/
theorem xorM_bits {xs ys : List Int} (hx : ascB (-1) 24 xs = true) (hy : ascB (-1) 24 ys = true) : xorM xs ys = bitsOf (setI xs ^^^ setI ys) := by
  obtain ⟨h1, h2⟩ := xorM_both _ (Nat.le_refl _) hx hy
  refine asc_ext h1 (bitsOf_asc _) (fun z => ?_)
  rw [h2, bitsOf_mem]
  constructor
  · intro h
    have hz : -1 < z ∧ z < 24 := by
      rcases h with ⟨h, _⟩ | ⟨_, h⟩
      · exact asc_mem hx h
      · exact asc_mem hy h
    obtain ⟨i, rfl⟩ := Int.eq_ofNat_of_zero_le (show 0 ≤ z by omega)
    refine ⟨i, rfl, by omega, ?_⟩
    rw [Nat.testBit_xor]
    have e1 := setI_mem hx i
    have e2 := setI_mem hy i
    cases ha : (setI xs).testBit i <;> cases hb : (setI ys).testBit i <;> simp_all
  · rintro ⟨i, rfl, _, hb⟩
    rw [Nat.testBit_xor] at hb
    have e1 := setI_mem hx i
    have e2 := setI_mem hy i
    cases ha : (setI xs).testBit i <;> cases hb' : (setI ys).testBit i <;> simp_all
end Go.Proofs.YtfciopjcbeccgaaGreatDoor
