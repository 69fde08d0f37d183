/- Sets as bits and as lists, what drawing does to both. -/
import Derived.Test.YtcoofoiaaljpoaaDoorG24
import Derived.Test.YtcoofoiaaljpoaaDoorG26
namespace Go.Proofs.YtcoofoiaaljpoaaDoor
open Go.ChangeShapes Go.WideShapes Go.ChangeAt Go.RowKit

theorem asc_hi {lo hi hi' : Int} {xs : List Int} (h : ascB lo hi xs = true) (hh : hi ≤ hi') : ascB lo hi' xs = true := by
  induction xs generalizing lo with
  | nil => rfl
  | cons x r ih =>
    obtain ⟨h1, h2⟩ := asc_cons.1 h
    exact asc_cons.2 ⟨by omega, ih h2⟩
theorem range_asc (n : Nat) (h : n ≤ 24) : ascB (-1) 24 ((List.range n).map fun (i : Nat) => (i : Int)) = true := by
  have := asc_filter (fun _ => true) n 0 (-1) (by omega)
  rw [List.filter_eq_self.2 (by simp), ← List.range_eq_range'] at this
  exact asc_hi this (by omega)
theorem bits_full (n : Nat) (h : n ≤ 24) : bitsOf (2 ^ n - 1) = (List.range n).map fun (i : Nat) => (i : Int) := by
  refine asc_ext (bitsOf_asc _) (range_asc n h) (fun z => ?_)
  rw [bitsOf_mem, List.mem_map]
  constructor
  · rintro ⟨i, rfl, _, hb⟩
    rw [Nat.testBit_two_pow_sub_one, decide_eq_true_eq] at hb
    exact ⟨i, List.mem_range.2 hb, rfl⟩
  · rintro ⟨i, hi, rfl⟩
    have := List.mem_range.1 hi
    exact ⟨i, rfl, by omega, by rw [Nat.testBit_two_pow_sub_one, decide_eq_true_eq]; exact this⟩
/-- The least number, and the others. -/
theorem bits_cons {r t m : Nat} (e : r = 2 ^ t * (2 * m + 1)) (hr : r < 16777216) : bitsOf r = (t : Int) :: bitsOf (outB r t) := by
  have ht := low_lt (t := t) (m := m) (by rw [← e]; exact hr)
  have hbt : r.testBit t = true := by rw [e]; exact low_at t m
  have hlow : ∀ i, i < t → r.testBit i = false := fun i hi => by rw [e]; exact low_under hi
  have hasc : ascB (-1) 24 ((t : Int) :: bitsOf (outB r t)) = true := by
    refine asc_cons.2 ⟨by omega, ?_⟩
    have h1 := bitsOf_asc (outB r t)
    cases hb : bitsOf (outB r t) with
    | nil => rfl
    | cons x q =>
      rw [hb] at h1
      obtain ⟨a1, a2⟩ := asc_cons.1 h1
      refine asc_cons.2 ⟨⟨?_, a1.2⟩, a2⟩
      have hx : x ∈ bitsOf (outB r t) := by rw [hb]; exact List.mem_cons_self ..
      obtain ⟨i, rfl, hi, hbi⟩ := (bitsOf_mem _ _).1 hx
      rw [outB_bit r t i (by omega) (by omega), Bool.and_eq_true] at hbi
      have : ¬ i < t := fun h => by rw [hlow i h] at hbi; simp at hbi
      have : i ≠ t := fun h => by subst h; simp at hbi
      omega
  refine asc_ext (bitsOf_asc _) hasc (fun z => ?_)
  rw [List.mem_cons, bitsOf_mem, bitsOf_mem]
  constructor
  · rintro ⟨i, rfl, hi, hb⟩
    by_cases hit : t = i
    · left; omega
    · right
      exact ⟨i, rfl, hi, by rw [outB_bit r t i (by omega) (by omega), hb]; simp [hit]⟩
  · rintro (h | ⟨i, rfl, hi, hb⟩)
    · exact ⟨t, h, ht, hbt⟩
    · rw [outB_bit r t i (by omega) (by omega), Bool.and_eq_true] at hb
      exact ⟨i, rfl, hi, hb.1⟩
theorem bits_zero : bitsOf 0 = [] := by decide

theorem into_mem (xs : List Int) (n : Int) (k : Nat) (z : Int) : z ∈ intoAt xs n k ↔ z = n ∨ z ∈ xs := by
  unfold intoAt
  rw [List.mem_append, List.mem_append, List.mem_singleton]
  constructor
  · rintro ((h | h) | h)
    · exact .inr (List.mem_of_mem_take h)
    · exact .inl h
    · exact .inr (List.mem_of_mem_drop h)
  · rintro (h | h)
    · exact .inl (.inr h)
    · rw [← List.take_append_drop k xs, List.mem_append] at h
      rcases h with h | h
      · exact .inl (.inl h)
      · exact .inr h
theorem into_asc {lo hi n : Int} {xs : List Int} (h : ascB lo hi xs = true) (h1 : lo < n) (h2 : n < hi) (hn : n ∉ xs) : ascB lo hi (intoAt xs n (placeOf xs n)) = true := by
  induction xs generalizing lo with
  | nil => exact asc_cons.2 ⟨⟨h1, h2⟩, rfl⟩
  | cons x r ih =>
    obtain ⟨a1, a2⟩ := asc_cons.1 h
    have hne : n ≠ x := fun e => hn (by rw [e]; exact List.mem_cons_self ..)
    have hnr : n ∉ r := fun e => hn (List.mem_cons_of_mem _ e)
    unfold placeOf
    rw [List.takeWhile_cons]
    split
    · rename_i hx
      have hx' : x < n := by simpa using hx
      have := ih a2 hx' hnr
      rw [List.length_cons]
      unfold intoAt placeOf at *
      rw [List.take_succ_cons, List.drop_succ_cons, List.cons_append, List.cons_append]
      exact asc_cons.2 ⟨a1, this⟩
    · rename_i hx
      have hx' : ¬ x < n := by simpa using hx
      show ascB lo hi ([] ++ [n] ++ (x :: r)) = true
      rw [List.nil_append, List.singleton_append]
      exact asc_cons.2 ⟨⟨h1, h2⟩, asc_cons.2 ⟨⟨by omega, a1.2⟩, a2⟩⟩
theorem bits_with {D n : Nat} (hn : n < 24) (hx : (n : Int) ∉ bitsOf D) : bitsOf (D ||| 2 ^ n) = intoAt (bitsOf D) n (placeOf (bitsOf D) n) := by
  refine asc_ext (bitsOf_asc _) (into_asc (bitsOf_asc _) (by omega) (by omega) hx) (fun z => ?_)
  rw [into_mem, bitsOf_mem, bitsOf_mem]
  constructor
  · rintro ⟨i, rfl, hi, hb⟩
    rw [Nat.testBit_or, Nat.testBit_two_pow, Bool.or_eq_true, decide_eq_true_eq] at hb
    rcases hb with hb | hb
    · exact .inr ⟨i, rfl, hi, hb⟩
    · exact .inl (by omega)
  · rintro (h | ⟨i, rfl, hi, hb⟩)
    · exact ⟨n, h, hn, by rw [Nat.testBit_or, Nat.testBit_two_pow]; simp⟩
    · exact ⟨i, rfl, hi, by rw [Nat.testBit_or, hb, Bool.true_or]⟩
theorem erase_both {lo hi : Int} {xs : List Int} (h : ascB lo hi xs = true) (k : Nat) (hk : k < xs.length) :
    ascB lo hi (xs.eraseIdx k) = true ∧ ∀ z, z ∈ xs.eraseIdx k ↔ z ∈ xs ∧ z ≠ xs.getD k 0 := by
  induction xs generalizing lo k with
  | nil => simp at hk
  | cons x r ih =>
    obtain ⟨a1, a2⟩ := asc_cons.1 h
    cases k with
    | zero =>
      rw [List.eraseIdx_cons_zero]
      refine ⟨asc_mono a2 (by omega), fun z => ?_⟩
      have hg : (x :: r).getD 0 0 = x := rfl
      rw [hg, List.mem_cons]
      constructor
      · intro hz
        have := asc_mem a2 hz
        exact ⟨.inr hz, by omega⟩
      · rintro ⟨hz | hz, hne⟩
        · exact absurd hz hne
        · exact hz
    | succ k =>
      rw [List.eraseIdx_cons_succ]
      have hk' : k < r.length := by simpa using hk
      obtain ⟨i1, i2⟩ := ih a2 k hk'
      have hg : (x :: r).getD (k + 1) 0 = r.getD k 0 := rfl
      refine ⟨asc_cons.2 ⟨a1, i1⟩, fun z => ?_⟩
      rw [hg, List.mem_cons, List.mem_cons, i2]
      have hm : r.getD k 0 ∈ r := by rw [getD_eq hk']; exact List.getElem_mem _
      have hgt := asc_mem a2 hm
      constructor
      · rintro (hz | ⟨hz, hne⟩)
        · exact ⟨.inl hz, by omega⟩
        · exact ⟨.inr hz, hne⟩
      · rintro ⟨hz | hz, hne⟩
        · exact .inl hz
        · exact .inr ⟨hz, hne⟩
theorem bits_out {E n k : Nat} (hE : E < 16777216) (hn : n < 24) (hk : k < (bitsOf E).length) (hg : (bitsOf E).getD k 0 = n) : bitsOf (outB E n) = (bitsOf E).eraseIdx k := by
  obtain ⟨h1, h2⟩ := erase_both (bitsOf_asc E) k hk
  refine asc_ext (bitsOf_asc _) h1 (fun z => ?_)
  rw [h2, hg, bitsOf_mem, bitsOf_mem]
  constructor
  · rintro ⟨i, rfl, hi, hb⟩
    rw [outB_bit E n i (by omega) (by omega), Bool.and_eq_true] at hb
    exact ⟨⟨i, rfl, hi, hb.1⟩, fun e => by have : n = i := by omega
                                           subst this; simp at hb⟩
  · rintro ⟨⟨i, rfl, hi, hb⟩, hne⟩
    exact ⟨i, rfl, hi, by rw [outB_bit E n i (by omega) (by omega), hb]; simp; omega⟩
end Go.Proofs.YtcoofoiaaljpoaaDoor
