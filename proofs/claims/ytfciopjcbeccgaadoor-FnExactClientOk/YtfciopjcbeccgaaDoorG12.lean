/- Rows by their first numbers, and what the program asks of its sets of bits. -/
import Derived.Test.YtfciopjcbeccgaaDoorG11
namespace Go.Proofs.YtfciopjcbeccgaaDoor
open Go.ChangeShapes Go.WideShapes Go.ChangeAt Go.RowKit

/-- The first number of a row. -/
def hd (xs : List Int) : Int := xs.headD 0
theorem hd_mem {xs : List Int} (h : xs ≠ []) : hd xs ∈ xs := by
  cases xs with
  | nil => exact absurd rfl h
  | cons x r => exact List.mem_cons_self ..
theorem hd_le {lo hi : Int} {xs : List Int} (h : ascB lo hi xs = true) {z : Int} (hz : z ∈ xs) : hd xs ≤ z := by
  cases xs with
  | nil => simp at hz
  | cons x r =>
    obtain ⟨_, h2⟩ := asc_cons.1 h
    rcases List.mem_cons.1 hz with rfl | hz
    · exact Int.le_refl _
    · have := asc_mem h2 hz
      show x ≤ z
      omega
theorem setS_small {xs : List Int} (h : ascB (-1) 24 xs = true) : setI xs < 16777216 := by
  refine Nat.lt_pow_two_of_testBit (n := 24) _ (fun i hi => ?_)
  cases hb : (setI xs).testBit i with
  | false => rfl
  | true =>
    have := asc_mem h ((setI_mem h i).1 hb)
    omega
theorem asc_24 {c : Int} {xs : List Int} (h : ascB (-1) c xs = true) (hc : c ≤ 24) : ascB (-1) 24 xs = true := by
  have : ∀ lo, ascB lo c xs = true → ascB lo 24 xs = true := by
    clear h
    induction xs with
    | nil => intro lo _; rfl
    | cons x r ih =>
      intro lo h
      obtain ⟨h1, h2⟩ := asc_cons.1 h
      exact asc_cons.2 ⟨by omega, ih x h2⟩
  exact this _ h
theorem set_zero {xs : List Int} (h : ascB (-1) 24 xs = true) : setI xs = 0 ↔ xs = [] := by
  constructor
  · intro h0
    cases xs with
    | nil => rfl
    | cons x r =>
      have hx := asc_mem h (List.mem_cons_self ..)
      obtain ⟨i, rfl⟩ := Int.eq_ofNat_of_zero_le (show 0 ≤ x by omega)
      have := (setI_mem h i).2 (List.mem_cons_self ..)
      rw [h0] at this
      simp at this
  · rintro rfl; rfl
/-- The lowest bit of a row is its first number. -/
theorem low_of {xs : List Int} (h : ascB (-1) 24 xs = true) (hne : xs ≠ []) : ∃ t m : Nat, setI xs = 2 ^ t * (2 * m + 1) ∧ hd xs = t := by
  have h0 : 0 < setI xs := Nat.pos_of_ne_zero (fun e => hne ((set_zero h).1 e))
  obtain ⟨t, m, e⟩ := low_ex _ _ (Nat.le_refl _) h0
  refine ⟨t, m, e, ?_⟩
  have h1 : (t : Int) ∈ xs := (setI_mem h t).1 (by rw [e]; exact low_at t m)
  have h2 := hd_mem hne
  have h3 := hd_le h h1
  have h4 := asc_mem h h2
  obtain ⟨i, hi⟩ := Int.eq_ofNat_of_zero_le (show 0 ≤ hd xs by omega)
  rw [hi] at h2 h3
  have h5 := (setI_mem h i).2 h2
  by_cases hlt : i < t
  · rw [e, low_under hlt] at h5; simp at h5
  · omega

theorem firstS {xs : List Int} (h : ascB (-1) 24 xs = true) (hne : xs ≠ []) (w : World) (hT : Tab w) :
    Calls Tryd.prog 59 #[.int .u32 (setI xs : Nat)] w fun e w' => e = .returned (.int .i64 (hd xs)) ∧ w' = w := by
  obtain ⟨t, m, e, ht⟩ := low_of h hne
  rw [e, ht]
  exact first_any t m w hT (by rw [← e]; exact setS_small h)
set_option maxRecDepth 100000 in
theorem emptyS {xs : List Int} (h : ascB (-1) 24 xs = true) (w : World) :
    Calls Tryd.prog 57 #[.int .u32 (setI xs : Nat)] w fun e w' => e = .returned (.bool (decide (xs = []))) ∧ w' = w := by
  have hq : (((setI xs : Nat) : Int) == 0) = decide (xs = []) := by
    rw [Bool.eq_iff_iff]
    simp only [beq_iff_eq, decide_eq_true_eq, ← set_zero h]
    omega
  generalize setI xs = s at hq
  go_enter Tryd.func57, Tryd.ntmps57
  go_wp2
  go_ret
  exact ⟨rfl, rfl⟩
theorem shr_and (s n : Nat) : s >>> n &&& 1 = if s.testBit n then 1 else 0 := by
  rw [Nat.testBit, Nat.and_comm]
  have := Nat.and_one_is_mod (s >>> n)
  rw [Nat.and_comm] at this
  rw [this]
  have h2 : s >>> n % 2 = 0 ∨ s >>> n % 2 = 1 := by omega
  rcases h2 with h2 | h2 <;> simp [h2]
end Go.Proofs.YtfciopjcbeccgaaDoor
