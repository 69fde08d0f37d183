/- What the law on degrees asks of numbers. -/
import Derived.Test.YtefpjomhedlpnaaDegC
import Derived.Test.YtefpjomhedlpnaaWhInts
namespace Go.Proofs.Ytefpjomhedlpnaa
open Go.ChangeShapes Go.WideShapes Go.ChangeAt Go.RowKit

theorem sumTo_cons (d : Int) (r : List Int) (k : Nat) : sumTo (d :: r) (k + 1) = d + sumTo r k := by simp [sumTo]
theorem degOf_says : ∀ (ds : List Int) (p : Int), 0 ≤ p → p < ds.sum → 1 ≤ degOf ds p ∧ degOf ds p ≤ ds.length ∧ sumTo ds (degOf ds p - 1) ≤ p ∧ p < sumTo ds (degOf ds p - 1) + ds.getD (degOf ds p - 1) 0
  | [], p, h1, h2 => by simp at h2; omega
  | d :: r, p, h1, h2 => by
    by_cases h : p < d
    · simp [degOf, h, sumTo]; exact h1
    · have ih := degOf_says r (p - d) (by omega) (by simp at h2; omega)
      obtain ⟨i1, i2, i3, i4⟩ := ih
      have e : degOf (d :: r) p = degOf r (p - d) + 1 := by simp [degOf, h]
      rw [e]
      obtain ⟨m, hm⟩ : ∃ m, degOf r (p - d) = m + 1 := ⟨degOf r (p - d) - 1, by omega⟩
      rw [hm] at i2 i3 i4 ⊢
      simp only [Nat.add_sub_cancel] at i3 i4 ⊢
      rw [sumTo_cons]
      refine ⟨by omega, by simp; omega, by omega, ?_⟩
      have : (d :: r).getD (m + 1) 0 = r.getD m 0 := by simp [List.getD]
      rw [this]; omega

/-- The program's and the model's answers at a count and a part. -/
def DegCase (c p : Int) (D : List Int) (m : Nat) : Prop :=
  (D = [] ∧ m = 0) ∨ ((D.length : Int) = c ∧ 1 ≤ c ∧ (p < 0 ∨ 65536 ≤ p) ∧ m = 0) ∨
  ((D.length : Int) = c ∧ 1 ≤ c ∧ 0 ≤ p ∧ p < 65536 ∧ 1 ≤ m ∧ m ≤ D.length ∧ sumTo D (m - 1) ≤ p ∧ p < sumTo D (m - 1) + D.getD (m - 1) 0 ∧ sumTo D D.length = 65536 ∧ ∀ k, 0 ≤ D.getD k 0 ∧ D.getD k 0 ≤ 65536)
def DegSays (f g h i : Nat) (c p : Int) (D : List Int) (m : Nat) : Prop :=
  D.length ≤ 24 ∧
  (∀ w : World, Calls Try.prog f #[.int .i64 c] w fun e w' => ∃ v, e = .returned v ∧ w'.ownsRow w.heap.size 3 1 v D.length (D.map (Value.int .i64)) ∧ Below w.heap.size w w') ∧
  (∀ w : World, Calls Try.prog g #[.int .i64 c, .int .i64 p] w fun e w' => e = .returned (.int .i64 m) ∧ Below w.heap.size w w') ∧
  (∀ w : World, Calls Try.prog h #[.int .i64 c] w fun e w' => ∃ v, e = .returned v ∧ w'.ownsRow w.heap.size 3 1 v D.length (D.map (Value.int .i64)) ∧ Below w.heap.size w w') ∧
  (∀ w : World, Calls Try.prog i #[.int .i64 c, .int .i64 p] w fun e w' => e = .returned (.int .i64 m) ∧ Below w.heap.size w w') ∧ DegCase c p D m
theorem deg_says (c p : Int) : ∃ D m, DegSays 16 17 19 20 c p D m := by
  by_cases hc : 1 ≤ c ∧ c ≤ 24
  · obtain ⟨h1, h2⟩ := hc
    obtain ⟨count, rfl⟩ := Int.eq_ofNat_of_zero_le (show 0 ≤ c by omega)
    have hl := degI_len count (by omega)
    by_cases hp : 0 ≤ p ∧ p < 65536
    · obtain ⟨p1, p2⟩ := hp
      have hs := degOf_says (degI count) p p1 (by rw [degI_sum]; exact p2)
      refine ⟨degI count, degOf (degI count) p, by omega, fun w => ?_, fun w => implDegreeOf_in count p (by omega) (by omega) p1 p2 w, fun w => ?_, fun w => specDegreeOf_in count p (by omega) (by omega) p1 p2 w, .inr (.inr ⟨by rw [hl], h1, p1, p2, hs.1, hs.2.1, hs.2.2.1, hs.2.2.2, by rw [sumTo_all, degI_sum], fun k => degI_at count k (by omega)⟩)⟩
      · rw [hl]; exact implDegrees_in count (by omega) (by omega) w
      · rw [hl]; exact specDegrees_in count (by omega) (by omega) w
    · refine ⟨degI count, 0, by omega, fun w => ?_, fun w => implDegreeOf_out count p (by omega) w, fun w => ?_, fun w => (specDegreeOf_out count p (by omega) w).mono ?_, .inr (.inl ⟨by rw [hl], h1, by omega, rfl⟩)⟩
      · rw [hl]; exact implDegrees_in count (by omega) (by omega) w
      · rw [hl]; exact specDegrees_in count (by omega) (by omega) w
      · rintro e w' ⟨rfl, rfl⟩; exact ⟨rfl, Below.refl _ _⟩
  · refine ⟨[], 0, by simp, fun w => (implDegrees_out c (by omega) w).mono ?_, fun w => implDegreeOf_out c p (by omega) w, fun w => specDegrees_out c (by omega) w, fun w => (specDegreeOf_out c p (by omega) w).mono ?_, .inl ⟨rfl, rfl⟩⟩
    · rintro e w' ⟨rfl, rfl⟩; exact ⟨_, rfl, World.ownsRow_nil _ _ _ _, Below.refl _ _⟩
    · rintro e w' ⟨rfl, rfl⟩; exact ⟨rfl, Below.refl _ _⟩
end Go.Proofs.Ytefpjomhedlpnaa
