/- A drawn row ascends, and has at least one number. -/
import Derived.Test.YtegldmdcdnnegaaDoorDrawKI
namespace Go.Proofs.YtegldmdcdnnegaaDoor
open Go.ChangeShapes Go.WideShapes Go.ChangeAt Go.RowKit

theorem range_asc' (n : Nat) : ascB (-1) n ((List.range n).map fun (i : Nat) => (i : Int)) = true := by
  have := asc_filter (fun _ => true) n 0 (-1) (by omega)
  rw [List.filter_eq_self.2 (by simp), ← List.range_eq_range'] at this
  exact asc_hi this (by omega)
theorem degOf_pos (ds : List Int) (p : Int) (h : ds ≠ []) : 1 ≤ degOf ds p := by
  cases ds with
  | nil => exact absurd rfl h
  | cons d r => rw [degOf]; split <;> omega
theorem drawSt_asc (count : Nat) (s : Int) (k : Nat) (h : k ≤ count) :
    ascB (-1) count (drawSt count s k).2.1 = true ∧ ascB (-1) count (drawSt count s k).2.2 = true ∧ ∀ z, z ∈ (drawSt count s k).2.1 → z ∉ (drawSt count s k).2.2 := by
  induction k with
  | zero => exact ⟨range_asc' count, rfl, fun z _ hz => by cases hz⟩
  | succ k ih =>
    obtain ⟨i1, i2, i3⟩ := ih (by omega)
    have hl := (drawSt_len count s k (by omega)).1
    have hp := pick_lt (drawSt count s k).1 (drawSt count s k).2.1.length (by omega)
    obtain ⟨i, hi⟩ : ∃ i, i = (nx (drawSt count s k).1 / 256 % (drawSt count s k).2.1.length).toNat := ⟨_, rfl⟩
    have hlt : i < (drawSt count s k).2.1.length := by omega
    simp only [drawSt]
    rw [← hi]
    obtain ⟨e1, e2⟩ := erase_both i1 i hlt
    have hm : (drawSt count s k).2.1.getD i 0 ∈ (drawSt count s k).2.1 := by rw [getD_eq hlt]; exact List.getElem_mem hlt
    have hb := asc_mem i1 hm
    refine ⟨e1, into_asc i2 hb.1 hb.2 (i3 _ hm), fun z hz hz2 => ?_⟩
    have q := (e2 z).1 hz
    rcases (into_mem _ _ _ _).1 hz2 with h1 | h1
    · exact q.2 h1
    · exact i3 z q.1 h1
theorem drawI_ok (count : Nat) (seed : Int) (h1 : 1 ≤ count) (h2 : count ≤ 24) : rowOkB (drawI count seed) count = true ∧ 1 ≤ (drawI count seed).length ∧ (drawI count seed).length ≤ count := by
  have hn := drawN_le count seed h1
  have ha := (drawSt_asc count (nx (nx seed)) (drawN count seed) hn).2.1
  have hl := (drawSt_len count (nx (nx seed)) (drawN count seed) hn).2
  have hp : 1 ≤ drawN count seed := degOf_pos _ _ (by intro e; have := degI_len count h1; rw [e] at this; simp at this; omega)
  have ha' : ascB (-1) count (drawI count seed) = true := ha
  have hl' : (drawI count seed).length = drawN count seed := hl
  refine ⟨?_, by omega, by omega⟩
  unfold rowOkB
  rw [ha', decide_eq_true (by omega)]
  rfl
end Go.Proofs.YtegldmdcdnnegaaDoor
