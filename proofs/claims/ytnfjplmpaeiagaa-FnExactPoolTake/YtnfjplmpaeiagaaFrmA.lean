/- A pool that came in. -/
import Derived.Test.YtnfjplmpaeiagaaFrm
import Derived.Test.YtnfjplmpaeiagaaArgs
namespace Go.Proofs.Ytnfjplmpaeiagaa
open Go.ChangeShapes Go.WideShapes Go.ChangeAt Go.RowKit Go.Sort

theorem cellsFI : Try.prog.cellsOf 3 = 1 := by kernel_rfl
theorem cellsFB : Try.prog.cellsOf 4 = 1 := by kernel_rfl
theorem cellsFS : Try.prog.cellsOf 22 = 1 := by kernel_rfl
theorem cellsFr : Try.prog.cellsOf 68 = 5 := by kernel_rfl
theorem cellsPool : Try.prog.cellsOf 24 = 2 := by kernel_rfl
theorem reads_frame {W : World} {cs : List Value} (h : Reads W 68 cs) : ∃ f : Fr, cs = f.cells := by
  obtain ⟨hl, hf⟩ := h.struct Try.underlying68
  rw [cellsFr] at hl
  obtain ⟨x0, x1, x2, x3, x4, rfl⟩ : ∃ x0 x1 x2 x3 x4, cs = [x0, x1, x2, x3, x4] := by
    match cs, hl with
    | [x0, x1, x2, x3, x4], _ => exact ⟨x0, x1, x2, x3, x4, rfl⟩
  have g0 : Reads W 3 (List.take (Try.prog.cellsOf 3) (List.drop 0 [x0, x1, x2, x3, x4])) := hf 0 _ rfl
  rw [cellsFI] at g0
  have h0 : Reads W 3 [x0] := g0
  have g1 : Reads W 3 (List.take (Try.prog.cellsOf 3) (List.drop 1 [x0, x1, x2, x3, x4])) := hf 1 _ rfl
  rw [cellsFI] at g1
  have h1 : Reads W 3 [x1] := g1
  have g2 : Reads W 3 (List.take (Try.prog.cellsOf 3) (List.drop 2 [x0, x1, x2, x3, x4])) := hf 2 _ rfl
  rw [cellsFI] at g2
  have h2 : Reads W 3 [x2] := g2
  have g3 : Reads W 3 (List.take (Try.prog.cellsOf 3) (List.drop 3 [x0, x1, x2, x3, x4])) := hf 3 _ rfl
  rw [cellsFI] at g3
  have h3 : Reads W 3 [x3] := g3
  have g4 : Reads W 4 (List.take (Try.prog.cellsOf 4) (List.drop 4 [x0, x1, x2, x3, x4])) := hf 4 _ rfl
  rw [cellsFB] at g4
  have h4 : Reads W 4 [x4] := g4
  obtain ⟨y0, e0, -⟩ := h0.int Try.underlying3
  obtain ⟨y1, e1, -⟩ := h1.int Try.underlying3
  obtain ⟨y2, e2, -⟩ := h2.int Try.underlying3
  obtain ⟨y3, e3, -⟩ := h3.int Try.underlying3
  obtain ⟨y4, e4⟩ := h4.bool Try.underlying4
  simp only [List.cons.injEq, and_true] at e0 e1 e2 e3 e4
  subst e0 e1 e2 e3 e4
  exact ⟨⟨y0, y1, y2, y3, y4⟩, rfl⟩

theorem list_of {α : Type} (n : Nat) (p : Nat → α → Prop) (h : ∀ k, k < n → ∃ x, p k x) : ∃ xs : List α, xs.length = n ∧ ∀ k x, xs[k]? = some x → p k x := by
  induction n with
  | zero => exact ⟨[], rfl, fun k x hk => by simp at hk⟩
  | succ n ih =>
    obtain ⟨xs, hl, hx⟩ := ih (fun k hk => h k (by omega))
    obtain ⟨y, hy⟩ := h n (by omega)
    refine ⟨xs ++ [y], by simp [hl], fun k x hk => ?_⟩
    by_cases hkn : k < n
    · rw [List.getElem?_append_left (by omega)] at hk; exact hx k x hk
    · rw [List.getElem?_append_right (by omega)] at hk
      by_cases e : k = n
      · subst e; rw [hl] at hk; simp at hk; subst hk; exact hy
      · rw [List.getElem?_eq_none (by simp; omega)] at hk; cases hk

theorem reads_frames {W : World} {cs : List Value} (h : Reads W 22 cs) : ∃ a cap fs, cs = [.slice a fs.length cap] ∧ FrsAt W a fs ∧ fs.length ≤ 9223372036854775807 := by
  rcases h.slice Try.underlying22 with h0 | ⟨x, len, cap, h0, hl, hm, hx⟩
  · exact ⟨none, 0, [], h0, fun hne => absurd rfl hne, by simp⟩
  · rw [cellsFr] at hx
    obtain ⟨fs, hfl, hfx⟩ := list_of len (fun k (f : Fr) => ∀ j, j < 5 → W.cell? ((x.add (k * 5)).add j) = f.cells[j]?) (fun k hk => by
      obtain ⟨cs', h1, h2⟩ := hx k (by omega)
      obtain ⟨f, rfl⟩ := reads_frame h2
      exact ⟨f, fun j hj => (World.cells?_some h1).2.2 j hj⟩)
    subst hfl
    refine ⟨some x, cap, fs, h0, fun hne => ?_, by unfold maxLen at hm; omega⟩
    obtain ⟨b, off, spot⟩ := x
    have hpos : 0 < fs.length := List.length_pos_iff.2 hne
    have hc := hfx 0 fs[0] (List.getElem?_eq_getElem hpos) 0 (by omega)
    have hspot : spot = none := by
      have : W.cell? ((({ block := b, off := off, spot := spot } : Addr).add (0 * 5)).add 0) = some (.int .i64 fs[0].h) := hc
      simpa [Addr.add] using World.cell?_spot this
    subst hspot
    refine ⟨b, off, rfl, fun k f hk => ?_⟩
    have H : ∀ j, j < 5 → W.cell? ⟨b, off + k * 5 + j, none⟩ = f.cells[j]? := fun j hj => by
      have := hfx k f hk j hj
      rwa [addr_add, addr_add] at this
    exact ⟨H 0 (by omega), H 1 (by omega), H 2 (by omega), H 3 (by omega), H 4 (by omega)⟩

theorem reads_pool {W : World} {cs : List Value} (h : Reads W 24 cs) : ∃ a cap fs hand, cs = [.slice a fs.length cap, .int .i64 hand] ∧ FrsAt W a fs ∧ fs.length ≤ 9223372036854775807 := by
  obtain ⟨hl, hf⟩ := h.struct Try.underlying24
  rw [cellsPool] at hl
  obtain ⟨x0, x1, rfl⟩ : ∃ x0 x1, cs = [x0, x1] := by
    match cs, hl with
    | [x0, x1], _ => exact ⟨x0, x1, rfl⟩
  have g0 : Reads W 22 (List.take (Try.prog.cellsOf 22) (List.drop 0 [x0, x1])) := hf 0 _ rfl
  rw [cellsFS] at g0
  have h0 : Reads W 22 [x0] := g0
  have g1 : Reads W 3 (List.take (Try.prog.cellsOf 3) (List.drop 1 [x0, x1])) := hf 1 _ rfl
  rw [cellsFI] at g1
  have h1 : Reads W 3 [x1] := g1
  obtain ⟨a, cap, fs, e0, r0, r1⟩ := reads_frames h0
  obtain ⟨hand, e1, -⟩ := h1.int Try.underlying3
  simp only [List.cons.injEq, and_true] at e0 e1
  subst e0 e1
  exact ⟨a, cap, fs, hand, rfl, r0, r1⟩
end Go.Proofs.Ytnfjplmpaeiagaa
