/- A plan that came in. -/
import Derived.Test.YtcoofoiaaljpoaaArgs
namespace Go.Proofs.Ytcoofoiaaljpoaa
open Go.ChangeShapes Go.WideShapes Go.ChangeAt Go.RowKit

theorem cellsI : Try.prog.cellsOf 3 = 1 := by kernel_rfl
theorem cellsNs : Try.prog.cellsOf 22 = 1 := by kernel_rfl
theorem cellsPlan : Try.prog.cellsOf 24 = 4 := by kernel_rfl
set_option maxRecDepth 100000 in
theorem reads_plan {W : World} {cs : List Value} (h : Reads W 24 cs) : ∃ long size a1 n1 k1 z1 a2 n2 k2 z2, cs = [.int .i64 long, .int .i64 size, .slice a1 n1 k1, .slice a2 n2 k2] ∧
    (Lit.int .i64 long).wf = true ∧ (Lit.int .i64 size).wf = true ∧ IsRow .i64 W a1 n1 k1 z1 ∧ IsRow .i64 W a2 n2 k2 z2 := by
  obtain ⟨hl, hf⟩ := h.struct Try.underlying24
  rw [cellsPlan] at hl
  obtain ⟨x0, x1, x2, x3, rfl⟩ : ∃ x0 x1 x2 x3, cs = [x0, x1, x2, x3] := by
    match cs, hl with
    | [x0, x1, x2, x3], _ => exact ⟨x0, x1, x2, x3, rfl⟩
  have g0 : Reads W 3 (List.take (Try.prog.cellsOf 3) (List.drop 0 [x0, x1, x2, x3])) := hf 0 _ rfl
  rw [cellsI] at g0
  have h0 : Reads W 3 [x0] := g0
  have g1 : Reads W 3 (List.take (Try.prog.cellsOf 3) (List.drop 1 [x0, x1, x2, x3])) := hf 1 _ rfl
  rw [cellsI] at g1
  have h1 : Reads W 3 [x1] := g1
  have g2 : Reads W 22 (List.take (Try.prog.cellsOf 22) (List.drop 2 [x0, x1, x2, x3])) := hf 2 _ rfl
  rw [cellsNs] at g2
  have h2 : Reads W 22 [x2] := g2
  have g3 : Reads W 22 (List.take (Try.prog.cellsOf 22) (List.drop 3 [x0, x1, x2, x3])) := hf 3 _ rfl
  rw [cellsNs] at g3
  have h3 : Reads W 22 [x3] := g3
  obtain ⟨long, e0, wf0⟩ := h0.int Try.underlying3
  obtain ⟨size, e1, wf1⟩ := h1.int Try.underlying3
  obtain ⟨a1, n1, k1, z1, e2, r1⟩ := h2.ints Try.underlying22 Try.underlying3 cellsI
  obtain ⟨a2, n2, k2, z2, e3, r2⟩ := h3.ints Try.underlying22 Try.underlying3 cellsI
  simp only [List.cons.injEq, and_true] at e0 e1 e2 e3
  subst e0 e1 e2 e3
  exact ⟨long, size, a1, n1, k1, z1, a2, n2, k2, z2, rfl, wf0, wf1, r1, r2⟩
theorem isRow_le {k : IntKind} {w : World} {a : Option Addr} {len cap : Nat} {zs : List Int} (h : IsRow k w a len cap zs) : len ≤ 9223372036854775807 := by
  rcases h with ⟨_, rfl, _, rfl⟩ | ⟨x, _, h1, h2, h3, _⟩
  · omega
  · unfold maxLen at h2; omega
end Go.Proofs.Ytcoofoiaaljpoaa
