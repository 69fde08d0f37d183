/- Buckets, as the laws make and compare them. -/
import Derived.Test.YtkfeghickboagaaBktA
import Derived.Test.YtkfeghickboagaaArgs
namespace Go.Proofs.Ytkfeghickboagaa
open Go.ChangeShapes Go.WideShapes Go.ChangeAt Go.RowKit Go.Sort

theorem cellsBI : Try.prog.cellsOf 3 = 1 := by kernel_rfl
theorem cellsBkt : Try.prog.cellsOf 23 = 4 := by kernel_rfl
theorem reads_bucket {W : World} {cs : List Value} (h : Reads W 23 cs) : ∃ lv mo ra at', cs = [.int .i64 lv, .int .i64 mo, .int .i64 ra, .int .i64 at'] ∧
    (Lit.int .i64 lv).wf = true ∧ (Lit.int .i64 mo).wf = true ∧ (Lit.int .i64 ra).wf = true ∧ (Lit.int .i64 at').wf = true := by
  obtain ⟨hl, hf⟩ := h.struct Try.underlying23
  rw [cellsBkt] at hl
  obtain ⟨x0, x1, x2, x3, rfl⟩ : ∃ x0 x1 x2 x3, cs = [x0, x1, x2, x3] := by
    match cs, hl with
    | [x0, x1, x2, x3], _ => exact ⟨x0, x1, x2, x3, rfl⟩
  have g0 : Reads W 3 (List.take (Try.prog.cellsOf 3) (List.drop 0 [x0, x1, x2, x3])) := hf 0 _ rfl
  rw [cellsBI] at g0
  have h0 : Reads W 3 [x0] := g0
  have g1 : Reads W 3 (List.take (Try.prog.cellsOf 3) (List.drop 1 [x0, x1, x2, x3])) := hf 1 _ rfl
  rw [cellsBI] at g1
  have h1 : Reads W 3 [x1] := g1
  have g2 : Reads W 3 (List.take (Try.prog.cellsOf 3) (List.drop 2 [x0, x1, x2, x3])) := hf 2 _ rfl
  rw [cellsBI] at g2
  have h2 : Reads W 3 [x2] := g2
  have g3 : Reads W 3 (List.take (Try.prog.cellsOf 3) (List.drop 3 [x0, x1, x2, x3])) := hf 3 _ rfl
  rw [cellsBI] at g3
  have h3 : Reads W 3 [x3] := g3
  obtain ⟨lv, e0, wf0⟩ := h0.int Try.underlying3
  obtain ⟨mo, e1, wf1⟩ := h1.int Try.underlying3
  obtain ⟨ra, e2, wf2⟩ := h2.int Try.underlying3
  obtain ⟨at', e3, wf3⟩ := h3.int Try.underlying3
  simp only [List.cons.injEq, and_true] at e0 e1 e2 e3
  subst e0 e1 e2 e3
  exact ⟨lv, mo, ra, at', rfl, wf0, wf1, wf2, wf3⟩

theorem toBucket_any (lv mo ra at' : Int) (w : World) :
    Calls Try.prog 8 #[.agg #[.int .i64 lv, .int .i64 mo, .int .i64 ra, .int .i64 at']] w fun e w' => e = .returned (.agg #[.int .i64 lv, .int .i64 mo, .int .i64 ra, .int .i64 at']) ∧ Below w.heap.size w w' := by
  go_enter Try.func8, Try.ntmps8
  go_wp2
  refine bodyPost_ret (v := .agg #[.int .i64 lv, .int .i64 mo, .int .i64 ra, .int .i64 at']) ?_ rfl ⟨rfl, (((Below.refl _ _).alloc (Nat.le_refl _) _).alloc (by simp) _).alloc (by simp; omega) _⟩
  simp [results, Try.results8, go_sem]
end Go.Proofs.Ytkfeghickboagaa
