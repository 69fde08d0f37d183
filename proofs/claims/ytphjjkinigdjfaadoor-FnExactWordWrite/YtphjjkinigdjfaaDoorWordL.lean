/- Words, as the laws take, count and make them. -/
import Derived.Test.YtphjjkinigdjfaaDoorArgs
import Derived.Test.YtphjjkinigdjfaaDoorQB
import Derived.Test.YtphjjkinigdjfaaDoorWordB
namespace Go.Proofs.YtphjjkinigdjfaaDoor
open Go.ChangeShapes Go.WideShapes Go.ChangeAt Go.RowKit Go.Sort

theorem cellsI' : Tryd.prog.cellsOf 3 = 1 := by kernel_rfl
theorem cellsS' : Tryd.prog.cellsOf 9 = 1 := by kernel_rfl
theorem cellsWord : Tryd.prog.cellsOf 23 = 7 := by kernel_rfl
theorem reads_word {W : World} {cs : List Value} (h : Reads W 23 cs) : ∃ (k c t e n : Int) (name data : ByteArray), cs = [.int .i64 k, .int .i64 c, .int .i64 t, .int .i64 e, .int .i64 n, .string name, .string data] ∧ name.size ≤ maxLen ∧ data.size ≤ maxLen := by
  obtain ⟨hl, hf⟩ := h.struct Tryd.underlying23
  rw [cellsWord] at hl
  obtain ⟨x0, x1, x2, x3, x4, x5, x6, rfl⟩ : ∃ x0 x1 x2 x3 x4 x5 x6, cs = [x0, x1, x2, x3, x4, x5, x6] := by
    match cs, hl with
    | [x0, x1, x2, x3, x4, x5, x6], _ => exact ⟨x0, x1, x2, x3, x4, x5, x6, rfl⟩
  have g0 : Reads W 3 (List.take (Tryd.prog.cellsOf 3) (List.drop 0 [x0, x1, x2, x3, x4, x5, x6])) := hf 0 _ rfl
  rw [cellsI'] at g0
  have h0 : Reads W 3 [x0] := g0
  have g1 : Reads W 3 (List.take (Tryd.prog.cellsOf 3) (List.drop 1 [x0, x1, x2, x3, x4, x5, x6])) := hf 1 _ rfl
  rw [cellsI'] at g1
  have h1 : Reads W 3 [x1] := g1
  have g2 : Reads W 3 (List.take (Tryd.prog.cellsOf 3) (List.drop 2 [x0, x1, x2, x3, x4, x5, x6])) := hf 2 _ rfl
  rw [cellsI'] at g2
  have h2 : Reads W 3 [x2] := g2
  have g3 : Reads W 3 (List.take (Tryd.prog.cellsOf 3) (List.drop 3 [x0, x1, x2, x3, x4, x5, x6])) := hf 3 _ rfl
  rw [cellsI'] at g3
  have h3 : Reads W 3 [x3] := g3
  have g4 : Reads W 3 (List.take (Tryd.prog.cellsOf 3) (List.drop 4 [x0, x1, x2, x3, x4, x5, x6])) := hf 4 _ rfl
  rw [cellsI'] at g4
  have h4 : Reads W 3 [x4] := g4
  have g5 : Reads W 9 (List.take (Tryd.prog.cellsOf 9) (List.drop 5 [x0, x1, x2, x3, x4, x5, x6])) := hf 5 _ rfl
  rw [cellsS'] at g5
  have h5 : Reads W 9 [x5] := g5
  have g6 : Reads W 9 (List.take (Tryd.prog.cellsOf 9) (List.drop 6 [x0, x1, x2, x3, x4, x5, x6])) := hf 6 _ rfl
  rw [cellsS'] at g6
  have h6 : Reads W 9 [x6] := g6
  obtain ⟨k, e0, _⟩ := h0.int Tryd.underlying3
  obtain ⟨c, e1, _⟩ := h1.int Tryd.underlying3
  obtain ⟨t, e2, _⟩ := h2.int Tryd.underlying3
  obtain ⟨e, e3, _⟩ := h3.int Tryd.underlying3
  obtain ⟨n, e4, _⟩ := h4.int Tryd.underlying3
  obtain ⟨name, e5, l5⟩ := h5.string Tryd.underlying9
  obtain ⟨data, e6, l6⟩ := h6.string Tryd.underlying9
  simp only [List.cons.injEq, and_true] at e0 e1 e2 e3 e4 e5 e6
  subst e0 e1 e2 e3 e4 e5 e6
  exact ⟨k, c, t, e, n, name, data, rfl, l5, l6⟩

/-- What is left of a number of letters. -/
def szW (left : Int) (n : Nat) : Int := if left - n < 0 then -1 else left - n
theorem szWord_any (k c t e n : Int) (name data : ByteArray) (left : Int) (w : World) (h1 : 0 ≤ left) (h2 : left ≤ 1048576) (hn1 : name.size ≤ maxLen) (hn2 : data.size ≤ maxLen) :
    Calls Tryd.prog 4 #[.agg #[.int .i64 k, .int .i64 c, .int .i64 t, .int .i64 e, .int .i64 n, .string name, .string data], .int .i64 left] w fun r w' => r = .returned (.int .i64 (szW left (name.size + data.size))) ∧ Below w.heap.size w w' := by
  unfold maxLen at hn1 hn2
  by_cases g1 : left - name.size < 0
  · have E := hid (show szW left (name.size + data.size) = -1 from if_pos (by omega))
    go_enter Tryd.func4, Tryd.ntmps4
    go_wp2
    go_ret
    exact ⟨ret_int E.out.symm, below_allocW _ _⟩
  · by_cases g2 : left - name.size - data.size < 0
    · have E := hid (show szW left (name.size + data.size) = -1 from if_pos (by omega))
      go_enter Tryd.func4, Tryd.ntmps4
      go_wp2
      go_ret
      exact ⟨ret_int E.out.symm, below_allocW _ _⟩
    · have E := hid (show szW left (name.size + data.size) = left - name.size - data.size from (if_neg (by omega)).trans (by omega))
      go_enter Tryd.func4, Tryd.ntmps4
      go_wp2
      go_ret
      exact ⟨ret_int E.out.symm, below_allocW _ _⟩

set_option maxHeartbeats 2000000 in
theorem toWord_any (k c t e n : Int) (name data : ByteArray) (w : World) :
    Calls Tryd.prog 6 #[.agg #[.int .i64 k, .int .i64 c, .int .i64 t, .int .i64 e, .int .i64 n, .string name, .string data]] w fun r w' => r = .returned (.agg #[.int .i64 k, .int .i64 c, .int .i64 t, .int .i64 e, .int .i64 n, .string name, .string data]) ∧ Below w.heap.size w w' := by
  go_enter Tryd.func6, Tryd.ntmps6
  go_wp2_with fail
  exact bodyPost_ret (v := .agg #[.int .i64 k, .int .i64 c, .int .i64 t, .int .i64 e, .int .i64 n, .string name, .string data]) (by simp [results, Tryd.results6, go_sem]) rfl ⟨rfl, below_catW (below_allocW _ _) (below_catW (below_allocW _ _) (below_allocW _ _))⟩
end Go.Proofs.YtphjjkinigdjfaaDoor
