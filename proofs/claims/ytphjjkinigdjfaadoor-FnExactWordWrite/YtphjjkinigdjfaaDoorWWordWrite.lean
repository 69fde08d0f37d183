/- The walk of the law on words as text. -/
import Derived.Test.YtphjjkinigdjfaaDoorWordL
import Derived.Test.YtphjjkinigdjfaaDoorWwI
namespace Go.Proofs.YtphjjkinigdjfaaDoor
open Go.ChangeShapes Go.WideShapes Go.ChangeAt Go.RowKit Go.Sort

/-- Both answer alike. -/
theorem write_both (k c t e n : Int) (name data : ByteArray) (hs : name.size ≤ maxLen) (hd : data.size ≤ maxLen) : ∃ X : ByteArray,
    (∀ w, Calls Tryd.prog 5 #[.agg #[.int .i64 k, .int .i64 c, .int .i64 t, .int .i64 e, .int .i64 n, .string name, .string data]] w fun r w' => r = .returned (.string X) ∧ Below w.heap.size w w') ∧
    (∀ w, Pow w → Calls Tryd.prog 7 #[.agg #[.int .i64 k, .int .i64 c, .int .i64 t, .int .i64 e, .int .i64 n, .string name, .string data]] w fun r w' => r = .returned (.string X) ∧ Below w.heap.size w w') := by
  cases h : wordB k c t e n name data
  · exact ⟨ByteArray.empty, fun w => specWordWrite_no k c t e n name data w hs hd h, fun w _ => implWordWrite_no k c t e n name data w hs h⟩
  · have hb := word_bounds h
    obtain ⟨k', rfl⟩ : ∃ k' : Nat, k = k' := ⟨k.toNat, by omega⟩
    obtain ⟨c', rfl⟩ : ∃ c' : Nat, c = c' := ⟨c.toNat, by omega⟩
    obtain ⟨t', rfl⟩ : ∃ t' : Nat, t = t' := ⟨t.toNat, by omega⟩
    obtain ⟨e', rfl⟩ : ∃ e' : Nat, e = e' := ⟨e.toNat, by omega⟩
    obtain ⟨n', rfl⟩ : ∃ n' : Nat, n = n' := ⟨n.toNat, by omega⟩
    exact ⟨outW k' c' t' e' n' name data, fun w => specWordWrite_yes k' c' t' e' n' name data w hs hd h, fun w hp => implWordWrite_yes k' c' t' e' n' name data w hs h hp⟩

set_option maxHeartbeats 2000000 in
theorem walk_FnExactWordWrite (cs0 : List Value) (w : World) (w0 : Reads w 23 cs0) (hp : Pow w) :
    Calls Tryd.prog 3 #[.agg cs0.toArray] w fun r w' => r = .returned (.bool true) ∧ Below w.heap.size w w' := by
  obtain ⟨k, c, t, e, n, name, data, rfl, l5, l6⟩ := reads_word w0
  show Calls Tryd.prog 3 #[.agg #[.int .i64 k, .int .i64 c, .int .i64 t, .int .i64 e, .int .i64 n, .string name, .string data]] w _
  have L5 := hid l5
  have L6 := hid l6
  obtain ⟨X, hS, hI⟩ := write_both k c t e n name data l5 l6
  have HS := hid hS
  have HI := hid hI
  have HP := hid hp
  clear w0 l5 l6 hS hI hp
  go_enter Tryd.func3, Tryd.ntmps3
  go_wp2_with fail
  refine (szWord_any k c t e n name data 1048576 _ (by omega) (by omega) L5.out L6.out).mono ?_
  rintro r w1 ⟨rfl, b1⟩
  have X1 := hid (kept (laid w #[.int .i64 k, .int .i64 c, .int .i64 t, .int .i64 e, .int .i64 n, .string name, .string data] 23) b1)
  have B1 := hid (below_catW (below_allocW _ _) b1)
  clear b1
  by_cases hz : szW 1048576 (name.size + data.size) < 0
  · go_wp2_with fail
    go_ret
    exact ⟨rfl, B1.out⟩
  have p0 := box_cell X1.out 0 (v := .int .i64 k) rfl
  have p1 := box_cell X1.out 1 (v := .int .i64 c) rfl
  have p2 := box_cell X1.out 2 (v := .int .i64 t) rfl
  have p3 := box_cell X1.out 3 (v := .int .i64 e) rfl
  have p4 := box_cell X1.out 4 (v := .int .i64 n) rfl
  have p5 := box_cell X1.out 5 (v := .string name) rfl
  have p6 := box_cell X1.out 6 (v := .string data) rfl
  go_wp2_with fail
  refine (toWord_any k c t e n name data _).mono ?_
  rintro r w2 ⟨rfl, b2⟩
  go_wp2_with fail
  refine (HS.out _).mono ?_
  rintro r w3 ⟨rfl, b3⟩
  have X3 := hid (kept (kept X1.out b2) b3)
  have B3 := hid (below_catW (below_catW B1.out b2) b3)
  clear b2 b3 p0 p1 p2 p3 p4 p5 p6
  have p0 := box_cell X3.out 0 (v := .int .i64 k) rfl
  have p1 := box_cell X3.out 1 (v := .int .i64 c) rfl
  have p2 := box_cell X3.out 2 (v := .int .i64 t) rfl
  have p3 := box_cell X3.out 3 (v := .int .i64 e) rfl
  have p4 := box_cell X3.out 4 (v := .int .i64 n) rfl
  have p5 := box_cell X3.out 5 (v := .string name) rfl
  have p6 := box_cell X3.out 6 (v := .string data) rfl
  go_wp2_with fail
  refine (toWord_any k c t e n name data _).mono ?_
  rintro r w4 ⟨rfl, b4⟩
  have B4 := hid (below_catW B3.out b4)
  clear b4
  go_wp2_with fail
  refine (HI.out _ (HP.out.below B4.out)).mono ?_
  rintro r w5 ⟨rfl, b5⟩
  have B5 := hid (below_catW B4.out b5)
  clear b5
  go_wp2_with fail
  go_ret
  exact ⟨rfl, B5.out⟩
end Go.Proofs.YtphjjkinigdjfaaDoor
