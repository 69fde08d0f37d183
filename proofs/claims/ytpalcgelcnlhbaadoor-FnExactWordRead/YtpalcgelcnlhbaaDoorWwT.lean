/- A word as text, by the model: all words. -/
import Derived.Test.YtpalcgelcnlhbaaDoorWwS
import Derived.Test.YtpalcgelcnlhbaaDoorWordT
namespace Go.Proofs.YtpalcgelcnlhbaaDoor
open Go.ChangeShapes Go.WideShapes Go.ChangeAt Go.RowKit Go.Sort

/-- What a word that is ok has. -/
theorem word_bounds {k c t e n : Int} {name data : ByteArray} (h : wordB k c t e n name data = true) :
    (1 ≤ k ∧ k ≤ 6) ∧ (0 ≤ c ∧ c ≤ 99999) ∧ (1 ≤ t ∧ t ≤ 99999) ∧ (0 ≤ e ∧ e ≤ 99999) ∧ (0 ≤ n ∧ n ≤ 99999) ∧ name.size ≤ 6 ∧ data.size ≤ 80 := by
  have h := (wordB_iff k c t e n name data).1 h
  have hn : (nameB name).toNat = 1 → name.size ≤ 6 := by
    intro h
    cases hb : nameB name
    · rw [hb] at h; cases h
    · simp [nameB] at hb; omega
  unfold wordP at h
  omega
/-- A word, its sum ahead. -/
def outW (k c t e n : Nat) (name data : ByteArray) : ByteArray :=
  sevenS (txtOf (decS k) (decS c) (decS t) (decS e) (decS n) name data).data.toList ++ txtOf (decS k) (decS c) (decS t) (decS e) (decS n) name data
theorem sevenS_size (l : List UInt8) : (sevenS l).size ≤ 7 := by
  have h := sumS_bd l
  have := decS_len7 (n := (sumS l).toNat) (by omega)
  rw [sevenS, padK_size]
  omega
theorem txt_size (k c t e n : Nat) (name data : ByteArray) (h1 : k ≤ 99999) (h2 : c ≤ 99999) (h3 : t ≤ 99999) (h4 : e ≤ 99999) (h5 : n ≤ 99999) (hn : name.size ≤ 6) (hd : data.size ≤ 80) :
    (txtOf (decS k) (decS c) (decS t) (decS e) (decS n) name data).size ≤ 300 := by
  have s1 := decS_size k (by omega)
  have s2 := decS_size c (by omega)
  have s3 := decS_size t (by omega)
  have s4 := decS_size e (by omega)
  have s5 := decS_size n (by omega)
  rw [txtOf_size]
  omega

set_option maxHeartbeats 2000000 in
theorem specWordWrite_yes (k c t e n : Nat) (name data : ByteArray) (w : World) (hs : name.size ≤ maxLen) (hd : data.size ≤ maxLen) (h : wordB k c t e n name data = true) :
    Calls Tryd.prog 11 #[.agg #[.int .i64 k, .int .i64 c, .int .i64 t, .int .i64 e, .int .i64 n, .string name, .string data]] w fun r w' => r = .returned (.string (outW k c t e n name data)) ∧ Below w.heap.size w w' := by
  have hb := word_bounds h
  have H := hid (fun w => specWordOk k c t e n name data w hs hd)
  rw [h] at H
  have HW := hid (fun w => l7Write_any k c t e n name data w (by omega) (by omega) (by omega) (by omega) (by omega) (by omega) (by omega))
  have hz := txt_size k c t e n name data (by omega) (by omega) (by omega) (by omega) (by omega) (by omega) (by omega)
  unfold outW
  obtain ⟨X, hX⟩ : ∃ X, X = txtOf (decS k) (decS c) (decS t) (decS e) (decS n) name data := ⟨_, rfl⟩
  rw [← hX] at HW hz ⊢
  have HS := hid (fun w => l7Sum_any X w (by unfold maxLen; omega))
  have h7 := sevenS_size X.data.toList
  obtain ⟨Y, hY⟩ : ∃ Y, Y = sevenS X.data.toList := ⟨_, rfl⟩
  rw [← hY] at HS h7 ⊢
  have X0 := hid (laid w #[.int .i64 k, .int .i64 c, .int .i64 t, .int .i64 e, .int .i64 n, .string name, .string data] 23)
  clear hY hX hs hd h hb
  go_enter Tryd.func11, Tryd.ntmps11
  go_wp2_with (first
    | (go_at_call 10; refine (H.out _).mono ?_; rintro r w1 ⟨rfl, b1⟩; have B1 := hid (below_catD (below_newD _ _) b1); have X1 := hid (kept X0.out b1); have p0 := box_cell X1.out 0 (v := .int .i64 k) rfl; have p1 := box_cell X1.out 1 (v := .int .i64 c) rfl; have p2 := box_cell X1.out 2 (v := .int .i64 t) rfl; have p3 := box_cell X1.out 3 (v := .int .i64 e) rfl; have p4 := box_cell X1.out 4 (v := .int .i64 n) rfl; have p5 := box_cell X1.out 5 (v := .string name) rfl; have p6 := box_cell X1.out 6 (v := .string data) rfl; clear b1)
    | (go_at_call 16; refine (HW.out _).mono ?_; rintro r w2 ⟨rfl, b2⟩; have B2 := hid b2; clear b2)
    | (go_at_call 17; refine (HS.out _).mono ?_; rintro r w3 ⟨rfl, b3⟩; have B3 := hid b3; clear b3))
  go_ret
  exact ⟨rfl, below_catD B1.out (below_catD B2.out B3.out)⟩

set_option maxHeartbeats 2000000 in
theorem specWordWrite_no (k c t e n : Int) (name data : ByteArray) (w : World) (hs : name.size ≤ maxLen) (hd : data.size ≤ maxLen) (hno : wordB k c t e n name data = false) :
    Calls Tryd.prog 11 #[.agg #[.int .i64 k, .int .i64 c, .int .i64 t, .int .i64 e, .int .i64 n, .string name, .string data]] w fun r w' => r = .returned (.string ByteArray.empty) ∧ Below w.heap.size w w' := by
  have H := hid (fun w => specWordOk k c t e n name data w hs hd)
  rw [hno] at H
  clear hno hs hd
  go_enter Tryd.func11, Tryd.ntmps11
  go_wp2_with (go_at_call 10; refine (H.out _).mono ?_; rintro r w1 ⟨rfl, b1⟩; have B1 := hid b1; clear b1)
  go_ret
  exact ⟨rfl, below_catD (below_newD _ _) B1.out⟩
end Go.Proofs.YtpalcgelcnlhbaaDoor
