/- Words read: what is a word's text; the program. -/
import Derived.Test.YtpalcgelcnlhbaaDoorWwI
import Derived.Test.YtpalcgelcnlhbaaDoorWrQ
import Derived.Test.YtpalcgelcnlhbaaDoorSpT
namespace Go.Proofs.YtpalcgelcnlhbaaDoor
open Go.ChangeShapes Go.WideShapes Go.ChangeAt Go.RowKit Go.Sort

theorem name_no {k c t e n : Int} {name data : ByteArray} (h : wordB k c t e n name data = true) (b : UInt8) (hb : b.toNat < 97) : b ∉ name.data.toList := by
  have h := (wordB_iff k c t e n name data).1 h
  cases hn : nameB name
  · have hz : name.size = 0 := by
      unfold wordP at h
      rw [hn] at h
      simp only [Bool.toNat_false] at h
      omega
    have e : name.data.toList = [] := List.eq_nil_of_length_eq_zero (by rw [Array.length_toList]; exact hz)
    rw [e]
    simp
  · rw [nameB, Bool.and_eq_true, List.all_eq_true] at hn
    intro hm
    have := hn.1 b hm
    simp only [ltr, decide_eq_true_eq] at this
    omega
theorem seven7 (l : List UInt8) : (sevenS l).size = 7 := by
  have h := sumS_bd l
  have := decS_len7 (n := (sumS l).toNat) (by omega)
  rw [sevenS, padK_size]
  omega
theorem txt_sfx (k c t e n : Nat) (name data : ByteArray) : txtOf (decS k) (decS c) (decS t) (decS e) (decS n) name data = sfx [k, c, t, e, n] ((name ++ (⟨#[58]⟩ : ByteArray)) ++ data) := (txt_list k c t e n name data).symm
/-- A text behind seven bytes. -/
theorem ext7 (A B : ByteArray) (h : A.size = 7) : (A ++ B).extract 7 (A ++ B).size = B := by
  apply ByteArray.ext
  apply Array.toList_inj.1
  rw [ByteArray.data_extract, Array.toList_extract, List.extract_eq_take_drop]
  have e : (A ++ B).data.toList = A.data.toList ++ B.data.toList := by simp
  have hl : A.data.toList.length = 7 := by rw [Array.length_toList]; exact h
  rw [e, List.drop_append_of_le_length (by omega), List.drop_of_length_le (by omega), List.nil_append, ByteArray.size_append, h]
  apply List.take_of_length_le
  rw [Array.length_toList]
  show B.size ≤ _
  omega
/-- A word's text. -/
structure Good (s : ByteArray) (k c t e n : Nat) (name data : ByteArray) : Prop where
  ok : wordB k c t e n name data = true
  eq : outW k c t e n name data = s
theorem Good.facts {s : ByteArray} {k c t e n : Nat} {name data : ByteArray} (h : Good s k c t e n name data) :
    7 ≤ s.size ∧ s.size ≤ 160 ∧ s.extract 7 s.size = sfx [k, c, t, e, n] ((name ++ (⟨#[58]⟩ : ByteArray)) ++ data) := by
  have hb := word_bounds h.ok
  have h7 := seven7 (txtOf (decS k) (decS c) (decS t) (decS e) (decS n) name data).data.toList
  have s1 := decS_len6 (n := k) (by omega)
  have s2 := decS_len6 (n := c) (by omega)
  have s3 := decS_len6 (n := t) (by omega)
  have s4 := decS_len6 (n := e) (by omega)
  have s5 := decS_len6 (n := n) (by omega)
  have hz : s.size = 7 + (decS k).size + (decS c).size + (decS t).size + (decS e).size + (decS n).size + name.size + data.size + 6 := by
    rw [← h.eq, outW, ByteArray.size_append, h7, txtOf_size]
    omega
  refine ⟨by omega, by omega, ?_⟩
  rw [← txt_sfx, ← h.eq, outW]
  exact ext7 _ _ h7

/-- What is written of what is no word's text is another text. -/
theorem write_other (s : ByteArray) (hno : ∀ k c t e n name data, ¬ Good s k c t e n name data) (h7 : 7 ≤ s.size) (k c t e n : Int) (name data : ByteArray) (hs : name.size ≤ maxLen) : ∃ X : ByteArray, X ≠ s ∧
    ∀ w, Pow w → Calls Tryd.prog 13 #[.agg #[.int .i64 k, .int .i64 c, .int .i64 t, .int .i64 e, .int .i64 n, .string name, .string data]] w fun r w' => r = .returned (.string X) ∧ Below w.heap.size w w' := by
  cases h : wordB k c t e n name data
  · refine ⟨ByteArray.empty, ?_, fun w _ => implWordWrite_no k c t e n name data w hs h⟩
    rintro rfl
    exact absurd h7 (by decide)
  · have hb := word_bounds h
    obtain ⟨k', rfl⟩ : ∃ k' : Nat, k = k' := ⟨k.toNat, by omega⟩
    obtain ⟨c', rfl⟩ : ∃ c' : Nat, c = c' := ⟨c.toNat, by omega⟩
    obtain ⟨t', rfl⟩ : ∃ t' : Nat, t = t' := ⟨t.toNat, by omega⟩
    obtain ⟨e', rfl⟩ : ∃ e' : Nat, e = e' := ⟨e.toNat, by omega⟩
    obtain ⟨n', rfl⟩ : ∃ n' : Nat, n = n' := ⟨n.toNat, by omega⟩
    exact ⟨outW k' c' t' e' n' name data, fun he => hno k' c' t' e' n' name data ⟨h, he⟩, fun w hp => implWordWrite_yes k' c' t' e' n' name data w hs h hp⟩

/-- Facts on the answer's block, laid as zero, and one written behind it. -/
theorem res0 (w : World) : (w.alloc (.cells #[.int .i64 0, .int .i64 0, .int .i64 0, .int .i64 0, .int .i64 0, .string ⟨#[]⟩, .string ⟨#[]⟩] 23)).heap[w.heap.size]? = some (.cells #[.int .i64 0, .int .i64 0, .int .i64 0, .int .i64 0, .int .i64 0, .string ⟨#[]⟩, .string ⟨#[]⟩] 23 (0, 0)) := laid w _ _

set_option maxHeartbeats 8000000 in
set_option maxRecDepth 100000 in
theorem implWordRead_yes (s : ByteArray) (k c t e n : Nat) (name data : ByteArray) (w : World) (h : Good s k c t e n name data) (he : Env w) :
    Calls Tryd.prog 5 #[.string s] w fun r w' => r = .returned (.tuple #[.agg #[.int .i64 k, .int .i64 c, .int .i64 t, .int .i64 e, .int .i64 n, .string name, .string data], .bool true]) ∧ Below w.heap.size w w' := by
  obtain ⟨g1, g2, g3⟩ := h.facts
  have hb := word_bounds h.ok
  have hml : name.size ≤ maxLen := by unfold maxLen; omega
  have HW := hid (fun w hp => implWordWrite_yes k c t e n name data w hml h.ok hp)
  rw [h.eq] at HW
  have HP := hid (fun w he => wordParts_yes k c t e n name data w (by omega) (by omega) (by omega) (by omega) (by omega) (by omega) (by omega) (name_no h.ok 58 (by decide)) he)
  obtain ⟨X, hX⟩ : ∃ X, X = sfx [k, c, t, e, n] ((name ++ (⟨#[58]⟩ : ByteArray)) ++ data) := ⟨_, rfl⟩
  rw [← hX] at HP g3
  have HE := hid he
  have R0 := hid (res0 w)
  clear hX hml hb h he
  go_enter Tryd.func5, Tryd.ntmps5
  go_wp2_with (first
    | (go_at_call 12; refine (HP.out _ (HE.out.below (below_newD _ _))).mono ?_; rintro r w1 ⟨rfl, b1⟩; have B1 := hid (below_catD (below_newD _ _) b1); have R1 := hid (kept R0.out b1); clear b1)
    | (go_at_call 13; refine (HW.out _ (HE.out.pow.below (below_catD B1.out (below_newD _ _)))).mono ?_; rintro r w2 ⟨rfl, b2⟩; have B2 := hid (below_catD (below_catD B1.out (below_newD _ _)) b2); have R2 := hid (kept (kept R1.out (below_newD _ _)) b2); have X2 := hid (kept (laid w1 _ _) b2); clear b2; have q0 := box_cell X2.out 0 (v := .int .i64 k) rfl; have q1 := box_cell X2.out 1 (v := .int .i64 c) rfl; have q2 := box_cell X2.out 2 (v := .int .i64 t) rfl; have q3 := box_cell X2.out 3 (v := .int .i64 e) rfl; have q4 := box_cell X2.out 4 (v := .int .i64 n) rfl; have q5 := box_cell X2.out 5 (v := .string name) rfl; have q6 := box_cell X2.out 6 (v := .string data) rfl; have r0 := box_cell R2.out 0 (v := .int .i64 0) rfl; have r1 := box_cell R2.out 1 (v := .int .i64 0) rfl; have r2 := box_cell R2.out 2 (v := .int .i64 0) rfl; have r3 := box_cell R2.out 3 (v := .int .i64 0) rfl; have r4 := box_cell R2.out 4 (v := .int .i64 0) rfl; have r5 := box_cell R2.out 5 (v := .string ⟨#[]⟩) rfl; have r6 := box_cell R2.out 6 (v := .string ⟨#[]⟩) rfl; have z0 := box_frozen R2.out 0; have z1 := box_frozen R2.out 1; have z2 := box_frozen R2.out 2; have z3 := box_frozen R2.out 3; have z4 := box_frozen R2.out 4; have z5 := box_frozen R2.out 5; have z6 := box_frozen R2.out 6; have l0 := lt_of_block R2.out; have l1 := lt_of_block X2.out))
  obtain ⟨V, hV, Z7, HB⟩ := set7 R2.out (.int .i64 k) (.int .i64 c) (.int .i64 t) (.int .i64 e) (.int .i64 n) (.string name) (.string data)
  have HB' := HB w (Nat.le_refl _) B2.out
  rw [← hV]
  have v0 := box_cell Z7 0 (v := .int .i64 k) rfl
  have v1 := box_cell Z7 1 (v := .int .i64 c) rfl
  have v2 := box_cell Z7 2 (v := .int .i64 t) rfl
  have v3 := box_cell Z7 3 (v := .int .i64 e) rfl
  have v4 := box_cell Z7 4 (v := .int .i64 n) rfl
  have v5 := box_cell Z7 5 (v := .string name) rfl
  have v6 := box_cell Z7 6 (v := .string data) rfl
  clear hV
  refine bodyPost_ret (w := V) (v := .tuple #[.agg #[.int .i64 k, .int .i64 c, .int .i64 t, .int .i64 e, .int .i64 n, .string name, .string data], .bool true]) ?_ rfl ⟨rfl, HB'⟩
  simp [results, Tryd.results5, go_sem, v0, v1, v2, v3, v4, v5, v6]
end Go.Proofs.YtpalcgelcnlhbaaDoor
