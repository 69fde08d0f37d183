/- Words: what is ok by the model. -/
import Derived.Test.YtpalcgelcnlhbaaDoorWordQ
import Derived.WalkSpells
import Derived.Deep.Light
namespace Go.Proofs.YtpalcgelcnlhbaaDoor
open Go.ChangeShapes Go.WideShapes Go.ChangeAt Go.RowKit Go.Sort

theorem emp (s : ByteArray) : s.toList.isEmpty = decide (s.size = 0) := by
  rw [ByteArray.toList_eq, Bool.eq_iff_iff, List.isEmpty_iff, decide_eq_true_eq, ← List.length_eq_zero_iff]
  simp
theorem emp' (s : ByteArray) : (s.toList == (⟨#[]⟩ : ByteArray).toList) = decide (s.size = 0) := by
  rw [ByteArray.toList_eq, ByteArray.toList_eq, Bool.eq_iff_iff, beq_iff_eq, decide_eq_true_eq]
  show s.data.toList = [] ↔ _
  rw [← List.length_eq_zero_iff]
  simp
/-- A word that is ok, told by its sizes. -/
def wordP (k c t e n : Int) (nm : Nat) (ns ds : Nat) : Prop := 0 ≤ c ∧ c ≤ 99999 ∧ 1 ≤ t ∧ t ≤ 99999 ∧
  ((k = 1 ∧ 0 ≤ e ∧ e ≤ 99999 ∧ n = 0 ∧ nm = 1 ∧ ds = 0) ∨ (k = 2 ∧ 1 ≤ e ∧ e ≤ 99999 ∧ n = 0 ∧ ns = 0 ∧ 1 ≤ ds ∧ ds ≤ 80) ∨
   (k = 3 ∧ 1 ≤ e ∧ e ≤ 99999 ∧ 0 ≤ n ∧ n ≤ 99999 ∧ ns = 0 ∧ 1 ≤ ds ∧ ds ≤ 80) ∨ ((k = 4 ∨ k = 5) ∧ 1 ≤ e ∧ e ≤ 99999 ∧ 0 ≤ n ∧ n ≤ 99999 ∧ ns = 0 ∧ ds = 0) ∨
   (k = 6 ∧ 0 ≤ e ∧ e ≤ 99999 ∧ n = 0 ∧ ns = 0 ∧ ds = 0))
theorem wordB_iff (k c t e n : Int) (name data : ByteArray) : wordB k c t e n name data = true ↔ wordP k c t e n (nameB name).toNat name.size data.size := by
  unfold wordP
  by_cases h1 : k = 1
  · subst h1
    rw [show wordB 1 c t e n name data = (cntB c && (cntB t && (decide (1 ≤ t) && ((cntB e && nameB name) && (n == 0 && (name.toList == name.toList && data.toList == (⟨#[]⟩ : ByteArray).toList)))))) from rfl]
    simp only [emp', cntB, beq_self_eq_true, Bool.true_and, Bool.and_eq_true, decide_eq_true_eq, beq_iff_eq, true_and]
    cases nameB name <;> simp only [Bool.toNat_true, Bool.toNat_false, Bool.false_eq_true, true_and, and_true, false_and, and_false] <;> constructor <;> intro h <;> first | exact h.elim | omega
  by_cases h2 : k = 2
  · subst h2
    rw [show wordB 2 c t e n name data = (cntB c && (cntB t && (decide (1 ≤ t) && ((edB e && datB data) && (n == 0 && (name.toList == (⟨#[]⟩ : ByteArray).toList && data.toList == data.toList)))))) from rfl]
    simp only [emp', cntB, edB, datB, beq_self_eq_true, Bool.and_true, Bool.and_eq_true, decide_eq_true_eq, beq_iff_eq, true_and]
    constructor <;> intro h <;> omega
  by_cases h3 : k = 3
  · subst h3
    rw [show wordB 3 c t e n name data = (cntB c && (cntB t && (decide (1 ≤ t) && ((edB e && cntB n && datB data) && (n == n && (name.toList == (⟨#[]⟩ : ByteArray).toList && data.toList == data.toList)))))) from rfl]
    simp only [emp', cntB, edB, datB, beq_self_eq_true, Bool.and_true, Bool.true_and, Bool.and_eq_true, decide_eq_true_eq, true_and]
    constructor <;> intro h <;> omega
  by_cases h4 : k = 4
  · subst h4
    rw [show wordB 4 c t e n name data = (cntB c && (cntB t && (decide (1 ≤ t) && ((edB e && cntB n) && (n == n && (name.toList == (⟨#[]⟩ : ByteArray).toList && data.toList == (⟨#[]⟩ : ByteArray).toList)))))) from rfl]
    simp only [emp', cntB, edB, beq_self_eq_true, Bool.true_and, Bool.and_eq_true, decide_eq_true_eq, true_and, true_or]
    constructor <;> intro h <;> omega
  by_cases h5 : k = 5
  · subst h5
    rw [show wordB 5 c t e n name data = (cntB c && (cntB t && (decide (1 ≤ t) && ((edB e && cntB n) && (n == n && (name.toList == (⟨#[]⟩ : ByteArray).toList && data.toList == (⟨#[]⟩ : ByteArray).toList)))))) from rfl]
    simp only [emp', cntB, edB, beq_self_eq_true, Bool.true_and, Bool.and_eq_true, decide_eq_true_eq, true_and, or_true]
    constructor <;> intro h <;> omega
  by_cases h6 : k = 6
  · subst h6
    rw [show wordB 6 c t e n name data = (cntB c && (cntB t && (decide (1 ≤ t) && ((cntB e) && (n == 0 && (name.toList == (⟨#[]⟩ : ByteArray).toList && data.toList == (⟨#[]⟩ : ByteArray).toList)))))) from rfl]
    simp only [emp', cntB, Bool.and_eq_true, decide_eq_true_eq, beq_iff_eq, true_and]
    constructor <;> intro h <;> omega
  simp [wordB, h1, h2, h3, h4, h5, h6]
theorem wordB_no {k c t e n : Int} {name data : ByteArray} (h : ¬ wordP k c t e n (nameB name).toNat name.size data.size) : wordB k c t e n name data = false := by
  cases g : wordB k c t e n name data with
  | false => rfl
  | true => exact absurd ((wordB_iff k c t e n name data).1 g) h

set_option maxHeartbeats 4000000 in
theorem specWord_k (k c t e n : Int) (name data : ByteArray) (w : World) (h1 : (k == 1) = false) (c1 : 0 ≤ c ∧ c ≤ 99999) (t1 : 1 ≤ t ∧ t ≤ 99999) (e1 : 0 ≤ e ∧ e ≤ 99999) (n1 : 0 ≤ n ∧ n ≤ 99999) (d1 : data.size ≤ 80) :
    Calls Tryd.prog 10 #[.agg #[.int .i64 k, .int .i64 c, .int .i64 t, .int .i64 e, .int .i64 n, .string name, .string data]] w fun r w' => r = .returned (.bool (wordB k c t e n name data)) ∧ Below w.heap.size w w' := by
  have d1' : decide (80 < (data.size : Int)) = false := by simp; omega
  go_enter Tryd.func10, Tryd.ntmps10
  go_wp2_with (first | (go_at_call_of 14 (Value.int .i64 c); refine (l1In_yes _ _ _ _ (by omega)).mono ?_; rintro r w2 ⟨rfl, hw⟩; subst hw) | (go_at_call_of 14 (Value.int .i64 t); refine (l1In_yes _ _ _ _ (by omega)).mono ?_; rintro r w2 ⟨rfl, hw⟩; subst hw) | (go_at_call_of 14 (Value.int .i64 e); refine (l1In_yes _ _ _ _ (by omega)).mono ?_; rintro r w2 ⟨rfl, hw⟩; subst hw) | (go_at_call_of 14 (Value.int .i64 n); refine (l1In_yes _ _ _ _ (by omega)).mono ?_; rintro r w2 ⟨rfl, hw⟩; subst hw))
  all_goals go_ret
  all_goals refine ⟨ret_bool ?_, below_allocW _ _⟩
  all_goals go_light
  all_goals rw [Bool.eq_iff_iff, wordB_iff]
  all_goals unfold wordP
  all_goals simp only [emp, beq_iff_eq, beq_eq_false_iff_ne, Bool.not_eq_eq_eq_not, Bool.not_true, Bool.not_false, decide_eq_true_eq, decide_eq_false_iff_not, ne_eq, Bool.false_eq_true] at *
  all_goals (constructor <;> intro h <;> first | exact h.elim | omega)

set_option maxHeartbeats 4000000 in
theorem specWord_1 (c t e n : Int) (name data : ByteArray) (w : World) (hs : name.size ≤ maxLen) (c1 : 0 ≤ c ∧ c ≤ 99999) (t1 : 1 ≤ t ∧ t ≤ 99999) (e1 : 0 ≤ e ∧ e ≤ 99999) (n1 : 0 ≤ n ∧ n ≤ 99999) (d1 : data.size ≤ 80) :
    Calls Tryd.prog 10 #[.agg #[.int .i64 1, .int .i64 c, .int .i64 t, .int .i64 e, .int .i64 n, .string name, .string data]] w fun r w' => r = .returned (.bool (wordB 1 c t e n name data)) ∧ Below w.heap.size w w' := by
  have d1' : decide (80 < (data.size : Int)) = false := by simp; omega
  have HS := hid hs
  clear hs
  cases hn : nameB name with
  | false =>
    have HB := hid (show wordB 1 c t e n name data = false from wordB_no (by rw [hn]; unfold wordP; simp))
    have HN := hid hn
    clear hn
    go_enter Tryd.func10, Tryd.ntmps10
    go_wp2_with (first | (go_at_call_of 14 (Value.int .i64 c); refine (l1In_yes _ _ _ _ (by omega)).mono ?_; rintro r w2 ⟨rfl, hw⟩; subst hw) | (go_at_call_of 14 (Value.int .i64 t); refine (l1In_yes _ _ _ _ (by omega)).mono ?_; rintro r w2 ⟨rfl, hw⟩; subst hw) | (go_at_call_of 14 (Value.int .i64 e); refine (l1In_yes _ _ _ _ (by omega)).mono ?_; rintro r w2 ⟨rfl, hw⟩; subst hw) | (go_at_call_of 14 (Value.int .i64 n); refine (l1In_yes _ _ _ _ (by omega)).mono ?_; rintro r w2 ⟨rfl, hw⟩; subst hw) | (go_at_call 15; refine (specNameOk name _ HS.out).mono ?_; rintro r w2 ⟨rfl, hw⟩; rw [HN.out]; subst hw))
    go_ret
    exact ⟨ret_bool HB.out.symm, below_allocW _ _⟩
  | true =>
    have HN := hid hn
    have HT := hid (show (nameB name).toNat = 1 by rw [hn]; rfl)
    clear hn
    go_enter Tryd.func10, Tryd.ntmps10
    go_wp2_with (first | (go_at_call_of 14 (Value.int .i64 c); refine (l1In_yes _ _ _ _ (by omega)).mono ?_; rintro r w2 ⟨rfl, hw⟩; subst hw) | (go_at_call_of 14 (Value.int .i64 t); refine (l1In_yes _ _ _ _ (by omega)).mono ?_; rintro r w2 ⟨rfl, hw⟩; subst hw) | (go_at_call_of 14 (Value.int .i64 e); refine (l1In_yes _ _ _ _ (by omega)).mono ?_; rintro r w2 ⟨rfl, hw⟩; subst hw) | (go_at_call_of 14 (Value.int .i64 n); refine (l1In_yes _ _ _ _ (by omega)).mono ?_; rintro r w2 ⟨rfl, hw⟩; subst hw) | (go_at_call 15; refine (specNameOk name _ HS.out).mono ?_; rintro r w2 ⟨rfl, hw⟩; rw [HN.out]; subst hw))
    all_goals go_ret
    all_goals refine ⟨ret_bool ?_, below_allocW _ _⟩
    all_goals go_light
    all_goals have ht := HT.out
    all_goals rw [Bool.eq_iff_iff, wordB_iff]
    all_goals unfold wordP
    all_goals simp only [emp, decide_eq_true_eq, decide_eq_false_iff_not, Bool.false_eq_true, true_and] at *
    all_goals (constructor <;> intro h <;> first | exact h.elim | omega)

set_option maxHeartbeats 4000000 in
theorem specWord_out (k c t e n : Int) (name data : ByteArray) (w : World) (hd : data.size ≤ maxLen) (h : ¬ ((0 ≤ c ∧ c ≤ 99999) ∧ (1 ≤ t ∧ t ≤ 99999) ∧ (0 ≤ e ∧ e ≤ 99999) ∧ (0 ≤ n ∧ n ≤ 99999) ∧ data.size ≤ 80)) :
    Calls Tryd.prog 10 #[.agg #[.int .i64 k, .int .i64 c, .int .i64 t, .int .i64 e, .int .i64 n, .string name, .string data]] w fun r w' => r = .returned (.bool (wordB k c t e n name data)) ∧ Below w.heap.size w w' := by
  have HB := hid (show wordB k c t e n name data = false from wordB_no (by unfold wordP; omega))
  unfold maxLen at hd
  by_cases c1 : 0 ≤ c ∧ c ≤ 99999
  rotate_left
  · have c2 : 0 ≤ c → c > 99999 := by omega
    clear h
    go_enter Tryd.func10, Tryd.ntmps10
    go_wp2_with (first | (go_at_call_of 14 (Value.int .i64 c); refine (l1In_no _ _ _ _ (by omega)).mono ?_; rintro r w2 ⟨rfl, hw⟩; subst hw))
    go_ret
    exact ⟨ret_bool HB.out.symm, below_allocW _ _⟩
  by_cases t1 : 1 ≤ t ∧ t ≤ 99999
  rotate_left
  · have t2 : 1 ≤ t → t > 99999 := by omega
    clear h
    go_enter Tryd.func10, Tryd.ntmps10
    go_wp2_with (first | (go_at_call_of 14 (Value.int .i64 c); refine (l1In_yes _ _ _ _ (by omega)).mono ?_; rintro r w2 ⟨rfl, hw⟩; subst hw) | (go_at_call_of 14 (Value.int .i64 t); refine (l1In_no _ _ _ _ (by omega)).mono ?_; rintro r w2 ⟨rfl, hw⟩; subst hw))
    go_ret
    exact ⟨ret_bool HB.out.symm, below_allocW _ _⟩
  by_cases e1 : 0 ≤ e ∧ e ≤ 99999
  rotate_left
  · have e2 : 0 ≤ e → e > 99999 := by omega
    clear h
    go_enter Tryd.func10, Tryd.ntmps10
    go_wp2_with (first | (go_at_call_of 14 (Value.int .i64 c); refine (l1In_yes _ _ _ _ (by omega)).mono ?_; rintro r w2 ⟨rfl, hw⟩; subst hw) | (go_at_call_of 14 (Value.int .i64 t); refine (l1In_yes _ _ _ _ (by omega)).mono ?_; rintro r w2 ⟨rfl, hw⟩; subst hw) | (go_at_call_of 14 (Value.int .i64 e); refine (l1In_no _ _ _ _ (by omega)).mono ?_; rintro r w2 ⟨rfl, hw⟩; subst hw))
    go_ret
    exact ⟨ret_bool HB.out.symm, below_allocW _ _⟩
  by_cases n1 : 0 ≤ n ∧ n ≤ 99999
  rotate_left
  · have n2 : 0 ≤ n → n > 99999 := by omega
    clear h
    go_enter Tryd.func10, Tryd.ntmps10
    go_wp2_with (first | (go_at_call_of 14 (Value.int .i64 c); refine (l1In_yes _ _ _ _ (by omega)).mono ?_; rintro r w2 ⟨rfl, hw⟩; subst hw) | (go_at_call_of 14 (Value.int .i64 t); refine (l1In_yes _ _ _ _ (by omega)).mono ?_; rintro r w2 ⟨rfl, hw⟩; subst hw) | (go_at_call_of 14 (Value.int .i64 e); refine (l1In_yes _ _ _ _ (by omega)).mono ?_; rintro r w2 ⟨rfl, hw⟩; subst hw) | (go_at_call_of 14 (Value.int .i64 n); refine (l1In_no _ _ _ _ (by omega)).mono ?_; rintro r w2 ⟨rfl, hw⟩; subst hw))
    go_ret
    exact ⟨ret_bool HB.out.symm, below_allocW _ _⟩
  have d1' : decide (80 < (data.size : Int)) = true := by simp; omega
  clear h
  go_enter Tryd.func10, Tryd.ntmps10
  go_wp2_with (first | (go_at_call_of 14 (Value.int .i64 c); refine (l1In_yes _ _ _ _ (by omega)).mono ?_; rintro r w2 ⟨rfl, hw⟩; subst hw) | (go_at_call_of 14 (Value.int .i64 t); refine (l1In_yes _ _ _ _ (by omega)).mono ?_; rintro r w2 ⟨rfl, hw⟩; subst hw) | (go_at_call_of 14 (Value.int .i64 e); refine (l1In_yes _ _ _ _ (by omega)).mono ?_; rintro r w2 ⟨rfl, hw⟩; subst hw) | (go_at_call_of 14 (Value.int .i64 n); refine (l1In_yes _ _ _ _ (by omega)).mono ?_; rintro r w2 ⟨rfl, hw⟩; subst hw))
  go_ret
  exact ⟨ret_bool HB.out.symm, below_allocW _ _⟩

theorem specWordOk (k c t e n : Int) (name data : ByteArray) (w : World) (hs : name.size ≤ maxLen) (hd : data.size ≤ maxLen) :
    Calls Tryd.prog 10 #[.agg #[.int .i64 k, .int .i64 c, .int .i64 t, .int .i64 e, .int .i64 n, .string name, .string data]] w fun r w' => r = .returned (.bool (wordB k c t e n name data)) ∧ Below w.heap.size w w' := by
  by_cases h : (0 ≤ c ∧ c ≤ 99999) ∧ (1 ≤ t ∧ t ≤ 99999) ∧ (0 ≤ e ∧ e ≤ 99999) ∧ (0 ≤ n ∧ n ≤ 99999) ∧ data.size ≤ 80
  · obtain ⟨h1, h2, h3, h4, h5⟩ := h
    by_cases hk : k = 1
    · subst hk
      exact specWord_1 c t e n name data w hs h1 h2 h3 h4 h5
    · exact specWord_k k c t e n name data w (by simp [hk]) h1 h2 h3 h4 h5
  · exact specWord_out k c t e n name data w hd h
end Go.Proofs.YtpalcgelcnlhbaaDoor
