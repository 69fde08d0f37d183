/- A record of a thing, by the model. -/
import Derived.Test.YtjnhihckehcglaaDoorCatR
namespace Go.Proofs.YtjnhihckehcglaaDoor
open Go.ChangeShapes Go.WideShapes Go.ChangeAt Go.RowKit

theorem belowC (w : World) (o : Obj) : Below w.heap.size w (w.alloc o) := (Below.refl _ _).alloc (Nat.le_refl _) _

theorem empC (s : ByteArray) : s.toList.isEmpty = decide (s.size = 0) := by
  rw [← Go.decide_eq_emptyBytes]
  apply decide_eq_decide.2
  constructor
  · rintro rfl; rfl
  · intro h; exact ByteArray.ext (Array.eq_empty_of_size_eq_zero h)

def itOkP (h : Int) (a t : ByteArray) : Prop := (0 ≤ h ∧ h ≤ 1) ∧ nameB a = true ∧ (1 ≤ (t.size : Int) ∧ (t.size : Int) ≤ 300)

set_option maxHeartbeats 1000000 in
theorem l9Ok_yes (h e : Int) (a t : ByteArray) (w : World) (ha : a.size ≤ maxLen) (hk : itOkP h a t) :
    Calls Tryd.prog 6 #[.agg #[.int .i64 h, .string a, .int .i64 e, .string t]] w fun r w' => r = .returned (.bool true) ∧ Below w.heap.size w w' := by
  obtain ⟨h1, h2, h3⟩ := hk
  go_enter Tryd.func6, Tryd.ntmps6
  go_wp2_with (first
    | (go_at_call 12; refine (l1In_yes _ _ _ _ (by omega)).mono ?_; rintro e w2 ⟨rfl, hw⟩; subst hw)
    | (go_at_call 13; refine (specNameOk a _ ha).mono ?_; rintro e w2 ⟨rfl, hw⟩; subst hw))
  go_ret
  exact ⟨rfl, belowC _ _⟩

set_option maxHeartbeats 1000000 in
theorem l9Ok_no (h e : Int) (a t : ByteArray) (w : World) (ha : a.size ≤ maxLen) (hk : ¬ itOkP h a t) :
    Calls Tryd.prog 6 #[.agg #[.int .i64 h, .string a, .int .i64 e, .string t]] w fun r w' => r = .returned (.bool false) ∧ Below w.heap.size w w' := by
  have K : (h < 0 ∨ 1 < h) ∨ ((0 ≤ h ∧ h ≤ 1) ∧ nameB a = false) ∨ ((0 ≤ h ∧ h ≤ 1) ∧ nameB a = true ∧ ((t.size : Int) < 1 ∨ 300 < (t.size : Int))) := by
    unfold itOkP at hk
    by_cases c : 0 ≤ h ∧ h ≤ 1
    · cases hn : nameB a
      · exact .inr (.inl ⟨c, rfl⟩)
      · have : ¬ (1 ≤ (t.size : Int) ∧ (t.size : Int) ≤ 300) := fun d => hk ⟨c, hn, d⟩
        exact .inr (.inr ⟨c, rfl, by omega⟩)
    · exact .inl (by omega)
  clear hk
  rcases K with K | ⟨K, K2⟩ | ⟨K, K2, K3⟩
  all_goals
    go_enter Tryd.func6, Tryd.ntmps6
    go_wp2_with (first
      | (go_at_call 12; refine (l1In_yes _ _ _ _ (by omega)).mono ?_; rintro e w2 ⟨rfl, hw⟩; subst hw)
      | (go_at_call 12; refine (l1In_no _ _ _ _ (by omega)).mono ?_; rintro e w2 ⟨rfl, hw⟩; subst hw)
      | (go_at_call 13; refine (specNameOk a _ ha).mono ?_; rintro e w2 ⟨rfl, hw⟩; subst hw))
    go_ret
    exact ⟨rfl, belowC _ _⟩

set_option maxHeartbeats 1000000 in
theorem l1Dec_small (h : Nat) (w : World) (hh : h ≤ 1) :
    Calls Tryd.prog 7 #[.int .i64 h] w fun r w' => r = .returned (.string ⟨(Lib.decDigits h).toArray⟩) ∧ Below w.heap.size w w' := by
  rw [Lib.decDigits_one (by omega)]
  have K : h = 0 ∨ h = 1 := by omega
  have hcv : ∀ z : Int, (convert 32 9 (.slice (some ⟨w.heap.size, 0, none⟩) 1 1)).run Tryd.prog (w.alloc (.cells #[.int .u8 z] 5)) = .ok (.string (strOfNums [z])) (w.alloc (.cells #[.int .u8 z] 5)) := fun z =>
    run_convert_bytes_arg (P := Tryd.prog) (w.alloc (.cells #[.int .u8 z] 5)) 32 5 Tryd.underlying32 Tryd.underlying5 w.heap.size 0 1 1 [z] rfl (by
      intro i hi
      obtain rfl : i = 0 := by omega
      simp) 9 Tryd.underlying9
  rcases K with rfl | rfl
  · have h1 := hcv 48
    clear hcv
    go_enter Tryd.func7, Tryd.ntmps7
    go_wp2_with fail
    go_ret
    exact ⟨rfl, belowC _ _⟩
  · have h1 := hcv 49
    clear hcv
    go_enter Tryd.func7, Tryd.ntmps7
    go_wp2_with fail
    go_ret
    exact ⟨rfl, belowC _ _⟩

theorem app_data (a b : ByteArray) : (a ++ b).data = a.data ++ b.data := by simp
theorem recB_eq (h : Nat) (a t : ByteArray) : ((((⟨(Lib.decDigits h).toArray⟩ : ByteArray) ++ (⟨#[32]⟩ : ByteArray)) ++ a) ++ (⟨#[58]⟩ : ByteArray)) ++ t = recB h a t := by
  apply ByteArray.ext
  rw [recB]
  apply Array.toList_inj.1
  simp [joinL]

set_option maxHeartbeats 1000000 in
theorem specCatRecord_yes (h : Nat) (a t : ByteArray) (w : World) (ha : a.size ≤ maxLen) (hh : h ≤ 1) (hn : nameB a = true) (ht : t.size ≤ 300) (hs : a.size ≤ 6) :
    Calls Tryd.prog 4 #[.int .i64 h, .string a, .string t] w fun e w' => e = .returned (.string (recB h a t)) ∧ Below w.heap.size w w' := by
  have HR := hid (recB_eq h a t)
  have hd := digit_size h hh
  obtain ⟨D, hD⟩ : ∃ D : ByteArray, D = ⟨(Lib.decDigits h).toArray⟩ := ⟨_, rfl⟩
  have hdec : ∀ w : World, Calls Tryd.prog 7 #[.int .i64 h] w fun e w' => e = .returned (.string D) ∧ Below w.heap.size w w' := by rw [hD]; exact fun w => l1Dec_small h w hh
  rw [← hD] at HR hd
  have HI := hid hdec
  clear hdec hD
  by_cases h0 : t.size = 0
  · have ht0 : t = ⟨#[]⟩ := by
      apply ByteArray.ext
      exact Array.eq_empty_of_size_eq_zero h0
    subst ht0
    go_enter Tryd.func4, Tryd.ntmps4
    go_wp2_with (go_at_call 6; refine (l9Ok_yes _ _ _ _ _ ha ⟨by omega, hn, by decide⟩).mono ?_)
    rintro e w1 ⟨rfl, hb1⟩
    go_wp2_with (go_at_call 7; refine (HI.out _).mono ?_)
    rintro e w2 ⟨rfl, hb2⟩
    go_wp2_with fail
    go_ret
    rw [← HR.out]
    exact ⟨rfl, hb1.trans (hb2.mono hb1.size)⟩
  · have hne : t.toList.isEmpty = false := by rw [empC]; exact decide_eq_false h0
    go_enter Tryd.func4, Tryd.ntmps4
    go_wp2_with (go_at_call 6; refine (l9Ok_yes _ _ _ _ _ ha ⟨by omega, hn, by omega⟩).mono ?_)
    rintro e w1 ⟨rfl, hb1⟩
    go_wp2_with (go_at_call 7; refine (HI.out _).mono ?_)
    rintro e w2 ⟨rfl, hb2⟩
    go_wp2_with fail
    go_ret
    rw [← HR.out]
    exact ⟨rfl, hb1.trans (hb2.mono hb1.size)⟩

theorem recOk_iff (h : Int) (a t : ByteArray) : recOk h a t = true ↔ (0 ≤ h ∧ h ≤ 1) ∧ nameB a = true ∧ t.size ≤ 300 := by
  simp [recOk, and_assoc]

set_option maxHeartbeats 1000000 in
theorem specCatRecord_no (h : Int) (a t : ByteArray) (w : World) (ha : a.size ≤ maxLen) (hno : recOk h a t = false) :
    Calls Tryd.prog 4 #[.int .i64 h, .string a, .string t] w fun e w' => e = .returned (.string ByteArray.empty) ∧ Below w.heap.size w w' := by
  have HN : Hid (¬ ((0 ≤ h ∧ h ≤ 1) ∧ nameB a = true ∧ t.size ≤ 300)) := hid (fun c => by rw [(recOk_iff h a t).2 c] at hno; cases hno)
  clear hno
  by_cases h0 : t.size = 0
  · have ht0 : t = ⟨#[]⟩ := by
      apply ByteArray.ext
      exact Array.eq_empty_of_size_eq_zero h0
    subst ht0
    go_enter Tryd.func4, Tryd.ntmps4
    go_wp2_with (go_at_call 6; refine (l9Ok_no _ _ _ _ _ ha (fun c => HN.out ⟨c.1, c.2.1, by decide⟩)).mono ?_)
    rintro e w1 ⟨rfl, hb1⟩
    go_wp2_with fail
    go_ret
    exact ⟨rfl, hb1⟩
  · have hne : t.toList.isEmpty = false := by rw [empC]; exact decide_eq_false h0
    go_enter Tryd.func4, Tryd.ntmps4
    go_wp2_with (go_at_call 6; refine (l9Ok_no _ _ _ _ _ ha (fun c => HN.out ⟨c.1, c.2.1, by have := c.2.2.2; omega⟩)).mono ?_)
    rintro e w1 ⟨rfl, hb1⟩
    go_wp2_with fail
    go_ret
    exact ⟨rfl, hb1⟩
end Go.Proofs.YtjnhihckehcglaaDoor
