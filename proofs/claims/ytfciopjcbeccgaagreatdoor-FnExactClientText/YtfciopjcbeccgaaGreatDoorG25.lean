/- Names: what is one, by the model and by the program. A text that is not empty. -/
import Derived.Test.YtfciopjcbeccgaaGreatDoorG0
namespace Go.Proofs.YtfciopjcbeccgaaGreatDoor
open Go.ChangeShapes Go.WideShapes Go.ChangeAt Go.RowKit

/-- A letter. -/
def ltr (c : UInt8) : Bool := decide (97 ≤ c.toNat ∧ c.toNat ≤ 122)
/-- A name. -/
def nameB (a : ByteArray) : Bool := a.data.toList.all ltr && decide (1 ≤ a.size ∧ a.size ≤ 6)

theorem all_step (a : ByteArray) (k : Nat) (h : k < a.size) (hp : (a.data.toList.take k).all ltr = true) (hc : ltr a[k] = true) : (a.data.toList.take (k + 1)).all ltr = true := by
  rw [List.take_succ_eq_append_getElem (by simpa using h), List.all_append, hp]
  simp only [List.all_cons, List.all_nil, Bool.and_true, Bool.true_and]
  exact hc
theorem all_no (a : ByteArray) (k : Nat) (h : k < a.size) (hc : ltr a[k] = false) : nameB a = false := by
  have h2 : a.data.toList.all ltr = false := by
    rw [List.all_eq_false]
    exact ⟨a[k], List.getElem_mem (by simpa using h), by rw [hc]; decide⟩
  simp only [nameB, h2, Bool.false_and]
theorem all_yes (a : ByteArray) (hp : (a.data.toList.take a.size).all ltr = true) : nameB a = decide (1 ≤ a.size ∧ a.size ≤ 6) := by
  rw [List.take_of_length_le (by simp)] at hp
  simp only [nameB, hp, Bool.true_and]

set_option maxHeartbeats 1000000 in
theorem specNameOk (a : ByteArray) (w : World) (hs : a.size ≤ maxLen) :
    Calls Tryz.prog 21 #[.string a] w fun e w' => e = .returned (.bool (nameB a)) ∧ w' = w := by
  unfold maxLen at hs
  go_enter Tryz.func21, Tryz.ntmps21
  go_wp2
  go_loop [3] (fun i => ∃ k : Nat, k ≤ a.size ∧ i = .int .i64 k ∧ (a.data.toList.take k).all ltr = true) (fun i => a.size - (intOf i).toNat)
  case atStart => exact ⟨0, Nat.zero_le _, rfl, by simp⟩
  case round =>
    obtain ⟨k, hk, rfl, hp⟩ := hrel
    have HP : Hid _ := hp
    clear hp
    by_cases hlt : k < a.size
    · by_cases h1 : (a[k].toNat : Int) < 97
      · have H := hid (all_no a k hlt (by simp only [ltr, decide_eq_false_iff_not]; omega))
        have h1' : decide ((a[k].toNat : Int) < 97) = true := by simpa using h1
        go_wp2
        go_ret
        exact ⟨ret_bool H.out.symm, rfl⟩
      · have h1' : decide ((a[k].toNat : Int) < 97) = false := by simpa using h1
        by_cases h2 : 122 < (a[k].toNat : Int)
        · have H := hid (all_no a k hlt (by simp only [ltr, decide_eq_false_iff_not]; omega))
          go_wp2
          go_ret
          exact ⟨ret_bool H.out.symm, rfl⟩
        · have h2' : decide (122 < (a[k].toNat : Int)) = false := by simpa using h2
          have H := hid (all_step a k hlt HP.out (by simp only [ltr, decide_eq_true_eq]; omega))
          go_wp2
          go_round
          case rel => exact ⟨k + 1, by omega, by go_num, H.out⟩
          case measure => simp [intOf]; omega
    · obtain rfl : k = a.size := by omega
      have H := hid (all_yes a HP.out)
      clear HP
      by_cases h3 : 1 ≤ a.size ∧ a.size ≤ 6
      · go_wp2_with (go_at_call 18; refine (l1In_yes _ _ _ _ (by omega)).mono ?_; rintro e w' ⟨rfl, rfl⟩)
        go_ret
        exact ⟨ret_bool (by rw [H.out, decide_eq_true h3]), rfl⟩
      · go_wp2_with (go_at_call 18; refine (l1In_no _ _ _ _ (by omega)).mono ?_; rintro e w' ⟨rfl, rfl⟩)
        go_ret
        exact ⟨ret_bool (by rw [H.out, decide_eq_false h3]), rfl⟩

set_option maxHeartbeats 1000000 in
theorem implNameOk (a : ByteArray) (w : World) (hs : a.size ≤ maxLen) :
    Calls Tryz.prog 106 #[.string a] w fun e w' => e = .returned (.bool (nameB a)) ∧ w' = w := by
  unfold maxLen at hs
  go_enter Tryz.func106, Tryz.ntmps106
  go_wp2
  go_loop [6] (fun i => ∃ k : Nat, k ≤ a.size ∧ i = .int .i64 k ∧ (a.data.toList.take k).all ltr = true) (fun i => a.size - (intOf i).toNat)
  case atStart => exact ⟨0, Nat.zero_le _, rfl, by simp⟩
  case round =>
    obtain ⟨k, hk, rfl, hp⟩ := hrel
    have HP : Hid _ := hp
    clear hp
    by_cases hlt : k < a.size
    · by_cases h1 : (a[k].toNat : Int) < 97
      · have H := hid (all_no a k hlt (by simp only [ltr, decide_eq_false_iff_not]; omega))
        have h1' : decide ((a[k].toNat : Int) < 97) = true := by simpa using h1
        go_wp2
        go_ret
        exact ⟨ret_bool H.out.symm, rfl⟩
      · have h1' : decide ((a[k].toNat : Int) < 97) = false := by simpa using h1
        by_cases h2 : 122 < (a[k].toNat : Int)
        · have H := hid (all_no a k hlt (by simp only [ltr, decide_eq_false_iff_not]; omega))
          go_wp2
          go_ret
          exact ⟨ret_bool H.out.symm, rfl⟩
        · have h2' : decide (122 < (a[k].toNat : Int)) = false := by simpa using h2
          have H := hid (all_step a k hlt HP.out (by simp only [ltr, decide_eq_true_eq]; omega))
          go_wp2
          go_round
          case rel => exact ⟨k + 1, by omega, by go_num, H.out⟩
          case measure => simp [intOf]; omega
    · obtain rfl : k = a.size := by omega
      have H := hid (all_yes a HP.out)
      clear HP
      by_cases h3 : 1 ≤ a.size
      · by_cases h4 : a.size ≤ 6
        · have h4' : decide ((a.size : Int) ≤ 6) = true := by simp; omega
          go_wp2
          go_ret
          exact ⟨ret_bool (by rw [H.out, decide_eq_true ⟨h3, h4⟩]), rfl⟩
        · have h4' : decide ((a.size : Int) ≤ 6) = false := by simp; omega
          go_wp2
          go_ret
          exact ⟨ret_bool (by rw [H.out, decide_eq_false (by omega)]), rfl⟩
      · have h3' : decide (1 ≤ (a.size : Int)) = false := by simp; omega
        go_wp2
        go_ret
        exact ⟨ret_bool (by rw [H.out, decide_eq_false (by omega)]), rfl⟩
end Go.Proofs.YtfciopjcbeccgaaGreatDoor
namespace Go.Proofs.YtfciopjcbeccgaaGreatDoor
theorem ne_toList {nm : ByteArray} (h : nm ≠ ⟨#[]⟩) : ¬ nm.toList = [] := fun e => h (ByteArray.ext (Array.toList_inj.1 (by rw [← ByteArray.toList_eq, e])))
end Go.Proofs.YtfciopjcbeccgaaGreatDoor
