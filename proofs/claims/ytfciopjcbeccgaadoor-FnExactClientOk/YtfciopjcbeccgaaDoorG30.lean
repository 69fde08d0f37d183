/- Gettings that are ok, how many windows are known, whether all is: by the model. Names: what is one, by the model and by the program. A text that is not empty. -/
import Derived.Test.YtfciopjcbeccgaaDoorG27
import Derived.Test.YtfciopjcbeccgaaDoorG29
import Derived.Test.YtfciopjcbeccgaaDoorG1
namespace Go.Proofs.YtfciopjcbeccgaaDoor
open Go.ChangeShapes Go.WideShapes Go.ChangeAt Go.RowKit Go.Sort Go.Shelf
attribute [local go_sem] Oper.semAt_some

set_option maxHeartbeats 4000000 in
theorem specGetDone_any (L S : Int) (a1 a2 : Option Addr) (c1 c2 : Nat) (ws gs : List Int) (C Z : Int) (a : Option Addr) (cap : Nat) (es : List EqV) (w : World) (ha1 : IntsAt w a1 ws) (ha2 : IntsAt w a2 gs) (hx : ws.length ≤ 1048576) (hy : gs.length ≤ 1048576) (ha : EqsAt w a es) (hl : es.length ≤ 1048576) (hsm : SmallE es) :
    Calls Tryd.prog 14 #[.agg #[.int .i64 L, .int .i64 S, .slice a1 ws.length c1, .slice a2 gs.length c2, .int .i64 C, .int .i64 Z, .slice a es.length cap]] w fun e w' => e = .returned (.bool (decide (getP L S ws gs C Z es ∧ (es.length : Int) = C))) ∧ Below w.heap.size w w' := by
  have HA := hid ha
  have HS := hid hsm
  have H1 := hid ha1
  have H2 := hid ha2
  clear ha hsm ha1 ha2
  go_enter Tryd.func14, Tryd.ntmps14
  repeat ((fail_if_success (with_reducible show Code.wp _ (Code.region 1 _ _) _ _ _)); (first | go_values | go_skip | go_guarded | go_step | go_upon | go_back | go_simp))
  obtain ⟨V, hV⟩ : ∃ V, V = w.alloc (.cells #[.int .i64 L, .int .i64 S, .slice a1 ws.length c1, .slice a2 gs.length c2, .int .i64 C, .int .i64 Z, .slice a es.length cap] 39) := ⟨_, rfl⟩
  have B := hid (show Below w.heap.size w V by rw [hV]; exact u_b1 _ _)
  have X : V.heap[w.heap.size]? = some (.cells #[.int .i64 L, .int .i64 S, .slice a1 ws.length c1, .slice a2 gs.length c2, .int .i64 C, .int .i64 Z, .slice a es.length cap] 39 (0, 0)) := by rw [hV]; exact laid _ _ _
  rw [← hV]
  clear hV
  have q0 := cell_regrown (box_cell X 0 (v := .int .i64 L) rfl)
  have q1 := cell_regrown (box_cell X 1 (v := .int .i64 S) rfl)
  have q2 := cell_regrown (box_cell X 2 (v := .slice a1 ws.length c1) rfl)
  have q3 := cell_regrown (box_cell X 3 (v := .slice a2 gs.length c2) rfl)
  have q4 := cell_regrown (box_cell X 4 (v := .int .i64 C) rfl)
  have q5 := cell_regrown (box_cell X 5 (v := .int .i64 Z) rfl)
  have q6 := cell_regrown (box_cell X 6 (v := .slice a es.length cap) rfl)
  have K1 := hid (rg (w := V) (fun w' hb => specGetOk_any L S a1 a2 c1 c2 ws gs C Z a cap es w' ((H1.out.below B.out).below hb) ((H2.out.below B.out).below hb) hx hy ((HA.out.below B.out).below hb) hl HS.out))
  clear X
  by_cases hg : getP L S ws gs C Z es
  · rw [decide_eq_true hg] at K1
    have s1 := hg.1.1.1
    have s2 := hg.1.1.2.1
    have s3 := hg.1.1.2.2.1
    have s4 := hg.1.1.2.2.2.1
    have HG := hid hg
    have K2 := hid (rg (w := V) (fun w' _ => specCount L S a1 a2 ws.length c1 gs.length c2 w' s1 s2 s3 s4))
    rw [← HG.out.2.2.1] at K2
    have HD := hid (show ((es.length : Int) == C) = decide (getP L S ws gs C Z es ∧ (es.length : Int) = C) by
      rw [Bool.eq_iff_iff, beq_iff_eq, decide_eq_true_eq]
      exact ⟨fun h => ⟨HG.out, h⟩, fun h => h.2⟩)
    clear hg s1 s2 s3 s4
    refine wp_region_quiet_below (by kernel_rfl) (by kernel_rfl) ?_
    repeat (first | go_big_quiet_step (first | (go_at_call 12; with_reducible exact K1.out _ _) | (go_at_call 25; with_reducible exact K2.out _ _)) | quiet_step (first | (go_at_call 12; with_reducible exact K1.out _ _) | (go_at_call 25; with_reducible exact K2.out _ _)))
    refine wpQuiet_nil ?_
    intro V2 hw'
    obtain ⟨⟨dq, osq⟩, hw''⟩ := hw'
    have hbq := below_regrown V dq osq
    rw [← hw''] at hbq
    replace B := hid (u_cat B.out hbq)
    clear hw'' dq osq hbq q0 q1 q2 q3 q4 q5 q6
    go_wp2_with fail
    go_ret
    exact ⟨ret_bool HD.out, B.out⟩
  · rw [decide_eq_false hg] at K1
    have HG := hid (show decide (getP L S ws gs C Z es ∧ (es.length : Int) = C) = false from decide_eq_false (fun h => hg h.1))
    clear hg
    refine wp_region_quiet_below (by kernel_rfl) (by kernel_rfl) ?_
    repeat (first | go_big_quiet_step ((go_at_call 12; with_reducible exact K1.out _ _)) | quiet_step ((go_at_call 12; with_reducible exact K1.out _ _)))
    refine wpQuiet_nil ?_
    intro V2 hw'
    obtain ⟨⟨dq, osq⟩, hw''⟩ := hw'
    have hbq := below_regrown V dq osq
    rw [← hw''] at hbq
    replace B := hid (u_cat B.out hbq)
    clear hw'' dq osq hbq q0 q1 q2 q3 q4 q5 q6
    go_wp2_with fail
    go_ret
    exact ⟨ret_bool HG.out.symm, B.out⟩
end Go.Proofs.YtfciopjcbeccgaaDoor
namespace Go.Proofs.YtfciopjcbeccgaaDoor
open Go.ChangeShapes Go.WideShapes Go.ChangeAt Go.RowKit

/-- A letter. -/
def ltr (c : UInt8) : Bool := decide (97 ≤ c.toNat ∧ c.toNat ≤ 122)
/-- A name. -/
def nameB (a : ByteArray) : Bool := a.data.toList.all ltr && decide (1 ≤ a.size ∧ a.size ≤ 6)

theorem all_step (a : ByteArray) (k : Nat) (h : k < a.size) (hp : (a.data.toList.take k).all ltr = true) (hc : ltr a[k] = true) : (a.data.toList.take (k + 1)).all ltr = true := by
  rw [List.take_succ_eq_append_getElem (by simpa using h), List.all_append, hp]
  simp only [List.all_cons, List.all_nil, Bool.and_true, Bool.true_and]
  exact hc
theorem all_no (a : ByteArray) (k : Nat) (h : k < a.size) (hc : ltr a[k] = false) : nameB a = false := by
  have h2 : a.data.toList.all ltr = false := by
    rw [List.all_eq_false]
    exact ⟨a[k], List.getElem_mem (by simpa using h), by rw [hc]; decide⟩
  simp only [nameB, h2, Bool.false_and]
theorem all_yes (a : ByteArray) (hp : (a.data.toList.take a.size).all ltr = true) : nameB a = decide (1 ≤ a.size ∧ a.size ≤ 6) := by
  rw [List.take_of_length_le (by simp)] at hp
  simp only [nameB, hp, Bool.true_and]

set_option maxHeartbeats 1000000 in
theorem specNameOk (a : ByteArray) (w : World) (hs : a.size ≤ maxLen) :
    Calls Tryd.prog 13 #[.string a] w fun e w' => e = .returned (.bool (nameB a)) ∧ w' = w := by
  unfold maxLen at hs
  go_enter Tryd.func13, Tryd.ntmps13
  go_wp2
  go_loop [3] (fun i => ∃ k : Nat, k ≤ a.size ∧ i = .int .i64 k ∧ (a.data.toList.take k).all ltr = true) (fun i => a.size - (intOf i).toNat)
  case atStart => exact ⟨0, Nat.zero_le _, rfl, by simp⟩
  case round =>
    obtain ⟨k, hk, rfl, hp⟩ := hrel
    have HP : Hid _ := hp
    clear hp
    by_cases hlt : k < a.size
    · by_cases h1 : (a[k].toNat : Int) < 97
      · have H := hid (all_no a k hlt (by simp only [ltr, decide_eq_false_iff_not]; omega))
        have h1' : decide ((a[k].toNat : Int) < 97) = true := by simpa using h1
        go_wp2
        go_ret
        exact ⟨ret_bool H.out.symm, rfl⟩
      · have h1' : decide ((a[k].toNat : Int) < 97) = false := by simpa using h1
        by_cases h2 : 122 < (a[k].toNat : Int)
        · have H := hid (all_no a k hlt (by simp only [ltr, decide_eq_false_iff_not]; omega))
          go_wp2
          go_ret
          exact ⟨ret_bool H.out.symm, rfl⟩
        · have h2' : decide (122 < (a[k].toNat : Int)) = false := by simpa using h2
          have H := hid (all_step a k hlt HP.out (by simp only [ltr, decide_eq_true_eq]; omega))
          go_wp2
          go_round
          case rel => exact ⟨k + 1, by omega, by go_num, H.out⟩
          case measure => simp [intOf]; omega
    · obtain rfl : k = a.size := by omega
      have H := hid (all_yes a HP.out)
      clear HP
      by_cases h3 : 1 ≤ a.size ∧ a.size ≤ 6
      · go_wp2_with (go_at_call 10; refine (l1In_yes _ _ _ _ (by omega)).mono ?_; rintro e w' ⟨rfl, rfl⟩)
        go_ret
        exact ⟨ret_bool (by rw [H.out, decide_eq_true h3]), rfl⟩
      · go_wp2_with (go_at_call 10; refine (l1In_no _ _ _ _ (by omega)).mono ?_; rintro e w' ⟨rfl, rfl⟩)
        go_ret
        exact ⟨ret_bool (by rw [H.out, decide_eq_false h3]), rfl⟩

set_option maxHeartbeats 1000000 in
theorem implNameOk (a : ByteArray) (w : World) (hs : a.size ≤ maxLen) :
    Calls Tryd.prog 89 #[.string a] w fun e w' => e = .returned (.bool (nameB a)) ∧ w' = w := by
  unfold maxLen at hs
  go_enter Tryd.func89, Tryd.ntmps89
  go_wp2
  go_loop [6] (fun i => ∃ k : Nat, k ≤ a.size ∧ i = .int .i64 k ∧ (a.data.toList.take k).all ltr = true) (fun i => a.size - (intOf i).toNat)
  case atStart => exact ⟨0, Nat.zero_le _, rfl, by simp⟩
  case round =>
    obtain ⟨k, hk, rfl, hp⟩ := hrel
    have HP : Hid _ := hp
    clear hp
    by_cases hlt : k < a.size
    · by_cases h1 : (a[k].toNat : Int) < 97
      · have H := hid (all_no a k hlt (by simp only [ltr, decide_eq_false_iff_not]; omega))
        have h1' : decide ((a[k].toNat : Int) < 97) = true := by simpa using h1
        go_wp2
        go_ret
        exact ⟨ret_bool H.out.symm, rfl⟩
      · have h1' : decide ((a[k].toNat : Int) < 97) = false := by simpa using h1
        by_cases h2 : 122 < (a[k].toNat : Int)
        · have H := hid (all_no a k hlt (by simp only [ltr, decide_eq_false_iff_not]; omega))
          go_wp2
          go_ret
          exact ⟨ret_bool H.out.symm, rfl⟩
        · have h2' : decide (122 < (a[k].toNat : Int)) = false := by simpa using h2
          have H := hid (all_step a k hlt HP.out (by simp only [ltr, decide_eq_true_eq]; omega))
          go_wp2
          go_round
          case rel => exact ⟨k + 1, by omega, by go_num, H.out⟩
          case measure => simp [intOf]; omega
    · obtain rfl : k = a.size := by omega
      have H := hid (all_yes a HP.out)
      clear HP
      by_cases h3 : 1 ≤ a.size
      · by_cases h4 : a.size ≤ 6
        · have h4' : decide ((a.size : Int) ≤ 6) = true := by simp; omega
          go_wp2
          go_ret
          exact ⟨ret_bool (by rw [H.out, decide_eq_true ⟨h3, h4⟩]), rfl⟩
        · have h4' : decide ((a.size : Int) ≤ 6) = false := by simp; omega
          go_wp2
          go_ret
          exact ⟨ret_bool (by rw [H.out, decide_eq_false (by omega)]), rfl⟩
      · have h3' : decide (1 ≤ (a.size : Int)) = false := by simp; omega
        go_wp2
        go_ret
        exact ⟨ret_bool (by rw [H.out, decide_eq_false (by omega)]), rfl⟩
end Go.Proofs.YtfciopjcbeccgaaDoor
namespace Go.Proofs.YtfciopjcbeccgaaDoor
theorem ne_toList {nm : ByteArray} (h : nm ≠ ⟨#[]⟩) : ¬ nm.toList = [] := fun e => h (ByteArray.ext (Array.toList_inj.1 (by rw [← ByteArray.toList_eq, e])))
end Go.Proofs.YtfciopjcbeccgaaDoor
