/- Pools that are ok, and how many frames a house has, by the model. -/
import Derived.Test.YtnfjplmpaeiagaaPlS
namespace Go.Proofs.Ytnfjplmpaeiagaa
open Go.ChangeShapes Go.WideShapes Go.ChangeAt Go.RowKit Go.Sort Go.Shelf

set_option maxHeartbeats 1000000 in
theorem specPoolOk_out (a : Option Addr) (n cap : Nat) (hand : Int) (w : World) (hn : n ≤ 1048576) (h : ¬ (n = 8 ∧ 0 ≤ hand ∧ hand < 8)) :
    Calls Try.prog 9 #[.agg #[.slice a n cap, .int .i64 hand]] w fun e w' => e = .returned (.bool false) ∧ Below w.heap.size w w' := by
  by_cases h8 : n = 8
  · subst h8
    have K : hand < 0 ∨ 7 < hand := by omega
    clear h
    go_enter Try.func9, Try.ntmps9
    go_wp2_with (go_at_call 24; refine (l1In_no _ _ _ _ K).mono ?_; rintro e w' ⟨rfl, rfl⟩)
    go_ret
    exact ⟨rfl, u_b1 _ _⟩
  · have K2 : ¬ (n : Int) = 8 := by omega
    clear h h8
    by_cases hk : 0 ≤ hand ∧ hand ≤ 7
    · go_enter Try.func9, Try.ntmps9
      go_wp2_with (go_at_call 24; refine (l1In_yes _ _ _ _ hk).mono ?_; rintro e w' ⟨rfl, rfl⟩)
      go_ret
      exact ⟨rfl, u_b1 _ _⟩
    · have K : hand < 0 ∨ 7 < hand := by omega
      go_enter Try.func9, Try.ntmps9
      go_wp2_with (go_at_call 24; refine (l1In_no _ _ _ _ K).mono ?_; rintro e w' ⟨rfl, rfl⟩)
      go_ret
      exact ⟨rfl, u_b1 _ _⟩

theorem specPoolOk_any (a : Option Addr) (cap : Nat) (fs : List Fr) (hand : Int) (w : World) (ha : FrsAt w a fs) (hx : fs.length ≤ 1048576) :
    Calls Try.prog 9 #[.agg #[.slice a fs.length cap, .int .i64 hand]] w fun e w' => e = .returned (.bool (decide (poolP fs hand))) ∧ Below w.heap.size w w' := by
  by_cases h : fs.length = 8 ∧ 0 ≤ hand ∧ hand < 8
  · obtain ⟨h8, h1, h2⟩ := h
    obtain ⟨b, off, rfl, hc⟩ := ha (by intro h; simp [h] at h8)
    rw [h8]
    refine (specPoolOk_in b off cap fs hand w hc h8 (by omega)).mono ?_
    rintro e w' ⟨t, rfl, ht, hb⟩
    refine ⟨ret_bool ?_, hb⟩
    have : t = true ↔ poolP fs hand := ht.trans ⟨fun h => ⟨h8, ⟨h1, h2⟩, h⟩, fun h => h.2.2⟩
    by_cases hp : poolP fs hand
    · rw [decide_eq_true hp]; exact this.2 hp
    · rw [decide_eq_false hp]
      cases t
      · rfl
      · exact absurd (this.1 rfl) hp
  · refine (specPoolOk_out a fs.length cap hand w hx h).mono ?_
    rintro e w' ⟨rfl, hb⟩
    exact ⟨ret_bool (decide_eq_false (fun k => h ⟨k.1, k.2.1⟩)).symm, hb⟩

theorem poolP_nn {fs : List Fr} {hand : Int} (h : poolP fs hand) : ∀ f ∈ fs, 0 ≤ f.e := fun f hf => by
  obtain ⟨j, hj⟩ := List.mem_iff_getElem?.1 hf
  have hjl := (List.getElem?_eq_some_iff.1 hj).1
  exact frP_nn (((okTo_frames h.1).2 h.2.2.1) j f (by rw [← h.1]; exact hjl) hj).1

set_option maxHeartbeats 1000000 in
theorem specPoolOf_any (a : Option Addr) (cap : Nat) (fs : List Fr) (hand house : Int) (w : World) (ha : FrsAt w a fs) (hx : fs.length ≤ 1048576) :
    Calls Try.prog 21 #[.agg #[.slice a fs.length cap, .int .i64 hand], .int .i64 house] w fun e w' => e = .returned (.int .i64 (poolOf fs hand house)) ∧ Below w.heap.size w w' := by
  have HA := hid ha
  clear ha
  have X0 := hid (laid w #[.slice a fs.length cap, .int .i64 hand] 29)
  by_cases hp : poolP fs hand
  · have hd := hid (decide_eq_true hp)
    have HR := hid (show poolOf fs hand house = frOf fs house from if_pos hp)
    have HNN := hid (poolP_nn hp)
    clear hp
    go_enter Try.func21, Try.ntmps21
    go_wp2_with fail
    refine (specPoolOk_any a cap fs hand _ (HA.out.below (u_b1 _ _)) hx).mono ?_
    rw [hd.out]
    rintro e w1 ⟨rfl, b1⟩
    have X1 := hid (kept X0.out b1)
    have B1 := hid (u_cat (u_b1 _ _) b1)
    have q0 := box_cell X1.out 0 (v := .slice a fs.length cap) rfl
    have q1 := box_cell X1.out 1 (v := .int .i64 hand) rfl
    clear b1
    go_wp2_with fail
    refine (l10Of_any a cap fs hand house _ (HA.out.below B1.out) hx HNN.out).mono ?_
    rintro e w2 ⟨rfl, b2⟩
    go_wp2_with fail
    go_ret
    exact ⟨ret_int HR.out.symm, u_cat B1.out b2⟩
  · have hd := hid (decide_eq_false hp)
    have HR := hid (show poolOf fs hand house = 0 from if_neg hp)
    clear hp
    go_enter Try.func21, Try.ntmps21
    go_wp2_with fail
    refine (specPoolOk_any a cap fs hand _ (HA.out.below (u_b1 _ _)) hx).mono ?_
    rw [hd.out]
    rintro e w1 ⟨rfl, b1⟩
    go_wp2_with fail
    go_ret
    exact ⟨ret_int HR.out.symm, u_cat (u_b1 _ _) b1⟩
end Go.Proofs.Ytnfjplmpaeiagaa
