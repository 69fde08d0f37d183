/- A list of a solver, ok or not; links of one block. -/
import Derived.Test.YtegldmdcdnnegaaDoorSlC
namespace Go.Proofs.YtegldmdcdnnegaaDoor
open Go.ChangeShapes Go.WideShapes Go.ChangeAt Go.RowKit Go.Sort Go.Shelf
attribute [local go_sem] Oper.semAt_some

theorem one_row (r : List Int) (at' : Int) : (r.length = 1 ∧ hd r = at') ↔ r = [at'] := by
  constructor
  · rintro ⟨h1, h2⟩
    match r, h1 with
    | [x], _ => rw [show x = at' from h2]
  · rintro rfl; exact ⟨rfl, rfl⟩

set_option maxHeartbeats 1000000 in
theorem isBlock_any (b : Nat) (r : List Int) (at' : Int) (w : World) (hb : w.cell? ⟨b, 0, none⟩ = some (.int .u32 (setI r : Nat))) (hr : ascB (-1) 24 r = true) (hne : r ≠ []) (hT : Tab w) :
    Calls Tryd.prog 59 #[.pointer (some ⟨b, 0, none⟩), .int .i64 at'] w fun e w' => e = .returned (.bool (decide (r = [at']))) ∧ Dr w w' := by
  have HT := hid hT
  have K1 := hid (sizeS hr)
  have K2 := hid (firstS hr hne)
  have HD := hid (show decide (r = [at']) = decide (r.length = 1 ∧ hd r = at') from by rw [decide_eq_decide]; exact (one_row r at').symm)
  by_cases h1 : r.length = 1
  · have e1 : ((r.length : Int) == 1) = true := by simp [h1]
    by_cases h2 : hd r = at'
    · have e2 : (hd r == at') = true := by simp [h2]
      have HF := hid (show decide (r = [at']) = true by rw [HD.out]; exact decide_eq_true ⟨h1, h2⟩)
      clear h1 h2 hr hne hT HD
      generalize hd r = F at K2 e2
      generalize r.length = L at K1 e1
      generalize setI r = s at K1 K2 hb
      go_enter Tryd.func59, Tryd.ntmps59
      go_wp2_with (go_at_call 86; refine (K1.out _).mono ?_; rintro e w1 ⟨rfl, d1⟩; have hb1 := (d1.cell _).trans hb; have D1 := hid d1; clear d1 hb)
      refine (K2.out _ (HT.out.below (D1.out.below _))).mono ?_
      rintro e w2 ⟨rfl, hw⟩; replace hw := hw.symm; subst hw
      go_wp2_with fail
      go_ret
      exact ⟨ret_bool HF.out.symm, D1.out⟩
    · have e2 : (hd r == at') = false := by simp [h2]
      have HF := hid (show decide (r = [at']) = false by rw [HD.out]; exact decide_eq_false (fun h => h2 h.2))
      clear h1 h2 hr hne hT HD
      generalize hd r = F at K2 e2
      generalize r.length = L at K1 e1
      generalize setI r = s at K1 K2 hb
      go_enter Tryd.func59, Tryd.ntmps59
      go_wp2_with (go_at_call 86; refine (K1.out _).mono ?_; rintro e w1 ⟨rfl, d1⟩; have hb1 := (d1.cell _).trans hb; have D1 := hid d1; clear d1 hb)
      refine (K2.out _ (HT.out.below (D1.out.below _))).mono ?_
      rintro e w2 ⟨rfl, hw⟩; replace hw := hw.symm; subst hw
      go_wp2_with fail
      go_ret
      exact ⟨ret_bool HF.out.symm, D1.out⟩
  · have e1 : ((r.length : Int) == 1) = false := by simp; omega
    have HF := hid (show decide (r = [at']) = false by rw [HD.out]; exact decide_eq_false (fun h => h1 h.1))
    clear h1 hr hne hT HD
    generalize hd r = F at K2
    generalize r.length = L at K1 e1
    generalize setI r = s at K1 K2 hb
    go_enter Tryd.func59, Tryd.ntmps59
    go_wp2_with (go_at_call 86; refine (K1.out _).mono ?_; rintro e w1 ⟨rfl, d1⟩; have hb1 := (d1.cell _).trans hb; have D1 := hid d1; clear d1 hb)
    go_ret
    exact ⟨ret_bool HF.out.symm, D1.out⟩

/-- The equations of a solver that is ok; none of others. -/
def eqsOf (c z : Int) (es : List EqV) : List EqV := if solverP c z es then es else []
/-- What a list of a solver is, ok or not. -/
theorem listO_any {w : World} {c z : Int} {es : List EqV} {e : Ending} {w' : World} (h : ListO w c z es e w') :
    ∃ (c' z' : Int) (ls : List Lk), e = .returned (.tuple #[.agg #[.int .i64 c', .int .i64 z', .pointer (ptrOf ls)], .bool (decide (solverP c z es))]) ∧ LksAt w' w.heap.size ls ∧ SameE ls (eqsOf c z es) ∧ RowsL ls ∧ ls.length ≤ 24 ∧ Below w.heap.size w w' := by
  obtain ⟨b, ⟨hp, ls, rfl, hL, hs⟩ | ⟨hp, rfl⟩⟩ := h
  · have he : eqsOf c z es = es := if_pos hp
    refine ⟨c, z, ls, by rw [decide_eq_true hp], hL, by rw [he]; exact hs, hs.rows hp.1.1.2 hp.2, ?_, b⟩
    have h1 := congrArg List.length hs.1
    rw [List.length_map, List.length_map] at h1
    have := okE_24 hp.2 (by have := hp.1.1.1; omega) hp.1.1.2
    omega
  · have he : eqsOf c z es = [] := if_neg hp
    exact ⟨0, 0, [], by rw [decide_eq_false hp]; rfl, LksAt.nil _ _, by rw [he]; exact ⟨rfl, rfl⟩, fun l hl => by simp at hl, by simp, b⟩
end Go.Proofs.YtegldmdcdnnegaaDoor
