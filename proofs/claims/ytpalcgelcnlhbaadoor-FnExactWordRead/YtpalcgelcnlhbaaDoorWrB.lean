/- Words read by the program: what is no word's text. -/
import Derived.Test.YtpalcgelcnlhbaaDoorWrA
namespace Go.Proofs.YtpalcgelcnlhbaaDoor
open Go.ChangeShapes Go.WideShapes Go.ChangeAt Go.RowKit Go.Sort

theorem ne_list {X s : ByteArray} (h : X ≠ s) : (X.toList == s.toList) = false := by
  rw [beq_eq_false_iff_ne, ByteArray.toList_eq, ByteArray.toList_eq]
  intro e
  exact h (ByteArray.ext (Array.toList_inj.1 e))

set_option maxHeartbeats 8000000 in
set_option maxRecDepth 100000 in
theorem implWordRead_no (s : ByteArray) (w : World) (hs : s.size ≤ 1048576) (hno : ∀ k c t e n name data, ¬ Good s k c t e n name data) (he : Env w) :
    Calls Tryd.prog 5 #[.string s] w fun r w' => r = .returned (.tuple #[.agg #[.int .i64 0, .int .i64 0, .int .i64 0, .int .i64 0, .int .i64 0, .string ⟨#[]⟩, .string ⟨#[]⟩], .bool false]) ∧ Below w.heap.size w w' := by
  have R0 := hid (res0 w)
  by_cases h7 : s.size < 7
  · have h7' : decide ((s.size : Int) < 7) = true := decide_eq_true (by omega)
    clear hno he
    go_enter Tryd.func5, Tryd.ntmps5
    go_wp2_with fail
    exact bodyPost_ret (v := .tuple #[.agg #[.int .i64 0, .int .i64 0, .int .i64 0, .int .i64 0, .int .i64 0, .string ⟨#[]⟩, .string ⟨#[]⟩], .bool false]) (by simp [results, Tryd.results5, go_sem]) rfl ⟨rfl, below_newD _ _⟩
  · have h7' : decide ((s.size : Int) < 7) = false := decide_eq_false (by omega)
    by_cases h160 : 160 < s.size
    · clear hno he
      go_enter Tryd.func5, Tryd.ntmps5
      go_wp2_with fail
      exact bodyPost_ret (v := .tuple #[.agg #[.int .i64 0, .int .i64 0, .int .i64 0, .int .i64 0, .int .i64 0, .string ⟨#[]⟩, .string ⟨#[]⟩], .bool false]) (by simp [results, Tryd.results5, go_sem]) rfl ⟨rfl, below_newD _ _⟩
    · have HNO := hid hno
      have HE := hid he
      have g1 : 7 ≤ s.size := by omega
      have g2 : s.size ≤ 160 := by omega
      have hz : (s.extract 7 s.size).size ≤ 1000 := by rw [ByteArray.size_extract]; omega
      have HP := hid (fun w he => wordParts_any (s.extract 7 s.size) w hz he)
      have d1 : decide ((s.size : Int) < 7) = false := decide_eq_false (by omega)
      have d2 : decide (160 < (s.size : Int)) = false := decide_eq_false (by omega)
      clear hno he hz h7 h160 h7'
      go_enter Tryd.func5, Tryd.ntmps5
      go_wp2_with (first
        | (go_at_call 12; refine (HP.out _ (HE.out.below (below_newD _ _))).mono ?_; rintro r w1 ⟨k, c, t, e, n, name, data, b, rfl, hn, hd, b1⟩; have B1 := hid (below_catD (below_newD _ _) b1); have R1 := hid (kept R0.out b1); obtain ⟨X, hX, hW⟩ := write_other s HNO.out g1 k c t e n name data (by unfold maxLen; omega); have HW := hid hW; have hX' := ne_list hX; clear b1 hW hn hd hX; have r0 := box_cell R1.out 0 (v := .int .i64 0) rfl; have r1 := box_cell R1.out 1 (v := .int .i64 0) rfl; have r2 := box_cell R1.out 2 (v := .int .i64 0) rfl; have r3 := box_cell R1.out 3 (v := .int .i64 0) rfl; have r4 := box_cell R1.out 4 (v := .int .i64 0) rfl; have r5 := box_cell R1.out 5 (v := .string ⟨#[]⟩) rfl; have r6 := box_cell R1.out 6 (v := .string ⟨#[]⟩) rfl; have z0 := box_frozen R1.out 0; have z1 := box_frozen R1.out 1; have z2 := box_frozen R1.out 2; have z3 := box_frozen R1.out 3; have z4 := box_frozen R1.out 4; have z5 := box_frozen R1.out 5; have z6 := box_frozen R1.out 6; have l0 := lt_of_block R1.out; cases b)
        | (go_at_call 13; refine (HW.out _ (HE.out.pow.below (below_catD B1.out (below_newD _ _)))).mono ?_; rintro r w2 ⟨rfl, b2⟩; have B2 := hid (below_catD (below_catD B1.out (below_newD _ _)) b2); have R2 := hid (kept (kept R1.out (below_newD _ _)) b2); clear b2 r0 r1 r2 r3 r4 r5 r6 z0 z1 z2 z3 z4 z5 z6 l0; have r0 := box_cell R2.out 0 (v := .int .i64 0) rfl; have r1 := box_cell R2.out 1 (v := .int .i64 0) rfl; have r2 := box_cell R2.out 2 (v := .int .i64 0) rfl; have r3 := box_cell R2.out 3 (v := .int .i64 0) rfl; have r4 := box_cell R2.out 4 (v := .int .i64 0) rfl; have r5 := box_cell R2.out 5 (v := .string ⟨#[]⟩) rfl; have r6 := box_cell R2.out 6 (v := .string ⟨#[]⟩) rfl; have z0 := box_frozen R2.out 0; have z1 := box_frozen R2.out 1; have z2 := box_frozen R2.out 2; have z3 := box_frozen R2.out 3; have z4 := box_frozen R2.out 4; have z5 := box_frozen R2.out 5; have z6 := box_frozen R2.out 6; have l0 := lt_of_block R2.out))
      · obtain ⟨V, hV, Z7, HB⟩ := set7 R1.out (.int .i64 0) (.int .i64 0) (.int .i64 0) (.int .i64 0) (.int .i64 0) (.string ⟨#[]⟩) (.string ⟨#[]⟩)
        have HB' := HB w (Nat.le_refl _) B1.out
        rw [← hV]
        clear hV
        obtain ⟨U, hU⟩ : ∃ U, U = V.alloc (.cells #[.int .i64 k, .int .i64 c, .int .i64 t, .int .i64 e, .int .i64 n, .string name, .string data] 23) := ⟨_, rfl⟩
        have Z8 := kept Z7 (below_newD V (.cells #[.int .i64 k, .int .i64 c, .int .i64 t, .int .i64 e, .int .i64 n, .string name, .string data] 23))
        have HB8 := below_catD HB' (below_newD V (.cells #[.int .i64 k, .int .i64 c, .int .i64 t, .int .i64 e, .int .i64 n, .string name, .string data] 23))
        rw [← hU] at Z8 HB8 ⊢
        clear hU
        have v0 := box_cell Z8 0 (v := .int .i64 0) rfl
        have v1 := box_cell Z8 1 (v := .int .i64 0) rfl
        have v2 := box_cell Z8 2 (v := .int .i64 0) rfl
        have v3 := box_cell Z8 3 (v := .int .i64 0) rfl
        have v4 := box_cell Z8 4 (v := .int .i64 0) rfl
        have v5 := box_cell Z8 5 (v := .string ⟨#[]⟩) rfl
        have v6 := box_cell Z8 6 (v := .string ⟨#[]⟩) rfl
        refine bodyPost_ret (w := U) (v := .tuple #[.agg #[.int .i64 0, .int .i64 0, .int .i64 0, .int .i64 0, .int .i64 0, .string ⟨#[]⟩, .string ⟨#[]⟩], .bool false]) ?_ rfl ⟨rfl, HB8⟩
        simp [results, Tryd.results5, go_sem, v0, v1, v2, v3, v4, v5, v6]
      · obtain ⟨V, hV, Z7, HB⟩ := set7 R2.out (.int .i64 0) (.int .i64 0) (.int .i64 0) (.int .i64 0) (.int .i64 0) (.string ⟨#[]⟩) (.string ⟨#[]⟩)
        have HB' := HB w (Nat.le_refl _) B2.out
        rw [← hV]
        clear hV
        have v0 := box_cell Z7 0 (v := .int .i64 0) rfl
        have v1 := box_cell Z7 1 (v := .int .i64 0) rfl
        have v2 := box_cell Z7 2 (v := .int .i64 0) rfl
        have v3 := box_cell Z7 3 (v := .int .i64 0) rfl
        have v4 := box_cell Z7 4 (v := .int .i64 0) rfl
        have v5 := box_cell Z7 5 (v := .string ⟨#[]⟩) rfl
        have v6 := box_cell Z7 6 (v := .string ⟨#[]⟩) rfl
        refine bodyPost_ret (w := V) (v := .tuple #[.agg #[.int .i64 0, .int .i64 0, .int .i64 0, .int .i64 0, .int .i64 0, .string ⟨#[]⟩, .string ⟨#[]⟩], .bool false]) ?_ rfl ⟨rfl, HB'⟩
        simp [results, Tryd.results5, go_sem, v0, v1, v2, v3, v4, v5, v6]
end Go.Proofs.YtpalcgelcnlhbaaDoor
