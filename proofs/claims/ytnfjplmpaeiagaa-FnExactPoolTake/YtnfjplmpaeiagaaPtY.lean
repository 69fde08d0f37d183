/- A frame taken by the model, of pools that are ok. -/
import Derived.Test.YtnfjplmpaeiagaaPtX
import Derived.Test.YtnfjplmpaeiagaaPlD
namespace Go.Proofs.Ytnfjplmpaeiagaa
open Go.ChangeShapes Go.WideShapes Go.ChangeAt Go.RowKit Go.Sort Go.Shelf
attribute [local go_sem] Oper.semAt_some

set_option maxHeartbeats 1000000 in
theorem specPoolTake_no (a : Option Addr) (cap : Nat) (fs : List Fr) (hand h ed bl : Int) (w : World) (ha : FrsAt w a fs) (hx : fs.length ≤ 1048576) (hp : ¬ poolP fs hand) :
    Calls Try.prog 13 #[.agg #[.slice a fs.length cap, .int .i64 hand], .int .i64 h, .int .i64 ed, .int .i64 bl] w fun e w' => ∃ v, e = .returned (.tuple #[v, .int .i64 0, .int .i64 3]) ∧ PoolO w w' [] 0 v := by
  have HA := hid ha
  have D := hid (decide_eq_false hp)
  clear hp ha
  go_enter Try.func13, Try.ntmps13
  go_wp2_with fail
  refine (specPoolOk_any a cap fs hand _ (HA.out.below (u_b2 _ _ _)) hx).mono ?_
  rw [D.out]
  rintro e w1 ⟨rfl, b1⟩
  obtain ⟨P1, R1, B1⟩ := u_box2 b1
  have HB := hid B1
  have r0 := box_cell R1 0 (v := .slice none 0 0) rfl
  have r1 := box_cell R1 1 (v := .int .i64 0) rfl
  have z0 := box_frozen R1
  have X5 := hid (set_block (set_block R1 0 (.slice none 0 0)) 1 (.int .i64 0))
  have x0 := box_cell X5.out 0 (v := .slice none 0 0) rfl
  have x1 := box_cell X5.out 1 (v := .int .i64 0) rfl
  clear b1 P1 R1 B1
  go_wp2_with fail
  refine bodyPost_ret (v := .tuple #[.agg #[.slice none 0 0, .int .i64 0], .int .i64 0, .int .i64 3]) ?_ rfl ⟨_, rfl, none, 0, rfl, ⟨rfl, .inl ⟨rfl, rfl⟩⟩, ?_⟩
  · simp [results, Try.results13, go_sem, x0, x1]
  · refine u_set (u_set HB.out ?_ _ _) ?_ _ _ <;> omega

set_option maxHeartbeats 4000000 in
theorem specPoolTake_yes (a : Option Addr) (cap : Nat) (fs : List Fr) (m : Nat) (h ed bl : Int) (w : World) (ha : FrsAt w a fs) (hp : poolP fs m) (hd : ∀ f ∈ fs, 0 ≤ f.d ∧ f.d ≤ 99999) (r : List Fr × Nat × Nat × Int) (hr : r = if blkP ⟨h, ed, bl, 0, false⟩ then takeR m fs ⟨h, ed, bl, 0, false⟩ else (fs, m, 0, 3)) (hr8 : r.1.length = 8) :
    Calls Try.prog 13 #[.agg #[.slice a fs.length cap, .int .i64 m], .int .i64 h, .int .i64 ed, .int .i64 bl] w fun x w' => ∃ v, x = .returned (.tuple #[v, .int .i64 r.2.2.1, .int .i64 r.2.2.2]) ∧ PoolO w w' r.1 r.2.1 v := by
  have h8 := hp.1
  have hm : m < 8 := by have := hp.2.1; omega
  obtain ⟨b, off, rfl, hc⟩ := ha (by intro h; simp [h] at h8)
  have HA := hid ha
  have HC := hid hc
  have H8 := hid h8
  have HD := hid hd
  have HN := hid (poolP_nn hp)
  have HH := hid hp.2.2.2
  have D := hid (decide_eq_true hp)
  have K0 := hid (specPoolOk_any (some ⟨b, off, none⟩) cap fs m)
  have HR0 := hid hr
  have HR8 := hid hr8
  rw [h8] at K0 ⊢
  clear hp ha hc h8 hd hr hr8
  go_enter Try.func13, Try.ntmps13
  go_wp2_with fail
  refine (K0.out _ (HA.out.below (u_b2 _ _ _)) (by omega)).mono ?_
  rw [D.out]
  rintro e w1 ⟨rfl, b1⟩
  obtain ⟨P1, R1, B1⟩ := u_box2 b1
  have HR := hid R1
  have HB := hid B1
  have hs1 := lt_of_block R1
  have q0 := box_cell P1 0 (v := .slice (some ⟨b, off, none⟩) 8 cap) rfl
  have q1 := box_cell P1 1 (v := .int .i64 m) rfl
  clear b1 P1 R1 B1 K0 D
  by_cases hb : blkP ⟨h, ed, bl, 0, false⟩
  · have HRR := hid (show r = takeR m fs ⟨h, ed, bl, 0, false⟩ by rw [HR0.out, if_pos hb])
    obtain ⟨i1, i2, i3⟩ : (0 ≤ h ∧ h ≤ 1) ∧ (1 ≤ ed ∧ ed ≤ 99999) ∧ (0 ≤ bl ∧ bl ≤ 23) := hb
    have HOF := hid (show frOf fs h ≤ 5 by
      have := HH.out
      have : h = 0 ∨ h = 1 := by omega
      rcases this with e | e
      · rw [e]; exact HH.out.1
      · rw [e]; exact HH.out.2)
    go_wp2_with (go_at_call 24; refine (l1In_yes _ _ _ _ (by assumption)).mono ?_; rintro e w' ⟨rfl, hw'⟩; replace hw' := hw'.symm; subst hw')
    refine (l10Take_in b off cap fs m h ed bl _ (fun k f hk => (HC.out k f hk).below HB.out (block_lt_of_cell (HC.out k f hk).c0)) H8.out hm HN.out HD.out HOF.out r HRR.out HR8.out).mono ?_
    rintro x w2 ⟨v, rfl, q, d, rfl, o2, b2⟩
    replace HR := hid (kept HR.out b2)
    replace HB := hid (u_cat HB.out b2)
    have HO := hid o2
    have hs2 := b2.size
    clear o2 b2 q0 q1
    have r0 := box_cell HR.out 0 (v := .slice none 0 0) rfl
    have r1 := box_cell HR.out 1 (v := .int .i64 0) rfl
    have z0 := box_frozen HR.out
    have X5 := hid (set_block (set_block HR.out 0 (.slice q r.1.length d)) 1 (.int .i64 r.2.1))
    have x0 := box_cell X5.out 0 (v := .slice q r.1.length d) rfl
    have x1 := box_cell X5.out 1 (v := .int .i64 r.2.1) rfl
    go_wp2_with fail
    refine bodyPost_ret (v := .tuple #[.agg #[.slice q r.1.length d, .int .i64 r.2.1], .int .i64 r.2.2.1, .int .i64 r.2.2.2]) ?_ rfl ⟨_, rfl, q, d, rfl, ?_, ?_⟩
    · simp [results, Try.results13, go_sem, x0, x1]
    · refine owns_base (base := w1.heap.size) ?_ (by omega)
      refine Touch.owns (Touch.setCell _ _ _) (Touch.owns (Touch.setCell _ _ _) HO.out ?_) ?_ <;> (simp only []; omega)
    · refine u_set (u_set HB.out ?_ _ _) ?_ _ _ <;> omega
  · have HRR := hid (show r = (fs, m, 0, 3) by rw [HR0.out, if_neg hb])
    have hb2 : ¬ ((0 ≤ h ∧ h ≤ 1) ∧ (1 ≤ ed ∧ ed ≤ 99999) ∧ 0 ≤ bl ∧ bl ≤ 23) := hb
    clear hb
    have j : (h < 0 ∨ 1 < h) ∨ ((0 ≤ h ∧ h ≤ 1) ∧ (ed < 1 ∨ 99999 < ed)) ∨ ((0 ≤ h ∧ h ≤ 1) ∧ (1 ≤ ed ∧ ed ≤ 99999) ∧ (bl < 0 ∨ 23 < bl)) := by omega
    clear hb2
    rcases j with j1 | ⟨j1, j2⟩ | ⟨j1, j2, j3⟩
    all_goals
      (  go_wp2_with (first | (go_at_call 24; refine (l1In_yes _ _ _ _ (by assumption)).mono ?_; rintro e w' ⟨rfl, hw'⟩; replace hw' := hw'.symm; subst hw') | (go_at_call 24; refine (l1In_no _ _ _ _ (by assumption)).mono ?_; rintro e w' ⟨rfl, hw'⟩; replace hw' := hw'.symm; subst hw'))
         refine (l10Copy_in b off cap fs m _ (fun k f hk => (HC.out k f hk).below HB.out (block_lt_of_cell (HC.out k f hk).c0)) H8.out).mono ?_
         rintro x w2 ⟨q, d, rfl, o2, b2⟩
         replace HR := hid (kept HR.out b2)
         replace HB := hid (u_cat HB.out b2)
         have hq := o2.lt q rfl
         have HO := hid o2
         clear o2 b2 q0 q1
         have r0 := box_cell HR.out 0 (v := .slice none 0 0) rfl
         have r1 := box_cell HR.out 1 (v := .int .i64 0) rfl
         have z0 := box_frozen HR.out
         have X5 := hid (set_block (set_block HR.out 0 (.slice (some ⟨q, 0, none⟩) 8 d)) 1 (.int .i64 m))
         have x0 := box_cell X5.out 0 (v := .slice (some ⟨q, 0, none⟩) 8 d) rfl
         have x1 := box_cell X5.out 1 (v := .int .i64 m) rfl
         go_wp2_with fail
         rw [HRR.out]
         refine bodyPost_ret (v := .tuple #[.agg #[.slice (some ⟨q, 0, none⟩) 8 d, .int .i64 m], .int .i64 0, .int .i64 3]) ?_ rfl ⟨_, rfl, some ⟨q, 0, none⟩, d, by simp only [H8.out], ?_, ?_⟩
         · simp [results, Try.results13, go_sem, x0, x1]
         · rw [H8.out]
           refine owns_base (base := w1.heap.size) ?_ (by omega)
           refine Touch.owns (Touch.setCell _ _ _) (Touch.owns (Touch.setCell _ _ _) HO.out ?_) ?_ <;> (simp only []; omega)
         · refine u_set (u_set HB.out ?_ _ _) ?_ _ _ <;> omega)
end Go.Proofs.Ytnfjplmpaeiagaa
