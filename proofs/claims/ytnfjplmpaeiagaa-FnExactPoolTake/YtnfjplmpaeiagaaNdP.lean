/- Pools that are ok, by the program: the ring of one. -/
import Derived.Test.YtnfjplmpaeiagaaNdK
namespace Go.Proofs.Ytnfjplmpaeiagaa
open Go.ChangeShapes Go.WideShapes Go.ChangeAt Go.RowKit Go.Sort Go.Shelf

def housesP (fs : List Fr) : Prop := frOf fs 0 ≤ 5 ∧ frOf fs 1 ≤ 5
instance (fs : List Fr) : Decidable (housesP fs) := by unfold housesP; infer_instance

set_option maxHeartbeats 2000000 in
theorem housesOk_any (g base : Nat) (hp : Option Addr) (fs : List Fr) (w : World) (hN : NdsAt w base g (ring g fs)) :
    Calls Try.prog 44 #[.agg #[.pointer (some ⟨g, 0, none⟩), .pointer hp]] w fun e w' => e = .returned (.bool (decide (housesP fs))) ∧ Below w.heap.size w w' := by
  have hle : ∀ h, frOf fs h ≤ 8 := fun h => by
    have h8 : fs.length = 8 := by have := hN.len; rwa [ring_len] at this
    have := List.length_filter_le (isOf h) fs
    unfold frOf; omega
  have HN := hid hN
  have HL := hid hle
  clear hN hle
  go_enter Try.func44, Try.ntmps44
  go_wp2
  go_loopw [4] (fun i wr => ∃ k : Nat, k ≤ 2 ∧ i = .int .i64 k ∧ (∀ j : Nat, j < k → frOf fs j ≤ 5) ∧ wr.heap[w.heap.size]? = some (.cells #[.pointer (some ⟨g, 0, none⟩), .pointer hp] 49 (0, 0)) ∧ Below w.heap.size w wr) (fun i _ => 2 - (intOf i).toNat)
  case atStart => exact ⟨0, by omega, rfl, fun j hj => by omega, laid _ _ _, u_b1 _ _⟩
  case round =>
    obtain ⟨k, hk, rfl, hall, X, B⟩ := hrel
    have HA := hid hall
    have HX := hid X
    have HB := hid B
    have q0 := box_cell X 0 (v := .pointer (some ⟨g, 0, none⟩)) rfl
    have q1 := box_cell X 1 (v := .pointer hp) rfl
    clear hall X B
    by_cases hlt : k < 2
    · have hl := HL.out k
      by_cases hle : frOf fs k ≤ 5
      · go_wp2_with (go_at_call 40; refine (of_any g base hp fs k _ (HN.out.below HB.out HN.out.lt.2)).mono ?_; rintro e w2 ⟨rfl, b2⟩)
        go_roundw
        case rel => exact ⟨k + 1, by omega, by go_num, fun j hj => (by
            rcases Nat.lt_succ_iff_lt_or_eq.1 hj with h | h
            · exact HA.out j h
            · subst h; exact hle), kept HX.out b2, u_catn HB.out (Nat.le_refl _) b2⟩
        case measure => simp [intOf]; omega
      · have HF := hid (show decide (housesP fs) = false from decide_eq_false (fun h => hle (by
          match k, hlt with
          | 0, _ => exact h.1
          | 1, _ => exact h.2)))
        go_wp2_with (go_at_call 40; refine (of_any g base hp fs k _ (HN.out.below HB.out HN.out.lt.2)).mono ?_; rintro e w2 ⟨rfl, b2⟩)
        go_ret
        exact ⟨ret_bool HF.out.symm, u_catn HB.out (Nat.le_refl _) b2⟩
    · have HT := hid (show decide (housesP fs) = true from decide_eq_true ⟨HA.out 0 (by omega), HA.out 1 (by omega)⟩)
      go_wp2
      go_ret
      exact ⟨ret_bool HT.out.symm, HB.out⟩

def poolP (fs : List Fr) (hand : Int) : Prop := fs.length = 8 ∧ (0 ≤ hand ∧ hand < 8) ∧ framesP fs ∧ housesP fs
instance (fs : List Fr) (hand : Int) : Decidable (poolP fs hand) := by unfold poolP; infer_instance

set_option maxHeartbeats 2000000 in
theorem ringOf_in (a : Option Addr) (cap : Nat) (fs : List Fr) (hand : Nat) (w : World) (ha : FrsAt w a fs) (h8 : fs.length = 8) (hh : hand < 8) :
    Calls Try.prog 28 #[.agg #[.slice a 8 cap, .int .i64 hand]] w fun e w' => ∃ g, e = .returned (.tuple #[.agg #[.pointer (some ⟨g, 0, none⟩), .pointer (some ⟨g, hand * 7, none⟩)], .bool (decide (framesP fs ∧ housesP fs))]) ∧ NdsAt w' w.heap.size g (ring g fs) ∧ Below w.heap.size w w' := by
  have H8 := hid h8
  have HA := hid ha
  clear h8 ha
  go_enter Try.func28, Try.ntmps28
  go_wp2_with fail
  refine (ringNew_any a cap fs hand _ (HA.out.below (u_b2 _ _ _)) H8.out hh).mono ?_
  rintro e w1 ⟨g, rfl, N1, b1⟩
  obtain ⟨P1, R1, B1⟩ := u_box2 b1
  have HN := hid N1
  have HR := hid R1
  have HB := hid B1
  have hgz := N1.lt
  clear b1 N1 P1 R1 B1
  go_wp2_with fail
  obtain ⟨W, hW⟩ : ∃ W, W = w1.alloc (.cells #[.pointer (some ⟨g, 0, none⟩), .pointer (some ⟨g, hand * 7, none⟩)] 49) := ⟨_, rfl⟩
  have X := laid w1 #[.pointer (some ⟨g, 0, none⟩), .pointer (some ⟨g, hand * 7, none⟩)] 49
  have bW := u_b1 w1 (.cells #[.pointer (some ⟨g, 0, none⟩), .pointer (some ⟨g, hand * 7, none⟩)] 49)
  rw [← hW] at X bW ⊢
  have HX := hid X
  have HN := hid (HN.out.below bW hgz.2)
  have HR := hid (kept HR.out bW)
  have HB := hid (u_catn HB.out (Nat.le_refl _) bW)
  have r0 := cell_regrown (box_cell X 0 (v := .pointer (some ⟨g, 0, none⟩)) rfl)
  have r1 := cell_regrown (box_cell X 1 (v := .pointer (some ⟨g, hand * 7, none⟩)) rfl)
  clear X bW hW
  have k1 := hid (rg (w := W) (fun w' hb => framesOk_any g _ (some ⟨g, hand * 7, none⟩) fs w' (HN.out.below hb HN.out.lt.2)))
  have k2 := hid (rg (w := W) (fun w' hb => housesOk_any g _ (some ⟨g, hand * 7, none⟩) fs w' (HN.out.below hb HN.out.lt.2)))
  refine wp_fore 7 (by kernel_rfl) (by kernel_rfl) (fun _ _ d _ _ h => by cases d <;> exact h) ?_
  dsimp only [List.take_succ_cons, List.take_zero, List.drop_succ_cons, List.drop_zero]
  by_cases hF : framesP fs
  · rw [decide_eq_true hF] at k1
    by_cases hH : housesP fs
    · rw [decide_eq_true hH] at k2
      have DT := hid (show decide (framesP fs ∧ housesP fs) = true from decide_eq_true ⟨hF, hH⟩)
      clear hF hH
      repeat (first
        | go_big_quiet_step (first | (go_at_call 43; exact k1.out _ _) | (go_at_call 44; exact k2.out _ _))
        | quiet_step (first | (go_at_call 43; exact k1.out _ _) | (go_at_call 44; exact k2.out _ _)))
      refine wpQuiet_nil ?_
      intro w4 hw'
      obtain ⟨⟨dq, osq⟩, hw''⟩ := hw'
      have hbq := below_regrown W dq osq
      rw [← hw''] at hbq
      clear hw'' r0 r1
      have HR := hid (kept HR.out hbq)
      have q0 := box_cell HR.out 0 (v := .pointer none) rfl
      have q1 := box_cell HR.out 1 (v := .pointer none) rfl
      have z := box_frozen HR.out
      have X1 := hid (set_block (set_block HR.out 0 (.pointer (some ⟨g, 0, none⟩))) 1 (.pointer (some ⟨g, hand * 7, none⟩)))
      have x0 := box_cell X1.out 0 (v := .pointer (some ⟨g, 0, none⟩)) rfl
      have x1 := box_cell X1.out 1 (v := .pointer (some ⟨g, hand * 7, none⟩)) rfl
      have N4 := hid (HN.out.below hbq HN.out.lt.2)
      have B4 := hid (u_catn HB.out (Nat.le_refl _) hbq)
      clear hbq
      go_wp2
      refine bodyPost_ret (v := .tuple #[.agg #[.pointer (some ⟨g, 0, none⟩), .pointer (some ⟨g, hand * 7, none⟩)], .bool true]) ?_ rfl ⟨g, by rw [DT.out], ?_, u_set (u_set B4.out (by omega) _ _) (by omega) _ _⟩
      · simp [results, Try.results28, go_sem, x0, x1]
      · refine owns_base (base := ((w.alloc (.cells #[.slice a 8 cap, .int .i64 hand] 29)).alloc (.cells #[.pointer none, .pointer none] 49)).heap.size) (u_owns N4.out (fun k hk => ?_)) (by simp; omega)
        cases hk
        have := hgz.1
        simp at this
        rw [Below.heap_setCell _ _ _ _ (by simp; omega), Below.heap_setCell _ _ _ _ (by simp; omega)]
    · rw [decide_eq_false hH] at k2
      have DT := hid (show decide (framesP fs ∧ housesP fs) = false from decide_eq_false (fun h => hH h.2))
      clear hF hH
      repeat (first
        | go_big_quiet_step (first | (go_at_call 43; exact k1.out _ _) | (go_at_call 44; exact k2.out _ _))
        | quiet_step (first | (go_at_call 43; exact k1.out _ _) | (go_at_call 44; exact k2.out _ _)))
      refine wpQuiet_nil ?_
      intro w4 hw'
      obtain ⟨⟨dq, osq⟩, hw''⟩ := hw'
      have hbq := below_regrown W dq osq
      rw [← hw''] at hbq
      clear hw'' r0 r1
      have HR := hid (kept HR.out hbq)
      have q0 := box_cell HR.out 0 (v := .pointer none) rfl
      have q1 := box_cell HR.out 1 (v := .pointer none) rfl
      have z := box_frozen HR.out
      have X1 := hid (set_block (set_block HR.out 0 (.pointer (some ⟨g, 0, none⟩))) 1 (.pointer (some ⟨g, hand * 7, none⟩)))
      have x0 := box_cell X1.out 0 (v := .pointer (some ⟨g, 0, none⟩)) rfl
      have x1 := box_cell X1.out 1 (v := .pointer (some ⟨g, hand * 7, none⟩)) rfl
      have N4 := hid (HN.out.below hbq HN.out.lt.2)
      have B4 := hid (u_catn HB.out (Nat.le_refl _) hbq)
      clear hbq
      go_wp2
      refine bodyPost_ret (v := .tuple #[.agg #[.pointer (some ⟨g, 0, none⟩), .pointer (some ⟨g, hand * 7, none⟩)], .bool false]) ?_ rfl ⟨g, by rw [DT.out], ?_, u_set (u_set B4.out (by omega) _ _) (by omega) _ _⟩
      · simp [results, Try.results28, go_sem, x0, x1]
      · refine owns_base (base := ((w.alloc (.cells #[.slice a 8 cap, .int .i64 hand] 29)).alloc (.cells #[.pointer none, .pointer none] 49)).heap.size) (u_owns N4.out (fun k hk => ?_)) (by simp; omega)
        cases hk
        have := hgz.1
        simp at this
        rw [Below.heap_setCell _ _ _ _ (by simp; omega), Below.heap_setCell _ _ _ _ (by simp; omega)]
  · rw [decide_eq_false hF] at k1
    have DT := hid (show decide (framesP fs ∧ housesP fs) = false from decide_eq_false (fun h => hF h.1))
    clear hF
    repeat (first
      | go_big_quiet_step (first | (go_at_call 43; exact k1.out _ _) | (go_at_call 44; exact k2.out _ _))
      | quiet_step (first | (go_at_call 43; exact k1.out _ _) | (go_at_call 44; exact k2.out _ _)))
    refine wpQuiet_nil ?_
    intro w4 hw'
    obtain ⟨⟨dq, osq⟩, hw''⟩ := hw'
    have hbq := below_regrown W dq osq
    rw [← hw''] at hbq
    clear hw'' r0 r1
    have HR := hid (kept HR.out hbq)
    have q0 := box_cell HR.out 0 (v := .pointer none) rfl
    have q1 := box_cell HR.out 1 (v := .pointer none) rfl
    have z := box_frozen HR.out
    have X1 := hid (set_block (set_block HR.out 0 (.pointer (some ⟨g, 0, none⟩))) 1 (.pointer (some ⟨g, hand * 7, none⟩)))
    have x0 := box_cell X1.out 0 (v := .pointer (some ⟨g, 0, none⟩)) rfl
    have x1 := box_cell X1.out 1 (v := .pointer (some ⟨g, hand * 7, none⟩)) rfl
    have N4 := hid (HN.out.below hbq HN.out.lt.2)
    have B4 := hid (u_catn HB.out (Nat.le_refl _) hbq)
    clear hbq
    go_wp2
    refine bodyPost_ret (v := .tuple #[.agg #[.pointer (some ⟨g, 0, none⟩), .pointer (some ⟨g, hand * 7, none⟩)], .bool false]) ?_ rfl ⟨g, by rw [DT.out], ?_, u_set (u_set B4.out (by omega) _ _) (by omega) _ _⟩
    · simp [results, Try.results28, go_sem, x0, x1]
    · refine owns_base (base := ((w.alloc (.cells #[.slice a 8 cap, .int .i64 hand] 29)).alloc (.cells #[.pointer none, .pointer none] 49)).heap.size) (u_owns N4.out (fun k hk => ?_)) (by simp; omega)
      cases hk
      have := hgz.1
      simp at this
      rw [Below.heap_setCell _ _ _ _ (by simp; omega), Below.heap_setCell _ _ _ _ (by simp; omega)]

set_option maxHeartbeats 1000000 in
theorem ringOf_out (a : Option Addr) (n cap : Nat) (hand : Int) (w : World) (hn : n ≤ 1048576) (h : ¬ (n = 8 ∧ 0 ≤ hand ∧ hand < 8)) :
    Calls Try.prog 28 #[.agg #[.slice a n cap, .int .i64 hand]] w fun e w' => e = .returned (.tuple #[.agg #[.pointer none, .pointer none], .bool false]) ∧ Below w.heap.size w w' := by
  have K : n ≠ 8 ∨ (n = 8 ∧ hand < 0) ∨ (n = 8 ∧ 0 ≤ hand ∧ 8 ≤ hand) := by omega
  clear h
  rcases K with K | ⟨rfl, K⟩ | ⟨rfl, K1, K⟩
  · have K2 : ¬ (n : Int) = 8 := by omega
    clear K
    go_enter Try.func28, Try.ntmps28
    go_wp2
    refine bodyPost_ret (v := .tuple #[.agg #[.pointer none, .pointer none], .bool false]) ?_ rfl ⟨rfl, u_b2 _ _ _⟩
    simp [results, Try.results28, go_sem]
  · go_enter Try.func28, Try.ntmps28
    go_wp2
    refine bodyPost_ret (v := .tuple #[.agg #[.pointer none, .pointer none], .bool false]) ?_ rfl ⟨rfl, u_b2 _ _ _⟩
    simp [results, Try.results28, go_sem]
  · go_enter Try.func28, Try.ntmps28
    go_wp2
    refine bodyPost_ret (v := .tuple #[.agg #[.pointer none, .pointer none], .bool false]) ?_ rfl ⟨rfl, u_b2 _ _ _⟩
    simp [results, Try.results28, go_sem]
end Go.Proofs.Ytnfjplmpaeiagaa
