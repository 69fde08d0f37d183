/- What the model says of a row. -/
import Derived.Test.YtpdaobiaekamoaaDoorG22
import Derived.Test.YtpdaobiaekamoaaDoorG18
namespace Go.Proofs.YtpdaobiaekamoaaDoor
open Go.ChangeShapes Go.WideShapes Go.ChangeAt Go.RowKit Go.Sort Go.Shelf

set_option maxHeartbeats 8000000 in
set_option maxRecDepth 20000 in
theorem specSolverSays_any (a : Option Addr) (cap : Nat) (es : List EqV) (c z : Int) (ar : Option Addr) (cr : Nat) (row : List Int) (w : World) (ha : EqsAt w a es) (hsm : SmallE es) (hl : es.length ≤ 1048576) (hrow : IntsAt w ar row) (hrl : row.length ≤ 1048576) (hcr : ar = none → cr = 0) :
    Calls Tryd.prog 28 #[.agg #[.int .i64 c, .int .i64 z, .slice a es.length cap], .slice ar row.length cr] w fun e w' => e = .returned (.tuple #[.string (saysT c z es row), .bool (decide (saysP c z es row))]) ∧ Below w.heap.size w w' := by
  have HA := hid ha
  have HS := hid hsm
  have HR := hid hrow
  have HN := hid (show ar = none → row.length = 0 ∧ cr = 0 from fun h => ⟨none_len hrow h, hcr h⟩)
  obtain ⟨i0, hi, hz0, hz1, hz2⟩ := info_parts Tryd.info3
  obtain ⟨W0, hW0⟩ : ∃ W0, W0 = w.alloc (.cells #[.int .i64 c, .int .i64 z, .slice a es.length cap] 29) := ⟨_, rfl⟩
  obtain ⟨X0, B0⟩ := u_box (w := w) (c := #[.int .i64 c, .int .i64 z, .slice a es.length cap]) (t := 29) (w1 := W0) (by rw [hW0]; exact Below.refl _ _)
  have hs0 : W0.heap.size = w.heap.size + 1 := by rw [hW0]; simp
  have KO := hid (fun w ha => specSolverOk_any a cap es c z w ha hsm hl)
  have q0 := box_cell X0 0 (v := .int .i64 c) rfl
  have q1 := box_cell X0 1 (v := .int .i64 z) rfl
  have q2 := box_cell X0 2 (v := .slice a es.length cap) rfl
  have HX := hid X0
  have HB := hid B0
  clear ha hsm hrow X0 B0
  go_enter Tryd.func28, Tryd.ntmps28
  go_wp2_with fail
  rw [← hW0]
  clear hW0
  go_wp2_with fail
  refine (KO.out W0 (HA.out.below HB.out)).mono ?_
  rintro e w1 ⟨rfl, b1⟩
  replace HX := hid (kept HX.out b1)
  replace HB := hid (u_cat HB.out b1)
  clear q0 q1 q2 b1
  by_cases hp : solverP c z es
  · rw [decide_eq_true hp]
    have c1 := hp.1.1.1
    have c2 := hp.1.1.2
    have z1 := hp.1.2.1
    have z2 := hp.1.2.2
    have HP := hid hp
    have q0 := box_cell HX.out 0 (v := .int .i64 c) rfl
    have KR := hid (fun w h => specRowOk_any ar cr row c w h (by omega) (by omega) (by omega))
    clear hp
    go_wp2_with fail
    refine (KR.out w1 (HR.out.below HB.out)).mono ?_
    rintro e w2 ⟨rfl, b2⟩
    have b2 := b2.below w1.heap.size
    replace HX := hid (kept HX.out b2)
    replace HB := hid (u_cat HB.out b2)
    clear q0 b2
    have hro : rowOkB row c = ascB (-1) c row := by unfold rowOkB; simp; omega
    rw [hro]
    by_cases hrw : ascB (-1) c row = true
    · rw [hrw]
      have HRW := hid hrw
      clear hrw hro
      have q0 := box_cell HX.out 0 (v := .int .i64 c) rfl
      have q1 := box_cell HX.out 1 (v := .int .i64 z) rfl
      have q2 := box_cell HX.out 2 (v := .slice a es.length cap) rfl
      have y0 := cell_regrown q0
      have y1 := cell_regrown q1
      have y2 := cell_regrown q2
      obtain ⟨zn, rfl⟩ : ∃ zn : Nat, z = zn := ⟨z.toNat, by omega⟩
      have KZ := fun w => l3Zero_any zn w (by omega)
      rw [rep_zero] at KZ
      have KZ := hid KZ
      have KL := hid (fun a5 d5 V h1 h2 => l3Less_any a cap es c zn a5 d5 row (List.replicate zn 0) zn V h1 (okRows HP.out) hl h2 (asc_up HRW.out c2) (by simp) zeros_bytes (by omega))
      go_wp2_with fail
      refine wp_float 10 9 _ [(0, 1), (2, 1), (4, 2)] [(1, 1), (3, 1), (6, 3)] [(10, 1)] (by kernel_rfl) rfl (by kernel_rfl) (fun _ _ d _ _ h => by cases d <;> exact h) ?_
      simp only [cutOut, List.take_succ_cons, List.take_zero, List.drop_succ_cons, List.drop_zero, List.nil_append, List.cons_append, List.append_nil]
      repeat (first | go_big_quiet_step (fail) | quiet_step (fail))
      refine wpQuiet_nil ?_
      intro V0 hw'
      have HCV0 := hid (of_class hw')
      clear hw' y0 y1 y2 q0 q1 q2
      refine wpRestF_step (fun K hK => ?_) ?_
      · go_simp
        refine hK _ _ (class_of (HCV0.out.trans ((u_b1 _ _).mono HCV0.out.size))) ?_
        clear hK K
        obtain ⟨V1, hV1⟩ : ∃ V1, V1 = V0.alloc (.cells #[] 3) := ⟨_, rfl⟩
        rw [← hV1]
        have bV1 : Below V0.heap.size V0 V1 := by rw [hV1]; exact u_b1 _ _
        have OW := hid (show V1.ownsRow V0.heap.size 3 1 (.slice (some ⟨V0.heap.size, 0, none⟩) 0 0) 0 [] by rw [hV1]; exact World.ownsRow_lit V0 #[] 0 (Nat.le_refl _) (Nat.zero_le _) rfl)
        have hzV1 : w2.heap.size ≤ V0.heap.size ∧ V0.heap.size < V1.heap.size := ⟨HCV0.out.size, by rw [hV1]; simp⟩
        clear hV1
        have HCV1 := hid (HCV0.out.trans (bV1.mono HCV0.out.size))
        clear bV1
        refine wpRestF_step (fun K hK => ?_) ?_
        · refine step_append_row 33 3 i0 _ 8 Tryd.underlying33 hi hz0 hz1 hz2 rfl _ _ rfl rfl rfl ar row.length cr (row.map (Value.int .i64)) rfl (by simp) HN.out OW.out (fun ad had => row_news (HR.out.below (u_cat HB.out HCV1.out)) had) row_ones (by omega) (by omega) (by omega) ?_
          intro v' V2 o5 g5
          rw [Nat.zero_add, List.nil_append] at o5
          obtain ⟨a5, d5, rfl⟩ := owns_slice o5
          have HCV2 := hid (HCV1.out.trans ((grown_base g5 OW.out (by omega)).mono (by omega)))
          refine hK _ _ (class_of HCV2.out) ?_
          clear hK K
          have hzV2 : V1.heap.size ≤ V2.heap.size := g5.size
          have HIA := hid (owns_at o5)
          clear g5 OW o5
          refine wpRestF_step (fun K hK => ?_) ?_
          · go_simp
            with_reducible refine (KZ.out V2).mono ?_
            rintro _ V3 ⟨rfl, bV3⟩
            have HCV3 := hid (HCV2.out.trans (bV3.mono HCV2.out.size))
            refine hK _ _ (class_of HCV3.out) ?_
            clear hK K
            replace HIA := hid (HIA.out.below bV3)
            have hzV3 := bV3.size
            clear bV3
            refine wpRestF_step (fun K hK => ?_) ?_
            · go_simp
              refine hK _ _ (class_of HCV3.out) ?_
              clear hK K
              refine wpRestF_step (fun K hK => ?_) ?_
              · go_simp
                with_reducible refine (KL.out a5 d5 V3 (HA.out.below (u_cat HB.out HCV3.out)) HIA.out).mono ?_
                rintro _ V4 ⟨a', c', s, hs, rfl, -, -, bV4⟩
                have HSS := hid hs
                have HCV4 := hid (HCV3.out.trans (bV4.mono HCV3.out.size))
                refine hK _ _ (class_of HCV4.out) ?_
                clear hK K hs HIA
                have hzV4 := bV4.size
                clear bV4
                refine wpRestF_nil ?_
                refine wpRest_step (fun K hK => ?_)
                go_simp
                refine hK _ _ (class_of (HCV4.out.trans ((u_b1 _ _).mono HCV4.out.size))) ?_
                clear hK K
                obtain ⟨V5, hV5⟩ : ∃ V5, V5 = V4.alloc (.cells #[.slice none 0 0, .string ⟨#[]⟩] 53) := ⟨_, rfl⟩
                rw [← hV5]
                have bV5 : Below V4.heap.size V4 V5 := by rw [hV5]; exact u_b1 _ _
                have G := hid (show V5.heap[V4.heap.size]? = some (.cells #[.slice none 0 0, .string ⟨#[]⟩] 53 (0, 0)) by rw [hV5]; exact laid V4 _ _)
                have hzV5 : w2.heap.size ≤ V4.heap.size ∧ V4.heap.size < V5.heap.size := ⟨HCV4.out.size, by rw [hV5]; simp⟩
                clear hV5
                have HCV5 := hid (HCV4.out.trans (bV5.mono HCV4.out.size))
                clear bV5
                have g0 := box_cell G.out 0 (v := .slice none 0 0) rfl
                have g1 := box_cell G.out 1 (v := .string ⟨#[]⟩) rfl
                have gz := box_frozen G.out
                have gl := lt_of_block G.out
                have S := set_block (set_block G.out 0 (.slice a' s.1.length c')) 1 (.string (strOfNums s.2))
                have x0 := box_cell S 0 (v := .slice a' s.1.length c') (by simp)
                have x1 := box_cell S 1 (v := .string (strOfNums s.2)) (by simp)
                have hgw : w2.heap.size ≤ V4.heap.size := by omega
                clear S
                go_wp2_with fail
                refine .inl ?_
                go_simp
                by_cases hnil : s.1 = []
                · have t1 : decide (0 < s.1.length) = false := by simp [hnil]
                  have HNIL := hid hnil
                  clear hnil
                  go_wp2_with fail
                  have hsp := (says_post HP.out HRW.out HSS.out).1 HNIL.out
                  refine bodyPost_ret (v := .tuple #[.string (strOfNums s.2), .bool true]) ?_ rfl ⟨by rw [hsp.1, hsp.2], (u_set (u_set (u_cat HB.out HCV5.out) (Nat.le_trans HB.out.size hgw) _ _) (Nat.le_trans HB.out.size hgw) _ _)⟩
                  simp [results, Tryd.results28, go_sem]
                · have t1 : decide (0 < s.1.length) = true := decide_eq_true (List.length_pos_iff.2 hnil)
                  have HNIL := hid hnil
                  clear hnil
                  go_wp2_with fail
                  have hsp := (says_post HP.out HRW.out HSS.out).2 HNIL.out
                  refine bodyPost_ret (v := .tuple #[.string ⟨#[]⟩, .bool false]) ?_ rfl ⟨by rw [hsp.1, hsp.2], (u_set (u_set (u_cat HB.out HCV5.out) (Nat.le_trans HB.out.size hgw) _ _) (Nat.le_trans HB.out.size hgw) _ _)⟩
                  simp [results, Tryd.results28, go_sem]
              · simp only [List.cons_append, List.nil_append]
                refine wpRest_step (fun K hK => ?_)
                go_simp
                refine hK _ _ (class_of (HCV3.out.trans ((u_b1 _ _).mono HCV3.out.size))) ?_
                clear hK K
                obtain ⟨V4, hV4⟩ : ∃ V4, V4 = V3.alloc (.cells #[.slice none 0 0, .string ⟨#[]⟩] 53) := ⟨_, rfl⟩
                rw [← hV4]
                have bV4 : Below V3.heap.size V3 V4 := by rw [hV4]; exact u_b1 _ _
                have G := hid (show V4.heap[V3.heap.size]? = some (.cells #[.slice none 0 0, .string ⟨#[]⟩] 53 (0, 0)) by rw [hV4]; exact laid V3 _ _)
                have hzV4 : w2.heap.size ≤ V3.heap.size ∧ V3.heap.size < V4.heap.size := ⟨HCV3.out.size, by rw [hV4]; simp⟩
                clear hV4
                have HCV4 := hid (HCV3.out.trans (bV4.mono HCV3.out.size))
                replace HIA := hid (HIA.out.below bV4)
                clear bV4
                refine wpRest_step (fun K hK => ?_)
                go_simp
                with_reducible refine (KL.out a5 d5 V4 (HA.out.below (u_cat HB.out HCV4.out)) HIA.out).mono ?_
                rintro _ V5 ⟨a', c', s, hs, rfl, -, -, bV5⟩
                have HSS := hid hs
                have HCV5 := hid (HCV4.out.trans (bV5.mono HCV4.out.size))
                refine hK _ _ (class_of HCV5.out) ?_
                clear hK K hs HIA
                have hzV5 := bV5.size
                replace G := hid (kept G.out bV5)
                clear bV5
                have g0 := box_cell G.out 0 (v := .slice none 0 0) rfl
                have g1 := box_cell G.out 1 (v := .string ⟨#[]⟩) rfl
                have gz := box_frozen G.out
                have gl := lt_of_block G.out
                have S := set_block (set_block G.out 0 (.slice a' s.1.length c')) 1 (.string (strOfNums s.2))
                have x0 := box_cell S 0 (v := .slice a' s.1.length c') (by simp)
                have x1 := box_cell S 1 (v := .string (strOfNums s.2)) (by simp)
                have hgw : w2.heap.size ≤ V3.heap.size := by omega
                clear S
                go_wp2_with fail
                refine .inl ?_
                go_simp
                by_cases hnil : s.1 = []
                · have t1 : decide (0 < s.1.length) = false := by simp [hnil]
                  have HNIL := hid hnil
                  clear hnil
                  go_wp2_with fail
                  have hsp := (says_post HP.out HRW.out HSS.out).1 HNIL.out
                  refine bodyPost_ret (v := .tuple #[.string (strOfNums s.2), .bool true]) ?_ rfl ⟨by rw [hsp.1, hsp.2], (u_set (u_set (u_cat HB.out HCV5.out) (Nat.le_trans HB.out.size hgw) _ _) (Nat.le_trans HB.out.size hgw) _ _)⟩
                  simp [results, Tryd.results28, go_sem]
                · have t1 : decide (0 < s.1.length) = true := decide_eq_true (List.length_pos_iff.2 hnil)
                  have HNIL := hid hnil
                  clear hnil
                  go_wp2_with fail
                  have hsp := (says_post HP.out HRW.out HSS.out).2 HNIL.out
                  refine bodyPost_ret (v := .tuple #[.string ⟨#[]⟩, .bool false]) ?_ rfl ⟨by rw [hsp.1, hsp.2], (u_set (u_set (u_cat HB.out HCV5.out) (Nat.le_trans HB.out.size hgw) _ _) (Nat.le_trans HB.out.size hgw) _ _)⟩
                  simp [results, Tryd.results28, go_sem]
            · simp only [List.cons_append, List.nil_append]
              refine wpRest_step (fun K hK => ?_)
              go_simp
              refine hK _ _ (class_of (HCV3.out.trans ((u_b1 _ _).mono HCV3.out.size))) ?_
              clear hK K
              obtain ⟨V4, hV4⟩ : ∃ V4, V4 = V3.alloc (.cells #[.slice none 0 0, .string ⟨#[]⟩] 53) := ⟨_, rfl⟩
              rw [← hV4]
              have bV4 : Below V3.heap.size V3 V4 := by rw [hV4]; exact u_b1 _ _
              have G := hid (show V4.heap[V3.heap.size]? = some (.cells #[.slice none 0 0, .string ⟨#[]⟩] 53 (0, 0)) by rw [hV4]; exact laid V3 _ _)
              have hzV4 : w2.heap.size ≤ V3.heap.size ∧ V3.heap.size < V4.heap.size := ⟨HCV3.out.size, by rw [hV4]; simp⟩
              clear hV4
              have HCV4 := hid (HCV3.out.trans (bV4.mono HCV3.out.size))
              replace HIA := hid (HIA.out.below bV4)
              clear bV4
              refine wpRest_step (fun K hK => ?_)
              go_simp
              refine hK _ _ (class_of HCV4.out) ?_
              clear hK K
              refine wpRest_step (fun K hK => ?_)
              go_simp
              with_reducible refine (KL.out a5 d5 V4 (HA.out.below (u_cat HB.out HCV4.out)) HIA.out).mono ?_
              rintro _ V5 ⟨a', c', s, hs, rfl, -, -, bV5⟩
              have HSS := hid hs
              have HCV5 := hid (HCV4.out.trans (bV5.mono HCV4.out.size))
              refine hK _ _ (class_of HCV5.out) ?_
              clear hK K hs HIA
              have hzV5 := bV5.size
              replace G := hid (kept G.out bV5)
              clear bV5
              have g0 := box_cell G.out 0 (v := .slice none 0 0) rfl
              have g1 := box_cell G.out 1 (v := .string ⟨#[]⟩) rfl
              have gz := box_frozen G.out
              have gl := lt_of_block G.out
              have S := set_block (set_block G.out 0 (.slice a' s.1.length c')) 1 (.string (strOfNums s.2))
              have x0 := box_cell S 0 (v := .slice a' s.1.length c') (by simp)
              have x1 := box_cell S 1 (v := .string (strOfNums s.2)) (by simp)
              have hgw : w2.heap.size ≤ V3.heap.size := by omega
              clear S
              go_wp2_with fail
              refine .inl ?_
              go_simp
              by_cases hnil : s.1 = []
              · have t1 : decide (0 < s.1.length) = false := by simp [hnil]
                have HNIL := hid hnil
                clear hnil
                go_wp2_with fail
                have hsp := (says_post HP.out HRW.out HSS.out).1 HNIL.out
                refine bodyPost_ret (v := .tuple #[.string (strOfNums s.2), .bool true]) ?_ rfl ⟨by rw [hsp.1, hsp.2], (u_set (u_set (u_cat HB.out HCV5.out) (Nat.le_trans HB.out.size hgw) _ _) (Nat.le_trans HB.out.size hgw) _ _)⟩
                simp [results, Tryd.results28, go_sem]
              · have t1 : decide (0 < s.1.length) = true := decide_eq_true (List.length_pos_iff.2 hnil)
                have HNIL := hid hnil
                clear hnil
                go_wp2_with fail
                have hsp := (says_post HP.out HRW.out HSS.out).2 HNIL.out
                refine bodyPost_ret (v := .tuple #[.string ⟨#[]⟩, .bool false]) ?_ rfl ⟨by rw [hsp.1, hsp.2], (u_set (u_set (u_cat HB.out HCV5.out) (Nat.le_trans HB.out.size hgw) _ _) (Nat.le_trans HB.out.size hgw) _ _)⟩
                simp [results, Tryd.results28, go_sem]
          · simp only [List.cons_append, List.nil_append]
            refine wpRest_step (fun K hK => ?_)
            go_simp
            refine hK _ _ (class_of (HCV2.out.trans ((u_b1 _ _).mono HCV2.out.size))) ?_
            clear hK K
            obtain ⟨V3, hV3⟩ : ∃ V3, V3 = V2.alloc (.cells #[.slice none 0 0, .string ⟨#[]⟩] 53) := ⟨_, rfl⟩
            rw [← hV3]
            have bV3 : Below V2.heap.size V2 V3 := by rw [hV3]; exact u_b1 _ _
            have G := hid (show V3.heap[V2.heap.size]? = some (.cells #[.slice none 0 0, .string ⟨#[]⟩] 53 (0, 0)) by rw [hV3]; exact laid V2 _ _)
            have hzV3 : w2.heap.size ≤ V2.heap.size ∧ V2.heap.size < V3.heap.size := ⟨HCV2.out.size, by rw [hV3]; simp⟩
            clear hV3
            have HCV3 := hid (HCV2.out.trans (bV3.mono HCV2.out.size))
            replace HIA := hid (HIA.out.below bV3)
            clear bV3
            refine wpRest_step (fun K hK => ?_)
            go_simp
            with_reducible refine (KZ.out V3).mono ?_
            rintro _ V4 ⟨rfl, bV4⟩
            have HCV4 := hid (HCV3.out.trans (bV4.mono HCV3.out.size))
            refine hK _ _ (class_of HCV4.out) ?_
            clear hK K
            replace HIA := hid (HIA.out.below bV4)
            have hzV4 := bV4.size
            replace G := hid (kept G.out bV4)
            clear bV4
            refine wpRest_step (fun K hK => ?_)
            go_simp
            refine hK _ _ (class_of HCV4.out) ?_
            clear hK K
            refine wpRest_step (fun K hK => ?_)
            go_simp
            with_reducible refine (KL.out a5 d5 V4 (HA.out.below (u_cat HB.out HCV4.out)) HIA.out).mono ?_
            rintro _ V5 ⟨a', c', s, hs, rfl, -, -, bV5⟩
            have HSS := hid hs
            have HCV5 := hid (HCV4.out.trans (bV5.mono HCV4.out.size))
            refine hK _ _ (class_of HCV5.out) ?_
            clear hK K hs HIA
            have hzV5 := bV5.size
            replace G := hid (kept G.out bV5)
            clear bV5
            have g0 := box_cell G.out 0 (v := .slice none 0 0) rfl
            have g1 := box_cell G.out 1 (v := .string ⟨#[]⟩) rfl
            have gz := box_frozen G.out
            have gl := lt_of_block G.out
            have S := set_block (set_block G.out 0 (.slice a' s.1.length c')) 1 (.string (strOfNums s.2))
            have x0 := box_cell S 0 (v := .slice a' s.1.length c') (by simp)
            have x1 := box_cell S 1 (v := .string (strOfNums s.2)) (by simp)
            have hgw : w2.heap.size ≤ V2.heap.size := by omega
            clear S
            go_wp2_with fail
            refine .inl ?_
            go_simp
            by_cases hnil : s.1 = []
            · have t1 : decide (0 < s.1.length) = false := by simp [hnil]
              have HNIL := hid hnil
              clear hnil
              go_wp2_with fail
              have hsp := (says_post HP.out HRW.out HSS.out).1 HNIL.out
              refine bodyPost_ret (v := .tuple #[.string (strOfNums s.2), .bool true]) ?_ rfl ⟨by rw [hsp.1, hsp.2], (u_set (u_set (u_cat HB.out HCV5.out) (Nat.le_trans HB.out.size hgw) _ _) (Nat.le_trans HB.out.size hgw) _ _)⟩
              simp [results, Tryd.results28, go_sem]
            · have t1 : decide (0 < s.1.length) = true := decide_eq_true (List.length_pos_iff.2 hnil)
              have HNIL := hid hnil
              clear hnil
              go_wp2_with fail
              have hsp := (says_post HP.out HRW.out HSS.out).2 HNIL.out
              refine bodyPost_ret (v := .tuple #[.string ⟨#[]⟩, .bool false]) ?_ rfl ⟨by rw [hsp.1, hsp.2], (u_set (u_set (u_cat HB.out HCV5.out) (Nat.le_trans HB.out.size hgw) _ _) (Nat.le_trans HB.out.size hgw) _ _)⟩
              simp [results, Tryd.results28, go_sem]
        · simp only [List.cons_append, List.nil_append]
          refine wpRest_step (fun K hK => ?_)
          go_simp
          refine hK _ _ (class_of (HCV1.out.trans ((u_b1 _ _).mono HCV1.out.size))) ?_
          clear hK K
          obtain ⟨V2, hV2⟩ : ∃ V2, V2 = V1.alloc (.cells #[.slice none 0 0, .string ⟨#[]⟩] 53) := ⟨_, rfl⟩
          rw [← hV2]
          have bV2 : Below V1.heap.size V1 V2 := by rw [hV2]; exact u_b1 _ _
          have G := hid (show V2.heap[V1.heap.size]? = some (.cells #[.slice none 0 0, .string ⟨#[]⟩] 53 (0, 0)) by rw [hV2]; exact laid V1 _ _)
          have hzV2 : w2.heap.size ≤ V1.heap.size ∧ V1.heap.size < V2.heap.size := ⟨HCV1.out.size, by rw [hV2]; simp⟩
          clear hV2
          have HCV2 := hid (HCV1.out.trans (bV2.mono HCV1.out.size))
          replace OW := hid (owns_below OW.out bV2)
          clear bV2
          refine wpRest_step (fun K hK => ?_)
          refine step_append_row 33 3 i0 _ 8 Tryd.underlying33 hi hz0 hz1 hz2 rfl _ _ rfl rfl rfl ar row.length cr (row.map (Value.int .i64)) rfl (by simp) HN.out OW.out (fun ad had => row_news (HR.out.below (u_cat HB.out HCV2.out)) had) row_ones (by omega) (by omega) (by omega) ?_
          intro v' V3 o5 g5
          rw [Nat.zero_add, List.nil_append] at o5
          obtain ⟨a5, d5, rfl⟩ := owns_slice o5
          have HCV3 := hid (HCV2.out.trans ((grown_base g5 OW.out (by omega)).mono (by omega)))
          refine hK _ _ (class_of HCV3.out) ?_
          clear hK K
          have hzV3 : V2.heap.size ≤ V3.heap.size := g5.size
          have HIA := hid (owns_at o5)
          replace G := hid ((g5.block _ (lt_of_block G.out) (by intro h; have h2 : V0.heap.size = V1.heap.size := (Option.some.inj h).symm ▸ rfl; omega)).trans G.out)
          clear g5 OW o5
          refine wpRest_step (fun K hK => ?_)
          go_simp
          with_reducible refine (KZ.out V3).mono ?_
          rintro _ V4 ⟨rfl, bV4⟩
          have HCV4 := hid (HCV3.out.trans (bV4.mono HCV3.out.size))
          refine hK _ _ (class_of HCV4.out) ?_
          clear hK K
          replace HIA := hid (HIA.out.below bV4)
          have hzV4 := bV4.size
          replace G := hid (kept G.out bV4)
          clear bV4
          refine wpRest_step (fun K hK => ?_)
          go_simp
          refine hK _ _ (class_of HCV4.out) ?_
          clear hK K
          refine wpRest_step (fun K hK => ?_)
          go_simp
          with_reducible refine (KL.out a5 d5 V4 (HA.out.below (u_cat HB.out HCV4.out)) HIA.out).mono ?_
          rintro _ V5 ⟨a', c', s, hs, rfl, -, -, bV5⟩
          have HSS := hid hs
          have HCV5 := hid (HCV4.out.trans (bV5.mono HCV4.out.size))
          refine hK _ _ (class_of HCV5.out) ?_
          clear hK K hs HIA
          have hzV5 := bV5.size
          replace G := hid (kept G.out bV5)
          clear bV5
          have g0 := box_cell G.out 0 (v := .slice none 0 0) rfl
          have g1 := box_cell G.out 1 (v := .string ⟨#[]⟩) rfl
          have gz := box_frozen G.out
          have gl := lt_of_block G.out
          have S := set_block (set_block G.out 0 (.slice a' s.1.length c')) 1 (.string (strOfNums s.2))
          have x0 := box_cell S 0 (v := .slice a' s.1.length c') (by simp)
          have x1 := box_cell S 1 (v := .string (strOfNums s.2)) (by simp)
          have hgw : w2.heap.size ≤ V1.heap.size := by omega
          clear S
          go_wp2_with fail
          refine .inl ?_
          go_simp
          by_cases hnil : s.1 = []
          · have t1 : decide (0 < s.1.length) = false := by simp [hnil]
            have HNIL := hid hnil
            clear hnil
            go_wp2_with fail
            have hsp := (says_post HP.out HRW.out HSS.out).1 HNIL.out
            refine bodyPost_ret (v := .tuple #[.string (strOfNums s.2), .bool true]) ?_ rfl ⟨by rw [hsp.1, hsp.2], (u_set (u_set (u_cat HB.out HCV5.out) (Nat.le_trans HB.out.size hgw) _ _) (Nat.le_trans HB.out.size hgw) _ _)⟩
            simp [results, Tryd.results28, go_sem]
          · have t1 : decide (0 < s.1.length) = true := decide_eq_true (List.length_pos_iff.2 hnil)
            have HNIL := hid hnil
            clear hnil
            go_wp2_with fail
            have hsp := (says_post HP.out HRW.out HSS.out).2 HNIL.out
            refine bodyPost_ret (v := .tuple #[.string ⟨#[]⟩, .bool false]) ?_ rfl ⟨by rw [hsp.1, hsp.2], (u_set (u_set (u_cat HB.out HCV5.out) (Nat.le_trans HB.out.size hgw) _ _) (Nat.le_trans HB.out.size hgw) _ _)⟩
            simp [results, Tryd.results28, go_sem]
      · simp only [List.cons_append, List.nil_append]
        refine wpRest_step (fun K hK => ?_)
        go_simp
        refine hK _ _ (class_of (HCV0.out.trans ((u_b1 _ _).mono HCV0.out.size))) ?_
        clear hK K
        obtain ⟨V1, hV1⟩ : ∃ V1, V1 = V0.alloc (.cells #[.slice none 0 0, .string ⟨#[]⟩] 53) := ⟨_, rfl⟩
        rw [← hV1]
        have bV1 : Below V0.heap.size V0 V1 := by rw [hV1]; exact u_b1 _ _
        have G := hid (show V1.heap[V0.heap.size]? = some (.cells #[.slice none 0 0, .string ⟨#[]⟩] 53 (0, 0)) by rw [hV1]; exact laid V0 _ _)
        have hzV1 : w2.heap.size ≤ V0.heap.size ∧ V0.heap.size < V1.heap.size := ⟨HCV0.out.size, by rw [hV1]; simp⟩
        clear hV1
        have HCV1 := hid (HCV0.out.trans (bV1.mono HCV0.out.size))
        clear bV1
        refine wpRest_step (fun K hK => ?_)
        go_simp
        refine hK _ _ (class_of (HCV1.out.trans ((u_b1 _ _).mono HCV1.out.size))) ?_
        clear hK K
        obtain ⟨V2, hV2⟩ : ∃ V2, V2 = V1.alloc (.cells #[] 3) := ⟨_, rfl⟩
        rw [← hV2]
        have bV2 : Below V1.heap.size V1 V2 := by rw [hV2]; exact u_b1 _ _
        have OW := hid (show V2.ownsRow V1.heap.size 3 1 (.slice (some ⟨V1.heap.size, 0, none⟩) 0 0) 0 [] by rw [hV2]; exact World.ownsRow_lit V1 #[] 0 (Nat.le_refl _) (Nat.zero_le _) rfl)
        have hzV2 : w2.heap.size ≤ V1.heap.size ∧ V1.heap.size < V2.heap.size := ⟨HCV1.out.size, by rw [hV2]; simp⟩
        clear hV2
        have HCV2 := hid (HCV1.out.trans (bV2.mono HCV1.out.size))
        have hg := lt_of_block G.out
        replace G := hid (kept G.out bV2)
        clear bV2
        refine wpRest_step (fun K hK => ?_)
        refine step_append_row 33 3 i0 _ 8 Tryd.underlying33 hi hz0 hz1 hz2 rfl _ _ rfl rfl rfl ar row.length cr (row.map (Value.int .i64)) rfl (by simp) HN.out OW.out (fun ad had => row_news (HR.out.below (u_cat HB.out HCV2.out)) had) row_ones (by omega) (by omega) (by omega) ?_
        intro v' V3 o5 g5
        rw [Nat.zero_add, List.nil_append] at o5
        obtain ⟨a5, d5, rfl⟩ := owns_slice o5
        have HCV3 := hid (HCV2.out.trans ((grown_base g5 OW.out (by omega)).mono (by omega)))
        refine hK _ _ (class_of HCV3.out) ?_
        clear hK K
        have hzV3 : V2.heap.size ≤ V3.heap.size := g5.size
        have HIA := hid (owns_at o5)
        replace G := hid ((g5.block _ (lt_of_block G.out) (by intro h; have h2 : V1.heap.size = V0.heap.size := (Option.some.inj h).symm ▸ rfl; omega)).trans G.out)
        clear g5 OW o5
        refine wpRest_step (fun K hK => ?_)
        go_simp
        with_reducible refine (KZ.out V3).mono ?_
        rintro _ V4 ⟨rfl, bV4⟩
        have HCV4 := hid (HCV3.out.trans (bV4.mono HCV3.out.size))
        refine hK _ _ (class_of HCV4.out) ?_
        clear hK K
        replace HIA := hid (HIA.out.below bV4)
        have hzV4 := bV4.size
        replace G := hid (kept G.out bV4)
        clear bV4
        refine wpRest_step (fun K hK => ?_)
        go_simp
        refine hK _ _ (class_of HCV4.out) ?_
        clear hK K
        refine wpRest_step (fun K hK => ?_)
        go_simp
        with_reducible refine (KL.out a5 d5 V4 (HA.out.below (u_cat HB.out HCV4.out)) HIA.out).mono ?_
        rintro _ V5 ⟨a', c', s, hs, rfl, -, -, bV5⟩
        have HSS := hid hs
        have HCV5 := hid (HCV4.out.trans (bV5.mono HCV4.out.size))
        refine hK _ _ (class_of HCV5.out) ?_
        clear hK K hs HIA
        have hzV5 := bV5.size
        replace G := hid (kept G.out bV5)
        clear bV5
        have g0 := box_cell G.out 0 (v := .slice none 0 0) rfl
        have g1 := box_cell G.out 1 (v := .string ⟨#[]⟩) rfl
        have gz := box_frozen G.out
        have gl := lt_of_block G.out
        have S := set_block (set_block G.out 0 (.slice a' s.1.length c')) 1 (.string (strOfNums s.2))
        have x0 := box_cell S 0 (v := .slice a' s.1.length c') (by simp)
        have x1 := box_cell S 1 (v := .string (strOfNums s.2)) (by simp)
        have hgw : w2.heap.size ≤ V0.heap.size := by omega
        clear S
        go_wp2_with fail
        refine .inl ?_
        go_simp
        by_cases hnil : s.1 = []
        · have t1 : decide (0 < s.1.length) = false := by simp [hnil]
          have HNIL := hid hnil
          clear hnil
          go_wp2_with fail
          have hsp := (says_post HP.out HRW.out HSS.out).1 HNIL.out
          refine bodyPost_ret (v := .tuple #[.string (strOfNums s.2), .bool true]) ?_ rfl ⟨by rw [hsp.1, hsp.2], (u_set (u_set (u_cat HB.out HCV5.out) (Nat.le_trans HB.out.size hgw) _ _) (Nat.le_trans HB.out.size hgw) _ _)⟩
          simp [results, Tryd.results28, go_sem]
        · have t1 : decide (0 < s.1.length) = true := decide_eq_true (List.length_pos_iff.2 hnil)
          have HNIL := hid hnil
          clear hnil
          go_wp2_with fail
          have hsp := (says_post HP.out HRW.out HSS.out).2 HNIL.out
          refine bodyPost_ret (v := .tuple #[.string ⟨#[]⟩, .bool false]) ?_ rfl ⟨by rw [hsp.1, hsp.2], (u_set (u_set (u_cat HB.out HCV5.out) (Nat.le_trans HB.out.size hgw) _ _) (Nat.le_trans HB.out.size hgw) _ _)⟩
          simp [results, Tryd.results28, go_sem]
    · rw [Bool.not_eq_true] at hrw
      rw [hrw]
      go_wp2_with fail
      refine bodyPost_ret (v := .tuple #[.string ⟨#[]⟩, .bool false]) ?_ rfl ⟨?_, HB.out⟩
      · simp [results, Tryd.results28, go_sem]
      · simp [saysT, saysP, hrw]
  · rw [decide_eq_false hp]
    go_wp2_with fail
    refine bodyPost_ret (v := .tuple #[.string ⟨#[]⟩, .bool false]) ?_ rfl ⟨?_, HB.out⟩
    · simp [results, Tryd.results28, go_sem]
    · simp [saysT, saysP, hp]
end Go.Proofs.YtpdaobiaekamoaaDoor
