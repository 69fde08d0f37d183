/- Which block a getting wants: by the model. -/
import Derived.Test.YtegldmdcdnnegaaDoorGw
import Derived.Test.YtegldmdcdnnegaaDoorGtS
import Derived.Test.YtegldmdcdnnegaaDoorPRowSa
import Derived.Test.YtegldmdcdnnegaaDoorSlPa
namespace Go.Proofs.YtegldmdcdnnegaaDoor
open Go.ChangeShapes Go.WideShapes Go.ChangeAt Go.RowKit Go.Sort Go.Shelf
attribute [local go_sem] Oper.semAt_some

theorem want_lack {L S : Int} {ws gs : List Int} {Z : Int} {zn : Nat} {es : List EqV} {n : Int} {s : List Int × List Int} (hs : s = es.foldl stepE (rowI L S ws gs n, List.replicate zn 0)) (hz : Z.toNat = zn) (h : s.1 = []) : lackB L S ws gs Z es n = false := by
  have e : saysS es Z (rowI L S ws gs n) = s := by rw [hs]; unfold saysS; rw [hz]
  unfold lackB
  rw [e]
  exact decide_eq_false (not_not_intro h)
theorem want_lacks {L S : Int} {ws gs : List Int} {Z : Int} {zn : Nat} {es : List EqV} {n : Int} {s : List Int × List Int} (hs : s = es.foldl stepE (rowI L S ws gs n, List.replicate zn 0)) (hz : Z.toNat = zn) (h : s.1 ≠ []) : lackB L S ws gs Z es n = true := by
  have e : saysS es Z (rowI L S ws gs n) = s := by rw [hs]; unfold saysS; rw [hz]
  unfold lackB
  rw [e]
  exact decide_eq_true h

set_option maxHeartbeats 16000000 in
set_option maxRecDepth 100000 in
theorem specGetWant_any (L S : Int) (a1 a2 : Option Addr) (c1 c2 : Nat) (ws gs : List Int) (C Z : Int) (a : Option Addr) (cap : Nat) (es : List EqV) (fr : Int) (w : World) (ha1 : IntsAt w a1 ws) (ha2 : IntsAt w a2 gs) (hx : ws.length ≤ 1048576) (hy : gs.length ≤ 1048576) (ha : EqsAt w a es) (hl : es.length ≤ 1048576) (hsm : SmallE es) :
    Calls Tryd.prog 19 #[.agg #[.int .i64 L, .int .i64 S, .slice a1 ws.length c1, .slice a2 gs.length c2, .int .i64 C, .int .i64 Z, .slice a es.length cap], .int .i64 fr] w fun e w' => e = .returned (.int .i64 (wantI L S ws gs C Z es fr)) ∧ Below w.heap.size w w' := by
  have HA := hid ha
  have HS := hid hsm
  have H1 := hid ha1
  have H2 := hid ha2
  have KO := hid (fun w h1 h2 h3 => specGetOk_any L S a1 a2 c1 c2 ws gs C Z a cap es w h1 h2 hx hy h3 hl hsm)
  clear ha hsm ha1 ha2
  have B := hid (u_b1 w (.cells #[.int .i64 L, .int .i64 S, .slice a1 ws.length c1, .slice a2 gs.length c2, .int .i64 C, .int .i64 Z, .slice a es.length cap] 37))
  have X := hid (laid w #[.int .i64 L, .int .i64 S, .slice a1 ws.length c1, .slice a2 gs.length c2, .int .i64 C, .int .i64 Z, .slice a es.length cap] 37)
  have q0 := box_cell X.out 0 (v := .int .i64 L) rfl
  have q1 := box_cell X.out 1 (v := .int .i64 S) rfl
  have q2 := box_cell X.out 2 (v := .slice a1 ws.length c1) rfl
  have q3 := box_cell X.out 3 (v := .slice a2 gs.length c2) rfl
  have q4 := box_cell X.out 4 (v := .int .i64 C) rfl
  have q5 := box_cell X.out 5 (v := .int .i64 Z) rfl
  have q6 := box_cell X.out 6 (v := .slice a es.length cap) rfl
  go_enter Tryd.func19, Tryd.ntmps19
  go_wp2_with fail
  refine (KO.out _ (H1.out.below B.out) (H2.out.below B.out) (HA.out.below B.out)).mono ?_
  rintro e w1 ⟨rfl, b1⟩
  replace X := hid (kept X.out b1)
  replace B := hid (u_cat B.out b1)
  clear b1 q0 q1 q2 q3 q4 q5 q6
  by_cases hg : getP L S ws gs C Z es
  · rw [decide_eq_true hg]
    have HG := hid hg
    clear hg
    by_cases hf : 0 ≤ fr ∧ fr ≤ 9999
    · have f0 := hf.1
      have f1 := hf.2
      have HW := hid (show wantI L S ws gs C Z es fr = wantT (lackB L S ws gs Z es) fr fr from if_pos ⟨HG.out, hf⟩)
      have HF := hid hf
      clear hf
      go_wp2_with fail
      refine (l1In_yes fr 0 9999 _ HF.out).mono ?_
      rintro e w2 ⟨rfl, rfl⟩
      clear HF
      go_wp2_with fail
      go_loopw [5] (fun i wr => ∃ n : Int, fr ≤ n ∧ n ≤ fr + 100 ∧ n ≤ 10000 ∧ i = .int .i64 n ∧ wantT (lackB L S ws gs Z es) fr n = wantT (lackB L S ws gs Z es) fr fr ∧ wr.heap[w.heap.size]? = some (.cells #[.int .i64 L, .int .i64 S, .slice a1 ws.length c1, .slice a2 gs.length c2, .int .i64 C, .int .i64 Z, .slice a es.length cap] 37 (0, 0)) ∧ Below w.heap.size w wr) (fun i _ => (fr + 100 - intOf i).toNat)
      case atStart => exact ⟨fr, by omega, by omega, by omega, rfl, rfl, X.out, B.out⟩
      case round =>
        clear X B
        obtain ⟨n, n1, n2, n3, rfl, hw, x0, b0⟩ := hrel
        have HN := hid hw
        have X := hid x0
        have B := hid b0
        clear hw x0 b0
        by_cases h2 : n ≤ 9999
        · by_cases h1 : n < fr + 100
          · have HR := rowI_asc (ws := ws) (gs := gs) (id := n) HG.out.1 (by omega)
            rw [← HG.out.2.2.1] at HR
            have KR := hid (fun w hb1 hb2 => l5Row_any L S n a1 a2 c1 c2 ws gs w hb1 hb2 HG.out.1 (by omega) h2)
            obtain ⟨zn, hzn⟩ : ∃ zn : Nat, Z = zn := ⟨Z.toNat, by have := HG.out.2.1.1.2; omega⟩
            have hz16 : zn ≤ 16 := by have := HG.out.2.1.1.2.2; omega
            have KZ := hid (show ∀ w, Calls Tryd.prog 42 #[.int .i64 S] w fun e w' => e = .returned (.string (strOfNums (List.replicate zn 0))) ∧ Below w.heap.size w w' from fun w => by
              have h := l3Zero_any zn w (by omega)
              rw [rep_zero, ← hzn, HG.out.2.2.2] at h
              exact h)
            have KL := hid (fun a5 d5 V h1 h2 => l3Less_any a cap es C Z a5 d5 (rowI L S ws gs n) (List.replicate zn 0) zn V h1 (okRows (by rw [← hzn]; exact HG.out.2.1)) hl h2 (asc_up HR.1 HG.out.2.1.1.1.2) (by simp) zeros_bytes (by omega))
            have HZN := hid (show Z.toNat = zn by omega)
            have m1 : w.heap.size < wr.heap.size := lt_of_block X.out
            clear HR hzn hz16
            have y0 := cell_regrown (box_cell X.out 0 (v := .int .i64 L) rfl)
            have y1 := cell_regrown (box_cell X.out 1 (v := .int .i64 S) rfl)
            have y2 := cell_regrown (box_cell X.out 2 (v := .slice a1 ws.length c1) rfl)
            have y3 := cell_regrown (box_cell X.out 3 (v := .slice a2 gs.length c2) rfl)
            have y4 := cell_regrown (box_cell X.out 4 (v := .int .i64 C) rfl)
            have y5 := cell_regrown (box_cell X.out 5 (v := .int .i64 Z) rfl)
            have y6 := cell_regrown (box_cell X.out 6 (v := .slice a es.length cap) rfl)
            go_wp2_with fail
            refine wp_float 13 12 _ [(0, 5), (6, 3)] [(5, 1), (9, 3)] [(13, 1)] (by kernel_rfl) rfl (by kernel_rfl) (fun _ _ d _ _ h => by cases d <;> exact h) ?_
            simp only [cutOut, List.take_succ_cons, List.take_zero, List.drop_succ_cons, List.drop_zero, List.nil_append, List.cons_append, List.append_nil]
            repeat (first | go_big_quiet_step (fail) | quiet_step (fail))
            refine wpQuiet_nil ?_
            intro V0 hw'
            have HCV0 := hid (of_class hw')
            clear hw' y0 y1 y2 y3 y4 y5 y6
            refine wpRestF_step (fun K hK => ?_) ?_
            · go_simp
              with_reducible refine (KR.out V0 (H1.out.below (u_cat B.out HCV0.out)) (H2.out.below (u_cat B.out HCV0.out))).mono ?_
              rintro _ V1 ⟨v5, rfl, o5, bV1⟩
              obtain ⟨a5, d5, rfl⟩ := owns_slice o5
              have HIA := hid (owns_at o5)
              have HCV1 := hid (HCV0.out.trans (bV1.mono HCV0.out.size))
              refine hK _ _ (class_of HCV1.out) ?_
              clear hK K o5
              have hzV1 := bV1.size
              clear bV1
              refine wpRestF_step (fun K hK => ?_) ?_
              · go_simp
                with_reducible refine (KZ.out V1).mono ?_
                rintro _ V2 ⟨rfl, bV2⟩
                have HCV2 := hid (HCV1.out.trans (bV2.mono HCV1.out.size))
                refine hK _ _ (class_of HCV2.out) ?_
                clear hK K
                replace HIA := hid (HIA.out.below bV2)
                have hzV2 := bV2.size
                clear bV2
                refine wpRestF_step (fun K hK => ?_) ?_
                · go_simp
                  refine hK _ _ (class_of HCV2.out) ?_
                  clear hK K
                  refine wpRestF_step (fun K hK => ?_) ?_
                  · go_simp
                    with_reducible refine (KL.out a5 d5 V2 (HA.out.below (u_cat B.out HCV2.out)) HIA.out).mono ?_
                    rintro _ V3 ⟨a', c', s, hs, rfl, -, -, bV3⟩
                    have HSS := hid hs
                    have HCV3 := hid (HCV2.out.trans (bV3.mono HCV2.out.size))
                    refine hK _ _ (class_of HCV3.out) ?_
                    clear hK K hs HIA
                    have hzV3 := bV3.size
                    clear bV3
                    refine wpRestF_nil ?_
                    refine wpRest_step (fun K hK => ?_)
                    go_simp
                    refine hK _ _ (class_of (HCV3.out.trans ((u_b1 _ _).mono HCV3.out.size))) ?_
                    clear hK K
                    obtain ⟨V4, hV4⟩ : ∃ V4, V4 = V3.alloc (.cells #[.slice none 0 0, .string ⟨#[]⟩] 76) := ⟨_, rfl⟩
                    rw [← hV4]
                    have bV4 : Below V3.heap.size V3 V4 := by rw [hV4]; exact u_b1 _ _
                    have G := hid (show V4.heap[V3.heap.size]? = some (.cells #[.slice none 0 0, .string ⟨#[]⟩] 76 (0, 0)) by rw [hV4]; exact laid V3 _ _)
                    have hzV4 : wr.heap.size ≤ V3.heap.size ∧ V3.heap.size < V4.heap.size := ⟨HCV3.out.size, by rw [hV4]; simp⟩
                    clear hV4
                    have HCV4 := hid (HCV3.out.trans (bV4.mono HCV3.out.size))
                    clear bV4
                    have g0 := box_cell G.out 0 (v := .slice none 0 0) rfl
                    have g1 := box_cell G.out 1 (v := .string ⟨#[]⟩) rfl
                    have gz := box_frozen G.out
                    have gl := lt_of_block G.out
                    have S' := set_block (set_block G.out 0 (.slice a' s.1.length c')) 1 (.string (strOfNums s.2))
                    have x0 := box_cell S' 0 (v := .slice a' s.1.length c') (by simp)
                    have x1 := box_cell S' 1 (v := .string (strOfNums s.2)) (by simp)
                    have hgw : wr.heap.size ≤ V3.heap.size := by omega
                    clear S'
                    go_wp2_with fail
                    refine .inl ?_
                    go_simp
                    by_cases hnil : s.1 = []
                    · have t1 : decide (0 < s.1.length) = false := by simp [hnil]
                      have HNIL := hid (want_lack HSS.out HZN.out hnil)
                      clear hnil
                      go_wp2_with fail
                      go_roundw
                      case rel => exact ⟨n + 1, by omega, by omega, by omega, by go_num, (wantT_no h1 h2 HNIL.out).symm.trans HN.out, set_other (set_other (kept X.out HCV4.out) (by omega) _ _) (by omega) _ _, (u_set (u_set (u_cat B.out HCV4.out) (by omega) _ _) (by omega) _ _)⟩
                      case measure => simp [intOf]; omega
                    · have t1 : decide (0 < s.1.length) = true := decide_eq_true (List.length_pos_iff.2 hnil)
                      have HE := hid (show wantI L S ws gs C Z es fr = n by rw [HW.out, ← HN.out]; exact wantT_yes h1 h2 (want_lacks HSS.out HZN.out hnil))
                      clear hnil
                      go_wp2_with fail
                      go_ret
                      exact ⟨ret_int HE.out.symm, (u_set (u_set (u_cat B.out HCV4.out) (by omega) _ _) (by omega) _ _)⟩
                  · simp only [List.cons_append, List.nil_append]
                    refine wpRest_step (fun K hK => ?_)
                    go_simp
                    refine hK _ _ (class_of (HCV2.out.trans ((u_b1 _ _).mono HCV2.out.size))) ?_
                    clear hK K
                    obtain ⟨V3, hV3⟩ : ∃ V3, V3 = V2.alloc (.cells #[.slice none 0 0, .string ⟨#[]⟩] 76) := ⟨_, rfl⟩
                    rw [← hV3]
                    have bV3 : Below V2.heap.size V2 V3 := by rw [hV3]; exact u_b1 _ _
                    have G := hid (show V3.heap[V2.heap.size]? = some (.cells #[.slice none 0 0, .string ⟨#[]⟩] 76 (0, 0)) by rw [hV3]; exact laid V2 _ _)
                    have hzV3 : wr.heap.size ≤ V2.heap.size ∧ V2.heap.size < V3.heap.size := ⟨HCV2.out.size, by rw [hV3]; simp⟩
                    clear hV3
                    have HCV3 := hid (HCV2.out.trans (bV3.mono HCV2.out.size))
                    replace HIA := hid (HIA.out.below bV3)
                    clear bV3
                    refine wpRest_step (fun K hK => ?_)
                    go_simp
                    with_reducible refine (KL.out a5 d5 V3 (HA.out.below (u_cat B.out HCV3.out)) HIA.out).mono ?_
                    rintro _ V4 ⟨a', c', s, hs, rfl, -, -, bV4⟩
                    have HSS := hid hs
                    have HCV4 := hid (HCV3.out.trans (bV4.mono HCV3.out.size))
                    refine hK _ _ (class_of HCV4.out) ?_
                    clear hK K hs HIA
                    have hzV4 := bV4.size
                    replace G := hid (kept G.out bV4)
                    clear bV4
                    have g0 := box_cell G.out 0 (v := .slice none 0 0) rfl
                    have g1 := box_cell G.out 1 (v := .string ⟨#[]⟩) rfl
                    have gz := box_frozen G.out
                    have gl := lt_of_block G.out
                    have S' := set_block (set_block G.out 0 (.slice a' s.1.length c')) 1 (.string (strOfNums s.2))
                    have x0 := box_cell S' 0 (v := .slice a' s.1.length c') (by simp)
                    have x1 := box_cell S' 1 (v := .string (strOfNums s.2)) (by simp)
                    have hgw : wr.heap.size ≤ V2.heap.size := by omega
                    clear S'
                    go_wp2_with fail
                    refine .inl ?_
                    go_simp
                    by_cases hnil : s.1 = []
                    · have t1 : decide (0 < s.1.length) = false := by simp [hnil]
                      have HNIL := hid (want_lack HSS.out HZN.out hnil)
                      clear hnil
                      go_wp2_with fail
                      go_roundw
                      case rel => exact ⟨n + 1, by omega, by omega, by omega, by go_num, (wantT_no h1 h2 HNIL.out).symm.trans HN.out, set_other (set_other (kept X.out HCV4.out) (by omega) _ _) (by omega) _ _, (u_set (u_set (u_cat B.out HCV4.out) (by omega) _ _) (by omega) _ _)⟩
                      case measure => simp [intOf]; omega
                    · have t1 : decide (0 < s.1.length) = true := decide_eq_true (List.length_pos_iff.2 hnil)
                      have HE := hid (show wantI L S ws gs C Z es fr = n by rw [HW.out, ← HN.out]; exact wantT_yes h1 h2 (want_lacks HSS.out HZN.out hnil))
                      clear hnil
                      go_wp2_with fail
                      go_ret
                      exact ⟨ret_int HE.out.symm, (u_set (u_set (u_cat B.out HCV4.out) (by omega) _ _) (by omega) _ _)⟩
                · simp only [List.cons_append, List.nil_append]
                  refine wpRest_step (fun K hK => ?_)
                  go_simp
                  refine hK _ _ (class_of (HCV2.out.trans ((u_b1 _ _).mono HCV2.out.size))) ?_
                  clear hK K
                  obtain ⟨V3, hV3⟩ : ∃ V3, V3 = V2.alloc (.cells #[.slice none 0 0, .string ⟨#[]⟩] 76) := ⟨_, rfl⟩
                  rw [← hV3]
                  have bV3 : Below V2.heap.size V2 V3 := by rw [hV3]; exact u_b1 _ _
                  have G := hid (show V3.heap[V2.heap.size]? = some (.cells #[.slice none 0 0, .string ⟨#[]⟩] 76 (0, 0)) by rw [hV3]; exact laid V2 _ _)
                  have hzV3 : wr.heap.size ≤ V2.heap.size ∧ V2.heap.size < V3.heap.size := ⟨HCV2.out.size, by rw [hV3]; simp⟩
                  clear hV3
                  have HCV3 := hid (HCV2.out.trans (bV3.mono HCV2.out.size))
                  replace HIA := hid (HIA.out.below bV3)
                  clear bV3
                  refine wpRest_step (fun K hK => ?_)
                  go_simp
                  refine hK _ _ (class_of HCV3.out) ?_
                  clear hK K
                  refine wpRest_step (fun K hK => ?_)
                  go_simp
                  with_reducible refine (KL.out a5 d5 V3 (HA.out.below (u_cat B.out HCV3.out)) HIA.out).mono ?_
                  rintro _ V4 ⟨a', c', s, hs, rfl, -, -, bV4⟩
                  have HSS := hid hs
                  have HCV4 := hid (HCV3.out.trans (bV4.mono HCV3.out.size))
                  refine hK _ _ (class_of HCV4.out) ?_
                  clear hK K hs HIA
                  have hzV4 := bV4.size
                  replace G := hid (kept G.out bV4)
                  clear bV4
                  have g0 := box_cell G.out 0 (v := .slice none 0 0) rfl
                  have g1 := box_cell G.out 1 (v := .string ⟨#[]⟩) rfl
                  have gz := box_frozen G.out
                  have gl := lt_of_block G.out
                  have S' := set_block (set_block G.out 0 (.slice a' s.1.length c')) 1 (.string (strOfNums s.2))
                  have x0 := box_cell S' 0 (v := .slice a' s.1.length c') (by simp)
                  have x1 := box_cell S' 1 (v := .string (strOfNums s.2)) (by simp)
                  have hgw : wr.heap.size ≤ V2.heap.size := by omega
                  clear S'
                  go_wp2_with fail
                  refine .inl ?_
                  go_simp
                  by_cases hnil : s.1 = []
                  · have t1 : decide (0 < s.1.length) = false := by simp [hnil]
                    have HNIL := hid (want_lack HSS.out HZN.out hnil)
                    clear hnil
                    go_wp2_with fail
                    go_roundw
                    case rel => exact ⟨n + 1, by omega, by omega, by omega, by go_num, (wantT_no h1 h2 HNIL.out).symm.trans HN.out, set_other (set_other (kept X.out HCV4.out) (by omega) _ _) (by omega) _ _, (u_set (u_set (u_cat B.out HCV4.out) (by omega) _ _) (by omega) _ _)⟩
                    case measure => simp [intOf]; omega
                  · have t1 : decide (0 < s.1.length) = true := decide_eq_true (List.length_pos_iff.2 hnil)
                    have HE := hid (show wantI L S ws gs C Z es fr = n by rw [HW.out, ← HN.out]; exact wantT_yes h1 h2 (want_lacks HSS.out HZN.out hnil))
                    clear hnil
                    go_wp2_with fail
                    go_ret
                    exact ⟨ret_int HE.out.symm, (u_set (u_set (u_cat B.out HCV4.out) (by omega) _ _) (by omega) _ _)⟩
              · simp only [List.cons_append, List.nil_append]
                refine wpRest_step (fun K hK => ?_)
                go_simp
                refine hK _ _ (class_of (HCV1.out.trans ((u_b1 _ _).mono HCV1.out.size))) ?_
                clear hK K
                obtain ⟨V2, hV2⟩ : ∃ V2, V2 = V1.alloc (.cells #[.slice none 0 0, .string ⟨#[]⟩] 76) := ⟨_, rfl⟩
                rw [← hV2]
                have bV2 : Below V1.heap.size V1 V2 := by rw [hV2]; exact u_b1 _ _
                have G := hid (show V2.heap[V1.heap.size]? = some (.cells #[.slice none 0 0, .string ⟨#[]⟩] 76 (0, 0)) by rw [hV2]; exact laid V1 _ _)
                have hzV2 : wr.heap.size ≤ V1.heap.size ∧ V1.heap.size < V2.heap.size := ⟨HCV1.out.size, by rw [hV2]; simp⟩
                clear hV2
                have HCV2 := hid (HCV1.out.trans (bV2.mono HCV1.out.size))
                replace HIA := hid (HIA.out.below bV2)
                clear bV2
                refine wpRest_step (fun K hK => ?_)
                go_simp
                with_reducible refine (KZ.out V2).mono ?_
                rintro _ V3 ⟨rfl, bV3⟩
                have HCV3 := hid (HCV2.out.trans (bV3.mono HCV2.out.size))
                refine hK _ _ (class_of HCV3.out) ?_
                clear hK K
                replace HIA := hid (HIA.out.below bV3)
                have hzV3 := bV3.size
                replace G := hid (kept G.out bV3)
                clear bV3
                refine wpRest_step (fun K hK => ?_)
                go_simp
                refine hK _ _ (class_of HCV3.out) ?_
                clear hK K
                refine wpRest_step (fun K hK => ?_)
                go_simp
                with_reducible refine (KL.out a5 d5 V3 (HA.out.below (u_cat B.out HCV3.out)) HIA.out).mono ?_
                rintro _ V4 ⟨a', c', s, hs, rfl, -, -, bV4⟩
                have HSS := hid hs
                have HCV4 := hid (HCV3.out.trans (bV4.mono HCV3.out.size))
                refine hK _ _ (class_of HCV4.out) ?_
                clear hK K hs HIA
                have hzV4 := bV4.size
                replace G := hid (kept G.out bV4)
                clear bV4
                have g0 := box_cell G.out 0 (v := .slice none 0 0) rfl
                have g1 := box_cell G.out 1 (v := .string ⟨#[]⟩) rfl
                have gz := box_frozen G.out
                have gl := lt_of_block G.out
                have S' := set_block (set_block G.out 0 (.slice a' s.1.length c')) 1 (.string (strOfNums s.2))
                have x0 := box_cell S' 0 (v := .slice a' s.1.length c') (by simp)
                have x1 := box_cell S' 1 (v := .string (strOfNums s.2)) (by simp)
                have hgw : wr.heap.size ≤ V1.heap.size := by omega
                clear S'
                go_wp2_with fail
                refine .inl ?_
                go_simp
                by_cases hnil : s.1 = []
                · have t1 : decide (0 < s.1.length) = false := by simp [hnil]
                  have HNIL := hid (want_lack HSS.out HZN.out hnil)
                  clear hnil
                  go_wp2_with fail
                  go_roundw
                  case rel => exact ⟨n + 1, by omega, by omega, by omega, by go_num, (wantT_no h1 h2 HNIL.out).symm.trans HN.out, set_other (set_other (kept X.out HCV4.out) (by omega) _ _) (by omega) _ _, (u_set (u_set (u_cat B.out HCV4.out) (by omega) _ _) (by omega) _ _)⟩
                  case measure => simp [intOf]; omega
                · have t1 : decide (0 < s.1.length) = true := decide_eq_true (List.length_pos_iff.2 hnil)
                  have HE := hid (show wantI L S ws gs C Z es fr = n by rw [HW.out, ← HN.out]; exact wantT_yes h1 h2 (want_lacks HSS.out HZN.out hnil))
                  clear hnil
                  go_wp2_with fail
                  go_ret
                  exact ⟨ret_int HE.out.symm, (u_set (u_set (u_cat B.out HCV4.out) (by omega) _ _) (by omega) _ _)⟩
            · simp only [List.cons_append, List.nil_append]
              refine wpRest_step (fun K hK => ?_)
              go_simp
              refine hK _ _ (class_of (HCV0.out.trans ((u_b1 _ _).mono HCV0.out.size))) ?_
              clear hK K
              obtain ⟨V1, hV1⟩ : ∃ V1, V1 = V0.alloc (.cells #[.slice none 0 0, .string ⟨#[]⟩] 76) := ⟨_, rfl⟩
              rw [← hV1]
              have bV1 : Below V0.heap.size V0 V1 := by rw [hV1]; exact u_b1 _ _
              have G := hid (show V1.heap[V0.heap.size]? = some (.cells #[.slice none 0 0, .string ⟨#[]⟩] 76 (0, 0)) by rw [hV1]; exact laid V0 _ _)
              have hzV1 : wr.heap.size ≤ V0.heap.size ∧ V0.heap.size < V1.heap.size := ⟨HCV0.out.size, by rw [hV1]; simp⟩
              clear hV1
              have HCV1 := hid (HCV0.out.trans (bV1.mono HCV0.out.size))
              clear bV1
              refine wpRest_step (fun K hK => ?_)
              go_simp
              with_reducible refine (KR.out V1 (H1.out.below (u_cat B.out HCV1.out)) (H2.out.below (u_cat B.out HCV1.out))).mono ?_
              rintro _ V2 ⟨v5, rfl, o5, bV2⟩
              obtain ⟨a5, d5, rfl⟩ := owns_slice o5
              have HIA := hid (owns_at o5)
              have HCV2 := hid (HCV1.out.trans (bV2.mono HCV1.out.size))
              refine hK _ _ (class_of HCV2.out) ?_
              clear hK K o5
              have hzV2 := bV2.size
              replace G := hid (kept G.out bV2)
              clear bV2
              refine wpRest_step (fun K hK => ?_)
              go_simp
              with_reducible refine (KZ.out V2).mono ?_
              rintro _ V3 ⟨rfl, bV3⟩
              have HCV3 := hid (HCV2.out.trans (bV3.mono HCV2.out.size))
              refine hK _ _ (class_of HCV3.out) ?_
              clear hK K
              replace HIA := hid (HIA.out.below bV3)
              have hzV3 := bV3.size
              replace G := hid (kept G.out bV3)
              clear bV3
              refine wpRest_step (fun K hK => ?_)
              go_simp
              refine hK _ _ (class_of HCV3.out) ?_
              clear hK K
              refine wpRest_step (fun K hK => ?_)
              go_simp
              with_reducible refine (KL.out a5 d5 V3 (HA.out.below (u_cat B.out HCV3.out)) HIA.out).mono ?_
              rintro _ V4 ⟨a', c', s, hs, rfl, -, -, bV4⟩
              have HSS := hid hs
              have HCV4 := hid (HCV3.out.trans (bV4.mono HCV3.out.size))
              refine hK _ _ (class_of HCV4.out) ?_
              clear hK K hs HIA
              have hzV4 := bV4.size
              replace G := hid (kept G.out bV4)
              clear bV4
              have g0 := box_cell G.out 0 (v := .slice none 0 0) rfl
              have g1 := box_cell G.out 1 (v := .string ⟨#[]⟩) rfl
              have gz := box_frozen G.out
              have gl := lt_of_block G.out
              have S' := set_block (set_block G.out 0 (.slice a' s.1.length c')) 1 (.string (strOfNums s.2))
              have x0 := box_cell S' 0 (v := .slice a' s.1.length c') (by simp)
              have x1 := box_cell S' 1 (v := .string (strOfNums s.2)) (by simp)
              have hgw : wr.heap.size ≤ V0.heap.size := by omega
              clear S'
              go_wp2_with fail
              refine .inl ?_
              go_simp
              by_cases hnil : s.1 = []
              · have t1 : decide (0 < s.1.length) = false := by simp [hnil]
                have HNIL := hid (want_lack HSS.out HZN.out hnil)
                clear hnil
                go_wp2_with fail
                go_roundw
                case rel => exact ⟨n + 1, by omega, by omega, by omega, by go_num, (wantT_no h1 h2 HNIL.out).symm.trans HN.out, set_other (set_other (kept X.out HCV4.out) (by omega) _ _) (by omega) _ _, (u_set (u_set (u_cat B.out HCV4.out) (by omega) _ _) (by omega) _ _)⟩
                case measure => simp [intOf]; omega
              · have t1 : decide (0 < s.1.length) = true := decide_eq_true (List.length_pos_iff.2 hnil)
                have HE := hid (show wantI L S ws gs C Z es fr = n by rw [HW.out, ← HN.out]; exact wantT_yes h1 h2 (want_lacks HSS.out HZN.out hnil))
                clear hnil
                go_wp2_with fail
                go_ret
                exact ⟨ret_int HE.out.symm, (u_set (u_set (u_cat B.out HCV4.out) (by omega) _ _) (by omega) _ _)⟩
          · have HE := hid (show wantI L S ws gs C Z es fr = -1 by rw [HW.out, ← HN.out]; exact wantT_end (.inl (by omega)))
            go_wp2_with fail
            go_ret
            exact ⟨ret_int HE.out.symm, B.out⟩
        · have HE := hid (show wantI L S ws gs C Z es fr = -1 by rw [HW.out, ← HN.out]; exact wantT_end (.inr (by omega)))
          go_wp2_with fail
          go_ret
          exact ⟨ret_int HE.out.symm, B.out⟩
    · have HW := hid (show wantI L S ws gs C Z es fr = -1 from if_neg (fun h => hf h.2))
      go_wp2_with fail
      refine (l1In_no fr 0 9999 _ (by omega)).mono ?_
      rintro e w2 ⟨rfl, rfl⟩
      clear hf
      go_wp2_with fail
      go_ret
      exact ⟨ret_int HW.out.symm, B.out⟩
  · rw [decide_eq_false hg]
    have HW := hid (show wantI L S ws gs C Z es fr = -1 from if_neg (fun h => hg h.1))
    clear hg
    go_wp2_with fail
    go_ret
    exact ⟨ret_int HW.out.symm, B.out⟩
end Go.Proofs.YtegldmdcdnnegaaDoor
