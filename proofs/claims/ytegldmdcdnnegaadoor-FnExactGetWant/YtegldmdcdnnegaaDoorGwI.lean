/- Which block a getting wants: by the program. -/
import Derived.Test.YtegldmdcdnnegaaDoorGw
import Derived.Deep.RegionHeld3
namespace Go.Proofs.YtegldmdcdnnegaaDoor
open Go.ChangeShapes Go.WideShapes Go.ChangeAt Go.RowKit Go.Sort Go.Shelf
attribute [local go_sem] Oper.semAt_some

set_option maxHeartbeats 8000000 in
set_option maxRecDepth 100000 in
theorem implGetWant_any (L S : Int) (a1 a2 : Option Addr) (c1 c2 : Nat) (ws gs : List Int) (C Z : Int) (a : Option Addr) (cap : Nat) (es : List EqV) (fr : Int) (w : World) (ha1 : IntsAt w a1 ws) (ha2 : IntsAt w a2 gs) (hx : ws.length ≤ 1048576) (hy : gs.length ≤ 1048576) (ha : EqsAt w a es) (hl : es.length ≤ 1048576) (hsm : SmallE es) (hT : Tab w) :
    Calls Tryd.prog 20 #[.agg #[.int .i64 L, .int .i64 S, .slice a1 ws.length c1, .slice a2 gs.length c2, .int .i64 C, .int .i64 Z, .slice a es.length cap], .int .i64 fr] w fun e w' => e = .returned (.int .i64 (wantI L S ws gs C Z es fr)) ∧ Below w.heap.size w w' := by
  have HA := hid ha
  have HS := hid hsm
  have HT := hid hT
  have H1 := hid ha1
  have H2 := hid ha2
  clear ha hsm hT ha1 ha2
  have B0 := hid (u_b1 w (.cells #[.int .i64 L, .int .i64 S, .slice a1 ws.length c1, .slice a2 gs.length c2, .int .i64 C, .int .i64 Z, .slice a es.length cap] 37))
  have X0 := hid (laid w #[.int .i64 L, .int .i64 S, .slice a1 ws.length c1, .slice a2 gs.length c2, .int .i64 C, .int .i64 Z, .slice a es.length cap] 37)
  go_enter Tryd.func20, Tryd.ntmps20
  go_wp2_with fail
  refine (known_any L S a1 a2 c1 c2 ws gs C Z a cap es _ (H1.out.below B0.out) (H2.out.below B0.out) hx hy (HA.out.below B0.out) hl HS.out (HT.out.below B0.out)).mono ?_
  rintro e w1 ⟨bb, ⟨hg, ls, b1, d1, b2, d2, rfl, o1, o2, -, -, -⟩ | ⟨hg, rfl⟩⟩
  · have HG := hid hg
    have X := hid (kept X0.out bb)
    have B := hid (u_cat B0.out bb)
    have O1 := hid o1
    have O2 := hid o2
    clear hg bb o1 o2 X0 B0
    repeat ((fail_if_success (with_reducible show Code.wp _ (Code.region 2 _ _) _ _ _)); (first | go_values | go_skip | go_guarded | go_step | go_upon | go_back | go_simp))
    obtain ⟨V, hV⟩ : ∃ V, V = w1.alloc (.cells #[.int .i64 L, .int .i64 S, .slice b1 ws.length d1, .slice b2 gs.length d2, .int .i64 C, .int .i64 Z, .pointer (ptrOf ls)] 56) := ⟨_, rfl⟩
    have bv : Below w1.heap.size w1 V := by rw [hV]; exact u_b1 _ _
    have HV := hid (show V.heap[w1.heap.size]? = some (.cells #[.int .i64 L, .int .i64 S, .slice b1 ws.length d1, .slice b2 gs.length d2, .int .i64 C, .int .i64 Z, .pointer (ptrOf ls)] 56 (0, 0)) by rw [hV]; exact laid _ _ _)
    rw [← hV]
    clear hV
    replace X := hid (kept X.out bv)
    replace B := hid (u_cat B.out bv)
    have I1 := hid (owns_at (owns_below O1.out bv))
    have I2 := hid (owns_at (owns_below O2.out bv))
    clear bv O1 O2
    have KI := hid (fun n w => idOk_any n w)
    by_cases hf : 0 ≤ fr ∧ fr ≤ 9999
    · have f0 := hf.1
      have f1 := hf.2
      have HW := hid (show wantI L S ws gs C Z es fr = wantT (lackB L S ws gs Z es) fr fr from if_pos ⟨HG.out, hf⟩)
      go_wp2_with fail
      refine (KI.out fr V).mono ?_
      rintro e w2 ⟨rfl, rfl⟩
      rw [decide_eq_true hf]
      clear hf
      go_wp2_with fail
      go_loopw [7] (fun i wr => ∃ n : Int, fr ≤ n ∧ n ≤ fr + 100 ∧ n ≤ 10000 ∧ i = .int .i64 n ∧ wantT (lackB L S ws gs Z es) fr n = wantT (lackB L S ws gs Z es) fr fr ∧ wr.heap[w.heap.size]? = some (.cells #[.int .i64 L, .int .i64 S, .slice a1 ws.length c1, .slice a2 gs.length c2, .int .i64 C, .int .i64 Z, .slice a es.length cap] 37 (0, 0)) ∧
          wr.heap[w1.heap.size]? = some (.cells #[.int .i64 L, .int .i64 S, .slice b1 ws.length d1, .slice b2 gs.length d2, .int .i64 C, .int .i64 Z, .pointer (ptrOf ls)] 56 (0, 0)) ∧ IntsAt wr b1 ws ∧ IntsAt wr b2 gs ∧ Below w.heap.size w wr) (fun i _ => (fr + 100 - intOf i).toNat)
      case atStart => exact ⟨fr, by omega, by omega, by omega, rfl, rfl, X.out, HV.out, I1.out, I2.out, B.out⟩
      case round =>
        clear X HV I1 I2 B
        obtain ⟨n, n1, n2, n3, rfl, hw, x0, v0, i1, i2, b0⟩ := hrel
        have HN := hid hw
        have X := hid x0
        have HV := hid v0
        have I1 := hid i1
        have I2 := hid i2
        have B := hid b0
        clear hw x0 v0 i1 i2 b0
        by_cases h1 : n < fr + 100
        · go_wp2_with fail
          refine (KI.out n wr).mono ?_
          rintro e w2 ⟨rfl, rfl⟩
          by_cases h2 : n ≤ 9999
          · rw [decide_eq_true (show 0 ≤ n ∧ n ≤ 9999 by omega)]
            have HR := rowI_asc (ws := ws) (gs := gs) (id := n) HG.out.1 (by omega)
            have KR := hid (fun w hb1 hb2 hT => implRow_any L S n b1 b2 d1 d2 ws gs w hb1 hb2 HG.out.1 (by omega) h2 hT)
            have KS := hid (fun ar cr w h1 h2 hT => implSolverSays_any a cap es C Z ar cr (rowI L S ws gs n) w h1 HS.out hl h2 (by have := HR.2; omega) hT)
            rw [lack_says HG.out (show 0 ≤ n by omega)] at KS
            have hrl := HR.2
            clear HR
            have p4 := box_cell X.out 4 (v := .int .i64 C) rfl
            have p5 := box_cell X.out 5 (v := .int .i64 Z) rfl
            have p6 := box_cell X.out 6 (v := .slice a es.length cap) rfl
            have k0 := box_cell HV.out 0 (v := .int .i64 L) rfl
            have k1 := box_cell HV.out 1 (v := .int .i64 S) rfl
            have k2 := box_cell HV.out 2 (v := .slice b1 ws.length d1) rfl
            have k3 := box_cell HV.out 3 (v := .slice b2 gs.length d2) rfl
            have m1 : w.heap.size < w2.heap.size := lt_of_block X.out
            have m2 : w1.heap.size < w2.heap.size := lt_of_block HV.out
            by_cases hlk : lackB L S ws gs Z es n = true
            · rw [hlk] at KS
              have HE := hid (show wantI L S ws gs C Z es fr = n by rw [HW.out, ← HN.out]; exact wantT_yes h1 h2 hlk)
              clear hlk
              go_wp2_with fail
              go_region_held3 (fun w' => w'.cell? ⟨w.heap.size, 4, none⟩ = some (.int .i64 C) ∧ w'.cell? ⟨w.heap.size, 5, none⟩ = some (.int .i64 Z) ∧ w'.cell? ⟨w.heap.size, 6, none⟩ = some (.slice a es.length cap) ∧ w'.cell? ⟨w1.heap.size, 0, none⟩ = some (.int .i64 L) ∧ w'.cell? ⟨w1.heap.size, 1, none⟩ = some (.int .i64 S) ∧ w'.cell? ⟨w1.heap.size, 2, none⟩ = some (.slice b1 ws.length d1) ∧ w'.cell? ⟨w1.heap.size, 3, none⟩ = some (.slice b2 gs.length d2)) (go_keep) (first
                | (go_at_call 45; refine (KR.out _ (by exact I1.out.below (below_drewN (Below.refl _ _) 1)) (by exact I2.out.below (below_drewN (Below.refl _ _) 1)) (by exact HT.out.below (below_drewN B.out 1))).mono ?_; rintro e w6 ⟨v6, rfl, o6, b6⟩; obtain ⟨ar, cr, rfl, -, j6⟩ := owns_ints o6; have hc6 : ∀ bb o, bb < w2.heap.size → w6.cell? ⟨bb, o, none⟩ = w2.cell? ⟨bb, o, none⟩ := (u_cell b6).1; have J6 := hid j6; have B6 := hid (u_cat (below_drewN B.out 1) b6); have m3 : w2.heap.size ≤ w6.heap.size := b6.size; have HS6 := hid b6; clear o6 j6 b6)
                | (go_at_call 44; with_reducible refine (KS.out _ _ _ (HA.out.below B6.out) J6.out (HT.out.below B6.out)).mono ?_; rintro e w7 ⟨rfl, b7⟩; have hc7 : ∀ bb o, bb < w6.heap.size → w7.cell? ⟨bb, o, none⟩ = w6.cell? ⟨bb, o, none⟩ := (u_cell b7).1; have m4 : w.heap.size < w6.heap.size := (by omega); have m5 : w1.heap.size < w6.heap.size := (by omega); have B7 := hid (u_cat B6.out b7); have HS7 := hid b7; clear b7))
              all_goals go_wp2_with fail
              all_goals go_ret
              all_goals exact ⟨ret_int HE.out.symm, B7.out⟩
            · rw [Bool.not_eq_true] at hlk
              rw [hlk] at KS
              have HE := hid (show wantT (lackB L S ws gs Z es) fr (n + 1) = wantT (lackB L S ws gs Z es) fr fr by rw [← HN.out]; exact (wantT_no h1 h2 hlk).symm)
              clear hlk
              go_wp2_with fail
              go_region_held3 (fun w' => w'.cell? ⟨w.heap.size, 4, none⟩ = some (.int .i64 C) ∧ w'.cell? ⟨w.heap.size, 5, none⟩ = some (.int .i64 Z) ∧ w'.cell? ⟨w.heap.size, 6, none⟩ = some (.slice a es.length cap) ∧ w'.cell? ⟨w1.heap.size, 0, none⟩ = some (.int .i64 L) ∧ w'.cell? ⟨w1.heap.size, 1, none⟩ = some (.int .i64 S) ∧ w'.cell? ⟨w1.heap.size, 2, none⟩ = some (.slice b1 ws.length d1) ∧ w'.cell? ⟨w1.heap.size, 3, none⟩ = some (.slice b2 gs.length d2)) (go_keep) (first
                | (go_at_call 45; refine (KR.out _ (by exact I1.out.below (below_drewN (Below.refl _ _) 1)) (by exact I2.out.below (below_drewN (Below.refl _ _) 1)) (by exact HT.out.below (below_drewN B.out 1))).mono ?_; rintro e w6 ⟨v6, rfl, o6, b6⟩; obtain ⟨ar, cr, rfl, -, j6⟩ := owns_ints o6; have hc6 : ∀ bb o, bb < w2.heap.size → w6.cell? ⟨bb, o, none⟩ = w2.cell? ⟨bb, o, none⟩ := (u_cell b6).1; have J6 := hid j6; have B6 := hid (u_cat (below_drewN B.out 1) b6); have m3 : w2.heap.size ≤ w6.heap.size := b6.size; have HS6 := hid b6; clear o6 j6 b6)
                | (go_at_call 44; with_reducible refine (KS.out _ _ _ (HA.out.below B6.out) J6.out (HT.out.below B6.out)).mono ?_; rintro e w7 ⟨rfl, b7⟩; have hc7 : ∀ bb o, bb < w6.heap.size → w7.cell? ⟨bb, o, none⟩ = w6.cell? ⟨bb, o, none⟩ := (u_cell b7).1; have m4 : w.heap.size < w6.heap.size := (by omega); have m5 : w1.heap.size < w6.heap.size := (by omega); have B7 := hid (u_cat B6.out b7); have HS7 := hid b7; clear b7))
              all_goals go_wp2_with fail
              all_goals go_roundw
              case rel =>
                have bb := u_cat (below_drewN (Below.refl w2.heap.size w2) 1) (u_cat HS6.out HS7.out)
                exact ⟨n + 1, by omega, by omega, by omega, by go_num, HE.out, kept X.out bb, kept HV.out bb, I1.out.below bb, I2.out.below bb, B7.out⟩
              case measure => simp [intOf]; omega
          · rw [decide_eq_false (show ¬ (0 ≤ n ∧ n ≤ 9999) by omega)]
            have HE := hid (show wantI L S ws gs C Z es fr = -1 by rw [HW.out, ← HN.out]; exact wantT_end (.inr (by omega)))
            go_wp2_with fail
            go_ret
            exact ⟨ret_int HE.out.symm, B.out⟩
        · have HE := hid (show wantI L S ws gs C Z es fr = -1 by rw [HW.out, ← HN.out]; exact wantT_end (.inl (by omega)))
          go_wp2_with fail
          go_ret
          exact ⟨ret_int HE.out.symm, B.out⟩
    · have HW := hid (show wantI L S ws gs C Z es fr = -1 from if_neg (fun h => hf h.2))
      go_wp2_with fail
      refine (KI.out fr V).mono ?_
      rintro e w2 ⟨rfl, rfl⟩
      rw [decide_eq_false hf]
      go_wp2_with fail
      go_ret
      exact ⟨ret_int HW.out.symm, B.out⟩
  · have HW := hid (show wantI L S ws gs C Z es fr = -1 from if_neg (fun h => hg h.1))
    have B := hid (u_cat B0.out (u_cat bb (u_b1 w1 (.cells #[.int .i64 0, .int .i64 0, .slice none 0 0, .slice none 0 0, .int .i64 0, .int .i64 0, .pointer none] 56))))
    clear hg bb X0 B0
    go_wp2_with fail
    go_ret
    exact ⟨ret_int HW.out.symm, B.out⟩
end Go.Proofs.YtegldmdcdnnegaaDoor
