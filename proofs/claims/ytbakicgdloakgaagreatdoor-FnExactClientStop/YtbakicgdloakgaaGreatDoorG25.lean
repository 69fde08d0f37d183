/- Gettings that are ok, how many windows are known, whether all is: by the model. How many windows are known; whether all is: by the program. Gettings that are ok, how many windows are known, whether all is: by the model. -/
import Derived.Test.YtbakicgdloakgaaGreatDoorG24
import Derived.Test.YtbakicgdloakgaaGreatDoorG15
import Derived.Test.YtbakicgdloakgaaGreatDoorG6
import Derived.Test.YtbakicgdloakgaaGreatDoorG13
import Derived.Test.YtbakicgdloakgaaGreatDoorG5
namespace Go.Proofs.YtbakicgdloakgaaGreatDoor
open Go.ChangeShapes Go.WideShapes Go.ChangeAt Go.RowKit Go.Sort Go.Shelf
attribute [local go_sem] Oper.semAt_some

set_option maxRecDepth 100000 in
set_option maxHeartbeats 4000000 in
theorem specGetOk_any (L S : Int) (a1 a2 : Option Addr) (c1 c2 : Nat) (ws gs : List Int) (C Z : Int) (a : Option Addr) (cap : Nat) (es : List EqV) (w : World) (ha1 : IntsAt w a1 ws) (ha2 : IntsAt w a2 gs) (hx : ws.length ≤ 1048576) (hy : gs.length ≤ 1048576) (ha : EqsAt w a es) (hl : es.length ≤ 1048576) (hsm : SmallE es) :
    Calls Tryz.prog 48 #[.agg #[.int .i64 L, .int .i64 S, .slice a1 ws.length c1, .slice a2 gs.length c2, .int .i64 C, .int .i64 Z, .slice a es.length cap]] w fun e w' => e = .returned (.bool (decide (getP L S ws gs C Z es))) ∧ Below w.heap.size w w' := by
  have HA := hid ha
  have HS := hid hsm
  have H1 := hid ha1
  have H2 := hid ha2
  clear ha hsm ha1 ha2
  go_enter Tryz.func48, Tryz.ntmps48
  repeat ((fail_if_success (with_reducible show Code.wp _ (Code.region 1 _ _) _ _ _)); (first | go_values | go_skip | go_guarded | go_step | go_upon | go_back | go_simp))
  obtain ⟨V, hV⟩ : ∃ V, V = w.alloc (.cells #[.int .i64 L, .int .i64 S, .slice a1 ws.length c1, .slice a2 gs.length c2, .int .i64 C, .int .i64 Z, .slice a es.length cap] 38) := ⟨_, rfl⟩
  have B := hid (show Below w.heap.size w V by rw [hV]; exact u_b1 _ _)
  have X : V.heap[w.heap.size]? = some (.cells #[.int .i64 L, .int .i64 S, .slice a1 ws.length c1, .slice a2 gs.length c2, .int .i64 C, .int .i64 Z, .slice a es.length cap] 38 (0, 0)) := by rw [hV]; exact laid _ _ _
  rw [← hV]
  clear hV
  have q0 := cell_regrown (box_cell X 0 (v := .int .i64 L) rfl)
  have q1 := cell_regrown (box_cell X 1 (v := .int .i64 S) rfl)
  have q2 := cell_regrown (box_cell X 2 (v := .slice a1 ws.length c1) rfl)
  have q3 := cell_regrown (box_cell X 3 (v := .slice a2 gs.length c2) rfl)
  have q4 := cell_regrown (box_cell X 4 (v := .int .i64 C) rfl)
  have q5 := cell_regrown (box_cell X 5 (v := .int .i64 Z) rfl)
  have q6 := cell_regrown (box_cell X 6 (v := .slice a es.length cap) rfl)
  have K1 := hid (rg (w := V) (fun w' hb => specPlanOk L S a1 a2 c1 c2 ws gs w' ((H1.out.below B.out).below hb) ((H2.out.below B.out).below hb) (by omega) (by omega)))
  have K2 := hid (rg (w := V) (fun w' hb => specSolverOk_any a cap es C Z w' ((HA.out.below B.out).below hb) HS.out hl))
  clear X
  by_cases hpl : planP L S ws gs
  · rw [decide_eq_true hpl] at K1
    have HPL := hid hpl
    have s1 := hpl.1.1
    have s2 := hpl.1.2.1
    have s3 := hpl.1.2.2.1
    have s4 := hpl.1.2.2.2.1
    have K3 := hid (rg (w := V) (fun w' _ => specCount L S a1 a2 ws.length c1 gs.length c2 w' s1 s2 s3 s4))
    clear hpl s1 s2 s3 s4
    by_cases hp : solverP C Z es
    · rw [decide_eq_true hp] at K2
      have HP := hid hp
      clear hp
      by_cases hc : C = cntI L S
      · have hc1 : (C == cntI L S) = true := by simpa using hc
        have HC := hid hc
        clear hc
        by_cases hz : Z = S
        · have hz1 : (Z == S) = true := by simpa using hz
          have HG := hid (decide_eq_true (show getP L S ws gs C Z es from ⟨HPL.out, HP.out, HC.out, hz⟩))
          clear hz
          refine wp_region_quiet_below (by kernel_rfl) (by kernel_rfl) ?_
          repeat (first | go_big_quiet_step (first | (go_at_call 68; with_reducible exact K1.out _ _) | (go_at_call 69; with_reducible exact K2.out _ _) | (go_at_call 70; with_reducible exact K3.out _ _)) | quiet_step (first | (go_at_call 68; with_reducible exact K1.out _ _) | (go_at_call 69; with_reducible exact K2.out _ _) | (go_at_call 70; with_reducible exact K3.out _ _)))
          refine wpQuiet_nil ?_
          intro V2 hw'
          obtain ⟨⟨dq, osq⟩, hw''⟩ := hw'
          have hbq := below_regrown V dq osq
          rw [← hw''] at hbq
          replace B := hid (u_cat B.out hbq)
          clear hw'' dq osq hbq q0 q1 q2 q3 q4 q5 q6
          go_wp2_with fail
          go_ret
          exact ⟨ret_bool HG.out.symm, B.out⟩
        · have hz1 : (Z == S) = false := by simpa using hz
          have HG := hid (decide_eq_false (show ¬ getP L S ws gs C Z es from fun h => hz h.2.2.2))
          clear hz
          refine wp_region_quiet_below (by kernel_rfl) (by kernel_rfl) ?_
          repeat (first | go_big_quiet_step (first | (go_at_call 68; with_reducible exact K1.out _ _) | (go_at_call 69; with_reducible exact K2.out _ _) | (go_at_call 70; with_reducible exact K3.out _ _)) | quiet_step (first | (go_at_call 68; with_reducible exact K1.out _ _) | (go_at_call 69; with_reducible exact K2.out _ _) | (go_at_call 70; with_reducible exact K3.out _ _)))
          refine wpQuiet_nil ?_
          intro V2 hw'
          obtain ⟨⟨dq, osq⟩, hw''⟩ := hw'
          have hbq := below_regrown V dq osq
          rw [← hw''] at hbq
          replace B := hid (u_cat B.out hbq)
          clear hw'' dq osq hbq q0 q1 q2 q3 q4 q5 q6
          go_wp2_with fail
          go_ret
          exact ⟨ret_bool HG.out.symm, B.out⟩
      · have hc1 : (C == cntI L S) = false := by simpa using hc
        have HG := hid (decide_eq_false (show ¬ getP L S ws gs C Z es from fun h => hc h.2.2.1))
        clear hc
        refine wp_region_quiet_below (by kernel_rfl) (by kernel_rfl) ?_
        repeat (first | go_big_quiet_step (first | (go_at_call 68; with_reducible exact K1.out _ _) | (go_at_call 69; with_reducible exact K2.out _ _) | (go_at_call 70; with_reducible exact K3.out _ _)) | quiet_step (first | (go_at_call 68; with_reducible exact K1.out _ _) | (go_at_call 69; with_reducible exact K2.out _ _) | (go_at_call 70; with_reducible exact K3.out _ _)))
        refine wpQuiet_nil ?_
        intro V2 hw'
        obtain ⟨⟨dq, osq⟩, hw''⟩ := hw'
        have hbq := below_regrown V dq osq
        rw [← hw''] at hbq
        replace B := hid (u_cat B.out hbq)
        clear hw'' dq osq hbq q0 q1 q2 q3 q4 q5 q6
        go_wp2_with fail
        go_ret
        exact ⟨ret_bool HG.out.symm, B.out⟩
    · rw [decide_eq_false hp] at K2
      have HG := hid (decide_eq_false (show ¬ getP L S ws gs C Z es from fun h => hp h.2.1))
      clear hp
      refine wp_region_quiet_below (by kernel_rfl) (by kernel_rfl) ?_
      repeat (first | go_big_quiet_step (first | (go_at_call 68; with_reducible exact K1.out _ _) | (go_at_call 69; with_reducible exact K2.out _ _)) | quiet_step (first | (go_at_call 68; with_reducible exact K1.out _ _) | (go_at_call 69; with_reducible exact K2.out _ _)))
      refine wpQuiet_nil ?_
      intro V2 hw'
      obtain ⟨⟨dq, osq⟩, hw''⟩ := hw'
      have hbq := below_regrown V dq osq
      rw [← hw''] at hbq
      replace B := hid (u_cat B.out hbq)
      clear hw'' dq osq hbq q0 q1 q2 q3 q4 q5 q6
      go_wp2_with fail
      go_ret
      exact ⟨ret_bool HG.out.symm, B.out⟩
  · rw [decide_eq_false hpl] at K1
    have HG := hid (decide_eq_false (show ¬ getP L S ws gs C Z es from fun h => hpl h.1))
    clear hpl
    refine wp_region_quiet_below (by kernel_rfl) (by kernel_rfl) ?_
    repeat (first | go_big_quiet_step ((go_at_call 68; with_reducible exact K1.out _ _)) | quiet_step ((go_at_call 68; with_reducible exact K1.out _ _)))
    refine wpQuiet_nil ?_
    intro V2 hw'
    obtain ⟨⟨dq, osq⟩, hw''⟩ := hw'
    have hbq := below_regrown V dq osq
    rw [← hw''] at hbq
    replace B := hid (u_cat B.out hbq)
    clear hw'' dq osq hbq q0 q1 q2 q3 q4 q5 q6
    go_wp2_with fail
    go_ret
    exact ⟨ret_bool HG.out.symm, B.out⟩
end Go.Proofs.YtbakicgdloakgaaGreatDoor
namespace Go.Proofs.YtbakicgdloakgaaGreatDoor
open Go.ChangeShapes Go.WideShapes Go.ChangeAt Go.RowKit Go.Sort Go.Shelf
attribute [local go_sem] Oper.semAt_some

set_option maxHeartbeats 4000000 in
theorem implGetOk_any (L S : Int) (a1 a2 : Option Addr) (c1 c2 : Nat) (ws gs : List Int) (C Z : Int) (a : Option Addr) (cap : Nat) (es : List EqV) (w : World) (ha1 : IntsAt w a1 ws) (ha2 : IntsAt w a2 gs) (hx : ws.length ≤ 1048576) (hy : gs.length ≤ 1048576) (ha : EqsAt w a es) (hl : es.length ≤ 1048576) (hsm : SmallE es) (hT : Tab w) :
    Calls Tryz.prog 76 #[.agg #[.int .i64 L, .int .i64 S, .slice a1 ws.length c1, .slice a2 gs.length c2, .int .i64 C, .int .i64 Z, .slice a es.length cap]] w fun e w' => e = .returned (.bool (decide (getP L S ws gs C Z es))) ∧ Below w.heap.size w w' := by
  have HA := hid ha
  have HS := hid hsm
  have HT := hid hT
  have H1 := hid ha1
  have H2 := hid ha2
  clear ha hsm hT ha1 ha2
  have B0 := hid (u_b1 w (.cells #[.int .i64 L, .int .i64 S, .slice a1 ws.length c1, .slice a2 gs.length c2, .int .i64 C, .int .i64 Z, .slice a es.length cap] 38))
  go_enter Tryz.func76, Tryz.ntmps76
  go_wp2_with fail
  refine (known_any L S a1 a2 c1 c2 ws gs C Z a cap es _ (H1.out.below B0.out) (H2.out.below B0.out) hx hy (HA.out.below B0.out) hl HS.out (HT.out.below B0.out)).mono ?_
  rintro e w1 ⟨bb, ⟨hg, ls, b1, d1, b2, d2, rfl, o1, -, -, -, -⟩ | ⟨hg, rfl⟩⟩
  · have HG := hid (decide_eq_true hg)
    have B := hid (u_cat B0.out bb)
    clear hg bb o1 B0
    go_wp2_with fail
    go_ret
    exact ⟨ret_bool HG.out.symm, u_cat B.out (u_b1 _ _)⟩
  · have HG := hid (decide_eq_false hg)
    have B := hid (u_cat B0.out bb)
    clear hg bb B0
    go_wp2_with fail
    go_ret
    exact ⟨ret_bool HG.out.symm, u_cat B.out (u_b1 _ _)⟩
/-- All is known just if all of the first blocks are. -/
theorem done_iff {c z : Int} {es : List EqV} (h : okE c z es) (hc : 1 ≤ c) (hc2 : c ≤ 24) : ((pfx 0 (es.map EqV.r) : Nat) : Int) = c ↔ (es.length : Int) = c := by
  have hle : (es.length : Int) ≤ c := by
    have : ∀ e ∈ es, 0 ≤ hd e.r := fun e he => by
      have h1 := okE_rows hc2 h e.r (List.mem_map_of_mem he)
      have := asc_mem h1.1 (hd_mem h1.2)
      omega
    have := okE_len h this (by omega)
    omega
  have hp := pfx_spec (es.map EqV.r) 0
  rw [List.length_map] at hp
  constructor
  · intro he; omega
  · intro he
    have h' := okE_iff.1 h
    obtain ⟨-, h2⟩ := okE_p.1 h
    -- the i-th first number is i
    have hup : ∀ (d i : Nat) (hi : i < es.length) (hj : i + d < es.length), hd es[i].r + d ≤ hd es[i + d].r := by
      intro d
      induction d with
      | zero => intro i hi hj; simp
      | succ d ih =>
        intro i hi hj
        have h3 := ih i hi (by omega)
        have h4 := ((h' (i + d) (by omega)).2 (i + (d + 1)) hj (by omega)).1
        omega
    have hhd : ∀ (i : Nat) (hi : i < es.length), hd es[i].r = i := by
      intro i hi
      have h3 := hd_ge h i hi
      have h4 := hup (es.length - 1 - i) i hi (by omega)
      have h5 := (h' (es.length - 1) (by omega)).1
      have h6 := asc_mem h5.1 (hd_mem h5.2.2)
      have e : i + (es.length - 1 - i) = es.length - 1 := by omega
      simp only [e] at h4
      omega
    have hrow : ∀ (i : Nat) (hi : i < es.length), es[i].r = [(i : Int)] := by
      intro i hi
      have h3 := (h' i hi).1
      rw [← one_row]
      refine ⟨?_, hhd i hi⟩
      have hall : ∀ x ∈ es[i].r, x = (i : Int) := by
        intro x hx
        have h4 := asc_mem h3.1 hx
        obtain ⟨k, rfl⟩ := Int.eq_ofNat_of_zero_le (show 0 ≤ x by omega)
        have hk : k < es.length := by omega
        by_cases hki : k = i
        · rw [hki]
        · exact absurd (by rw [hhd k hk]; exact hx) (h2 k i hk hi (fun e => hki e.symm))
      match hr : es[i].r, h3.2.2 with
      | [x], _ => rfl
      | x :: y :: r, _ =>
        rw [hr] at hall h3
        have e1 := hall x (by simp)
        have e2 := hall y (by simp)
        obtain ⟨-, h5⟩ := asc_cons.1 h3.1
        obtain ⟨h6, -⟩ := asc_cons.1 h5
        omega
    rw [pfx_all (fun i hi => by rw [List.getElem_map]; exact hrow i (by simpa using hi)), List.length_map]
    exact he
set_option maxHeartbeats 4000000 in
theorem implGetDone_any (L S : Int) (a1 a2 : Option Addr) (c1 c2 : Nat) (ws gs : List Int) (C Z : Int) (a : Option Addr) (cap : Nat) (es : List EqV) (w : World) (ha1 : IntsAt w a1 ws) (ha2 : IntsAt w a2 gs) (hx : ws.length ≤ 1048576) (hy : gs.length ≤ 1048576) (ha : EqsAt w a es) (hl : es.length ≤ 1048576) (hsm : SmallE es) (hT : Tab w) :
    Calls Tryz.prog 134 #[.agg #[.int .i64 L, .int .i64 S, .slice a1 ws.length c1, .slice a2 gs.length c2, .int .i64 C, .int .i64 Z, .slice a es.length cap]] w fun e w' => e = .returned (.bool (decide (getP L S ws gs C Z es ∧ (es.length : Int) = C))) ∧ Below w.heap.size w w' := by
  have HA := hid ha
  have HS := hid hsm
  have HT := hid hT
  have H1 := hid ha1
  have H2 := hid ha2
  clear ha hsm hT ha1 ha2
  have B0 := hid (u_b1 w (.cells #[.int .i64 L, .int .i64 S, .slice a1 ws.length c1, .slice a2 gs.length c2, .int .i64 C, .int .i64 Z, .slice a es.length cap] 38))
  have X0 := hid (laid w #[.int .i64 L, .int .i64 S, .slice a1 ws.length c1, .slice a2 gs.length c2, .int .i64 C, .int .i64 Z, .slice a es.length cap] 38)
  go_enter Tryz.func134, Tryz.ntmps134
  go_wp2_with fail
  refine (known_any L S a1 a2 c1 c2 ws gs C Z a cap es _ (H1.out.below B0.out) (H2.out.below B0.out) hx hy (HA.out.below B0.out) hl HS.out (HT.out.below B0.out)).mono ?_
  rintro e w1 ⟨bb, ⟨hg, ls, b1, d1, b2, d2, rfl, -, -, -, -, -⟩ | ⟨hg, rfl⟩⟩
  · have HG := hid hg
    have X := hid (kept X0.out bb)
    have B := hid (u_cat B0.out bb)
    clear hg bb X0 B0
    repeat ((fail_if_success (with_reducible show Code.wp _ (Code.region 2 _ _) _ _ _)); (first | go_values | go_skip | go_guarded | go_step | go_upon | go_back | go_simp))
    obtain ⟨V, hV⟩ : ∃ V, V = w1.alloc (.cells #[.int .i64 L, .int .i64 S, .slice b1 ws.length d1, .slice b2 gs.length d2, .int .i64 C, .int .i64 Z, .pointer (ptrOf ls)] 111) := ⟨_, rfl⟩
    have bv : Below w1.heap.size w1 V := by rw [hV]; exact u_b1 _ _
    have HV := hid (show V.heap[w1.heap.size]? = some (.cells #[.int .i64 L, .int .i64 S, .slice b1 ws.length d1, .slice b2 gs.length d2, .int .i64 C, .int .i64 Z, .pointer (ptrOf ls)] 111 (0, 0)) by rw [hV]; exact laid _ _ _)
    rw [← hV]
    clear hV
    replace X := hid (kept X.out bv)
    replace B := hid (u_cat B.out bv)
    clear bv
    have q4 := cell_regrown (box_cell X.out 4 (v := .int .i64 C) rfl)
    have q5 := cell_regrown (box_cell X.out 5 (v := .int .i64 Z) rfl)
    have q6 := cell_regrown (box_cell X.out 6 (v := .slice a es.length cap) rfl)
    have k0 := cell_regrown (box_cell HV.out 0 (v := .int .i64 L) rfl)
    have k1 := cell_regrown (box_cell HV.out 1 (v := .int .i64 S) rfl)
    have k2 := cell_regrown (box_cell HV.out 2 (v := .slice b1 ws.length d1) rfl)
    have k3 := cell_regrown (box_cell HV.out 3 (v := .slice b2 gs.length d2) rfl)
    have s1 := HG.out.1.1.1
    have s2 := HG.out.1.1.2.1
    have s3 := HG.out.1.1.2.2.1
    have s4 := HG.out.1.1.2.2.2.1
    have K1 := hid (rg (w := V) (fun w' hb => implSolverPrefix_any a cap es C Z w' ((HA.out.below B.out).below hb) HS.out hl ((HT.out.below B.out).below hb)))
    rw [eqsOf_yes HG.out.2.1] at K1
    have K2 := hid (rg (w := V) (fun w' _ => implCount L S b1 b2 ws.length d1 gs.length d2 w' s1 s2 s3 s4))
    rw [← HG.out.2.2.1] at K2
    have HD := hid (show (((pfx 0 (es.map EqV.r) : Nat) : Int) == C) = decide (getP L S ws gs C Z es ∧ (es.length : Int) = C) by
      rw [Bool.eq_iff_iff, beq_iff_eq, decide_eq_true_eq, done_iff HG.out.2.1.2 (by have := HG.out.2.1.1.1; omega) HG.out.2.1.1.1.2]
      exact ⟨fun h => ⟨HG.out, h⟩, fun h => h.2⟩)
    obtain ⟨P, hP⟩ : ∃ P, P = pfx 0 (es.map EqV.r) := ⟨_, rfl⟩
    rw [← hP] at K1 HD
    clear hP s1 s2 s3 s4
    refine wp_region_quiet_below (by kernel_rfl) (by kernel_rfl) ?_
    repeat (first | go_big_quiet_step (first | (go_at_call 135; with_reducible exact K1.out _ _) | (go_at_call 91; with_reducible exact K2.out _ _)) | quiet_step (first | (go_at_call 135; with_reducible exact K1.out _ _) | (go_at_call 91; with_reducible exact K2.out _ _)))
    refine wpQuiet_nil ?_
    intro V2 hw'
    obtain ⟨⟨dq, osq⟩, hw''⟩ := hw'
    have hbq := below_regrown V dq osq
    rw [← hw''] at hbq
    replace B := hid (u_cat B.out hbq)
    clear hw'' dq osq hbq q4 q5 q6 k0 k1 k2 k3
    go_wp2_with fail
    go_ret
    exact ⟨ret_bool HD.out, B.out⟩
  · have HG := hid (show decide (getP L S ws gs C Z es ∧ (es.length : Int) = C) = false from decide_eq_false (fun h => hg h.1))
    have B := hid (u_cat B0.out (u_cat bb (u_b1 w1 (.cells #[.int .i64 0, .int .i64 0, .slice none 0 0, .slice none 0 0, .int .i64 0, .int .i64 0, .pointer none] 111))))
    clear hg bb X0 B0
    repeat ((fail_if_success (with_reducible show Code.wp _ (Code.region 2 _ _) _ _ _)); (first | go_values | go_skip | go_guarded | go_step | go_upon | go_back | go_simp))
    obtain ⟨V, hV⟩ : ∃ V, V = w1.alloc (.cells #[.int .i64 0, .int .i64 0, .slice none 0 0, .slice none 0 0, .int .i64 0, .int .i64 0, .pointer none] 111) := ⟨_, rfl⟩
    rw [← hV] at B ⊢
    clear hV
    refine wp_region_quiet_below (by kernel_rfl) (by kernel_rfl) ?_
    repeat (first | go_big_quiet_step (fail) | quiet_step (fail))
    refine wpQuiet_nil ?_
    intro V2 hw'
    obtain ⟨⟨dq, osq⟩, hw''⟩ := hw'
    have hbq := below_regrown V dq osq
    rw [← hw''] at hbq
    replace B := hid (u_cat B.out hbq)
    clear hw'' dq osq hbq
    go_wp2_with fail
    go_ret
    exact ⟨ret_bool HG.out.symm, B.out⟩
end Go.Proofs.YtbakicgdloakgaaGreatDoor
namespace Go.Proofs.YtbakicgdloakgaaGreatDoor
open Go.ChangeShapes Go.WideShapes Go.ChangeAt Go.RowKit Go.Sort Go.Shelf
attribute [local go_sem] Oper.semAt_some

set_option maxHeartbeats 4000000 in
theorem specGetDone_any (L S : Int) (a1 a2 : Option Addr) (c1 c2 : Nat) (ws gs : List Int) (C Z : Int) (a : Option Addr) (cap : Nat) (es : List EqV) (w : World) (ha1 : IntsAt w a1 ws) (ha2 : IntsAt w a2 gs) (hx : ws.length ≤ 1048576) (hy : gs.length ≤ 1048576) (ha : EqsAt w a es) (hl : es.length ≤ 1048576) (hsm : SmallE es) :
    Calls Tryz.prog 49 #[.agg #[.int .i64 L, .int .i64 S, .slice a1 ws.length c1, .slice a2 gs.length c2, .int .i64 C, .int .i64 Z, .slice a es.length cap]] w fun e w' => e = .returned (.bool (decide (getP L S ws gs C Z es ∧ (es.length : Int) = C))) ∧ Below w.heap.size w w' := by
  have HA := hid ha
  have HS := hid hsm
  have H1 := hid ha1
  have H2 := hid ha2
  clear ha hsm ha1 ha2
  go_enter Tryz.func49, Tryz.ntmps49
  repeat ((fail_if_success (with_reducible show Code.wp _ (Code.region 1 _ _) _ _ _)); (first | go_values | go_skip | go_guarded | go_step | go_upon | go_back | go_simp))
  obtain ⟨V, hV⟩ : ∃ V, V = w.alloc (.cells #[.int .i64 L, .int .i64 S, .slice a1 ws.length c1, .slice a2 gs.length c2, .int .i64 C, .int .i64 Z, .slice a es.length cap] 38) := ⟨_, rfl⟩
  have B := hid (show Below w.heap.size w V by rw [hV]; exact u_b1 _ _)
  have X : V.heap[w.heap.size]? = some (.cells #[.int .i64 L, .int .i64 S, .slice a1 ws.length c1, .slice a2 gs.length c2, .int .i64 C, .int .i64 Z, .slice a es.length cap] 38 (0, 0)) := by rw [hV]; exact laid _ _ _
  rw [← hV]
  clear hV
  have q0 := cell_regrown (box_cell X 0 (v := .int .i64 L) rfl)
  have q1 := cell_regrown (box_cell X 1 (v := .int .i64 S) rfl)
  have q2 := cell_regrown (box_cell X 2 (v := .slice a1 ws.length c1) rfl)
  have q3 := cell_regrown (box_cell X 3 (v := .slice a2 gs.length c2) rfl)
  have q4 := cell_regrown (box_cell X 4 (v := .int .i64 C) rfl)
  have q5 := cell_regrown (box_cell X 5 (v := .int .i64 Z) rfl)
  have q6 := cell_regrown (box_cell X 6 (v := .slice a es.length cap) rfl)
  have K1 := hid (rg (w := V) (fun w' hb => specGetOk_any L S a1 a2 c1 c2 ws gs C Z a cap es w' ((H1.out.below B.out).below hb) ((H2.out.below B.out).below hb) hx hy ((HA.out.below B.out).below hb) hl HS.out))
  clear X
  by_cases hg : getP L S ws gs C Z es
  · rw [decide_eq_true hg] at K1
    have s1 := hg.1.1.1
    have s2 := hg.1.1.2.1
    have s3 := hg.1.1.2.2.1
    have s4 := hg.1.1.2.2.2.1
    have HG := hid hg
    have K2 := hid (rg (w := V) (fun w' _ => specCount L S a1 a2 ws.length c1 gs.length c2 w' s1 s2 s3 s4))
    rw [← HG.out.2.2.1] at K2
    have HD := hid (show ((es.length : Int) == C) = decide (getP L S ws gs C Z es ∧ (es.length : Int) = C) by
      rw [Bool.eq_iff_iff, beq_iff_eq, decide_eq_true_eq]
      exact ⟨fun h => ⟨HG.out, h⟩, fun h => h.2⟩)
    clear hg s1 s2 s3 s4
    refine wp_region_quiet_below (by kernel_rfl) (by kernel_rfl) ?_
    repeat (first | go_big_quiet_step (first | (go_at_call 48; with_reducible exact K1.out _ _) | (go_at_call 70; with_reducible exact K2.out _ _)) | quiet_step (first | (go_at_call 48; with_reducible exact K1.out _ _) | (go_at_call 70; with_reducible exact K2.out _ _)))
    refine wpQuiet_nil ?_
    intro V2 hw'
    obtain ⟨⟨dq, osq⟩, hw''⟩ := hw'
    have hbq := below_regrown V dq osq
    rw [← hw''] at hbq
    replace B := hid (u_cat B.out hbq)
    clear hw'' dq osq hbq q0 q1 q2 q3 q4 q5 q6
    go_wp2_with fail
    go_ret
    exact ⟨ret_bool HD.out, B.out⟩
  · rw [decide_eq_false hg] at K1
    have HG := hid (show decide (getP L S ws gs C Z es ∧ (es.length : Int) = C) = false from decide_eq_false (fun h => hg h.1))
    clear hg
    refine wp_region_quiet_below (by kernel_rfl) (by kernel_rfl) ?_
    repeat (first | go_big_quiet_step ((go_at_call 48; with_reducible exact K1.out _ _)) | quiet_step ((go_at_call 48; with_reducible exact K1.out _ _)))
    refine wpQuiet_nil ?_
    intro V2 hw'
    obtain ⟨⟨dq, osq⟩, hw''⟩ := hw'
    have hbq := below_regrown V dq osq
    rw [← hw''] at hbq
    replace B := hid (u_cat B.out hbq)
    clear hw'' dq osq hbq q0 q1 q2 q3 q4 q5 q6
    go_wp2_with fail
    go_ret
    exact ⟨ret_bool HG.out.symm, B.out⟩
end Go.Proofs.YtbakicgdloakgaaGreatDoor
