/- What a getting knows, by the program. -/
import Derived.Test.YtbakicgdloakgaaGreatDoorG12
import Derived.Test.YtbakicgdloakgaaGreatDoorG7
import Derived.Test.YtbakicgdloakgaaGreatDoorG4
import Derived.Deep.RegionHeld3
namespace Go.Proofs.YtbakicgdloakgaaGreatDoor
open Go.ChangeShapes Go.WideShapes Go.ChangeAt Go.RowKit Go.Sort Go.Shelf
attribute [local go_sem] Oper.semAt_some

/-- A getting that is ok. -/
def getP (L S : Int) (ws gs : List Int) (C Z : Int) (es : List EqV) : Prop := planP L S ws gs ∧ solverP C Z es ∧ C = cntI L S ∧ Z = S
instance (L S : Int) (ws gs : List Int) (C Z : Int) (es : List EqV) : Decidable (getP L S ws gs C Z es) := by unfold getP; infer_instance

/-- What the program says of a getting. -/
def KnownO (w : World) (L S : Int) (ws gs : List Int) (C Z : Int) (es : List EqV) (e : Ending) (w' : World) : Prop := Below w.heap.size w w' ∧
  ((getP L S ws gs C Z es ∧ ∃ ls b1 d1 b2 d2, e = .returned (.tuple #[.agg #[.int .i64 L, .int .i64 S, .slice b1 ws.length d1, .slice b2 gs.length d2, .int .i64 C, .int .i64 Z, .pointer (ptrOf ls)], .bool true]) ∧
      w'.ownsRow w.heap.size 3 1 (.slice b1 ws.length d1) ws.length (ws.map (Value.int .i64)) ∧ w'.ownsRow w.heap.size 3 1 (.slice b2 gs.length d2) gs.length (gs.map (Value.int .i64)) ∧ Apart (.slice b1 ws.length d1) (.slice b2 gs.length d2) ∧ LksAt w' w.heap.size ls ∧ SameE ls es) ∨
    (¬ getP L S ws gs C Z es ∧ e = .returned (.tuple #[.agg #[.int .i64 0, .int .i64 0, .slice none 0 0, .slice none 0 0, .int .i64 0, .int .i64 0, .pointer none], .bool false])))

set_option maxHeartbeats 8000000 in
set_option maxRecDepth 100000 in
theorem known_any (L S : Int) (a1 a2 : Option Addr) (c1 c2 : Nat) (ws gs : List Int) (C Z : Int) (a : Option Addr) (cap : Nat) (es : List EqV) (w : World) (ha1 : IntsAt w a1 ws) (ha2 : IntsAt w a2 gs) (hx : ws.length ≤ 1048576) (hy : gs.length ≤ 1048576) (ha : EqsAt w a es) (hl : es.length ≤ 1048576) (hsm : SmallE es) (hT : Tab w) :
    Calls Tryz.prog 77 #[.agg #[.int .i64 L, .int .i64 S, .slice a1 ws.length c1, .slice a2 gs.length c2, .int .i64 C, .int .i64 Z, .slice a es.length cap]] w (KnownO w L S ws gs C Z es) := by
  have HA := hid ha
  have HS := hid hsm
  have HT := hid hT
  have H1 := hid ha1
  have H2 := hid ha2
  clear ha hsm hT ha1 ha2
  obtain ⟨W0, hW0⟩ : ∃ W0, W0 = (w.alloc (.cells #[.int .i64 L, .int .i64 S, .slice a1 ws.length c1, .slice a2 gs.length c2, .int .i64 C, .int .i64 Z, .slice a es.length cap] 38)).alloc (.cells #[.int .i64 0, .int .i64 0, .slice none 0 0, .slice none 0 0, .int .i64 0, .int .i64 0, .pointer none] 111) := ⟨_, rfl⟩
  obtain ⟨X0, X1, B0⟩ := u_box2 (w := w) (c := #[.int .i64 L, .int .i64 S, .slice a1 ws.length c1, .slice a2 gs.length c2, .int .i64 C, .int .i64 Z, .slice a es.length cap]) (t := 38) (d := #[.int .i64 0, .int .i64 0, .slice none 0 0, .slice none 0 0, .int .i64 0, .int .i64 0, .pointer none]) (s := 111) (w1 := W0) (by rw [hW0]; exact Below.refl _ _)
  have hs0 : W0.heap.size = w.heap.size + 2 := by rw [hW0]; simp
  have HX := hid X0
  have HR := hid X1
  have HB := hid B0
  have q4 := box_cell X0 4 (v := .int .i64 C) rfl
  have q5 := box_cell X0 5 (v := .int .i64 Z) rfl
  have q6 := box_cell X0 6 (v := .slice a es.length cap) rfl
  clear X0 X1 B0
  go_enter Tryz.func77, Tryz.ntmps77
  repeat ((fail_if_success (with_reducible show Code.wp _ (Code.region 1 _ _) _ _ _)); (first | go_values | go_skip | go_guarded | go_step | go_upon | go_back | go_simp))
  rw [← hW0]
  clear hW0
  go_wp2_with fail
  refine (listOf_any a cap es C Z _ (HA.out.below HB.out) HS.out hl (HT.out.below HB.out)).mono ?_
  rintro e w1 ⟨bb, h⟩
  replace HX := hid (kept HX.out bb)
  replace HR := hid (kept HR.out bb)
  replace HB := hid (u_cat HB.out bb)
  have hs1 : W0.heap.size ≤ w1.heap.size := bb.size
  clear bb q4 q5 q6
  rcases h with ⟨hp, ls, rfl, hL, hSm⟩ | ⟨hp, rfl⟩
  · have HL := hid hL
    have HM := hid hSm
    have HP := hid hp
    clear hL hSm hp
    repeat ((fail_if_success (with_reducible show Code.wp _ (Code.region 2 _ _) _ _ _)); (first | go_values | go_skip | go_guarded | go_step | go_upon | go_back | go_simp))
    obtain ⟨V, hV⟩ : ∃ V, V = w1.alloc (.cells #[.int .i64 C, .int .i64 Z, .pointer (ptrOf ls)] 109) := ⟨_, rfl⟩
    have bv : Below w1.heap.size w1 V := by rw [hV]; exact u_b1 _ _
    have HV := hid (show V.heap[w1.heap.size]? = some (.cells #[.int .i64 C, .int .i64 Z, .pointer (ptrOf ls)] 109 (0, 0)) by rw [hV]; exact laid _ _ _)
    rw [← hV]
    clear hV
    replace HX := hid (kept HX.out bv)
    replace HR := hid (kept HR.out bv)
    replace HB := hid (u_cat HB.out bv)
    replace HL := hid (HL.out.below bv)
    have k1 := hid (rg (w := V) (fun w' hb => implPlanOk L S a1 a2 c1 c2 ws gs w' ((H1.out.below HB.out).below hb) ((H2.out.below HB.out).below hb) (by omega) (by omega)))
    clear bv
    have y0 := cell_regrown (box_cell HX.out 0 (v := .int .i64 L) rfl)
    have y1 := cell_regrown (box_cell HX.out 1 (v := .int .i64 S) rfl)
    have y2 := cell_regrown (box_cell HX.out 2 (v := .slice a1 ws.length c1) rfl)
    have y3 := cell_regrown (box_cell HX.out 3 (v := .slice a2 gs.length c2) rfl)
    have v0 := cell_regrown (box_cell HV.out 0 (v := .int .i64 C) rfl)
    have v1 := cell_regrown (box_cell HV.out 1 (v := .int .i64 Z) rfl)
    by_cases hpl : planP L S ws gs
    · rw [decide_eq_true hpl] at k1
      have s1 := hpl.1.1
      have s2 := hpl.1.2.1
      have s3 := hpl.1.2.2.1
      have s4 := hpl.1.2.2.2.1
      have HPL := hid hpl
      have k2 := hid (rg (w := V) (fun w' _ => implCount L S a1 a2 ws.length c1 gs.length c2 w' s1 s2 s3 s4))
      clear hpl s1 s2 s3 s4
      by_cases hc : C = cntI L S
      · have hc1 : (C == cntI L S) = true := by simpa using hc
        have hc2 : (C != cntI L S) = false := by simp [bne, hc1]
        have HC := hid hc
        clear hc
        by_cases hz : Z = S
        · have hz1 : (Z == S) = true := by simpa using hz
          have hz2 : (Z != S) = false := by simp [bne, hz1]
          have HG := hid (show getP L S ws gs C Z es from ⟨HPL.out, HP.out, HC.out, hz⟩)
          clear hz
          refine wp_region_quiet_below (by kernel_rfl) (by kernel_rfl) ?_
          repeat (first | go_big_quiet_step ((first | (go_at_call 90; with_reducible exact k1.out _ _) | (go_at_call 91; with_reducible exact k2.out _ _))) | quiet_step ((first | (go_at_call 90; with_reducible exact k1.out _ _) | (go_at_call 91; with_reducible exact k2.out _ _))))
          refine wpQuiet_nil ?_
          intro V2 hw'
          obtain ⟨⟨dq, osq⟩, hw''⟩ := hw'
          have hbq := below_regrown V dq osq
          rw [← hw''] at hbq
          clear hw'' dq osq y0 y1 y2 y3 v0 v1 k1 k2 hc1 hc2 hz1 hz2
          replace HX := hid (kept HX.out hbq)
          replace HV := hid (kept HV.out hbq)
          replace HR := hid (kept HR.out hbq)
          replace HB := hid (u_cat HB.out hbq)
          replace HL := hid (HL.out.below hbq)
          have hs2 : w1.heap.size + 1 ≤ V2.heap.size := lt_of_block HV.out
          clear hbq
          repeat ((fail_if_success (with_reducible show Code.wp _ (Code.region 4 _ _) _ _ _)); (first | go_values | go_skip | go_guarded | go_step | go_upon | go_back | go_simp))
          have hne1 : ws ≠ [] := fun h => by have := HPL.out.2.1.1; rw [h] at this; simp at this
          have hne2 : gs ≠ [] := fun h => by have h1 := HPL.out.2.1.1; have h2 := HPL.out.2.2.2; rw [h] at h2; simp at h2; omega
          obtain ⟨b1, o1, rfl, g1⟩ := H1.out hne1
          obtain ⟨b2, o2, rfl, g2⟩ := H2.out hne2
          have l1 := block_lt_of_cell (g1 0 (List.length_pos_iff.2 hne1))
          have l2 := block_lt_of_cell (g2 0 (List.length_pos_iff.2 hne2))
          have G1 := hid g1
          have G2 := hid g2
          have n1 := List.length_pos_iff.2 hne1
          have n2 := List.length_pos_iff.2 hne2
          have n3 : ws.length ≤ 3 := HPL.out.2.1.2.1
          have n4 : gs.length ≤ 3 := by have := HPL.out.2.2.2; omega
          have CP := hid (fun w' h1 h2 => copied_any L S b1 o1 b2 o2 c1 c2 ws gs w' h1 h2 (by omega) (by omega) n1 n2)
          clear g1 g2 hne1 hne2 n1 n2 n3 n4
          have X : Hid (V2.drew.heap[w.heap.size]? = some (.cells #[.int .i64 L, .int .i64 S, .slice (some ⟨b1, o1, none⟩) ws.length c1, .slice (some ⟨b2, o2, none⟩) gs.length c2, .int .i64 C, .int .i64 Z, .slice a es.length cap] 38 (0, 0))) := hid HX.out
          have R : Hid (V2.drew.heap[w.heap.size + 1]? = some (.cells #[.int .i64 0, .int .i64 0, .slice none 0 0, .slice none 0 0, .int .i64 0, .int .i64 0, .pointer none] 111 (0, 0))) := hid HR.out
          have VV : Hid (V2.drew.heap[w1.heap.size]? = some (.cells #[.int .i64 C, .int .i64 Z, .pointer (ptrOf ls)] 109 (0, 0))) := hid HV.out
          have B : Hid (Below w.heap.size w V2.drew) := hid HB.out.drew
          have LL : Hid (LksAt V2.drew W0.heap.size ls) := hid (HL.out.below (Below.refl _ _).drew)
          clear HX HR HV HB HL
          have q0 : V2.drew.cell? ⟨w.heap.size, 0, none⟩ = some (.int .i64 L) := box_cell X.out 0 rfl
          have q1 : V2.drew.cell? ⟨w.heap.size, 1, none⟩ = some (.int .i64 S) := box_cell X.out 1 rfl
          have q2 : V2.drew.cell? ⟨w.heap.size, 2, none⟩ = some (.slice (some ⟨b1, o1, none⟩) ws.length c1) := box_cell X.out 2 rfl
          have q3 : V2.drew.cell? ⟨w.heap.size, 3, none⟩ = some (.slice (some ⟨b2, o2, none⟩) gs.length c2) := box_cell X.out 3 rfl
          have v0 : V2.drew.cell? ⟨w1.heap.size, 0, none⟩ = some (.int .i64 C) := box_cell VV.out 0 rfl
          have v1 : V2.drew.cell? ⟨w1.heap.size, 1, none⟩ = some (.int .i64 Z) := box_cell VV.out 1 rfl
          have v2 : V2.drew.cell? ⟨w1.heap.size, 2, none⟩ = some (.pointer (ptrOf ls)) := box_cell VV.out 2 rfl
          have ne1 : ¬ w.heap.size + 1 = w1.heap.size := by omega
          have ne2 : ¬ w1.heap.size = w.heap.size + 1 := by omega
          go_region_held3 (fun w' => w'.cell? ⟨w.heap.size, 0, none⟩ = some (.int .i64 L) ∧ w'.cell? ⟨w.heap.size, 1, none⟩ = some (.int .i64 S) ∧ w'.cell? ⟨w.heap.size, 2, none⟩ = some (.slice (some ⟨b1, o1, none⟩) ws.length c1) ∧ w'.cell? ⟨w.heap.size, 3, none⟩ = some (.slice (some ⟨b2, o2, none⟩) gs.length c2) ∧ w'.cell? ⟨w1.heap.size, 0, none⟩ = some (.int .i64 C) ∧ w'.cell? ⟨w1.heap.size, 1, none⟩ = some (.int .i64 Z) ∧ w'.cell? ⟨w1.heap.size, 2, none⟩ = some (.pointer (ptrOf ls))) (first | (with_reducible exact ⟨q0, q1, q2, q3, v0, v1, v2⟩) | go_keep)
            (first | (go_at_call 92
                      refine (CP.out _ (fun i hi => (B.out.cell (p := ⟨b1, o1 + i, none⟩) l1).trans (G1.out i hi)) (fun i hi => (B.out.cell (p := ⟨b2, o2 + i, none⟩) l2).trans (G2.out i hi))).mono ?_
                      rintro e wc ⟨v, rfl, ho, bw⟩
                      obtain ⟨a1, d1, a2, d2, rfl, ow1, ow2, ap⟩ := planO_slices ho
                      have hsz := lt_of_block R.out
                      have O1 := hid (owns_base (base' := w.heap.size + 2) ow1 hsz)
                      have O2 := hid (owns_base (base' := w.heap.size + 2) ow2 hsz)
                      have AP := hid ap
                      clear ho ow1 ow2 ap hsz
                      have R := hid (kept R.out bw); have X := hid (kept X.out bw); have VV := hid (kept VV.out bw); have B := hid (u_cat B.out bw); have LL := hid (LL.out.below bw)
                      clear q0 q1 q2 q3 v0 v1 v2 bw
                      have q0 := box_cell X.out 0 (v := .int .i64 L) rfl; have q1 := box_cell X.out 1 (v := .int .i64 S) rfl; have q2 := box_cell X.out 2 (v := .slice (some ⟨b1, o1, none⟩) ws.length c1) rfl; have q3 := box_cell X.out 3 (v := .slice (some ⟨b2, o2, none⟩) gs.length c2) rfl
                      have v0 := box_cell VV.out 0 (v := .int .i64 C) rfl; have v1 := box_cell VV.out 1 (v := .int .i64 Z) rfl; have v2 := box_cell VV.out 2 (v := .pointer (ptrOf ls)) rfl
                      have r0 := box_cell R.out 0 (v := .int .i64 0) rfl; have r1 := box_cell R.out 1 (v := .int .i64 0) rfl; have r2 := box_cell R.out 2 (v := .slice none 0 0) rfl; have r3 := box_cell R.out 3 (v := .slice none 0 0) rfl; have r4 := box_cell R.out 4 (v := .int .i64 0) rfl; have r5 := box_cell R.out 5 (v := .int .i64 0) rfl; have r6 := box_cell R.out 6 (v := .pointer none) rfl
                      have z0 := box_frozen R.out 0; have z1 := box_frozen R.out 1; have z2 := box_frozen R.out 2; have z3 := box_frozen R.out 3; have z4 := box_frozen R.out 4; have z5 := box_frozen R.out 5; have z6 := box_frozen R.out 6; have lr := lt_of_block R.out))
          all_goals (rename_i hh; clear hh r0 r1 r2 r3 r4 r5 r6 z0 z1 z2 z3 z4 z5 z6 q0 q1 q2 q3 v0 v1 v2 lr)
          all_goals go_wp2_with fail
          all_goals
            (have Y := set_block (set_block (set_block (set_block (set_block (set_block (set_block R.out 0 (.int .i64 L)) 1 (.int .i64 S)) 2 (.slice a1 ws.length d1)) 3 (.slice a2 gs.length d2)) 4 (.int .i64 C)) 5 (.int .i64 Z)) 6 (.pointer (ptrOf ls))
             have y0 := box_cell Y 0 (v := .int .i64 L) (by simp)
             have y1 := box_cell Y 1 (v := .int .i64 S) (by simp)
             have y2 := box_cell Y 2 (v := .slice a1 ws.length d1) (by simp)
             have y3 := box_cell Y 3 (v := .slice a2 gs.length d2) (by simp)
             have y4 := box_cell Y 4 (v := .int .i64 C) (by simp)
             have y5 := box_cell Y 5 (v := .int .i64 Z) (by simp)
             have y6 := box_cell Y 6 (v := .pointer (ptrOf ls)) (by simp)
             refine bodyPost_ret (v := .tuple #[.agg #[.int .i64 L, .int .i64 S, .slice a1 ws.length d1, .slice a2 gs.length d2, .int .i64 C, .int .i64 Z, .pointer (ptrOf ls)], .bool true]) ?_ rfl ⟨?_, .inl ⟨HG.out, ls, a1, d1, a2, d2, rfl, ?_, ?_, AP.out, ?_, HM.out⟩⟩
             · unfold results; rw [Tryz.results77]; simp [go_sem, y0, y1, y2, y3, y4, y5, y6]
             · exact u_set (u_set (u_set (u_set (u_set (u_set (u_set B.out (by simp) _ _) (by simp) _ _) (by simp) _ _) (by simp) _ _) (by simp) _ _) (by simp) _ _) (by simp) _ _
             · exact owns_base (owns_set (owns_set (owns_set (owns_set (owns_set (owns_set (owns_set O1.out (by simp) _) (by simp) _) (by simp) _) (by simp) _) (by simp) _) (by simp) _) (by simp) _) (by omega)
             · exact owns_base (owns_set (owns_set (owns_set (owns_set (owns_set (owns_set (owns_set O2.out (by simp) _) (by simp) _) (by simp) _) (by simp) _) (by simp) _) (by simp) _) (by simp) _) (by omega)
             · exact (((((((LL.out.set (by omega) _ _).set (by omega) _ _).set (by omega) _ _).set (by omega) _ _).set (by omega) _ _).set (by omega) _ _).set (by omega) _ _).mono (by omega))
        · have HN := hid (show ¬ getP L S ws gs C Z es from fun h => hz h.2.2.2)
          have hz1 : (Z == S) = false := by simpa using hz
          have hz2 : (Z != S) = true := by simp [bne, hz1]
          clear hz
          refine wp_region_quiet_below (by kernel_rfl) (by kernel_rfl) ?_
          repeat (first | go_big_quiet_step ((first | (go_at_call 90; with_reducible exact k1.out _ _) | (go_at_call 91; with_reducible exact k2.out _ _))) | quiet_step ((first | (go_at_call 90; with_reducible exact k1.out _ _) | (go_at_call 91; with_reducible exact k2.out _ _))))
          refine wpQuiet_nil ?_
          intro V2 hw'
          obtain ⟨⟨dq, osq⟩, hw''⟩ := hw'
          have hbq := below_regrown V dq osq
          rw [← hw''] at hbq
          clear hw'' dq osq
          replace HR := hid (kept HR.out hbq)
          replace HB := hid (u_cat HB.out hbq)
          clear hbq y0 y1 y2 y3 v0 v1 k1 k2 hc1 hc2 hz1 hz2 HX HV HL
          have zr := box_frozen HR.out
          have s0 := box_cell HR.out 0 (v := .int .i64 0) rfl
          have s1 := box_cell HR.out 1 (v := .int .i64 0) rfl
          have s2 := box_cell HR.out 2 (v := .slice none 0 0) rfl
          have s3 := box_cell HR.out 3 (v := .slice none 0 0) rfl
          have s4 := box_cell HR.out 4 (v := .int .i64 0) rfl
          have s5 := box_cell HR.out 5 (v := .int .i64 0) rfl
          have s6 := box_cell HR.out 6 (v := .pointer none) rfl
          go_wp2_with fail
          have Y := set_block (set_block (set_block (set_block (set_block (set_block (set_block (HR.out) 0 (.int .i64 0)) 1 (.int .i64 0)) 2 (.slice none 0 0)) 3 (.slice none 0 0)) 4 (.int .i64 0)) 5 (.int .i64 0)) 6 (.pointer none)
          have y0 := box_cell Y 0 (v := .int .i64 0) (by simp)
          have y1 := box_cell Y 1 (v := .int .i64 0) (by simp)
          have y2 := box_cell Y 2 (v := .slice none 0 0) (by simp)
          have y3 := box_cell Y 3 (v := .slice none 0 0) (by simp)
          have y4 := box_cell Y 4 (v := .int .i64 0) (by simp)
          have y5 := box_cell Y 5 (v := .int .i64 0) (by simp)
          have y6 := box_cell Y 6 (v := .pointer none) (by simp)
          refine bodyPost_ret (v := .tuple #[.agg #[.int .i64 0, .int .i64 0, .slice none 0 0, .slice none 0 0, .int .i64 0, .int .i64 0, .pointer none], .bool false]) ?_ rfl ⟨?_, .inr ⟨HN.out, rfl⟩⟩
          · unfold results; rw [Tryz.results77]; simp [go_sem, y0, y1, y2, y3, y4, y5, y6]
          · repeat (first | (with_reducible exact HB.out) | (refine u_set ?_ (by omega) _ _))
      · have HN := hid (show ¬ getP L S ws gs C Z es from fun h => hc h.2.2.1)
        have hc1 : (C == cntI L S) = false := by simpa using hc
        have hc2 : (C != cntI L S) = true := by simp [bne, hc1]
        clear hc
        refine wp_region_quiet_below (by kernel_rfl) (by kernel_rfl) ?_
        repeat (first | go_big_quiet_step ((first | (go_at_call 90; with_reducible exact k1.out _ _) | (go_at_call 91; with_reducible exact k2.out _ _))) | quiet_step ((first | (go_at_call 90; with_reducible exact k1.out _ _) | (go_at_call 91; with_reducible exact k2.out _ _))))
        refine wpQuiet_nil ?_
        intro V2 hw'
        obtain ⟨⟨dq, osq⟩, hw''⟩ := hw'
        have hbq := below_regrown V dq osq
        rw [← hw''] at hbq
        clear hw'' dq osq
        replace HR := hid (kept HR.out hbq)
        replace HB := hid (u_cat HB.out hbq)
        clear hbq y0 y1 y2 y3 v0 v1 k1 k2 hc1 hc2 HX HV HL
        have zr := box_frozen HR.out
        have s0 := box_cell HR.out 0 (v := .int .i64 0) rfl
        have s1 := box_cell HR.out 1 (v := .int .i64 0) rfl
        have s2 := box_cell HR.out 2 (v := .slice none 0 0) rfl
        have s3 := box_cell HR.out 3 (v := .slice none 0 0) rfl
        have s4 := box_cell HR.out 4 (v := .int .i64 0) rfl
        have s5 := box_cell HR.out 5 (v := .int .i64 0) rfl
        have s6 := box_cell HR.out 6 (v := .pointer none) rfl
        go_wp2_with fail
        have Y := set_block (set_block (set_block (set_block (set_block (set_block (set_block (HR.out) 0 (.int .i64 0)) 1 (.int .i64 0)) 2 (.slice none 0 0)) 3 (.slice none 0 0)) 4 (.int .i64 0)) 5 (.int .i64 0)) 6 (.pointer none)
        have y0 := box_cell Y 0 (v := .int .i64 0) (by simp)
        have y1 := box_cell Y 1 (v := .int .i64 0) (by simp)
        have y2 := box_cell Y 2 (v := .slice none 0 0) (by simp)
        have y3 := box_cell Y 3 (v := .slice none 0 0) (by simp)
        have y4 := box_cell Y 4 (v := .int .i64 0) (by simp)
        have y5 := box_cell Y 5 (v := .int .i64 0) (by simp)
        have y6 := box_cell Y 6 (v := .pointer none) (by simp)
        refine bodyPost_ret (v := .tuple #[.agg #[.int .i64 0, .int .i64 0, .slice none 0 0, .slice none 0 0, .int .i64 0, .int .i64 0, .pointer none], .bool false]) ?_ rfl ⟨?_, .inr ⟨HN.out, rfl⟩⟩
        · unfold results; rw [Tryz.results77]; simp [go_sem, y0, y1, y2, y3, y4, y5, y6]
        · repeat (first | (with_reducible exact HB.out) | (refine u_set ?_ (by omega) _ _))
    · rw [decide_eq_false hpl] at k1
      have HN := hid (show ¬ getP L S ws gs C Z es from fun h => hpl h.1)
      clear hpl
      refine wp_region_quiet_below (by kernel_rfl) (by kernel_rfl) ?_
      repeat (first | go_big_quiet_step ((go_at_call 90; with_reducible exact k1.out _ _)) | quiet_step ((go_at_call 90; with_reducible exact k1.out _ _)))
      refine wpQuiet_nil ?_
      intro V2 hw'
      obtain ⟨⟨dq, osq⟩, hw''⟩ := hw'
      have hbq := below_regrown V dq osq
      rw [← hw''] at hbq
      clear hw'' dq osq
      replace HR := hid (kept HR.out hbq)
      replace HB := hid (u_cat HB.out hbq)
      clear hbq y0 y1 y2 y3 v0 v1 k1 HX HV HL
      have zr := box_frozen HR.out
      have s0 := box_cell HR.out 0 (v := .int .i64 0) rfl
      have s1 := box_cell HR.out 1 (v := .int .i64 0) rfl
      have s2 := box_cell HR.out 2 (v := .slice none 0 0) rfl
      have s3 := box_cell HR.out 3 (v := .slice none 0 0) rfl
      have s4 := box_cell HR.out 4 (v := .int .i64 0) rfl
      have s5 := box_cell HR.out 5 (v := .int .i64 0) rfl
      have s6 := box_cell HR.out 6 (v := .pointer none) rfl
      go_wp2_with fail
      have Y := set_block (set_block (set_block (set_block (set_block (set_block (set_block (HR.out) 0 (.int .i64 0)) 1 (.int .i64 0)) 2 (.slice none 0 0)) 3 (.slice none 0 0)) 4 (.int .i64 0)) 5 (.int .i64 0)) 6 (.pointer none)
      have y0 := box_cell Y 0 (v := .int .i64 0) (by simp)
      have y1 := box_cell Y 1 (v := .int .i64 0) (by simp)
      have y2 := box_cell Y 2 (v := .slice none 0 0) (by simp)
      have y3 := box_cell Y 3 (v := .slice none 0 0) (by simp)
      have y4 := box_cell Y 4 (v := .int .i64 0) (by simp)
      have y5 := box_cell Y 5 (v := .int .i64 0) (by simp)
      have y6 := box_cell Y 6 (v := .pointer none) (by simp)
      refine bodyPost_ret (v := .tuple #[.agg #[.int .i64 0, .int .i64 0, .slice none 0 0, .slice none 0 0, .int .i64 0, .int .i64 0, .pointer none], .bool false]) ?_ rfl ⟨?_, .inr ⟨HN.out, rfl⟩⟩
      · unfold results; rw [Tryz.results77]; simp [go_sem, y0, y1, y2, y3, y4, y5, y6]
      · repeat (first | (with_reducible exact HB.out) | (refine u_set ?_ (by omega) _ _))
  · have HN := hid (show ¬ getP L S ws gs C Z es from fun h => hp h.2.1)
    clear hp
    repeat ((fail_if_success (with_reducible show Code.wp _ (Code.region 2 _ _) _ _ _)); (first | go_values | go_skip | go_guarded | go_step | go_upon | go_back | go_simp))
    obtain ⟨V, hV⟩ : ∃ V, V = w1.alloc (.cells #[.int .i64 0, .int .i64 0, .pointer none] 109) := ⟨_, rfl⟩
    have bv : Below w1.heap.size w1 V := by rw [hV]; exact u_b1 _ _
    have HV := hid (show V.heap[w1.heap.size]? = some (.cells #[.int .i64 0, .int .i64 0, .pointer none] 109 (0, 0)) by rw [hV]; exact laid _ _ _)
    rw [← hV]
    clear hV
    replace HX := hid (kept HX.out bv)
    replace HR := hid (kept HR.out bv)
    replace HB := hid (u_cat HB.out bv)
    clear bv
    refine wp_region_quiet_below (by kernel_rfl) (by kernel_rfl) ?_
    repeat (first | go_big_quiet_step (fail) | quiet_step (fail))
    refine wpQuiet_nil ?_
    intro V2 hw'
    obtain ⟨⟨dq, osq⟩, hw''⟩ := hw'
    have hbq := below_regrown V dq osq
    rw [← hw''] at hbq
    clear hw'' dq osq
    replace HR := hid (kept HR.out hbq)
    replace HB := hid (u_cat HB.out hbq)
    clear hbq HX HV
    have zr := box_frozen HR.out
    have s0 := box_cell HR.out 0 (v := .int .i64 0) rfl
    have s1 := box_cell HR.out 1 (v := .int .i64 0) rfl
    have s2 := box_cell HR.out 2 (v := .slice none 0 0) rfl
    have s3 := box_cell HR.out 3 (v := .slice none 0 0) rfl
    have s4 := box_cell HR.out 4 (v := .int .i64 0) rfl
    have s5 := box_cell HR.out 5 (v := .int .i64 0) rfl
    have s6 := box_cell HR.out 6 (v := .pointer none) rfl
    go_wp2_with fail
    have Y := set_block (set_block (set_block (set_block (set_block (set_block (set_block (HR.out) 0 (.int .i64 0)) 1 (.int .i64 0)) 2 (.slice none 0 0)) 3 (.slice none 0 0)) 4 (.int .i64 0)) 5 (.int .i64 0)) 6 (.pointer none)
    have y0 := box_cell Y 0 (v := .int .i64 0) (by simp)
    have y1 := box_cell Y 1 (v := .int .i64 0) (by simp)
    have y2 := box_cell Y 2 (v := .slice none 0 0) (by simp)
    have y3 := box_cell Y 3 (v := .slice none 0 0) (by simp)
    have y4 := box_cell Y 4 (v := .int .i64 0) (by simp)
    have y5 := box_cell Y 5 (v := .int .i64 0) (by simp)
    have y6 := box_cell Y 6 (v := .pointer none) (by simp)
    refine bodyPost_ret (v := .tuple #[.agg #[.int .i64 0, .int .i64 0, .slice none 0 0, .slice none 0 0, .int .i64 0, .int .i64 0, .pointer none], .bool false]) ?_ rfl ⟨?_, .inr ⟨HN.out, rfl⟩⟩
    · unfold results; rw [Tryz.results77]; simp [go_sem, y0, y1, y2, y3, y4, y5, y6]
    · repeat (first | (with_reducible exact HB.out) | (refine u_set ?_ (by omega) _ _))
end Go.Proofs.YtbakicgdloakgaaGreatDoor
