/- Solvers that are ok, by the model: the walk. -/
import Derived.Test.YtbakicgdloakgaaGreatDoorG13
namespace Go.Proofs.YtbakicgdloakgaaGreatDoor
open Go.ChangeShapes Go.WideShapes Go.ChangeAt Go.RowKit Go.Sort Go.Shelf
attribute [local go_sem] Oper.semAt_some

theorem hd_cell {w : World} {a : Option Addr} {xs : List Int} (h : IntsAt w a xs) (hne : xs ≠ []) : ∃ b o, a = some ⟨b, o, none⟩ ∧ w.cell? ⟨b, o, none⟩ = some (.int .i64 (hd xs)) := by
  obtain ⟨b, o, ha, hc⟩ := h hne
  refine ⟨b, o, ha, ?_⟩
  have := hc 0 (by cases xs with | nil => exact absurd rfl hne | cons x r => simp)
  rw [Nat.add_zero] at this
  rw [this]
  cases xs <;> rfl

set_option maxRecDepth 100000 in
set_option maxHeartbeats 8000000 in
theorem specSolverOk_any (a : Option Addr) (cap : Nat) (es : List EqV) (c z : Int) (w : World) (ha : EqsAt w a es) (hsm : SmallE es) (hl : es.length ≤ 1048576) :
    Calls Tryz.prog 69 #[.agg #[.int .i64 c, .int .i64 z, .slice a es.length cap]] w fun e w' => e = .returned (.bool (decide (solverP c z es))) ∧ Below w.heap.size w w' := by
  have HA := hid ha
  have HS := hid hsm
  clear ha hsm
  by_cases hz1 : 1 ≤ c ∧ c ≤ 24
  · by_cases hz2 : 1 ≤ z ∧ z ≤ 16
    · have HP := hid (show solverP c z es ↔ (∀ i, i < es.length → p1At c z es i) ∧ ∀ i k, p2At es i k from ⟨fun h => okE_p.1 h.2, fun h => ⟨⟨hz1, hz2⟩, okE_p.2 h⟩⟩)
      go_enter Tryz.func69, Tryz.ntmps69
      go_wp2_with (go_at_call 46; refine (l1In_yes _ _ _ _ (by assumption)).mono ?_; rintro e w' ⟨rfl, rfl⟩)
      obtain ⟨W0, hW0⟩ : ∃ W0, W0 = w.alloc (.cells #[.int .i64 c, .int .i64 z, .slice a es.length cap] 36) := ⟨_, rfl⟩
      have X0 := laid w #[.int .i64 c, .int .i64 z, .slice a es.length cap] 36
      have B0 := u_b1 w (.cells #[.int .i64 c, .int .i64 z, .slice a es.length cap] 36)
      rw [← hW0] at X0 B0 ⊢
      clear hW0
      go_loopw [3, 4] (fun i _ wr => ∃ k : Nat, k ≤ es.length ∧ i = .int .i64 k ∧ (∀ i, i < k → p1At c z es i) ∧ wr.heap[w.heap.size]? = some (.cells #[.int .i64 c, .int .i64 z, .slice a es.length cap] 36 (0, 0)) ∧ Below w.heap.size w wr) (fun i _ _ => es.length - (intOf i).toNat)
      case atStart => exact ⟨0, by omega, rfl, fun i hi => by omega, X0, B0⟩
      case round =>
        clear X0 B0 W0
        obtain ⟨k, hk, rfl, hall, X0, B⟩ := hrel
        by_cases hlt : k < es.length
        · obtain ⟨e, he⟩ : ∃ e, es[k] = e := ⟨_, rfl⟩
          have hmem : e ∈ es := by rw [← he]; exact List.getElem_mem hlt
          have hese := (HS.out e hmem).1
          have hesd := (HS.out e hmem).2
          obtain ⟨b, off, rfl, hc⟩ := (HA.out.below B) (by intro h; simp [h] at hlt)
          obtain ⟨c0, c1, crow⟩ := hc k e (by rw [List.getElem?_eq_getElem hlt, he])
          have bA := u_b1 wr (.cells #[.slice e.a e.r.length e.c, .string e.d] 124)
          obtain ⟨V, hV⟩ : ∃ V, V = wr.alloc (.cells #[.slice e.a e.r.length e.c, .string e.d] 124) := ⟨_, rfl⟩
          have XE := laid wr #[.slice e.a e.r.length e.c, .string e.d] 124
          rw [← hV] at bA XE
          have q2 := box_cell X0 2 (v := .slice (some ⟨b, off, none⟩) es.length cap) rfl
          go_wp2
          rw [← hV]
          clear hV q2
          have HX := hid (kept X0 bA)
          have HB := hid (u_catn B (Nat.le_refl _) bA)
          have crow := crow.below bA
          have y0 := cell_regrown (box_cell HX.out 0 (v := .int .i64 c) rfl)
          have y1 := cell_regrown (box_cell HX.out 1 (v := .int .i64 z) rfl)
          have y2 := cell_regrown (box_cell HX.out 2 (v := .slice (some ⟨b, off, none⟩) es.length cap) rfl)
          have v0 := cell_regrown (box_cell XE 0 (v := .slice e.a e.r.length e.c) rfl)
          have v1 := cell_regrown (box_cell XE 1 (v := .string e.d) rfl)
          have k1 := hid (rg (w := V) (fun w' hb => dr_below (specRowOk_in e.a e.c e.r c w' (crow.below hb) (by omega) (by omega) (by omega))))
          have HC := hid (fun j f hj => (hc j f hj).below bA)
          have HE := hid he
          have HL := hid hall
          clear X0 B bA XE hc hall
          have NO := hid (show ¬ p1At c z es k → decide (solverP c z es) = false from fun h => decide_eq_false (fun hp => h ((HP.out.1 hp).1 k hlt)))
          have YES := hid (show (ascB (-1) c e.r = true ∧ e.r ≠ [] ∧ (e.d.size : Int) = z) ∧ (0 < k → ∃ hj : k - 1 < es.length, hd es[k - 1].r < hd e.r) ↔ p1At c z es k from ⟨fun h => ⟨hlt, by rw [he]; exact h⟩, fun ⟨_, h⟩ => by rw [he] at h; exact h⟩)
          clear he
          obtain ⟨t, ht⟩ : ∃ t, ascB (-1) c e.r = t := ⟨_, rfl⟩
          rw [ht] at k1
          have HT1 := hid ht
          clear ht
          cases t
          · have HF := hid (NO.out (fun h => by have := (YES.out.2 h).1.1; rw [HT1.out] at this; cases this))
            refine wp_region_quiet_below (by kernel_rfl) (by kernel_rfl) ?_
            repeat (first | go_big_quiet_step ((go_at_call 86; with_reducible exact k1.out _ _)) | quiet_step ((go_at_call 86; with_reducible exact k1.out _ _)))
            refine wpQuiet_nil ?_
            intro V2 hw'
            obtain ⟨⟨dq, osq⟩, hw''⟩ := hw'
            have hbq := below_regrown V dq osq
            rw [← hw''] at hbq
            clear hw'' dq osq
            replace HX := hid (kept HX.out hbq)
            replace HB := hid (u_catn HB.out (Nat.le_refl _) hbq)
            clear hbq
            clear y0 y1 y2 v0 v1 c0 c1
            go_wp2
            go_ret
            exact ⟨ret_bool HF.out.symm, HB.out⟩
          · by_cases hne : e.r = []
            · have HF := hid (NO.out (fun h => (YES.out.2 h).1.2.1 hne))
              have hle : ((e.r.length : Int) == 0) = true := by simp [hne]
              clear hne
              refine wp_region_quiet_below (by kernel_rfl) (by kernel_rfl) ?_
              repeat (first | go_big_quiet_step ((go_at_call 86; with_reducible exact k1.out _ _)) | quiet_step ((go_at_call 86; with_reducible exact k1.out _ _)))
              refine wpQuiet_nil ?_
              intro V2 hw'
              obtain ⟨⟨dq, osq⟩, hw''⟩ := hw'
              have hbq := below_regrown V dq osq
              rw [← hw''] at hbq
              clear hw'' dq osq
              replace HX := hid (kept HX.out hbq)
              replace HB := hid (u_catn HB.out (Nat.le_refl _) hbq)
              clear hbq
              clear y0 y1 y2 v0 v1 c0 c1
              go_wp2
              go_ret
              exact ⟨ret_bool HF.out.symm, HB.out⟩
            · have hle : ((e.r.length : Int) == 0) = false := by simpa using hne
              by_cases hsz : (e.d.size : Int) = z
              · have hs1 : ((e.d.size : Int) == z) = true := by simpa using hsz
                have hs2 : ((e.d.size : Int) != z) = false := by simp [bne, hs1]
                have crow' := crow
                obtain ⟨rb, ro, hra, hrc⟩ := hd_cell crow hne
                rw [hra] at v0 k1
                have v3 := cell_regrown hrc
                rcases Nat.eq_zero_or_pos k with hk0 | hk0
                · have hkz : decide ((0 : Int) < (k : Int)) = false := decide_eq_false (by omega)
                  have HO := hid (YES.out.1 ⟨⟨HT1.out, hne, hsz⟩, fun h => by omega⟩)
                  clear hsz hne
                  refine wp_region_quiet_below (by kernel_rfl) (by kernel_rfl) ?_
                  repeat (first | go_big_quiet_step ((go_at_call 86; with_reducible exact k1.out _ _)) | quiet_step ((go_at_call 86; with_reducible exact k1.out _ _)))
                  refine wpQuiet_nil ?_
                  intro V2 hw'
                  obtain ⟨⟨dq, osq⟩, hw''⟩ := hw'
                  have hbq := below_regrown V dq osq
                  rw [← hw''] at hbq
                  clear hw'' dq osq
                  replace HX := hid (kept HX.out hbq)
                  replace HB := hid (u_catn HB.out (Nat.le_refl _) hbq)
                  clear hbq
                  clear y0 y1 y2 v0 v1 v3 c0 c1
                  go_wp2
                  go_roundw
                  case rel => exact ⟨k + 1, by omega, by go_num, fun i hi => (by
                    rcases Nat.lt_succ_iff_lt_or_eq.1 hi with h | h
                    · exact HL.out i h
                    · subst h; exact HO.out), HX.out, HB.out⟩
                  case measure => simp [intOf]; omega
                · have hkz : decide ((0 : Int) < (k : Int)) = true := decide_eq_true (by omega)
                  obtain ⟨j, rfl⟩ : ∃ j, k = j + 1 := ⟨k - 1, by omega⟩
                  obtain ⟨hk1, ⟨_, hpn, _⟩, _⟩ := HL.out j (by omega)
                  have hj1 : ((j + 1 : Nat) : Int) - 1 = j := by omega
                  obtain ⟨f, hfe⟩ : ∃ f, es[j]'(by omega) = f := ⟨_, rfl⟩
                  have hpn' : f.r ≠ [] := by rw [← hfe]; exact hpn
                  obtain ⟨p0, _, prow⟩ := HC.out j f (by rw [List.getElem?_eq_getElem (by omega), hfe])
                  obtain ⟨pb, po, hpa, hpc⟩ := hd_cell prow hpn'
                  rw [hpa] at p0
                  have v4 := cell_regrown p0
                  have v5 := cell_regrown hpc
                  have hmf : f ∈ es := by rw [← hfe]; exact List.getElem_mem _
                  have hfl := (HS.out f hmf).1
                  have hf0 : (0 : Int) < f.r.length := by have := List.length_pos_iff.2 hpn'; omega
                  have he0 : (0 : Int) < e.r.length := by have := List.length_pos_iff.2 hne; omega
                  have HFE := hid hfe
                  obtain ⟨P, hP⟩ : ∃ P, P = hd f.r := ⟨_, rfl⟩
                  obtain ⟨Hh, hH⟩ : ∃ Hh, Hh = hd e.r := ⟨_, rfl⟩
                  rw [← hP] at v5
                  rw [← hH] at v3
                  have HPP := hid hP
                  have HHH := hid hH
                  clear hP hH hfe hpn prow hpc hmf p0
                  by_cases hPH : P < Hh
                  · have hge : decide (Hh ≤ P) = false := decide_eq_false (by omega)
                    have HO := hid (YES.out.1 ⟨⟨HT1.out, hne, hsz⟩, fun _ => ⟨by omega, (by
                      show hd (es[j]'(by omega)).r < hd e.r
                      rw [HFE.out, ← HPP.out, ← HHH.out]; exact hPH)⟩⟩)
                    clear hsz hne hPH hpn'
                    refine wp_region_quiet_below (by kernel_rfl) (by kernel_rfl) ?_
                    repeat (first | go_big_quiet_step ((go_at_call 86; with_reducible exact k1.out _ _)) | quiet_step ((go_at_call 86; with_reducible exact k1.out _ _)))
                    refine wpQuiet_nil ?_
                    intro V2 hw'
                    obtain ⟨⟨dq, osq⟩, hw''⟩ := hw'
                    have hbq := below_regrown V dq osq
                    rw [← hw''] at hbq
                    clear hw'' dq osq
                    replace HX := hid (kept HX.out hbq)
                    replace HB := hid (u_catn HB.out (Nat.le_refl _) hbq)
                    clear hbq
                    clear y0 y1 y2 v0 v1 v3 v4 v5 c0 c1
                    go_wp2
                    go_roundw
                    case rel => exact ⟨j + 1 + 1, by omega, by go_num, fun i hi => (by
                      rcases Nat.lt_succ_iff_lt_or_eq.1 hi with h | h
                      · exact HL.out i h
                      · subst h; exact HO.out), HX.out, HB.out⟩
                    case measure => simp [intOf]; omega
                  · have hge : decide (Hh ≤ P) = true := decide_eq_true (by omega)
                    have HF := hid (NO.out (fun h => hPH (by
                      obtain ⟨_, h2⟩ := (YES.out.2 h).2 (by omega)
                      have h3 : hd (es[j]'(by omega)).r < hd e.r := h2
                      rw [HFE.out, ← HPP.out, ← HHH.out] at h3
                      exact h3)))
                    clear hsz hne hPH hpn'
                    refine wp_region_quiet_below (by kernel_rfl) (by kernel_rfl) ?_
                    repeat (first | go_big_quiet_step ((go_at_call 86; with_reducible exact k1.out _ _)) | quiet_step ((go_at_call 86; with_reducible exact k1.out _ _)))
                    refine wpQuiet_nil ?_
                    intro V2 hw'
                    obtain ⟨⟨dq, osq⟩, hw''⟩ := hw'
                    have hbq := below_regrown V dq osq
                    rw [← hw''] at hbq
                    clear hw'' dq osq
                    replace HX := hid (kept HX.out hbq)
                    replace HB := hid (u_catn HB.out (Nat.le_refl _) hbq)
                    clear hbq
                    clear y0 y1 y2 v0 v1 v3 v4 v5 c0 c1
                    go_wp2
                    go_ret
                    exact ⟨ret_bool HF.out.symm, HB.out⟩
              · have HF := hid (NO.out (fun h => hsz (YES.out.2 h).1.2.2))
                have hs1 : ((e.d.size : Int) == z) = false := by simpa using hsz
                have hs2 : ((e.d.size : Int) != z) = true := by simp [bne, hs1]
                clear hsz
                refine wp_region_quiet_below (by kernel_rfl) (by kernel_rfl) ?_
                repeat (first | go_big_quiet_step ((go_at_call 86; with_reducible exact k1.out _ _)) | quiet_step ((go_at_call 86; with_reducible exact k1.out _ _)))
                refine wpQuiet_nil ?_
                intro V2 hw'
                obtain ⟨⟨dq, osq⟩, hw''⟩ := hw'
                have hbq := below_regrown V dq osq
                rw [← hw''] at hbq
                clear hw'' dq osq
                replace HX := hid (kept HX.out hbq)
                replace HB := hid (u_catn HB.out (Nat.le_refl _) hbq)
                clear hbq
                clear y0 y1 y2 v0 v1 c0 c1
                go_wp2
                go_ret
                exact ⟨ret_bool HF.out.symm, HB.out⟩
        · obtain rfl : k = es.length := by omega
          have HL := hid hall
          have HX := hid X0
          have HB := hid B
          have q2 := box_cell X0 2 (v := .slice a es.length cap) rfl
          clear X0 B hall
          go_wp2
          clear q2
          go_loopw [5, 6] (fun i _ wr => ∃ m : Nat, m ≤ es.length ∧ i = .int .i64 m ∧ (∀ i, i < m → ∀ k, p2At es i k) ∧ wr.heap[w.heap.size]? = some (.cells #[.int .i64 c, .int .i64 z, .slice a es.length cap] 36 (0, 0)) ∧ Below w.heap.size w wr) (fun i _ _ => es.length - (intOf i).toNat)
          case atStart => exact ⟨0, by omega, rfl, fun i hi => by omega, HX.out, HB.out⟩
          case round =>
            clear HX HB
            obtain ⟨m, hm, rfl, hall2, X0, B⟩ := hrel
            have q2 := box_cell X0 2 (v := .slice a es.length cap) rfl
            have HX := hid X0
            have HB := hid B
            have HL2 := hid hall2
            clear X0 B hall2
            by_cases hlt : m < es.length
            · go_wp2
              clear q2
              go_loopw [6] (fun i wr => ∃ q : Nat, q ≤ es.length ∧ i = .int .i64 q ∧ (∀ k, k < q → p2At es m k) ∧ wr.heap[w.heap.size]? = some (.cells #[.int .i64 c, .int .i64 z, .slice a es.length cap] 36 (0, 0)) ∧ Below w.heap.size w wr) (fun i _ => es.length - (intOf i).toNat)
              case atStart => exact ⟨0, by omega, rfl, fun i hi => by omega, HX.out, HB.out⟩
              case round =>
                clear HX HB
                obtain ⟨q, hq, rfl, hall3, X0, B⟩ := hrel
                have q2 := box_cell X0 2 (v := .slice a es.length cap) rfl
                have HX := hid X0
                have HB := hid B
                have HL3 := hid hall3
                clear X0 B hall3
                by_cases hlq : q < es.length
                · by_cases hqm : q = m
                  · have hne1 : ((q : Int) == (m : Int)) = true := by simp [hqm]
                    have hne2 : ((q : Int) != (m : Int)) = false := by simp [bne, hne1]
                    have HO := hid (show p2At es m q from fun _ _ hne => absurd hqm hne)
                    clear hqm
                    go_wp2
                    refine wp_region_quiet_below (by kernel_rfl) (by kernel_rfl) ?_
                    repeat (first | go_big_quiet_step (fail) | quiet_step (fail))
                    refine wpQuiet_nil ?_
                    intro V2 hw'
                    obtain ⟨⟨dq, osq⟩, hw''⟩ := hw'
                    have hbq := below_regrown wr dq osq
                    rw [← hw''] at hbq
                    clear hw'' dq osq
                    replace HX := hid (kept HX.out hbq)
                    replace HB := hid (u_catn HB.out (Nat.le_refl _) hbq)
                    clear hbq
                    go_wp2
                    go_roundw
                    case rel => exact ⟨q + 1, by omega, by go_num, fun i hi => (by
                      rcases Nat.lt_succ_iff_lt_or_eq.1 hi with h | h
                      · exact HL3.out i h
                      · subst h; exact HO.out), HX.out, HB.out⟩
                    case measure => simp [intOf]; omega
                  · have hne1 : ((q : Int) == (m : Int)) = false := by simp; omega
                    have hne2 : ((q : Int) != (m : Int)) = true := by simp [bne, hne1]
                    obtain ⟨b, off, rfl, hc⟩ := (HA.out.below HB.out) (by intro h; simp [h] at hlt)
                    obtain ⟨em, hem⟩ : ∃ e, es[m] = e := ⟨_, rfl⟩
                    obtain ⟨eq', heq⟩ : ∃ e, es[q] = e := ⟨_, rfl⟩
                    obtain ⟨m0, _, mrow⟩ := hc m em (by rw [List.getElem?_eq_getElem hlt, hem])
                    obtain ⟨n0, _, nrow⟩ := hc q eq' (by rw [List.getElem?_eq_getElem hlq, heq])
                    have hmn : em.r ≠ [] := by
                      obtain ⟨_, h, _⟩ := HL.out m hlt
                      rw [hem] at h
                      exact h.2.1
                    have hnl := (HS.out eq' (by rw [← heq]; exact List.getElem_mem hlq)).1
                    have hml := (HS.out em (by rw [← hem]; exact List.getElem_mem hlt)).1
                    obtain ⟨mb, mo, hma, hmc⟩ := hd_cell mrow hmn
                    rw [hma] at m0
                    have y2 := cell_regrown q2
                    have v0 := cell_regrown m0
                    have v1 := cell_regrown n0
                    have v2 := cell_regrown hmc
                    have hm0 : (0 : Int) < em.r.length := by have := List.length_pos_iff.2 hmn; omega
                    have k2 := hid (rg (w := wr) (fun w' hb => same_below (l3Has_any eq'.a eq'.c eq'.r (hd em.r) w' (nrow.below hb) hnl)))
                    have EQ := hid (show p2At es m q ↔ hd em.r ∉ eq'.r from ⟨fun h => by have := h hlt hlq hqm; rw [hem, heq] at this; exact this, fun h _ _ _ => by rw [hem, heq]; exact h⟩)
                    clear hc hem heq m0 n0 nrow mrow hmc hmn hqm
                    go_wp2
                    clear q2
                    by_cases hin : hd em.r ∈ eq'.r
                    · rw [decide_eq_true hin] at k2
                      have HF := hid (show decide (solverP c z es) = false from decide_eq_false (fun hp => EQ.out.1 ((HP.out.1 hp).2 m q) hin))
                      clear hin
                      refine wp_region_quiet_below (by kernel_rfl) (by kernel_rfl) ?_
                      repeat (first | go_big_quiet_step ((go_at_call 87; with_reducible exact k2.out _ _)) | quiet_step ((go_at_call 87; with_reducible exact k2.out _ _)))
                      refine wpQuiet_nil ?_
                      intro V2 hw'
                      obtain ⟨⟨dq, osq⟩, hw''⟩ := hw'
                      have hbq := below_regrown wr dq osq
                      rw [← hw''] at hbq
                      clear hw'' dq osq
                      replace HX := hid (kept HX.out hbq)
                      replace HB := hid (u_catn HB.out (Nat.le_refl _) hbq)
                      clear hbq
                      clear y2 v0 v1 v2
                      go_wp2
                      go_ret
                      exact ⟨ret_bool HF.out.symm, HB.out⟩
                    · rw [decide_eq_false hin] at k2
                      have HO := hid (EQ.out.2 hin)
                      clear hin
                      refine wp_region_quiet_below (by kernel_rfl) (by kernel_rfl) ?_
                      repeat (first | go_big_quiet_step ((go_at_call 87; with_reducible exact k2.out _ _)) | quiet_step ((go_at_call 87; with_reducible exact k2.out _ _)))
                      refine wpQuiet_nil ?_
                      intro V2 hw'
                      obtain ⟨⟨dq, osq⟩, hw''⟩ := hw'
                      have hbq := below_regrown wr dq osq
                      rw [← hw''] at hbq
                      clear hw'' dq osq
                      replace HX := hid (kept HX.out hbq)
                      replace HB := hid (u_catn HB.out (Nat.le_refl _) hbq)
                      clear hbq
                      clear y2 v0 v1 v2
                      go_wp2
                      go_roundw
                      case rel => exact ⟨q + 1, by omega, by go_num, fun i hi => (by
                        rcases Nat.lt_succ_iff_lt_or_eq.1 hi with h | h
                        · exact HL3.out i h
                        · subst h; exact HO.out), HX.out, HB.out⟩
                      case measure => simp [intOf]; omega
                · go_wp2
                  go_roundw
                  case rel => exact ⟨m + 1, by omega, by go_num, fun i hi => (by
                    rcases Nat.lt_succ_iff_lt_or_eq.1 hi with h | h
                    · exact HL2.out i h
                    · subst h; exact fun k hi hk hne => HL3.out k (by omega) hi hk hne), HX.out, HB.out⟩
                  case measure => simp [intOf]; omega
            · have HF := hid (show decide (solverP c z es) = true from decide_eq_true (HP.out.2 ⟨HL.out, fun i k hi hk hne => HL2.out i (by omega) k hi hk hne⟩))
              go_wp2
              go_ret
              exact ⟨ret_bool HF.out.symm, HB.out⟩
    · have HF := hid (show decide (solverP c z es) = false from decide_eq_false (fun h => hz2 h.1.2))
      have hz3 : z < 1 ∨ 16 < z := by omega
      clear hz2
      go_enter Tryz.func69, Tryz.ntmps69
      go_wp2_with (first | (go_at_call 46; refine (l1In_yes _ _ _ _ (by assumption)).mono ?_; rintro e w' ⟨rfl, rfl⟩) | (go_at_call 46; refine (l1In_no _ _ _ _ (by assumption)).mono ?_; rintro e w' ⟨rfl, rfl⟩))
      go_ret
      exact ⟨ret_bool HF.out.symm, u_b1 _ _⟩
  · have HF := hid (show decide (solverP c z es) = false from decide_eq_false (fun h => hz1 h.1.1))
    have hz3 : c < 1 ∨ 24 < c := by omega
    clear hz1
    go_enter Tryz.func69, Tryz.ntmps69
    go_wp2_with (go_at_call 46; refine (l1In_no _ _ _ _ (by assumption)).mono ?_; rintro e w' ⟨rfl, rfl⟩)
    go_ret
    exact ⟨ret_bool HF.out.symm, u_b1 _ _⟩
end Go.Proofs.YtbakicgdloakgaaGreatDoor
