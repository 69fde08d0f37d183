/- A solver copied by the laws, its rows apart. A getting laid anew, its rows apart, as the laws do it. -/
import Derived.Test.YtegldmdcdnnegaaGreatDoorG16
import Derived.Test.YtegldmdcdnnegaaGreatDoorG30
namespace Go.Proofs.YtegldmdcdnnegaaGreatDoor
open Go.ChangeShapes Go.WideShapes Go.ChangeAt Go.RowKit Go.Sort Go.Shelf

set_option maxRecDepth 100000 in
set_option maxHeartbeats 2000000 in
theorem toEqS_ap (a : Option Addr) (cap : Nat) (es : List EqV) (w : World) (ha : EqsAt w a es) (hx : es.length ≤ 1048576) (hsm : SmallE es) :
    Calls Tryz.prog 45 #[.slice a es.length cap] w fun e w' => ∃ v fs, e = .returned v ∧ w'.ownsRow w.heap.size 81 2 v fs.length (eqCells fs) ∧ SamV fs es ∧ RowsOwn w' (w.heap.size + 1) fs ∧ RowsAp fs ∧ Below w.heap.size w w' := by
  obtain ⟨i0, hi, hz0, hz1, hz2⟩ := info_parts Tryz.info81
  have HA := hid ha
  have HS := hid hsm
  clear ha hsm
  go_enter Tryz.func45, Tryz.ntmps45
  go_wp2_with (at_make; refine wpList_make_full _ rfl _ _ 32 rfl w.heap.size 81 i0 (.agg #[.slice none 0 0, .string ByteArray.empty]) 2 Tryz.underlying32 hi hz0 hz1 _ _ _ _ es.length rfl rfl rfl rfl (by rw [hz2]; omega) (by unfold maxLen; omega) (Nat.le_refl _) ?_; intro w1 hown1 hgr1)
  have hb1 : Below w.heap.size w w1 := (Below.refl _ _).grown hgr1 (Nat.le_refl _) (fun k hk => by simp at hk)
  rw [made_eqs] at hown1
  have hw1 := (hown1.lt w.heap.size rfl).2
  have HO := hid hown1
  clear hown1 hgr1
  go_loopw [4] (fun i wr => ∃ fs : List EqV, fs.length ≤ es.length ∧ i = .int .i64 fs.length ∧ SamV fs (es.take fs.length) ∧ wr.ownsRow w.heap.size 81 2 (.slice (some ⟨w.heap.size, 0, none⟩) es.length es.length) es.length (eqCells (fs ++ List.replicate (es.length - fs.length) EqV.no)) ∧ RowsOwn wr (w.heap.size + 1) fs ∧ RowsAp fs ∧ Below w.heap.size w wr) (fun i _ => es.length - (intOf i).toNat)
  case atStart => exact ⟨[], Nat.zero_le _, rfl, ⟨rfl, rfl⟩, HO.out, fun f hf => by simp at hf, List.Pairwise.nil, hb1⟩
  case round =>
    obtain ⟨fs, hk, rfl, hsam, hown, hrow, hap, hnx⟩ := hrel
    have HAP := hid hap
    clear hap
    have HM := hid hsam
    have HR := hid hrow
    clear hsam hrow
    by_cases hlt : fs.length < es.length
    · obtain ⟨e, he⟩ : ∃ e, es[fs.length] = e := ⟨_, rfl⟩
      obtain ⟨b, off, rfl, hc⟩ := (HA.out.below hnx) (by intro h; simp [h] at hlt)
      obtain ⟨c0, c1, crow⟩ := hc fs.length e (by rw [List.getElem?_eq_getElem hlt, he])
      have hel := (HS.out e (by rw [← he]; exact List.getElem_mem hlt)).1
      have HE := hid he
      have hgl := (hown.lt w.heap.size rfl).2
      have HOW := hid hown
      have K := hid (toEq_any e.a e.c e.r e.d wr crow hel)
      clear hc he crow hown
      go_wp2_with (go_at_call 72; refine K.out.mono ?_; rintro _ w2 ⟨a', c', rfl, o2, b2⟩; have O2 := hid (owns_below HOW.out b2); have d0 := O2.out.cellAt (fs.length * 2) (by omega); have d1 := O2.out.cellAt (fs.length * 2 + 1) (by omega); rw [← Nat.add_zero (fs.length * 2), eqCells_at _ fs.length EqV.no (by rw [List.getElem?_append_right (Nat.le_refl _), Nat.sub_self, List.getElem?_replicate, if_pos (by omega)]) 0 (by omega)] at d0; rw [eqCells_at _ fs.length EqV.no (by rw [List.getElem?_append_right (Nat.le_refl _), Nat.sub_self, List.getElem?_replicate, if_pos (by omega)]) 1 (by omega)] at d1; simp only [EqV.cells, List.getElem?_cons_zero, List.getElem?_cons_succ, Nat.add_zero] at d0 d1; have hfz := O2.out.frozenAt; have OI := hid o2; have B2 := hid b2; clear o2 b2)
      go_roundw
      case rel =>
        refine ⟨fs ++ [⟨a', c', e.r, e.d⟩], by simp; omega, by simp, ?_, ?_, ?_, rowsAp_snoc HAP.out HR.out OI.out (Nat.le_refl _), ?_⟩
        · rw [List.length_append, List.length_singleton, List.take_succ_eq_append_getElem hlt]
          refine ⟨?_, ?_⟩
          · rw [List.map_append, List.map_append, HM.out.1, HE.out]; rfl
          · rw [List.map_append, List.map_append, HM.out.2, HE.out]; rfl
        · have h1 := ((O2.out.stored (fs.length * 2) (.slice a' e.r.length c')).1.stored (fs.length * 2 + 1) (.string e.d)).1
          rw [eqCells_set _ fs.length ⟨a', c', e.r, e.d⟩ (by simp; omega), eqcopy_set fs es.length _ hlt] at h1
          rw [List.length_append, List.length_singleton]
          exact h1
        · refine RowsOwn.set (RowsOwn.set ?_ (Nat.lt_succ_self _) _ _) (Nat.lt_succ_self _) _ _
          intro f hf
          rcases List.mem_append.1 hf with h | h
          · exact owns_below (HR.out f h) B2.out
          · simp only [List.mem_singleton] at h
            subst h
            exact owns_base OI.out (by omega)
        · exact u_set (u_set (hnx.trans (B2.out.mono hnx.size)) (Nat.le_refl _) _ _) (Nat.le_refl _) _ _
      case measure => simp [intOf]; omega
    · have hfl : fs.length = es.length := by omega
      have HW := hid hown
      have HFL := hid hfl
      clear hown hfl
      go_wp2
      go_ret
      refine ⟨_, fs, rfl, ?_, ?_, HR.out, HAP.out, hnx⟩
      · have := HW.out
        rw [← HFL.out, Nat.sub_self, List.replicate_zero, List.append_nil] at this
        rw [← HFL.out]
        exact this
      · have := HM.out
        rwa [HFL.out, List.take_length] at this

set_option maxRecDepth 100000 in
set_option maxHeartbeats 1000000 in
theorem toSolver_ap (a : Option Addr) (cap : Nat) (es : List EqV) (c z : Int) (w : World) (ha : EqsAt w a es) (hx : es.length ≤ 1048576) (hsm : SmallE es) :
    Calls Tryz.prog 19 #[.agg #[.int .i64 c, .int .i64 z, .slice a es.length cap]] w fun e w' => ∃ a' c' fs, e = .returned (.agg #[.int .i64 c, .int .i64 z, .slice a' fs.length c']) ∧ w'.ownsRow w.heap.size 81 2 (.slice a' fs.length c') fs.length (eqCells fs) ∧ SamV fs es ∧ RowsOwn w' w.heap.size fs ∧ RowsAp fs ∧ Below w.heap.size w w' := by
  have HA := hid ha
  have HS := hid hsm
  clear ha hsm
  go_enter Tryz.func19, Tryz.ntmps19
  go_wp2_with fail
  refine (toEqS_ap a cap es _ (HA.out.below (u_b3 _ _ _ _)) hx HS.out).mono ?_
  rintro e w1 ⟨v, fs, rfl, o1, sm, rw1, ap1, b1⟩
  have AP := hid ap1
  clear ap1
  obtain ⟨a', c', rfl⟩ := owns_slice o1
  obtain ⟨hc1, hf1⟩ := u_cell b1
  have hs1 : w.heap.size + 1 + 1 < w1.heap.size := by have := b1.size; simp at this; omega
  have B1 := hid (u_cat (u_b3 _ _ _ _) b1)
  have O2 := hid (show w1.ownsRow (w.heap.size + 1 + 1 + 1) 81 2 (.slice a' fs.length c') fs.length (eqCells fs) by simpa using o1)
  have R2 := hid (show RowsOwn w1 (w.heap.size + 1 + 1 + 1) fs from rw1.mono (by simp))
  have SM := hid sm
  clear o1 b1 rw1 sm
  go_wp2_with fail
  refine bodyPost_ret (v := .agg #[.int .i64 c, .int .i64 z, .slice a' fs.length c']) ?_ rfl ?_
  · simp [results, Tryz.results19, go_sem, hc1]
  · refine ⟨a', c', fs, rfl, owns_base (base := w.heap.size + 1 + 1 + 1) ?_ (by omega), SM.out, RowsOwn.mono (base := w.heap.size + 1 + 1 + 1) ?_ (by omega), AP.out, ?_⟩
    · repeat (first | exact O2.out | (refine Touch.owns (Touch.setCell _ _ _) ?_ (by simp only []; omega)))
    · repeat (first | exact R2.out | (refine RowsOwn.set ?_ (by omega) _ _))
    · repeat (first | exact B1.out | (refine u_set ?_ (by omega) _ _))
end Go.Proofs.YtegldmdcdnnegaaGreatDoor
namespace Go.Proofs.YtegldmdcdnnegaaGreatDoor
open Go.ChangeShapes Go.WideShapes Go.ChangeAt Go.RowKit Go.Sort Go.Shelf
attribute [local go_sem] Oper.semAt_some

set_option maxRecDepth 100000 in
set_option maxHeartbeats 4000000 in
theorem toGetting_ap (L S : Int) (a1 a2 : Option Addr) (c1 c2 : Nat) (ws gs : List Int) (C Z : Int) (a : Option Addr) (cap : Nat) (es : List EqV) (w : World) (ha1 : IntsAt w a1 ws) (ha2 : IntsAt w a2 gs) (hx : ws.length ≤ 1048576) (hy : gs.length ≤ 1048576) (ha : EqsAt w a es) (hz : es.length ≤ 1048576) (hsm : SmallE es) :
    Calls Tryz.prog 6 #[.agg #[.int .i64 L, .int .i64 S, .slice a1 ws.length c1, .slice a2 gs.length c2, .int .i64 C, .int .i64 Z, .slice a es.length cap]] w fun e w' => ∃ b1 d1 b2 d2 a' c' fs, e = .returned (.agg #[.int .i64 L, .int .i64 S, .slice b1 ws.length d1, .slice b2 gs.length d2, .int .i64 C, .int .i64 Z, .slice a' fs.length c']) ∧ GetOwn w' w.heap.size ws gs b1 b2 d1 d2 a' c' fs ∧ SamV fs es ∧ RowsAp fs ∧ Below w.heap.size w w' := by
  have HA := hid ha
  have HS := hid hsm
  have H1 := hid ha1
  have H2 := hid ha2
  clear ha hsm ha1 ha2
  obtain ⟨W0, hW0⟩ : ∃ W0, W0 = ((w.alloc (.cells #[.int .i64 L, .int .i64 S, .slice a1 ws.length c1, .slice a2 gs.length c2, .int .i64 C, .int .i64 Z, .slice a es.length cap] 29)).alloc (.cells #[.int .i64 0, .int .i64 0, .slice none 0 0, .slice none 0 0, .int .i64 0, .int .i64 0, .slice none 0 0] 36)).alloc (.cells #[.int .i64 0, .int .i64 0, .slice none 0 0, .slice none 0 0, .int .i64 0, .int .i64 0, .slice none 0 0] 36) := ⟨_, rfl⟩
  obtain ⟨X0, X1, X2, B0⟩ := u_box3 (w := w) (c := #[.int .i64 L, .int .i64 S, .slice a1 ws.length c1, .slice a2 gs.length c2, .int .i64 C, .int .i64 Z, .slice a es.length cap]) (t := 29) (d := #[.int .i64 0, .int .i64 0, .slice none 0 0, .slice none 0 0, .int .i64 0, .int .i64 0, .slice none 0 0]) (s := 36) (f := #[.int .i64 0, .int .i64 0, .slice none 0 0, .slice none 0 0, .int .i64 0, .int .i64 0, .slice none 0 0]) (r := 36) (w1 := W0) (by rw [hW0]; exact Below.refl _ _)
  have hs0 : W0.heap.size = w.heap.size + 3 := by rw [hW0]; simp
  have HX0 := hid X0
  have HX1 := hid X1
  have HX2 := hid X2
  have HB := hid B0
  have q0 := box_cell X0 0 (v := .int .i64 L) rfl
  have q1 := box_cell X0 1 (v := .int .i64 S) rfl
  have q2 := box_cell X0 2 (v := .slice a1 ws.length c1) rfl
  have q3 := box_cell X0 3 (v := .slice a2 gs.length c2) rfl
  clear X0 X1 X2 B0
  go_enter Tryz.func6, Tryz.ntmps6
  repeat ((fail_if_success (with_reducible show Code.wp _ (Code.region 2 _ _) _ _ _)); (first | go_values | go_skip | go_guarded | go_step | go_upon | go_back | go_simp))
  rw [← hW0]
  clear hW0
  go_wp2_with fail
  refine (toPlan_own L S a1 a2 c1 c2 ws gs _ (H1.out.below HB.out) (H2.out.below HB.out) hx hy).mono ?_
  rintro e w1 ⟨b1, d1, b2, d2, rfl, o1, o2, ap, bb⟩
  have O1 := hid o1
  have O2 := hid o2
  have AP := hid ap
  replace HX0 := hid (kept HX0.out bb)
  replace HX1 := hid (kept HX1.out bb)
  replace HX2 := hid (kept HX2.out bb)
  replace HB := hid (u_cat HB.out bb)
  have hs1 : w.heap.size + 3 ≤ w1.heap.size := by have := bb.size; omega
  clear bb o1 o2 ap q0 q1 q2 q3
  have z2 := box_frozen HX2.out
  have q4 := box_cell HX0.out 4 (v := .int .i64 C) rfl
  have q5 := box_cell HX0.out 5 (v := .int .i64 Z) rfl
  have q6 := box_cell HX0.out 6 (v := .slice a es.length cap) rfl
  have r0 := box_cell HX2.out 0 (v := .int .i64 0) rfl
  have r1 := box_cell HX2.out 1 (v := .int .i64 0) rfl
  have r2 := box_cell HX2.out 2 (v := .slice none 0 0) rfl
  have r3 := box_cell HX2.out 3 (v := .slice none 0 0) rfl
  repeat ((fail_if_success (with_reducible show Code.wp _ (Code.region 3 _ _) _ _ _)); (first | go_values | go_skip | go_guarded | go_step | go_upon | go_back | go_simp))
  obtain ⟨V1, hV1⟩ : ∃ V1, V1 = (((w1.setCell ⟨w.heap.size + 1 + 1, 0, none⟩ (.int .i64 L)).setCell ⟨w.heap.size + 1 + 1, 1, none⟩ (.int .i64 S)).setCell ⟨w.heap.size + 1 + 1, 2, none⟩ (.slice b1 ws.length d1)).setCell ⟨w.heap.size + 1 + 1, 3, none⟩ (.slice b2 gs.length d2) := ⟨_, rfl⟩
  have Y2 := set_block (set_block (set_block (set_block HX2.out 0 (.int .i64 L)) 1 (.int .i64 S)) 2 (.slice b1 ws.length d1)) 3 (.slice b2 gs.length d2)
  have Y1 := set_other (set_other (set_other (set_other HX1.out (g := w.heap.size + 1 + 1) (by omega) 0 (.int .i64 L)) (g := w.heap.size + 1 + 1) (by omega) 1 (.int .i64 S)) (g := w.heap.size + 1 + 1) (by omega) 2 (.slice b1 ws.length d1)) (g := w.heap.size + 1 + 1) (by omega) 3 (.slice b2 gs.length d2)
  have Y0 := set_other (set_other (set_other (set_other HX0.out (g := w.heap.size + 1 + 1) (by omega) 0 (.int .i64 L)) (g := w.heap.size + 1 + 1) (by omega) 1 (.int .i64 S)) (g := w.heap.size + 1 + 1) (by omega) 2 (.slice b1 ws.length d1)) (g := w.heap.size + 1 + 1) (by omega) 3 (.slice b2 gs.length d2)
  have YB := u_set (u_set (u_set (u_set HB.out (g := w.heap.size + 1 + 1) (by omega) 0 (.int .i64 L)) (g := w.heap.size + 1 + 1) (by omega) 1 (.int .i64 S)) (g := w.heap.size + 1 + 1) (by omega) 2 (.slice b1 ws.length d1)) (g := w.heap.size + 1 + 1) (by omega) 3 (.slice b2 gs.length d2)
  have P1 := owns_base (base' := w.heap.size + 3) O1.out (by omega)
  have P2 := owns_base (base' := w.heap.size + 3) O2.out (by omega)
  have P1 := Touch.owns (Touch.setCell _ ⟨w.heap.size + 1 + 1, 3, none⟩ (.slice b2 gs.length d2)) (Touch.owns (Touch.setCell _ ⟨w.heap.size + 1 + 1, 2, none⟩ (.slice b1 ws.length d1)) (Touch.owns (Touch.setCell _ ⟨w.heap.size + 1 + 1, 1, none⟩ (.int .i64 S)) (Touch.owns (Touch.setCell _ ⟨w.heap.size + 1 + 1, 0, none⟩ (.int .i64 L)) P1 (by simp only []; omega)) (by simp only []; omega)) (by simp only []; omega)) (by simp only []; omega)
  have P2 := Touch.owns (Touch.setCell _ ⟨w.heap.size + 1 + 1, 3, none⟩ (.slice b2 gs.length d2)) (Touch.owns (Touch.setCell _ ⟨w.heap.size + 1 + 1, 2, none⟩ (.slice b1 ws.length d1)) (Touch.owns (Touch.setCell _ ⟨w.heap.size + 1 + 1, 1, none⟩ (.int .i64 S)) (Touch.owns (Touch.setCell _ ⟨w.heap.size + 1 + 1, 0, none⟩ (.int .i64 L)) P2 (by simp only []; omega)) (by simp only []; omega)) (by simp only []; omega)) (by simp only []; omega)
  have hsz : V1.heap.size = w1.heap.size := by rw [hV1]; simp [World.setCell]
  rw [← hV1] at Y0 Y1 Y2 YB P1 P2 ⊢
  replace HX0 := hid Y0
  replace HX1 := hid Y1
  replace HX2 := hid Y2
  replace HB := hid YB
  replace O1 := hid P1
  replace O2 := hid P2
  clear hV1 Y0 Y1 Y2 YB P1 P2 q4 q5 q6 r0 r1 r2 r3 z2
  have q4 := box_cell HX0.out 4 (v := .int .i64 C) rfl
  have q5 := box_cell HX0.out 5 (v := .int .i64 Z) rfl
  have q6 := box_cell HX0.out 6 (v := .slice a es.length cap) rfl
  go_wp2_with fail
  refine (toSolver_ap a cap es C Z _ (HA.out.below HB.out) hz HS.out).mono ?_
  rintro e w2 ⟨a', c', fs, rfl, o3, sm, rw3, ap3, bb⟩
  have U1 := hid (fun k h => (O1.out.lt k h).2)
  have U2 := hid (fun k h => (O2.out.lt k h).2)
  replace HX1 := hid (kept HX1.out bb)
  replace HX2 := hid (kept HX2.out bb)
  replace HB := hid (u_cat HB.out bb)
  replace O1 := hid (owns_below O1.out bb)
  replace O2 := hid (owns_below O2.out bb)
  have O3 := hid o3
  have R3 := hid rw3
  have SM := hid sm
  have AP3 := hid ap3
  have hs2 : V1.heap.size ≤ w2.heap.size := bb.size
  clear bb q4 q5 q6 o3 rw3 sm ap3
  have z2 := box_frozen HX2.out
  have r4 := box_cell HX2.out 4 (v := .int .i64 0) (by simp)
  have r5 := box_cell HX2.out 5 (v := .int .i64 0) (by simp)
  have r6 := box_cell HX2.out 6 (v := .slice none 0 0) (by simp)
  repeat ((fail_if_success (with_reducible show Code.wp _ (Code.region 4 _ _) _ _ _)); (first | go_values | go_skip | go_guarded | go_step | go_upon | go_back | go_simp))
  obtain ⟨V2, hV2⟩ : ∃ V2, V2 = ((w2.setCell ⟨w.heap.size + 1 + 1, 4, none⟩ (.int .i64 C)).setCell ⟨w.heap.size + 1 + 1, 5, none⟩ (.int .i64 Z)).setCell ⟨w.heap.size + 1 + 1, 6, none⟩ (.slice a' fs.length c') := ⟨_, rfl⟩
  have hlt := hs1
  have Y2 := set_block (set_block (set_block HX2.out 4 (.int .i64 C)) 5 (.int .i64 Z)) 6 (.slice a' fs.length c')
  have Y1 := set_other (set_other (set_other HX1.out (g := w.heap.size + 1 + 1) (by omega) 4 (.int .i64 C)) (g := w.heap.size + 1 + 1) (by omega) 5 (.int .i64 Z)) (g := w.heap.size + 1 + 1) (by omega) 6 (.slice a' fs.length c')
  have YB := u_set (u_set (u_set HB.out (g := w.heap.size + 1 + 1) (by omega) 4 (.int .i64 C)) (g := w.heap.size + 1 + 1) (by omega) 5 (.int .i64 Z)) (g := w.heap.size + 1 + 1) (by omega) 6 (.slice a' fs.length c')
  have P1 := Touch.owns (Touch.setCell _ ⟨w.heap.size + 1 + 1, 6, none⟩ (.slice a' fs.length c')) (Touch.owns (Touch.setCell _ ⟨w.heap.size + 1 + 1, 5, none⟩ (.int .i64 Z)) (Touch.owns (Touch.setCell _ ⟨w.heap.size + 1 + 1, 4, none⟩ (.int .i64 C)) O1.out (by simp only []; omega)) (by simp only []; omega)) (by simp only []; omega)
  have P2 := Touch.owns (Touch.setCell _ ⟨w.heap.size + 1 + 1, 6, none⟩ (.slice a' fs.length c')) (Touch.owns (Touch.setCell _ ⟨w.heap.size + 1 + 1, 5, none⟩ (.int .i64 Z)) (Touch.owns (Touch.setCell _ ⟨w.heap.size + 1 + 1, 4, none⟩ (.int .i64 C)) O2.out (by simp only []; omega)) (by simp only []; omega)) (by simp only []; omega)
  have P3 := Touch.owns (Touch.setCell _ ⟨w.heap.size + 1 + 1, 6, none⟩ (.slice a' fs.length c')) (Touch.owns (Touch.setCell _ ⟨w.heap.size + 1 + 1, 5, none⟩ (.int .i64 Z)) (Touch.owns (Touch.setCell _ ⟨w.heap.size + 1 + 1, 4, none⟩ (.int .i64 C)) O3.out (by simp only []; omega)) (by simp only []; omega)) (by simp only []; omega)
  have P4 := RowsOwn.set (RowsOwn.set (RowsOwn.set R3.out (g := w.heap.size + 1 + 1) (by omega) 4 (.int .i64 C)) (g := w.heap.size + 1 + 1) (by omega) 5 (.int .i64 Z)) (g := w.heap.size + 1 + 1) (by omega) 6 (.slice a' fs.length c')
  have hsz2 : V2.heap.size = w2.heap.size := by rw [hV2]; simp [World.setCell]
  rw [← hV2] at Y1 Y2 YB P1 P2 P3 P4 ⊢
  replace HX1 := hid Y1
  replace HX2 := hid Y2
  replace HB := hid YB
  replace O1 := hid P1
  replace O2 := hid P2
  replace O3 := hid P3
  replace R3 := hid P4
  clear hV2 Y1 Y2 YB P1 P2 P3 P4 r4 r5 r6 z2
  have r0 := box_cell HX2.out 0 (v := .int .i64 L) (by simp)
  have r1 := box_cell HX2.out 1 (v := .int .i64 S) (by simp)
  have r2 := box_cell HX2.out 2 (v := .slice b1 ws.length d1) (by simp)
  have r3 := box_cell HX2.out 3 (v := .slice b2 gs.length d2) (by simp)
  have r4 := box_cell HX2.out 4 (v := .int .i64 C) (by simp)
  have r5 := box_cell HX2.out 5 (v := .int .i64 Z) (by simp)
  have r6 := box_cell HX2.out 6 (v := .slice a' fs.length c') (by simp)
  have z1 := box_frozen HX1.out
  have s0 := box_cell HX1.out 0 (v := .int .i64 0) (by simp)
  have s1 := box_cell HX1.out 1 (v := .int .i64 0) (by simp)
  have s2 := box_cell HX1.out 2 (v := .slice none 0 0) (by simp)
  have s3 := box_cell HX1.out 3 (v := .slice none 0 0) (by simp)
  have s4 := box_cell HX1.out 4 (v := .int .i64 0) (by simp)
  have s5 := box_cell HX1.out 5 (v := .int .i64 0) (by simp)
  have s6 := box_cell HX1.out 6 (v := .slice none 0 0) (by simp)
  go_wp2_with fail
  have Y := set_block (set_block (set_block (set_block (set_block (set_block (set_block HX1.out 0 (.int .i64 L)) 1 (.int .i64 S)) 2 (.slice b1 ws.length d1)) 3 (.slice b2 gs.length d2)) 4 (.int .i64 C)) 5 (.int .i64 Z)) 6 (.slice a' fs.length c')
  have y0 := box_cell Y 0 (v := .int .i64 L) (by simp)
  have y1 := box_cell Y 1 (v := .int .i64 S) (by simp)
  have y2 := box_cell Y 2 (v := .slice b1 ws.length d1) (by simp)
  have y3 := box_cell Y 3 (v := .slice b2 gs.length d2) (by simp)
  have y4 := box_cell Y 4 (v := .int .i64 C) (by simp)
  have y5 := box_cell Y 5 (v := .int .i64 Z) (by simp)
  have y6 := box_cell Y 6 (v := .slice a' fs.length c') (by simp)
  obtain ⟨V3, hV3⟩ : ∃ V3, V3 = ((((((V2.setCell ⟨w.heap.size + 1, 0, none⟩ (.int .i64 L)).setCell ⟨w.heap.size + 1, 1, none⟩ (.int .i64 S)).setCell ⟨w.heap.size + 1, 2, none⟩ (.slice b1 ws.length d1)).setCell ⟨w.heap.size + 1, 3, none⟩ (.slice b2 gs.length d2)).setCell ⟨w.heap.size + 1, 4, none⟩ (.int .i64 C)).setCell ⟨w.heap.size + 1, 5, none⟩ (.int .i64 Z)).setCell ⟨w.heap.size + 1, 6, none⟩ (.slice a' fs.length c') := ⟨_, rfl⟩
  have T : ∀ {base : Nat} {e : TypeId} {size : Nat} {v : Value} {n : Nat} {xs : List Value}, w.heap.size + 1 < base → V2.ownsRow base e size v n xs → V3.ownsRow base e size v n xs := fun hb h => by
    rw [hV3]
    exact Touch.owns (Touch.setCell _ _ _) (Touch.owns (Touch.setCell _ _ _) (Touch.owns (Touch.setCell _ _ _) (Touch.owns (Touch.setCell _ _ _) (Touch.owns (Touch.setCell _ _ _) (Touch.owns (Touch.setCell _ _ _) (Touch.owns (Touch.setCell _ _ _) h (by simp only []; omega)) (by simp only []; omega)) (by simp only []; omega)) (by simp only []; omega)) (by simp only []; omega)) (by simp only []; omega)) (by simp only []; omega)
  have B3 : Below w.heap.size w V3 := by rw [hV3]; exact u_set (u_set (u_set (u_set (u_set (u_set (u_set (HB.out) (g := w.heap.size + 1) (by omega) _ _) (g := w.heap.size + 1) (by omega) _ _) (g := w.heap.size + 1) (by omega) _ _) (g := w.heap.size + 1) (by omega) _ _) (g := w.heap.size + 1) (by omega) _ _) (g := w.heap.size + 1) (by omega) _ _) (g := w.heap.size + 1) (by omega) _ _
  rw [← hV3] at y0 y1 y2 y3 y4 y5 y6 ⊢
  clear hV3 Y
  have T3 : ∀ {e : TypeId} {size : Nat} {v : Value} {n : Nat} {xs : List Value}, V2.ownsRow V1.heap.size e size v n xs → V3.ownsRow V1.heap.size e size v n xs := fun h => T (base := V1.heap.size) (by omega) h
  have T1 : ∀ {e : TypeId} {size : Nat} {v : Value} {n : Nat} {xs : List Value}, V2.ownsRow (w.heap.size + 3) e size v n xs → V3.ownsRow (w.heap.size + 3) e size v n xs := fun h => T (base := w.heap.size + 3) (by omega) h
  refine bodyPost_ret (v := .agg #[.int .i64 L, .int .i64 S, .slice b1 ws.length d1, .slice b2 gs.length d2, .int .i64 C, .int .i64 Z, .slice a' fs.length c']) ?_ rfl ⟨b1, d1, b2, d2, a', c', fs, rfl, ⟨?_, ?_, AP.out, V1.heap.size, by omega, U1.out, U2.out, T3 O3.out, fun f hf => T3 (R3.out f hf)⟩, SM.out, AP3.out, ?_⟩
  · unfold results; rw [Tryz.results6]; simp [go_sem, y0, y1, y2, y3, y4, y5, y6]
  · exact owns_base (T1 O1.out) (by omega)
  · exact owns_base (T1 O2.out) (by omega)
  · exact B3

end Go.Proofs.YtegldmdcdnnegaaGreatDoor
