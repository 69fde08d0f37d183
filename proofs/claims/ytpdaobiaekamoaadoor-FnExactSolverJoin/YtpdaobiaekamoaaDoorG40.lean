/- The walk of the law on two that are joined. -/
import Derived.Test.YtpdaobiaekamoaaDoorG14
import Derived.Test.YtpdaobiaekamoaaDoorG23
import Derived.Test.YtpdaobiaekamoaaDoorG26
import Derived.Test.YtpdaobiaekamoaaDoorG39
import Derived.Deep.RegionHeld3
namespace Go.Proofs.YtpdaobiaekamoaaDoor
open Go.ChangeShapes Go.WideShapes Go.ChangeAt Go.RowKit Go.Sort Go.Shelf

set_option maxHeartbeats 40000000 in
set_option maxRecDepth 100000 in
theorem solverJoin_of (a : Option Addr) (cap : Nat) (es : List EqV) (c z : Int) (a' : Option Addr) (cap' : Nat) (fs : List EqV) (c' z' : Int) (cc zz : Int) (vs : List Vl) (ok : Bool) (w : World) (ha : EqsAt w a es) (hn : es.length ≤ 9223372036854775807) (hL : LongE es) (ha' : EqsAt w a' fs) (hn' : fs.length ≤ 9223372036854775807) (hL' : LongE fs) (hT : Tab w)
    (hvs : es.length ≤ 1048576 → SmallE es → vs.length ≤ 1048576 ∧ ∀ k ∈ vs, k.1.length ≤ 1048576 ∧ k.2.size ≤ 1048576)
    (hsp : ∀ a d gs a' d' hs w, EqsAt w a gs → SamV gs es → gs.length ≤ 1048576 → SmallE gs → (∀ e ∈ gs, e.a = none → e.c = 0) → EqsAt w a' hs → SamV hs fs → hs.length ≤ 1048576 → SmallE hs → (∀ e ∈ hs, e.a = none → e.c = 0) → Calls Tryd.prog 30 #[.agg #[.int .i64 c, .int .i64 z, .slice a gs.length d], .agg #[.int .i64 c', .int .i64 z', .slice a' hs.length d']] w fun e w' =>
      ∃ a' c' gs, e = .returned (.tuple #[.agg #[.int .i64 cc, .int .i64 zz, .slice a' gs.length c'], .bool ok]) ∧ w'.ownsRow w.heap.size 53 2 (.slice a' gs.length c') gs.length (eqCells gs) ∧ valsE gs = vs ∧ RowsOwn w' w.heap.size gs ∧ Below w.heap.size w w')
    (him : ∀ a d gs a' d' hs w, EqsAt w a gs → SamV gs es → gs.length ≤ 1048576 → SmallE gs → EqsAt w a' hs → SamV hs fs → hs.length ≤ 1048576 → SmallE hs → Tab w → Calls Tryd.prog 31 #[.agg #[.int .i64 c, .int .i64 z, .slice a gs.length d], .agg #[.int .i64 c', .int .i64 z', .slice a' hs.length d']] w fun e w' =>
      ∃ a' c' gs, e = .returned (.tuple #[.agg #[.int .i64 cc, .int .i64 zz, .slice a' gs.length c'], .bool ok]) ∧ w'.ownsRow w.heap.size 53 2 (.slice a' gs.length c') gs.length (eqCells gs) ∧ valsE gs = vs ∧ RowsOwn w' w.heap.size gs ∧ RowsAp gs ∧ Below w.heap.size w w') :
    Calls Tryd.prog 9 #[.agg #[.int .i64 c, .int .i64 z, .slice a es.length cap], .agg #[.int .i64 c', .int .i64 z', .slice a' fs.length cap']] w fun e w' => e = .returned (.bool true) ∧ Below w.heap.size w w' := by
  have HA := hid ha
  have HA' := hid ha'
  have HT := hid hT
  have HSP := hid hsp
  have HIM := hid him
  have HVS := hid hvs
  obtain ⟨W0, hW0⟩ : ∃ W0, W0 = (w.alloc (.cells #[.int .i64 c, .int .i64 z, .slice a es.length cap] 24)).alloc (.cells #[.int .i64 c', .int .i64 z', .slice a' fs.length cap'] 24) := ⟨_, rfl⟩
  have B := hid (show Below w.heap.size w W0 by rw [hW0]; exact u_b2 _ _ _)
  have X := hid (show W0.heap[w.heap.size]? = some (.cells #[.int .i64 c, .int .i64 z, .slice a es.length cap] 24 (0, 0)) by rw [hW0]; exact kept (laid w _ _) (u_b1 _ _))
  have Xb := hid (show W0.heap[w.heap.size + 1]? = some (.cells #[.int .i64 c', .int .i64 z', .slice a' fs.length cap'] 24 (0, 0)) by
    rw [hW0]
    have h := laid (w.alloc (.cells #[.int .i64 c, .int .i64 z, .slice a es.length cap] 24)) #[.int .i64 c', .int .i64 z', .slice a' fs.length cap'] 24
    rw [show (w.alloc (.cells #[.int .i64 c, .int .i64 z, .slice a es.length cap] 24)).heap.size = w.heap.size + 1 by simp] at h
    exact h)
  clear ha ha' hT hsp him hvs
  go_enter Tryd.func9, Tryd.ntmps9
  repeat ((fail_if_success (with_reducible show Code.wp _ (Code.region 2 _ _) _ _ _)); (first | go_values | go_skip | go_guarded | go_step | go_upon | go_back | go_simp))
  rw [← hW0]
  clear hW0
  have p0 := box_cell X.out 0 (v := .int .i64 c) rfl
  have p1 := box_cell X.out 1 (v := .int .i64 z) rfl
  have p2 := box_cell X.out 2 (v := .slice a es.length cap) rfl
  go_wp2_with fail
  refine (szSolver_left a cap es c z 1048576 _ (HA.out.below B.out) hn hL (by omega) (by omega)).mono ?_
  rintro e w1 ⟨v, rfl, hv, b1⟩
  have X := hid (kept X.out b1)
  have Xb := hid (kept Xb.out b1)
  have B := hid (u_cat B.out b1)
  have HV := hid hv
  clear b1 hv p0 p1 p2
  by_cases hv0 : v < 0
  · go_wp2_with fail
    go_ret
    exact ⟨rfl, B.out⟩
  obtain ⟨⟨hs, hsm⟩, hv1, hv2⟩ := HV.out.resolve_left hv0
  have HS := hid hsm
  obtain ⟨hvl, hvk⟩ := HVS.out hs hsm
  have HVK := hid hvk
  clear hsm HV HVS hvk
  have p0 := box_cell Xb.out 0 (v := .int .i64 c') rfl
  have p1 := box_cell Xb.out 1 (v := .int .i64 z') rfl
  have p2 := box_cell Xb.out 2 (v := .slice a' fs.length cap') rfl
  go_wp2_with fail
  refine (szSolver_left a' cap' fs c' z' v _ (HA'.out.below B.out) hn' hL' hv1 hv2).mono ?_
  rintro e w2 ⟨v', rfl, hv', b1⟩
  have X := hid (kept X.out b1)
  have Xb := hid (kept Xb.out b1)
  have B := hid (u_cat B.out b1)
  have HV := hid hv'
  clear b1 hv' p0 p1 p2
  by_cases hv0' : v' < 0
  · go_wp2_with fail
    go_ret
    exact ⟨rfl, B.out⟩
  obtain ⟨⟨hs', hsm'⟩, -, -⟩ := HV.out.resolve_left hv0'
  have HS' := hid hsm'
  have hvv : ¬ (v' < 0) := hv0'
  clear hsm' HV hv0 hv1 hv2 hv0'
  have hxb : w.heap.size ≤ w2.heap.size := B.out.size
  have hbw := B.out.size
  have HAW := hid (HA.out.below B.out)
  have HBW := hid (HA'.out.below B.out)
  have KT1 := hid (fun W h => toSolver_any a cap es c z W h hs HS.out)
  have KT2 := hid (fun W h => toSolver_any a' cap' fs c' z' W h hs' HS'.out)
  have y0 := cell_regrown (box_cell X.out 0 (v := .int .i64 c) rfl)
  have y1 := cell_regrown (box_cell X.out 1 (v := .int .i64 z) rfl)
  have y2 := cell_regrown (box_cell X.out 2 (v := .slice a es.length cap) rfl)
  have yb0 := cell_regrown (box_cell Xb.out 0 (v := .int .i64 c') rfl)
  have yb1 := cell_regrown (box_cell Xb.out 1 (v := .int .i64 z') rfl)
  have yb2 := cell_regrown (box_cell Xb.out 2 (v := .slice a' fs.length cap') rfl)
  go_wp2_with fail
  refine wp_plan 11 (.pull [(0, 1), (2, 1)] (.fork 1 (.fork 3 (.fork 4 (.pull [(5, 3)] (.step 8 (.step 9 (.step 10 .done)))) 8 (.step 4 (.pull [(5, 3)] (.step 9 (.step 10 .done))))) 8 (.step 3 (.step 4 (.pull [(5, 3)] (.step 9 (.step 10 .done)))))) 8 (.step 1 (.step 3 (.step 4 (.pull [(5, 3)] (.step 9 (.step 10 .done)))))))) (by kernel_rfl) (by kernel_rfl) ?_
  intro V0 hw0
  have J0 := hid (of_class hw0)
  refine pln_pull ?_
  simp only [cutOut, List.take_succ_cons, List.take_zero, List.drop_succ_cons, List.drop_zero, List.nil_append, List.cons_append, List.append_nil]
  repeat (first | go_big_quiet_step (fail) | quiet_step (fail))
  try refine wpQuiet_nil ?_
  clear y0 y1 y2 yb0 yb1 yb2
  refine pln_fork ?_ ?_
  rotate_left
  focus
    refine pln_step rfl (by omega) (fun K hK => ?_)
    go_simp
    refine hK _ _ (class_of (u_cat J0.out (u_b1 _ _))) ?_
    clear hK K
    obtain ⟨g8, hg8⟩ : ∃ g8, g8 = V0.heap.size := ⟨_, rfl⟩
    obtain ⟨VA, hVA⟩ : ∃ VA, VA = V0.alloc (.cells #[.int .i64 0, .int .i64 0, .slice none 0 0] 29) := ⟨_, rfl⟩
    have bVA : Below V0.heap.size V0 VA := by rw [hVA]; exact u_b1 _ _
    have Z8 := hid (show VA.heap[g8]? = some (.cells #[.int .i64 0, .int .i64 0, .slice none 0 0] 29 (0, 0)) by rw [hVA, hg8]; exact laid V0 _ _)
    rw [← hVA, ← hg8]
    have hg8b : w2.heap.size ≤ g8 := by rw [hg8]; exact J0.out.size
    have JA := hid (u_cat J0.out bVA)
    clear hVA hg8 bVA
    refine pln_step rfl (by omega) (fun K hK => ?_)
    go_simp
    with_reducible refine (KT1.out VA ((HAW.out.below JA.out))).mono ?_
    rintro _ U1 ⟨r4, f4, fs1, rfl, o1, s1, q1, b1⟩
    refine hK _ _ (class_of (u_cat JA.out b1)) ?_
    clear hK K
    have I1 := hid (eqs_at o1 q1)
    have M1 := hid s1
    have CP1 := hid (show ∀ e ∈ fs1, e.a = none → e.c = 0 from fun e he => owns_cap (q1 e he))
    have J1 := hid (u_cat JA.out b1)
    have Z8 := hid (kept Z8.out b1)
    clear o1 s1 q1 b1
    refine pln_step rfl (by omega) (fun K hK => ?_)
    go_simp
    with_reducible refine (KT2.out U1 ((HBW.out.below J1.out))).mono ?_
    rintro _ U2 ⟨r5, f5, fs2, rfl, o2, s2, q2, b2⟩
    refine hK _ _ (class_of (u_cat J1.out b2)) ?_
    clear hK K
    have I1 := hid (I1.out.below b2)
    have I2 := hid (eqs_at o2 q2)
    have M2 := hid s2
    have CP2 := hid (show ∀ e ∈ fs2, e.a = none → e.c = 0 from fun e he => owns_cap (q2 e he))
    have J2 := hid (u_cat J1.out b2)
    have Z8 := hid (kept Z8.out b2)
    clear o2 s2 q2 b2
    refine pln_step rfl (by omega) (fun K hK => ?_)
    go_simp
    with_reducible refine (HSP.out r4 f4 fs1 r5 f5 fs2 U2 I1.out M1.out (by rw [M1.out.len]; exact hs) (M1.out.symm.small HS.out) CP1.out I2.out M2.out (by rw [M2.out.len]; exact hs') (M2.out.symm.small HS'.out) CP2.out).mono ?_
    rintro _ U3 ⟨b0, d0, gs0, rfl, o3, v3, q3, b3⟩
    have hu3 := b3.size
    refine hK _ _ (class_of (u_cat J2.out b3)) ?_
    clear hK K
    have huw := J2.out.size
    have O3 := hid (owns_base o3 (show w2.heap.size ≤ U2.heap.size from huw))
    have Q3 := hid (q3.mono (show w2.heap.size ≤ U2.heap.size from huw))
    have V3 := hid v3
    have J3 := hid (u_cat J2.out b3)
    have Z8 := hid (kept Z8.out b3)
    clear o3 v3 q3 b3 huw hu3 I1 M1 CP1 I2 M2 CP2
    refine pln_pull ?_
    simp only [cutOut, List.take_succ_cons, List.take_zero, List.drop_succ_cons, List.drop_zero, List.append_nil]
    repeat (first | go_big_quiet_step (fail) | quiet_step (fail))
    try refine wpQuiet_nil ?_
    have BV := hid J3.out
    obtain ⟨VF, hVF⟩ : ∃ VF, VF = U3 := ⟨_, rfl⟩
    rw [← hVF] at Z8 O3 Q3 BV ⊢
  rotate_left
  focus
    refine pln_step rfl (by omega) (fun K hK => ?_)
    go_simp
    with_reducible refine (KT1.out V0 ((HAW.out.below J0.out))).mono ?_
    rintro _ U1 ⟨r4, f4, fs1, rfl, o1, s1, q1, b1⟩
    refine hK _ _ (class_of (u_cat J0.out b1)) ?_
    clear hK K
    have I1 := hid (eqs_at o1 q1)
    have M1 := hid s1
    have CP1 := hid (show ∀ e ∈ fs1, e.a = none → e.c = 0 from fun e he => owns_cap (q1 e he))
    have J1 := hid (u_cat J0.out b1)
    clear o1 s1 q1 b1
    refine pln_fork ?_ ?_
    rotate_left
    focus
      refine pln_step rfl (by omega) (fun K hK => ?_)
      go_simp
      refine hK _ _ (class_of (u_cat J1.out (u_b1 _ _))) ?_
      clear hK K
      obtain ⟨g8, hg8⟩ : ∃ g8, g8 = U1.heap.size := ⟨_, rfl⟩
      obtain ⟨VA, hVA⟩ : ∃ VA, VA = U1.alloc (.cells #[.int .i64 0, .int .i64 0, .slice none 0 0] 29) := ⟨_, rfl⟩
      have bVA : Below U1.heap.size U1 VA := by rw [hVA]; exact u_b1 _ _
      have Z8 := hid (show VA.heap[g8]? = some (.cells #[.int .i64 0, .int .i64 0, .slice none 0 0] 29 (0, 0)) by rw [hVA, hg8]; exact laid U1 _ _)
      rw [← hVA, ← hg8]
      have hg8b : w2.heap.size ≤ g8 := by rw [hg8]; exact J1.out.size
      have JA := hid (u_cat J1.out bVA)
      have I1 := hid (I1.out.below bVA)
      clear hVA hg8 bVA
      refine pln_step rfl (by omega) (fun K hK => ?_)
      go_simp
      with_reducible refine (KT2.out VA ((HBW.out.below JA.out))).mono ?_
      rintro _ U2 ⟨r5, f5, fs2, rfl, o2, s2, q2, b2⟩
      refine hK _ _ (class_of (u_cat JA.out b2)) ?_
      clear hK K
      have I1 := hid (I1.out.below b2)
      have I2 := hid (eqs_at o2 q2)
      have M2 := hid s2
      have CP2 := hid (show ∀ e ∈ fs2, e.a = none → e.c = 0 from fun e he => owns_cap (q2 e he))
      have J2 := hid (u_cat JA.out b2)
      have Z8 := hid (kept Z8.out b2)
      clear o2 s2 q2 b2
      refine pln_step rfl (by omega) (fun K hK => ?_)
      go_simp
      with_reducible refine (HSP.out r4 f4 fs1 r5 f5 fs2 U2 I1.out M1.out (by rw [M1.out.len]; exact hs) (M1.out.symm.small HS.out) CP1.out I2.out M2.out (by rw [M2.out.len]; exact hs') (M2.out.symm.small HS'.out) CP2.out).mono ?_
      rintro _ U3 ⟨b0, d0, gs0, rfl, o3, v3, q3, b3⟩
      have hu3 := b3.size
      refine hK _ _ (class_of (u_cat J2.out b3)) ?_
      clear hK K
      have huw := J2.out.size
      have O3 := hid (owns_base o3 (show w2.heap.size ≤ U2.heap.size from huw))
      have Q3 := hid (q3.mono (show w2.heap.size ≤ U2.heap.size from huw))
      have V3 := hid v3
      have J3 := hid (u_cat J2.out b3)
      have Z8 := hid (kept Z8.out b3)
      clear o3 v3 q3 b3 huw hu3 I1 M1 CP1 I2 M2 CP2
      refine pln_pull ?_
      simp only [cutOut, List.take_succ_cons, List.take_zero, List.drop_succ_cons, List.drop_zero, List.append_nil]
      repeat (first | go_big_quiet_step (fail) | quiet_step (fail))
      try refine wpQuiet_nil ?_
      have BV := hid J3.out
      obtain ⟨VF, hVF⟩ : ∃ VF, VF = U3 := ⟨_, rfl⟩
      rw [← hVF] at Z8 O3 Q3 BV ⊢
    rotate_left
    focus
      refine pln_step rfl (by omega) (fun K hK => ?_)
      go_simp
      with_reducible refine (KT2.out U1 ((HBW.out.below J1.out))).mono ?_
      rintro _ U2 ⟨r5, f5, fs2, rfl, o2, s2, q2, b2⟩
      refine hK _ _ (class_of (u_cat J1.out b2)) ?_
      clear hK K
      have I1 := hid (I1.out.below b2)
      have I2 := hid (eqs_at o2 q2)
      have M2 := hid s2
      have CP2 := hid (show ∀ e ∈ fs2, e.a = none → e.c = 0 from fun e he => owns_cap (q2 e he))
      have J2 := hid (u_cat J1.out b2)
      clear o2 s2 q2 b2
      refine pln_fork ?_ ?_
      rotate_left
      focus
        refine pln_step rfl (by omega) (fun K hK => ?_)
        go_simp
        refine hK _ _ (class_of (u_cat J2.out (u_b1 _ _))) ?_
        clear hK K
        obtain ⟨g8, hg8⟩ : ∃ g8, g8 = U2.heap.size := ⟨_, rfl⟩
        obtain ⟨VA, hVA⟩ : ∃ VA, VA = U2.alloc (.cells #[.int .i64 0, .int .i64 0, .slice none 0 0] 29) := ⟨_, rfl⟩
        have bVA : Below U2.heap.size U2 VA := by rw [hVA]; exact u_b1 _ _
        have Z8 := hid (show VA.heap[g8]? = some (.cells #[.int .i64 0, .int .i64 0, .slice none 0 0] 29 (0, 0)) by rw [hVA, hg8]; exact laid U2 _ _)
        rw [← hVA, ← hg8]
        have hg8b : w2.heap.size ≤ g8 := by rw [hg8]; exact J2.out.size
        have JA := hid (u_cat J2.out bVA)
        have I1 := hid (I1.out.below bVA)
        have I2 := hid (I2.out.below bVA)
        clear hVA hg8 bVA
        refine pln_step rfl (by omega) (fun K hK => ?_)
        go_simp
        with_reducible refine (HSP.out r4 f4 fs1 r5 f5 fs2 VA I1.out M1.out (by rw [M1.out.len]; exact hs) (M1.out.symm.small HS.out) CP1.out I2.out M2.out (by rw [M2.out.len]; exact hs') (M2.out.symm.small HS'.out) CP2.out).mono ?_
        rintro _ U3 ⟨b0, d0, gs0, rfl, o3, v3, q3, b3⟩
        have hu3 := b3.size
        refine hK _ _ (class_of (u_cat JA.out b3)) ?_
        clear hK K
        have huw := JA.out.size
        have O3 := hid (owns_base o3 (show w2.heap.size ≤ VA.heap.size from huw))
        have Q3 := hid (q3.mono (show w2.heap.size ≤ VA.heap.size from huw))
        have V3 := hid v3
        have J3 := hid (u_cat JA.out b3)
        have Z8 := hid (kept Z8.out b3)
        clear o3 v3 q3 b3 huw hu3 I1 M1 CP1 I2 M2 CP2
        refine pln_pull ?_
        simp only [cutOut, List.take_succ_cons, List.take_zero, List.drop_succ_cons, List.drop_zero, List.append_nil]
        repeat (first | go_big_quiet_step (fail) | quiet_step (fail))
        try refine wpQuiet_nil ?_
        have BV := hid J3.out
        obtain ⟨VF, hVF⟩ : ∃ VF, VF = U3 := ⟨_, rfl⟩
        rw [← hVF] at Z8 O3 Q3 BV ⊢
      rotate_left
      focus
        refine pln_step rfl (by omega) (fun K hK => ?_)
        go_simp
        with_reducible refine (HSP.out r4 f4 fs1 r5 f5 fs2 U2 I1.out M1.out (by rw [M1.out.len]; exact hs) (M1.out.symm.small HS.out) CP1.out I2.out M2.out (by rw [M2.out.len]; exact hs') (M2.out.symm.small HS'.out) CP2.out).mono ?_
        rintro _ U3 ⟨b0, d0, gs0, rfl, o3, v3, q3, b3⟩
        have hu3 := b3.size
        refine hK _ _ (class_of (u_cat J2.out b3)) ?_
        clear hK K
        have huw := J2.out.size
        have O3 := hid (owns_base o3 (show w2.heap.size ≤ U2.heap.size from huw))
        have Q3 := hid (q3.mono (show w2.heap.size ≤ U2.heap.size from huw))
        have V3 := hid v3
        have J3 := hid (u_cat J2.out b3)
        clear o3 v3 q3 b3 huw hu3 I1 M1 CP1 I2 M2 CP2
        refine pln_pull ?_
        simp only [cutOut, List.take_succ_cons, List.take_zero, List.drop_succ_cons, List.drop_zero, List.append_nil]
        repeat (first | go_big_quiet_step (fail) | quiet_step (fail))
        try refine wpQuiet_nil ?_
        refine pln_step rfl (by omega) (fun K hK => ?_)
        go_simp
        refine hK _ _ (class_of (u_cat J3.out (u_b1 _ _))) ?_
        clear hK K
        obtain ⟨g8, hg8⟩ : ∃ g8, g8 = U3.heap.size := ⟨_, rfl⟩
        obtain ⟨VA, hVA⟩ : ∃ VA, VA = U3.alloc (.cells #[.int .i64 0, .int .i64 0, .slice none 0 0] 29) := ⟨_, rfl⟩
        have bVA : Below U3.heap.size U3 VA := by rw [hVA]; exact u_b1 _ _
        have Z8 := hid (show VA.heap[g8]? = some (.cells #[.int .i64 0, .int .i64 0, .slice none 0 0] 29 (0, 0)) by rw [hVA, hg8]; exact laid U3 _ _)
        rw [← hVA, ← hg8]
        have hg8b : w2.heap.size ≤ g8 := by rw [hg8]; exact J3.out.size
        have O3 := hid (owns_below O3.out bVA)
        have Q3 := hid (Q3.out.below bVA)
        have JA := hid (u_cat J3.out bVA)
        clear hVA hg8 bVA
        have BV := hid JA.out
        obtain ⟨VF, hVF⟩ : ∃ VF, VF = VA := ⟨_, rfl⟩
        rw [← hVF] at Z8 O3 Q3 BV ⊢
  all_goals
    clear hVF J0 J1 J2 J3 JA KT1 KT2 HAW HBW
    have t0 := box_cell Z8.out 0 (v := .int .i64 0) rfl
    have t1 := box_cell Z8.out 1 (v := .int .i64 0) rfl
    have t2 := box_cell Z8.out 2 (v := .slice none 0 0) rfl
    have tz := box_frozen Z8.out
    have tl := lt_of_block Z8.out
    refine pln_step rfl (by omega) (fun K hK => ?_)
    go_simp
    refine hK _ _ (class_of (u_set (u_set (u_set BV.out hg8b _ _) hg8b _ _) hg8b _ _)) ?_
    clear hK K
    refine pln_step rfl (by omega) (fun K hK => ?_)
    go_simp
    refine hK _ _ (class_of (u_set (u_set (u_set BV.out hg8b _ _) hg8b _ _) hg8b _ _)) ?_
    clear hK K
    refine pln_done ?_
    obtain ⟨V5, hV5⟩ : ∃ V5, V5 = ((VF.setCell ⟨g8, 0, none⟩ (.int .i64 cc)).setCell ⟨g8, 1, none⟩ (.int .i64 zz)).setCell ⟨g8, 2, none⟩ (.slice b0 gs0.length d0) := ⟨_, rfl⟩
    have Z5 := hid (show V5.heap[g8]? = some (.cells #[.int .i64 cc, .int .i64 zz, .slice b0 gs0.length d0] 29 (0, 0)) by rw [hV5]; exact set_block (set_block (set_block Z8.out 0 _) 1 _) 2 _)
    have BV5 := hid (show Below w2.heap.size w2 V5 by rw [hV5]; exact u_set (u_set (u_set BV.out hg8b _ _) hg8b _ _) hg8b _ _)
    have O5 := hid (show V5.ownsRow w2.heap.size 53 2 (.slice b0 gs0.length d0) gs0.length (eqCells gs0) by
      rw [hV5]
      exact own_set_kind (set_block (set_block Z8.out 0 (.int .i64 cc)) 1 (.int .i64 zz)) (own_set_kind (set_block Z8.out 0 (.int .i64 cc)) (own_set_kind Z8.out O3.out (by decide)) (by decide)) (by decide))
    have R5 := hid (show RowsOwn V5 w2.heap.size gs0 from fun f hf => by
      rw [hV5]
      exact own_set_kind (set_block (set_block Z8.out 0 (.int .i64 cc)) 1 (.int .i64 zz)) (own_set_kind (set_block Z8.out 0 (.int .i64 cc)) (own_set_kind Z8.out (Q3.out f hf) (by decide)) (by decide)) (by decide))
    rw [← hV5]
    clear hV5 t0 t1 t2 tz tl Z8 BV O3 Q3
    have hgl0 : gs0.length ≤ 1048576 := by rw [vals_len V3.out]; exact hvl
    have V0' := hid V3.out
    have L0 := hid (show ∀ k, (.slice b0 gs0.length d0 : Value).ownBlock = some k → k < V5.heap.size from fun k hk => (O5.out.lt k hk).2)
    have LR0 := hid (show ∀ f ∈ gs0, ∀ k, (rowV f).ownBlock = some k → k < V5.heap.size from fun f hf k hk => ((R5.out f hf).lt k hk).2)
    have hg8l := lt_of_block Z5.out
    have Y0 := hid Z5.out
    have O0 := hid O5.out
    have Q0 := hid R5.out
    have hbv := BV5.out.size
    have X := hid (kept X.out BV5.out)
    have Xb := hid (kept Xb.out BV5.out)
    have B := hid (u_cat B.out BV5.out)
    have hxl := lt_of_block X.out
    have hxbl := lt_of_block Xb.out
    clear Z5 O5 R5 V3 BV5 hg8b
    have p0 := box_cell X.out 0 (v := .int .i64 c) rfl
    have p1 := box_cell X.out 1 (v := .int .i64 z) rfl
    have p2 := box_cell X.out 2 (v := .slice a es.length cap) rfl
    go_wp2_with fail
    refine (toSolver_ap a cap es c z _ (HA.out.below B.out) hs HS.out).mono ?_
    rintro e w4 ⟨r2, f2, gx, rfl, o4, s4, q4, ap4, b4⟩
    have hz4 := b4.size
    obtain ⟨W4, hW4⟩ : ∃ W4, W4 = w4.alloc (.cells #[.int .i64 c, .int .i64 z, .slice r2 gx.length f2] 29) := ⟨_, rfl⟩
    have bb : Below w4.heap.size w4 W4 := by rw [hW4]; exact u_b1 _ _
    have hz4' : w4.heap.size + 1 ≤ W4.heap.size := by rw [hW4]; simp
    have Yx := hid (show W4.heap[w4.heap.size]? = some (.cells #[.int .i64 c, .int .i64 z, .slice r2 gx.length f2] 29 (0, 0)) by rw [hW4]; exact laid w4 _ _)
    have Lx := hid (show ∀ k, (.slice r2 gx.length f2 : Value).ownBlock = some k → V5.heap.size ≤ k ∧ k < w4.heap.size from fun k hk => o4.lt k hk)
    have LRx := hid (show ∀ f ∈ gx, ∀ k, (rowV f).ownBlock = some k → V5.heap.size ≤ k ∧ k < w4.heap.size from fun f hf k hk => (q4 f hf).lt k hk)
    have b4' := u_cat b4 bb
    have X := hid (kept X.out b4')
    have Xb := hid (kept Xb.out b4')
    have B := hid (u_cat B.out b4')
    have Y0 := hid (kept Y0.out b4')
    have O0 := hid (owns_below O0.out b4')
    have Q0 := hid (Q0.out.below b4')
    have Ox := hid (owns_below o4 bb)
    have Rx := hid (q4.below bb)
    have APx := hid ap4
    have Mx := hid s4
    clear b4 b4' o4 s4 q4 ap4 bb p0 p1 p2
    repeat ((fail_if_success (with_reducible show Code.wp _ (Code.region 10 _ _) _ _ _)); (first | go_values | go_skip | go_guarded | go_step | go_upon | go_back | go_simp))
    rw [← hW4]
    clear hW4
    have p0 := box_cell Xb.out 0 (v := .int .i64 c') rfl
    have p1 := box_cell Xb.out 1 (v := .int .i64 z') rfl
    have p2 := box_cell Xb.out 2 (v := .slice a' fs.length cap') rfl
    go_wp2_with fail
    refine (toSolver_ap a' cap' fs c' z' _ (HA'.out.below B.out) hs' HS'.out).mono ?_
    rintro e w5 ⟨r3, f3, gy, rfl, o4, s4, q4, ap4, b4⟩
    have hz5 := b4.size
    obtain ⟨W5, hW4⟩ : ∃ W5, W5 = w5.alloc (.cells #[.int .i64 c', .int .i64 z', .slice r3 gy.length f3] 29) := ⟨_, rfl⟩
    have bb : Below w5.heap.size w5 W5 := by rw [hW4]; exact u_b1 _ _
    have hz5' : w5.heap.size + 1 ≤ W5.heap.size := by rw [hW4]; simp
    have Yy := hid (show W5.heap[w5.heap.size]? = some (.cells #[.int .i64 c', .int .i64 z', .slice r3 gy.length f3] 29 (0, 0)) by rw [hW4]; exact laid w5 _ _)
    have Ly := hid (show ∀ k, (.slice r3 gy.length f3 : Value).ownBlock = some k → W4.heap.size ≤ k ∧ k < w5.heap.size from fun k hk => o4.lt k hk)
    have LRy := hid (show ∀ f ∈ gy, ∀ k, (rowV f).ownBlock = some k → W4.heap.size ≤ k ∧ k < w5.heap.size from fun f hf k hk => (q4 f hf).lt k hk)
    have b4' := u_cat b4 bb
    have X := hid (kept X.out b4')
    have Xb := hid (kept Xb.out b4')
    have B := hid (u_cat B.out b4')
    have Y0 := hid (kept Y0.out b4')
    have O0 := hid (owns_below O0.out b4')
    have Q0 := hid (Q0.out.below b4')
    have Yx := hid (kept Yx.out b4')
    have Ox := hid (owns_below Ox.out b4')
    have Rx := hid (Rx.out.below b4')
    have Oy := hid (owns_below o4 bb)
    have Ry := hid (q4.below bb)
    have APy := hid ap4
    have My := hid s4
    clear b4 b4' o4 s4 q4 ap4 bb p0 p1 p2
    repeat ((fail_if_success (with_reducible show Code.wp _ (Code.region 11 _ _) _ _ _)); (first | go_values | go_skip | go_guarded | go_step | go_upon | go_back | go_simp))
    rw [← hW4]
    clear hW4
    have s0 := box_cell Yx.out 0 (v := .int .i64 c) rfl
    have s1 := box_cell Yx.out 1 (v := .int .i64 z) rfl
    have s2 := box_cell Yx.out 2 (v := .slice r2 gx.length f2) rfl
    have u0 := box_cell Yy.out 0 (v := .int .i64 c') rfl
    have u1 := box_cell Yy.out 1 (v := .int .i64 z') rfl
    have u2 := box_cell Yy.out 2 (v := .slice r3 gy.length f3) rfl
    go_wp2_with fail
    refine (HIM.out r2 f2 gx r3 f3 gy _ (eqs_at Ox.out Rx.out) Mx.out (by rw [Mx.out.len]; exact hs) (Mx.out.symm.small HS.out) (eqs_at Oy.out Ry.out) My.out (by rw [My.out.len]; exact hs') (My.out.symm.small HS'.out) (HT.out.below B.out)).mono ?_
    rintro e w6 ⟨bg, dg, gg, rfl, o6, v6, q6, ap6, b6⟩
    have hz6 := b6.size
    obtain ⟨W6, hW6⟩ : ∃ W6, W6 = w6.alloc (.cells #[.int .i64 cc, .int .i64 zz, .slice bg gg.length dg] 29) := ⟨_, rfl⟩
    have bb : Below w6.heap.size w6 W6 := by rw [hW6]; exact u_b1 _ _
    have hz6' : w6.heap.size + 1 ≤ W6.heap.size := by rw [hW6]; simp
    have Yg := hid (show W6.heap[w6.heap.size]? = some (.cells #[.int .i64 cc, .int .i64 zz, .slice bg gg.length dg] 29 (0, 0)) by rw [hW6]; exact laid w6 _ _)
    have Lg := hid (show ∀ k, (.slice bg gg.length dg : Value).ownBlock = some k → W5.heap.size ≤ k ∧ k < w6.heap.size from fun k hk => o6.lt k hk)
    have LRg := hid (show ∀ f ∈ gg, ∀ k, (rowV f).ownBlock = some k → W5.heap.size ≤ k ∧ k < w6.heap.size from fun f hf k hk => (q6 f hf).lt k hk)
    have b6' := u_cat b6 bb
    have X := hid (kept X.out b6')
    have Xb := hid (kept Xb.out b6')
    have B := hid (u_cat B.out b6')
    have Y0 := hid (kept Y0.out b6')
    have O0 := hid (owns_below O0.out b6')
    have Q0 := hid (Q0.out.below b6')
    have Yx := hid (kept Yx.out b6')
    have Ox := hid (owns_below Ox.out b6')
    have Rx := hid (Rx.out.below b6')
    have Yy := hid (kept Yy.out b6')
    have Oy := hid (owns_below Oy.out b6')
    have Ry := hid (Ry.out.below b6')
    have Og := hid (owns_below o6 bb)
    have Rg := hid (q6.below bb)
    have APg := hid ap6
    have SG := hid (vals_same.1 (v6.trans V0'.out.symm))
    have hggl : gg.length ≤ 1048576 := by rw [vals_len v6]; exact hvl
    have SMG := hid (vals_small v6 HVK.out)
    clear b6 b6' o6 v6 q6 ap6 bb s0 s1 s2 u0 u1 u2
    repeat ((fail_if_success (with_reducible show Code.wp _ (Code.region 12 _ _) _ _ _)); (first | go_values | go_skip | go_guarded | go_step | go_upon | go_back | go_simp))
    rw [← hW6]
    clear hW6
    have s0 := box_cell Yg.out 0 (v := .int .i64 cc) rfl
    have s1 := box_cell Yg.out 1 (v := .int .i64 zz) rfl
    have s2 := box_cell Yg.out 2 (v := .slice bg gg.length dg) rfl
    have u0 := box_cell Y0.out 0 (v := .int .i64 cc) rfl
    have u1 := box_cell Y0.out 1 (v := .int .i64 zz) rfl
    have u2 := box_cell Y0.out 2 (v := .slice b0 gs0.length d0) rfl
    go_wp2_with fail
    refine (eqSolver_same bg b0 dg d0 gg gs0 cc zz _ (eqs_at Og.out Rg.out) (eqs_at O0.out Q0.out) SG.out hggl SMG.out).mono ?_
    rintro e w7 ⟨rfl, b7⟩
    have hz7 := b7.size
    have X := hid (kept X.out b7)
    have Xb := hid (kept Xb.out b7)
    have B := hid (u_cat B.out b7)
    have Y0 := hid (kept Y0.out b7)
    have O0 := hid (owns_below O0.out b7)
    have Q0 := hid (Q0.out.below b7)
    have Yx := hid (kept Yx.out b7)
    have Ox := hid (owns_below Ox.out b7)
    have Rx := hid (Rx.out.below b7)
    have Yy := hid (kept Yy.out b7)
    have Oy := hid (owns_below Oy.out b7)
    have Ry := hid (Ry.out.below b7)
    have Yg := hid (kept Yg.out b7)
    have Og := hid (owns_below Og.out b7)
    have Rg := hid (Rg.out.below b7)
    clear b7 s0 s1 s2 u0 u1 u2
    have p0 := box_cell X.out 0 (v := .int .i64 c) rfl
    have p1 := box_cell X.out 1 (v := .int .i64 z) rfl
    have p2 := box_cell X.out 2 (v := .slice a es.length cap) rfl
    have s0 := box_cell Yx.out 0 (v := .int .i64 c) rfl
    have s1 := box_cell Yx.out 1 (v := .int .i64 z) rfl
    have s2 := box_cell Yx.out 2 (v := .slice r2 gx.length f2) rfl
    have m1 : w.heap.size < w7.heap.size := lt_of_block X.out
    have m2 : w4.heap.size < w7.heap.size := lt_of_block Yx.out
    have J1 := hid (eqs_at Ox.out Rx.out)
    go_wp2_with fail
    go_region_held3 (fun w' => w'.cell? ⟨w.heap.size, 0, none⟩ = some (.int .i64 c) ∧ w'.cell? ⟨w.heap.size, 1, none⟩ = some (.int .i64 z) ∧ w'.cell? ⟨w.heap.size, 2, none⟩ = some (.slice a es.length cap) ∧ w'.cell? ⟨w4.heap.size, 0, none⟩ = some (.int .i64 c) ∧ w'.cell? ⟨w4.heap.size, 1, none⟩ = some (.int .i64 z) ∧ w'.cell? ⟨w4.heap.size, 2, none⟩ = some (.slice r2 gx.length f2)) (go_keep) (first
      | (go_at_call 12; refine (toSolver_any a cap es c z _ (by exact EqsAt.drewNsolverAdd (HA.out.below B.out) 1) hs HS.out).mono ?_; rintro e w8 ⟨t1, h1, ks, rfl, k1, k2, k3, b8⟩; have hc8 : ∀ bb o, bb < w7.heap.size → w8.cell? ⟨bb, o, none⟩ = w7.cell? ⟨bb, o, none⟩ := (u_cell b8).1; have I1 := hid (eqs_at k1 k3); have M3 := hid k2; have B8 := hid b8; clear k1 k2 k3 b8)
      | (go_at_call 14; refine (eqSolver_same r2 t1 f2 h1 gx ks c z _ (by exact (EqsAt.drewNsolverAdd J1.out 1).below B8.out) (by exact I1.out) (Mx.out.trans M3.out.symm) (by rw [Mx.out.len]; exact hs) (Mx.out.symm.small HS.out)).mono ?_; rintro e w9 ⟨rfl, b9⟩; have hc9 : ∀ bb o, bb < w8.heap.size → w9.cell? ⟨bb, o, none⟩ = w8.cell? ⟨bb, o, none⟩ := (u_cell b9).1; have m3 : w7.heap.size ≤ w8.heap.size := B8.out.size; have m4 : w.heap.size < w8.heap.size := (by omega); have m5 : w4.heap.size < w8.heap.size := (by omega); have B9 := hid b9; clear b9))
    all_goals go_wp2_with fail
    have D8 := u_cat B8.out B9.out
    have D7 := u_cat (below_drewN (Below.refl w7.heap.size w7) 1) D8
    have X := hid (kept X.out D7)
    have Xb := hid (kept Xb.out D7)
    have B := hid (u_cat B.out D7)
    have Y0 := hid (kept Y0.out D7)
    have O0 := hid (owns_below O0.out D7)
    have Q0 := hid (Q0.out.below D7)
    have Yx := hid (kept Yx.out D7)
    have Ox := hid (owns_below Ox.out D7)
    have Rx := hid (Rx.out.below D7)
    have Yy := hid (kept Yy.out D7)
    have Oy := hid (owns_below Oy.out D7)
    have Ry := hid (Ry.out.below D7)
    have Yg := hid (kept Yg.out D7)
    have Og := hid (owns_below Og.out D7)
    have Rg := hid (Rg.out.below D7)
    have hz9 := D7.size
    clear D8 D7 p0 p1 p2 s0 s1 s2 hc8 hc9 m1 m2 m3 m4 m5 J1 I1 B8 B9 M3
    have p0 := box_cell Xb.out 0 (v := .int .i64 c') rfl
    have p1 := box_cell Xb.out 1 (v := .int .i64 z') rfl
    have p2 := box_cell Xb.out 2 (v := .slice a' fs.length cap') rfl
    have s0 := box_cell Yy.out 0 (v := .int .i64 c') rfl
    have s1 := box_cell Yy.out 1 (v := .int .i64 z') rfl
    have s2 := box_cell Yy.out 2 (v := .slice r3 gy.length f3) rfl
    have m1 : w.heap.size + 1 < w9.heap.size := lt_of_block Xb.out
    have m2 : w5.heap.size < w9.heap.size := lt_of_block Yy.out
    have J1 := hid (eqs_at Oy.out Ry.out)
    go_wp2_with fail
    go_region_held3 (fun w' => w'.cell? ⟨w.heap.size + 1, 0, none⟩ = some (.int .i64 c') ∧ w'.cell? ⟨w.heap.size + 1, 1, none⟩ = some (.int .i64 z') ∧ w'.cell? ⟨w.heap.size + 1, 2, none⟩ = some (.slice a' fs.length cap') ∧ w'.cell? ⟨w5.heap.size, 0, none⟩ = some (.int .i64 c') ∧ w'.cell? ⟨w5.heap.size, 1, none⟩ = some (.int .i64 z') ∧ w'.cell? ⟨w5.heap.size, 2, none⟩ = some (.slice r3 gy.length f3)) (go_keep) (first
      | (go_at_call 12; refine (toSolver_any a' cap' fs c' z' _ (by exact EqsAt.drewNsolverAdd (HA'.out.below B.out) 1) hs' HS'.out).mono ?_; rintro e w10 ⟨t1, h1, ks, rfl, k1, k2, k3, b8⟩; have hc8 : ∀ bb o, bb < w9.heap.size → w10.cell? ⟨bb, o, none⟩ = w9.cell? ⟨bb, o, none⟩ := (u_cell b8).1; have I1 := hid (eqs_at k1 k3); have M3 := hid k2; have B8 := hid b8; clear k1 k2 k3 b8)
      | (go_at_call 14; refine (eqSolver_same r3 t1 f3 h1 gy ks c' z' _ (by exact (EqsAt.drewNsolverAdd J1.out 1).below B8.out) (by exact I1.out) (My.out.trans M3.out.symm) (by rw [My.out.len]; exact hs') (My.out.symm.small HS'.out)).mono ?_; rintro e w11 ⟨rfl, b9⟩; have hc9 : ∀ bb o, bb < w10.heap.size → w11.cell? ⟨bb, o, none⟩ = w10.cell? ⟨bb, o, none⟩ := (u_cell b9).1; have m3 : w9.heap.size ≤ w10.heap.size := B8.out.size; have m4 : w.heap.size + 1 < w10.heap.size := (by omega); have m5 : w5.heap.size < w10.heap.size := (by omega); have B9 := hid b9; clear b9))
    all_goals (repeat ((fail_if_success (with_reducible show Code.wp _ (Code.region 19 _ _) _ _ _)); (first | go_values | go_skip | go_guarded | go_step | go_upon | go_back | go_simp)))
    have D8 := u_cat B8.out B9.out
    have D7 := u_cat (below_drewN (Below.refl w9.heap.size w9) 1) D8
    have X := hid (kept X.out D7)
    have Xb := hid (kept Xb.out D7)
    have B := hid (u_cat B.out D7)
    have Y0 := hid (kept Y0.out D7)
    have O0 := hid (owns_below O0.out D7)
    have Q0 := hid (Q0.out.below D7)
    have Yx := hid (kept Yx.out D7)
    have Ox := hid (owns_below Ox.out D7)
    have Rx := hid (Rx.out.below D7)
    have Yy := hid (kept Yy.out D7)
    have Oy := hid (owns_below Oy.out D7)
    have Ry := hid (Ry.out.below D7)
    have Yg := hid (kept Yg.out D7)
    have Og := hid (owns_below Og.out D7)
    have Rg := hid (Rg.out.below D7)
    have hz11 := D7.size
    clear D8 D7 p0 p1 p2 s0 s1 s2 hc8 hc9 m1 m2 m3 m4 m5 J1 I1 B8 B9 M3
    have s0 := box_cell Yx.out 0 (v := .int .i64 c) rfl
    have s1 := box_cell Yx.out 1 (v := .int .i64 z) rfl
    have s2 := box_cell Yx.out 2 (v := .slice r2 gx.length f2) rfl
    go_wp2_with fail
    refine (markSolver_any V5.heap.size c z r2 f2 gx 1 _ Ox.out Rx.out APx.out (by rw [Mx.out.len]; exact hs) (fun f hf => (Mx.out.symm.small HS.out f hf).1) (by omega) (by omega) (by omega)).mono ?_
    rintro e w12 ⟨rfl, -, -, b12, k12⟩
    have KO := hid (keepOut_of k12 Lx.out LRx.out)
    have hz12 := b12.size
    have X := hid (KO.out.blk X.out (by omega))
    have Xb := hid (KO.out.blk Xb.out (by omega))
    have Y0 := hid (KO.out.blk Y0.out (by omega))
    have O0 := hid (KO.out.owns O0.out (fun k hk => by have := L0.out k hk; omega))
    have Q0 := hid (KO.out.rows Q0.out (fun f hf k hk => by have := LR0.out f hf k hk; omega))
    have Yy := hid (KO.out.blk Yy.out (by omega))
    have Oy := hid (KO.out.owns Oy.out (fun k hk => by have := Ly.out k hk; omega))
    have Ry := hid (KO.out.rows Ry.out (fun f hf k hk => by have := LRy.out f hf k hk; omega))
    have Yg := hid (KO.out.blk Yg.out (by omega))
    have Og := hid (KO.out.owns Og.out (fun k hk => by have := Lg.out k hk; omega))
    have Rg := hid (KO.out.rows Rg.out (fun f hf k hk => by have := LRg.out f hf k hk; omega))
    have B := hid (B.out.trans (b12.mono (by omega)))
    have hct := cntE_le (fs := gx) (fun f hf => (Mx.out.symm.small HS.out f hf).1)
    have hgxl : gx.length ≤ 1048576 := by rw [Mx.out.len]; exact hs
    clear s0 s1 s2 b12 k12 KO Yx Ox Rx
    obtain ⟨K1, hK1⟩ : ∃ K1 : Nat, K1 = 1 + cntE gx := ⟨_, rfl⟩
    have hK1b : K1 ≤ 10000000000000 := by omega
    have hK1c : 0 < K1 := by omega
    rw [← hK1]
    clear hK1
    have s0 := box_cell Yy.out 0 (v := .int .i64 c') rfl
    have s1 := box_cell Yy.out 1 (v := .int .i64 z') rfl
    have s2 := box_cell Yy.out 2 (v := .slice r3 gy.length f3) rfl
    go_wp2_with fail
    refine (markSolver_any W4.heap.size c' z' r3 f3 gy K1 _ Oy.out Ry.out APy.out (by rw [My.out.len]; exact hs') (fun f hf => (My.out.symm.small HS'.out f hf).1) (by omega) (by omega) (by omega)).mono ?_
    rintro e w13 ⟨rfl, -, -, b12, k12⟩
    have KO := hid (keepOut_of k12 Ly.out LRy.out)
    have hz13 := b12.size
    have X := hid (KO.out.blk X.out (by omega))
    have Xb := hid (KO.out.blk Xb.out (by omega))
    have Y0 := hid (KO.out.blk Y0.out (by omega))
    have O0 := hid (KO.out.owns O0.out (fun k hk => by have := L0.out k hk; omega))
    have Q0 := hid (KO.out.rows Q0.out (fun f hf k hk => by have := LR0.out f hf k hk; omega))
    have Yg := hid (KO.out.blk Yg.out (by omega))
    have Og := hid (KO.out.owns Og.out (fun k hk => by have := Lg.out k hk; omega))
    have Rg := hid (KO.out.rows Rg.out (fun f hf k hk => by have := LRg.out f hf k hk; omega))
    have B := hid (B.out.trans (b12.mono (by omega)))
    clear s0 s1 s2 b12 k12 KO Yy Oy Ry
    obtain ⟨K3, hK3⟩ : ∃ K3 : Nat, K3 = K1 + cntE gy := ⟨_, rfl⟩
    have hkn : ¬ ((K3 : Int) < 0) := by omega
    rw [← hK3]
    clear hK3
    have s0 := box_cell Yg.out 0 (v := .int .i64 cc) rfl
    have s1 := box_cell Yg.out 1 (v := .int .i64 zz) rfl
    have s2 := box_cell Yg.out 2 (v := .slice bg gg.length dg) rfl
    have u0 := box_cell Y0.out 0 (v := .int .i64 cc) rfl
    have u1 := box_cell Y0.out 1 (v := .int .i64 zz) rfl
    have u2 := box_cell Y0.out 2 (v := .slice b0 gs0.length d0) rfl
    go_wp2_with fail
    refine (eqSolver_same bg b0 dg d0 gg gs0 cc zz _ (eqs_at Og.out Rg.out) (eqs_at O0.out Q0.out) SG.out hggl SMG.out).mono ?_
    rintro e w14 ⟨rfl, b14⟩
    have hz14 := b14.size
    have X := hid (kept X.out b14)
    have Xb := hid (kept Xb.out b14)
    have B := hid (u_cat B.out b14)
    have Y0 := hid (kept Y0.out b14)
    have O0 := hid (owns_below O0.out b14)
    have Q0 := hid (Q0.out.below b14)
    have Yg := hid (kept Yg.out b14)
    have Og := hid (owns_below Og.out b14)
    have Rg := hid (Rg.out.below b14)
    clear b14 s0 s1 s2 u0 u1 u2
    have s0 := box_cell Yg.out 0 (v := .int .i64 cc) rfl
    have s1 := box_cell Yg.out 1 (v := .int .i64 zz) rfl
    have s2 := box_cell Yg.out 2 (v := .slice bg gg.length dg) rfl
    go_wp2_with fail
    refine (markSolver_any W5.heap.size cc zz bg dg gg 1 _ Og.out Rg.out APg.out hggl (fun f hf => (SMG.out f hf).1) (by omega) (by omega) (by omega)).mono ?_
    rintro e w15 ⟨rfl, o15, r15, b15, k15⟩
    have KO := hid (keepOut_of k15 Lg.out LRg.out)
    have hz15 := b15.size
    have X := hid (KO.out.blk X.out (by omega))
    have Xb := hid (KO.out.blk Xb.out (by omega))
    have Y0 := hid (KO.out.blk Y0.out (by omega))
    have O0 := hid (KO.out.owns O0.out (fun k hk => by have := L0.out k hk; omega))
    have Q0 := hid (KO.out.rows Q0.out (fun f hf k hk => by have := LR0.out f hf k hk; omega))
    have Yg := hid (KO.out.blk Yg.out (by omega))
    have Eg := hid (show EqsAt w15 bg (mkE 1 gg) by
      have h := o15
      rw [← mkE_len gg 1] at h
      exact eqs_at h r15)
    have B := hid (B.out.trans (b15.mono (by omega)))
    have hcg := cntE_le (fs := gg) (fun f hf => (SMG.out f hf).1)
    clear s0 s1 s2 b15 k15 o15 r15 KO Og Rg
    have KH := hid (fun W (hE : EqsAt W bg (mkE 1 gg)) => heldSolver_any cc zz bg dg gg 1 W hE hggl (fun f hf => (SMG.out f hf).1) (by omega) (by omega))
    obtain ⟨K2, hK2⟩ : ∃ K2 : Nat, K2 = 1 + cntE gg := ⟨_, rfl⟩
    have hk2 : ¬ ((K2 : Int) < 0) := by omega
    rw [← hK2] at KH ⊢
    clear hK2
    have s0 := box_cell Yg.out 0 (v := .int .i64 cc) rfl
    have s1 := box_cell Yg.out 1 (v := .int .i64 zz) rfl
    have s2 := box_cell Yg.out 2 (v := .slice bg gg.length dg) rfl
    go_wp2_with fail
    refine (KH.out w15 Eg.out).mono ?_
    rintro e w16 ⟨rfl, b16⟩
    have X := hid (kept X.out b16)
    have Xb := hid (kept Xb.out b16)
    have B := hid (u_cat B.out b16)
    have Y0 := hid (kept Y0.out b16)
    have O0 := hid (owns_below O0.out b16)
    have Q0 := hid (Q0.out.below b16)
    have Yg := hid (kept Yg.out b16)
    have Eg := hid (Eg.out.below b16)
    clear b16 s0 s1 s2 L0 LR0 Lx LRx Ly LRy Lg LRg Mx My hg8l
    clear hbw hbv
    have hxb : w.heap.size ≤ w16.heap.size := B.out.size
    obtain ⟨gw, hgw⟩ : ∃ gw, gw = g8 := ⟨_, rfl⟩
    rw [← hgw] at Y0 ⊢
    clear hgw
    obtain ⟨VP, hVP⟩ : ∃ VP, VP = V5 := ⟨_, rfl⟩
    clear hVP
    have hbw := B.out.size
    have HAW := hid (HA.out.below B.out)
    have HBW := hid (HA'.out.below B.out)
    have KT1 := hid (fun W h => toSolver_any a cap es c z W h hs HS.out)
    have KT2 := hid (fun W h => toSolver_any a' cap' fs c' z' W h hs' HS'.out)
    have y0 := cell_regrown (box_cell X.out 0 (v := .int .i64 c) rfl)
    have y1 := cell_regrown (box_cell X.out 1 (v := .int .i64 z) rfl)
    have y2 := cell_regrown (box_cell X.out 2 (v := .slice a es.length cap) rfl)
    have yb0 := cell_regrown (box_cell Xb.out 0 (v := .int .i64 c') rfl)
    have yb1 := cell_regrown (box_cell Xb.out 1 (v := .int .i64 z') rfl)
    have yb2 := cell_regrown (box_cell Xb.out 2 (v := .slice a' fs.length cap') rfl)
    go_wp2_with fail
    refine wp_plan 11 (.pull [(0, 1), (2, 1)] (.fork 1 (.fork 3 (.fork 4 (.pull [(5, 3)] (.step 8 (.step 9 (.step 10 .done)))) 8 (.step 4 (.pull [(5, 3)] (.step 9 (.step 10 .done))))) 8 (.step 3 (.step 4 (.pull [(5, 3)] (.step 9 (.step 10 .done)))))) 8 (.step 1 (.step 3 (.step 4 (.pull [(5, 3)] (.step 9 (.step 10 .done)))))))) (by kernel_rfl) (by kernel_rfl) ?_
    intro V0 hw0
    have J0 := hid (of_class hw0)
    refine pln_pull ?_
    simp only [cutOut, List.take_succ_cons, List.take_zero, List.drop_succ_cons, List.drop_zero, List.nil_append, List.cons_append, List.append_nil]
    repeat (first | go_big_quiet_step (fail) | quiet_step (fail))
    try refine wpQuiet_nil ?_
    clear y0 y1 y2 yb0 yb1 yb2
    refine pln_fork ?_ ?_
    rotate_left
    focus
      refine pln_step rfl (by omega) (fun K hK => ?_)
      go_simp
      refine hK _ _ (class_of (u_cat J0.out (u_b1 _ _))) ?_
      clear hK K
      obtain ⟨g8, hg8⟩ : ∃ g8, g8 = V0.heap.size := ⟨_, rfl⟩
      obtain ⟨VA, hVA⟩ : ∃ VA, VA = V0.alloc (.cells #[.int .i64 0, .int .i64 0, .slice none 0 0] 29) := ⟨_, rfl⟩
      have bVA : Below V0.heap.size V0 VA := by rw [hVA]; exact u_b1 _ _
      have Z8 := hid (show VA.heap[g8]? = some (.cells #[.int .i64 0, .int .i64 0, .slice none 0 0] 29 (0, 0)) by rw [hVA, hg8]; exact laid V0 _ _)
      rw [← hVA, ← hg8]
      have hg8b : w16.heap.size ≤ g8 := by rw [hg8]; exact J0.out.size
      have JA := hid (u_cat J0.out bVA)
      clear hVA hg8 bVA
      refine pln_step rfl (by omega) (fun K hK => ?_)
      go_simp
      with_reducible refine (KT1.out VA ((HAW.out.below JA.out))).mono ?_
      rintro _ U1 ⟨r4, f4, fs1, rfl, o1, s1, q1, b1⟩
      refine hK _ _ (class_of (u_cat JA.out b1)) ?_
      clear hK K
      have I1 := hid (eqs_at o1 q1)
      have M1 := hid s1
      have CP1 := hid (show ∀ e ∈ fs1, e.a = none → e.c = 0 from fun e he => owns_cap (q1 e he))
      have J1 := hid (u_cat JA.out b1)
      have Z8 := hid (kept Z8.out b1)
      clear o1 s1 q1 b1
      refine pln_step rfl (by omega) (fun K hK => ?_)
      go_simp
      with_reducible refine (KT2.out U1 ((HBW.out.below J1.out))).mono ?_
      rintro _ U2 ⟨r5, f5, fs2, rfl, o2, s2, q2, b2⟩
      refine hK _ _ (class_of (u_cat J1.out b2)) ?_
      clear hK K
      have I1 := hid (I1.out.below b2)
      have I2 := hid (eqs_at o2 q2)
      have M2 := hid s2
      have CP2 := hid (show ∀ e ∈ fs2, e.a = none → e.c = 0 from fun e he => owns_cap (q2 e he))
      have J2 := hid (u_cat J1.out b2)
      have Z8 := hid (kept Z8.out b2)
      clear o2 s2 q2 b2
      refine pln_step rfl (by omega) (fun K hK => ?_)
      go_simp
      with_reducible refine (HIM.out r4 f4 fs1 r5 f5 fs2 U2 I1.out M1.out (by rw [M1.out.len]; exact hs) (M1.out.symm.small HS.out) I2.out M2.out (by rw [M2.out.len]; exact hs') (M2.out.symm.small HS'.out) (HT.out.below ((B.out.trans (J2.out.mono hxb))))).mono ?_
      rintro _ U3 ⟨bh, dh, gh, rfl, o3, v3, q3, -, b3⟩
      have hu3 := b3.size
      refine hK _ _ (class_of (u_cat J2.out b3)) ?_
      clear hK K
      have huw := J2.out.size
      have O3 := hid (owns_base o3 (show w16.heap.size ≤ U2.heap.size from huw))
      have Q3 := hid (q3.mono (show w16.heap.size ≤ U2.heap.size from huw))
      have V3 := hid v3
      have J3 := hid (u_cat J2.out b3)
      have Z8 := hid (kept Z8.out b3)
      clear o3 v3 q3 b3 huw hu3 I1 M1 CP1 I2 M2 CP2
      refine pln_pull ?_
      simp only [cutOut, List.take_succ_cons, List.take_zero, List.drop_succ_cons, List.drop_zero, List.append_nil]
      repeat (first | go_big_quiet_step (fail) | quiet_step (fail))
      try refine wpQuiet_nil ?_
      have BV := hid J3.out
      obtain ⟨VF, hVF⟩ : ∃ VF, VF = U3 := ⟨_, rfl⟩
      rw [← hVF] at Z8 O3 Q3 BV ⊢
    rotate_left
    focus
      refine pln_step rfl (by omega) (fun K hK => ?_)
      go_simp
      with_reducible refine (KT1.out V0 ((HAW.out.below J0.out))).mono ?_
      rintro _ U1 ⟨r4, f4, fs1, rfl, o1, s1, q1, b1⟩
      refine hK _ _ (class_of (u_cat J0.out b1)) ?_
      clear hK K
      have I1 := hid (eqs_at o1 q1)
      have M1 := hid s1
      have CP1 := hid (show ∀ e ∈ fs1, e.a = none → e.c = 0 from fun e he => owns_cap (q1 e he))
      have J1 := hid (u_cat J0.out b1)
      clear o1 s1 q1 b1
      refine pln_fork ?_ ?_
      rotate_left
      focus
        refine pln_step rfl (by omega) (fun K hK => ?_)
        go_simp
        refine hK _ _ (class_of (u_cat J1.out (u_b1 _ _))) ?_
        clear hK K
        obtain ⟨g8, hg8⟩ : ∃ g8, g8 = U1.heap.size := ⟨_, rfl⟩
        obtain ⟨VA, hVA⟩ : ∃ VA, VA = U1.alloc (.cells #[.int .i64 0, .int .i64 0, .slice none 0 0] 29) := ⟨_, rfl⟩
        have bVA : Below U1.heap.size U1 VA := by rw [hVA]; exact u_b1 _ _
        have Z8 := hid (show VA.heap[g8]? = some (.cells #[.int .i64 0, .int .i64 0, .slice none 0 0] 29 (0, 0)) by rw [hVA, hg8]; exact laid U1 _ _)
        rw [← hVA, ← hg8]
        have hg8b : w16.heap.size ≤ g8 := by rw [hg8]; exact J1.out.size
        have JA := hid (u_cat J1.out bVA)
        have I1 := hid (I1.out.below bVA)
        clear hVA hg8 bVA
        refine pln_step rfl (by omega) (fun K hK => ?_)
        go_simp
        with_reducible refine (KT2.out VA ((HBW.out.below JA.out))).mono ?_
        rintro _ U2 ⟨r5, f5, fs2, rfl, o2, s2, q2, b2⟩
        refine hK _ _ (class_of (u_cat JA.out b2)) ?_
        clear hK K
        have I1 := hid (I1.out.below b2)
        have I2 := hid (eqs_at o2 q2)
        have M2 := hid s2
        have CP2 := hid (show ∀ e ∈ fs2, e.a = none → e.c = 0 from fun e he => owns_cap (q2 e he))
        have J2 := hid (u_cat JA.out b2)
        have Z8 := hid (kept Z8.out b2)
        clear o2 s2 q2 b2
        refine pln_step rfl (by omega) (fun K hK => ?_)
        go_simp
        with_reducible refine (HIM.out r4 f4 fs1 r5 f5 fs2 U2 I1.out M1.out (by rw [M1.out.len]; exact hs) (M1.out.symm.small HS.out) I2.out M2.out (by rw [M2.out.len]; exact hs') (M2.out.symm.small HS'.out) (HT.out.below ((B.out.trans (J2.out.mono hxb))))).mono ?_
        rintro _ U3 ⟨bh, dh, gh, rfl, o3, v3, q3, -, b3⟩
        have hu3 := b3.size
        refine hK _ _ (class_of (u_cat J2.out b3)) ?_
        clear hK K
        have huw := J2.out.size
        have O3 := hid (owns_base o3 (show w16.heap.size ≤ U2.heap.size from huw))
        have Q3 := hid (q3.mono (show w16.heap.size ≤ U2.heap.size from huw))
        have V3 := hid v3
        have J3 := hid (u_cat J2.out b3)
        have Z8 := hid (kept Z8.out b3)
        clear o3 v3 q3 b3 huw hu3 I1 M1 CP1 I2 M2 CP2
        refine pln_pull ?_
        simp only [cutOut, List.take_succ_cons, List.take_zero, List.drop_succ_cons, List.drop_zero, List.append_nil]
        repeat (first | go_big_quiet_step (fail) | quiet_step (fail))
        try refine wpQuiet_nil ?_
        have BV := hid J3.out
        obtain ⟨VF, hVF⟩ : ∃ VF, VF = U3 := ⟨_, rfl⟩
        rw [← hVF] at Z8 O3 Q3 BV ⊢
      rotate_left
      focus
        refine pln_step rfl (by omega) (fun K hK => ?_)
        go_simp
        with_reducible refine (KT2.out U1 ((HBW.out.below J1.out))).mono ?_
        rintro _ U2 ⟨r5, f5, fs2, rfl, o2, s2, q2, b2⟩
        refine hK _ _ (class_of (u_cat J1.out b2)) ?_
        clear hK K
        have I1 := hid (I1.out.below b2)
        have I2 := hid (eqs_at o2 q2)
        have M2 := hid s2
        have CP2 := hid (show ∀ e ∈ fs2, e.a = none → e.c = 0 from fun e he => owns_cap (q2 e he))
        have J2 := hid (u_cat J1.out b2)
        clear o2 s2 q2 b2
        refine pln_fork ?_ ?_
        rotate_left
        focus
          refine pln_step rfl (by omega) (fun K hK => ?_)
          go_simp
          refine hK _ _ (class_of (u_cat J2.out (u_b1 _ _))) ?_
          clear hK K
          obtain ⟨g8, hg8⟩ : ∃ g8, g8 = U2.heap.size := ⟨_, rfl⟩
          obtain ⟨VA, hVA⟩ : ∃ VA, VA = U2.alloc (.cells #[.int .i64 0, .int .i64 0, .slice none 0 0] 29) := ⟨_, rfl⟩
          have bVA : Below U2.heap.size U2 VA := by rw [hVA]; exact u_b1 _ _
          have Z8 := hid (show VA.heap[g8]? = some (.cells #[.int .i64 0, .int .i64 0, .slice none 0 0] 29 (0, 0)) by rw [hVA, hg8]; exact laid U2 _ _)
          rw [← hVA, ← hg8]
          have hg8b : w16.heap.size ≤ g8 := by rw [hg8]; exact J2.out.size
          have JA := hid (u_cat J2.out bVA)
          have I1 := hid (I1.out.below bVA)
          have I2 := hid (I2.out.below bVA)
          clear hVA hg8 bVA
          refine pln_step rfl (by omega) (fun K hK => ?_)
          go_simp
          with_reducible refine (HIM.out r4 f4 fs1 r5 f5 fs2 VA I1.out M1.out (by rw [M1.out.len]; exact hs) (M1.out.symm.small HS.out) I2.out M2.out (by rw [M2.out.len]; exact hs') (M2.out.symm.small HS'.out) (HT.out.below ((B.out.trans (JA.out.mono hxb))))).mono ?_
          rintro _ U3 ⟨bh, dh, gh, rfl, o3, v3, q3, -, b3⟩
          have hu3 := b3.size
          refine hK _ _ (class_of (u_cat JA.out b3)) ?_
          clear hK K
          have huw := JA.out.size
          have O3 := hid (owns_base o3 (show w16.heap.size ≤ VA.heap.size from huw))
          have Q3 := hid (q3.mono (show w16.heap.size ≤ VA.heap.size from huw))
          have V3 := hid v3
          have J3 := hid (u_cat JA.out b3)
          have Z8 := hid (kept Z8.out b3)
          clear o3 v3 q3 b3 huw hu3 I1 M1 CP1 I2 M2 CP2
          refine pln_pull ?_
          simp only [cutOut, List.take_succ_cons, List.take_zero, List.drop_succ_cons, List.drop_zero, List.append_nil]
          repeat (first | go_big_quiet_step (fail) | quiet_step (fail))
          try refine wpQuiet_nil ?_
          have BV := hid J3.out
          obtain ⟨VF, hVF⟩ : ∃ VF, VF = U3 := ⟨_, rfl⟩
          rw [← hVF] at Z8 O3 Q3 BV ⊢
        rotate_left
        focus
          refine pln_step rfl (by omega) (fun K hK => ?_)
          go_simp
          with_reducible refine (HIM.out r4 f4 fs1 r5 f5 fs2 U2 I1.out M1.out (by rw [M1.out.len]; exact hs) (M1.out.symm.small HS.out) I2.out M2.out (by rw [M2.out.len]; exact hs') (M2.out.symm.small HS'.out) (HT.out.below ((B.out.trans (J2.out.mono hxb))))).mono ?_
          rintro _ U3 ⟨bh, dh, gh, rfl, o3, v3, q3, -, b3⟩
          have hu3 := b3.size
          refine hK _ _ (class_of (u_cat J2.out b3)) ?_
          clear hK K
          have huw := J2.out.size
          have O3 := hid (owns_base o3 (show w16.heap.size ≤ U2.heap.size from huw))
          have Q3 := hid (q3.mono (show w16.heap.size ≤ U2.heap.size from huw))
          have V3 := hid v3
          have J3 := hid (u_cat J2.out b3)
          clear o3 v3 q3 b3 huw hu3 I1 M1 CP1 I2 M2 CP2
          refine pln_pull ?_
          simp only [cutOut, List.take_succ_cons, List.take_zero, List.drop_succ_cons, List.drop_zero, List.append_nil]
          repeat (first | go_big_quiet_step (fail) | quiet_step (fail))
          try refine wpQuiet_nil ?_
          refine pln_step rfl (by omega) (fun K hK => ?_)
          go_simp
          refine hK _ _ (class_of (u_cat J3.out (u_b1 _ _))) ?_
          clear hK K
          obtain ⟨g8, hg8⟩ : ∃ g8, g8 = U3.heap.size := ⟨_, rfl⟩
          obtain ⟨VA, hVA⟩ : ∃ VA, VA = U3.alloc (.cells #[.int .i64 0, .int .i64 0, .slice none 0 0] 29) := ⟨_, rfl⟩
          have bVA : Below U3.heap.size U3 VA := by rw [hVA]; exact u_b1 _ _
          have Z8 := hid (show VA.heap[g8]? = some (.cells #[.int .i64 0, .int .i64 0, .slice none 0 0] 29 (0, 0)) by rw [hVA, hg8]; exact laid U3 _ _)
          rw [← hVA, ← hg8]
          have hg8b : w16.heap.size ≤ g8 := by rw [hg8]; exact J3.out.size
          have O3 := hid (owns_below O3.out bVA)
          have Q3 := hid (Q3.out.below bVA)
          have JA := hid (u_cat J3.out bVA)
          clear hVA hg8 bVA
          have BV := hid JA.out
          obtain ⟨VF, hVF⟩ : ∃ VF, VF = VA := ⟨_, rfl⟩
          rw [← hVF] at Z8 O3 Q3 BV ⊢
    all_goals
      clear hVF J0 J1 J2 J3 JA KT1 KT2 HAW HBW
      have t0 := box_cell Z8.out 0 (v := .int .i64 0) rfl
      have t1 := box_cell Z8.out 1 (v := .int .i64 0) rfl
      have t2 := box_cell Z8.out 2 (v := .slice none 0 0) rfl
      have tz := box_frozen Z8.out
      have tl := lt_of_block Z8.out
      refine pln_step rfl (by omega) (fun K hK => ?_)
      go_simp
      refine hK _ _ (class_of (u_set (u_set (u_set BV.out hg8b _ _) hg8b _ _) hg8b _ _)) ?_
      clear hK K
      refine pln_step rfl (by omega) (fun K hK => ?_)
      go_simp
      refine hK _ _ (class_of (u_set (u_set (u_set BV.out hg8b _ _) hg8b _ _) hg8b _ _)) ?_
      clear hK K
      refine pln_done ?_
      obtain ⟨V5, hV5⟩ : ∃ V5, V5 = ((VF.setCell ⟨g8, 0, none⟩ (.int .i64 cc)).setCell ⟨g8, 1, none⟩ (.int .i64 zz)).setCell ⟨g8, 2, none⟩ (.slice bh gh.length dh) := ⟨_, rfl⟩
      have Z5 := hid (show V5.heap[g8]? = some (.cells #[.int .i64 cc, .int .i64 zz, .slice bh gh.length dh] 29 (0, 0)) by rw [hV5]; exact set_block (set_block (set_block Z8.out 0 _) 1 _) 2 _)
      have BV5 := hid (show Below w16.heap.size w16 V5 by rw [hV5]; exact u_set (u_set (u_set BV.out hg8b _ _) hg8b _ _) hg8b _ _)
      have O5 := hid (show V5.ownsRow w16.heap.size 53 2 (.slice bh gh.length dh) gh.length (eqCells gh) by
        rw [hV5]
        exact own_set_kind (set_block (set_block Z8.out 0 (.int .i64 cc)) 1 (.int .i64 zz)) (own_set_kind (set_block Z8.out 0 (.int .i64 cc)) (own_set_kind Z8.out O3.out (by decide)) (by decide)) (by decide))
      have R5 := hid (show RowsOwn V5 w16.heap.size gh from fun f hf => by
        rw [hV5]
        exact own_set_kind (set_block (set_block Z8.out 0 (.int .i64 cc)) 1 (.int .i64 zz)) (own_set_kind (set_block Z8.out 0 (.int .i64 cc)) (own_set_kind Z8.out (Q3.out f hf) (by decide)) (by decide)) (by decide))
      rw [← hV5]
      clear hV5 t0 t1 t2 tz tl Z8 BV O3 Q3
      have hghl : gh.length ≤ 1048576 := by rw [vals_len V3.out]; exact hvl
      have SMH := hid (vals_small V3.out HVK.out)
      have SH := hid (vals_same.1 (V3.out.trans V0'.out.symm))
      have Yh := hid Z5.out
      have Eh := hid (eqs_at O5.out R5.out)
      have X := hid (kept X.out BV5.out)
      have Xb := hid (kept Xb.out BV5.out)
      have B := hid (u_cat B.out BV5.out)
      have Y0 := hid (kept Y0.out BV5.out)
      have O0 := hid (owns_below O0.out BV5.out)
      have Q0 := hid (Q0.out.below BV5.out)
      have Yg := hid (kept Yg.out BV5.out)
      have Eg := hid (Eg.out.below BV5.out)
      have s0 := box_cell Yh.out 0 (v := .int .i64 cc) rfl
      have s1 := box_cell Yh.out 1 (v := .int .i64 zz) rfl
      have s2 := box_cell Yh.out 2 (v := .slice bh gh.length dh) rfl
      have u0 := box_cell Y0.out 0 (v := .int .i64 cc) rfl
      have u1 := box_cell Y0.out 1 (v := .int .i64 zz) rfl
      have u2 := box_cell Y0.out 2 (v := .slice b0 gs0.length d0) rfl
      go_wp2_with fail
      refine (eqSolver_same bh b0 dh d0 gh gs0 cc zz _ Eh.out (eqs_at O0.out Q0.out) SH.out hghl SMH.out).mono ?_
      rintro e w20 ⟨rfl, b20⟩
      have B := hid (u_cat B.out b20)
      have Yg := hid (kept Yg.out b20)
      have Eg := hid (Eg.out.below b20)
      clear b20 s0 s1 s2 u0 u1 u2 Yh Eh
      have s0 := box_cell Yg.out 0 (v := .int .i64 cc) rfl
      have s1 := box_cell Yg.out 1 (v := .int .i64 zz) rfl
      have s2 := box_cell Yg.out 2 (v := .slice bg gg.length dg) rfl
      go_wp2_with fail
      refine (KH.out w20 Eg.out).mono ?_
      rintro e w21 ⟨rfl, b21⟩
      have B := hid (u_cat B.out b21)
      clear b21 s0 s1 s2
      go_wp2_with fail
      go_ret
      exact ⟨rfl, B.out⟩
end Go.Proofs.YtpdaobiaekamoaaDoor
