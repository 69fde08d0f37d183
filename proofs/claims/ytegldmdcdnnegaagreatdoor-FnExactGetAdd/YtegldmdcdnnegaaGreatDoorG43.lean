/- The walk of the law FnExactGetAdd. -/
import Derived.Test.YtegldmdcdnnegaaGreatDoorG33
import Derived.Test.YtegldmdcdnnegaaGreatDoorG41
import Derived.Test.YtegldmdcdnnegaaGreatDoorG42
namespace Go.Proofs.YtegldmdcdnnegaaGreatDoor
open Go.ChangeShapes Go.WideShapes Go.ChangeAt Go.RowKit Go.Sort Go.Shelf
attribute [local go_sem] Oper.semAt_some

theorem vals_smallG {gs : List EqV} {vs : List Vl} (h : valsE gs = vs) (hv : ∀ k ∈ vs, k.1.length ≤ 1048576 ∧ k.2.size ≤ 1048576) : SmallE gs := fun g hg => hv (g.r, g.d) (by rw [← h]; exact List.mem_map_of_mem hg)
theorem getOwn_cap {w : World} {base : Nat} {ws gs : List Int} {b1 b2 : Option Addr} {d1 d2 : Nat} {a : Option Addr} {c : Nat} {fs : List EqV} (h : GetOwn w base ws gs b1 b2 d1 d2 a c fs) : ∀ e ∈ fs, e.a = none → e.c = 0 := by
  obtain ⟨n, _, _, _, _, h2⟩ := h.up
  exact fun e he => owns_cap (h2 e he)

set_option maxHeartbeats 32000000 in
set_option maxRecDepth 100000 in
theorem getAdd_of (L S : Int) (a1 a2 : Option Addr) (c1 c2 : Nat) (ws gs : List Int) (C Z : Int) (a : Option Addr) (cap : Nat) (es : List EqV) (id : Int) (data : ByteArray) (LL SS CC ZZ : Int) (WW GG : List Int) (vs : List Vl) (code : Int) (w : World) (hA : GAt w a1 a2 a ws gs es) (hx : ws.length ≤ 9223372036854775807) (hy : gs.length ≤ 9223372036854775807) (hn : es.length ≤ 9223372036854775807) (hL : LongE es) (hdl : data.size ≤ 1048576) (hT : Tab w) (hE : ErrT w)
    (hvk : ws.length + gs.length ≤ 1048576 → es.length ≤ 1048576 → SmallE es → WW.length ≤ 1048576 ∧ GG.length ≤ 1048576 ∧ vs.length ≤ 1048576 ∧ ∀ k ∈ vs, k.1.length ≤ 1048576 ∧ k.2.size ≤ 1048576)
    (hsp : ∀ p1 f1 p2 f2 a c' fs w, GAt w p1 p2 a ws gs fs → SamV fs es → ws.length + gs.length ≤ 1048576 → fs.length ≤ 1048576 → SmallE fs → (∀ e ∈ fs, e.a = none → e.c = 0) → Calls Tryz.prog 5 #[.agg #[.int .i64 L, .int .i64 S, .slice p1 ws.length f1, .slice p2 gs.length f2, .int .i64 C, .int .i64 Z, .slice a fs.length c'], .int .i64 id, .string data] w fun e w' => GAddO w' w.heap.size LL SS CC ZZ WW GG vs code false e ∧ Below w.heap.size w w')
    (him : ∀ p1 f1 p2 f2 a c' fs w, GAt w p1 p2 a ws gs fs → SamV fs es → ws.length + gs.length ≤ 1048576 → fs.length ≤ 1048576 → SmallE fs → Tab w → ErrT w → Calls Tryz.prog 7 #[.agg #[.int .i64 L, .int .i64 S, .slice p1 ws.length f1, .slice p2 gs.length f2, .int .i64 C, .int .i64 Z, .slice a fs.length c'], .int .i64 id, .string data] w fun e w' => GAddO w' w.heap.size LL SS CC ZZ WW GG vs code true e ∧ Below w.heap.size w w') :
    Calls Tryz.prog 3 #[.agg #[.int .i64 L, .int .i64 S, .slice a1 ws.length c1, .slice a2 gs.length c2, .int .i64 C, .int .i64 Z, .slice a es.length cap], .int .i64 id, .string data] w fun e w' => e = .returned (.bool true) ∧ Below w.heap.size w w' := by
  have HA := hid hA
  have HT := hid hT
  have HE := hid hE
  have HSP := hid hsp
  have HIM := hid him
  have HVK := hid hvk
  have hd' : decide ((1048576 : Int) < (data.size : Int)) = false := decide_eq_false (by omega)
  clear hA hT hE hsp him hvk
  go_enter Tryz.func3, Tryz.ntmps3
  go_wp2_with fail
  refine (szGetting_ex L S a1 a2 ws.length c1 gs.length c2 C Z a cap es _ hx hy ((HA.out.below (u_b1 _ _)).eq) hn hL).mono ?_
  rintro e w1 ⟨v, rfl, hv, b1⟩
  have X := hid (kept (laid w #[.int .i64 L, .int .i64 S, .slice a1 ws.length c1, .slice a2 gs.length c2, .int .i64 C, .int .i64 Z, .slice a es.length cap] 29) b1)
  have B := hid (u_cat (u_b1 _ _) b1)
  have HV := hid hv
  clear b1 hv
  by_cases hv0 : v < 0
  · go_wp2_with fail
    go_ret
    exact ⟨rfl, B.out⟩
  obtain ⟨⟨hpl, hs, hsm⟩, -, -⟩ := HV.out.resolve_left hv0
  obtain ⟨hwl, hgl, hvl, hvk⟩ := HVK.out hpl hs hsm
  have hxl : ws.length ≤ 1048576 := by omega
  have hyl : gs.length ≤ 1048576 := by omega
  have HS := hid hsm
  have HVL := hid hvk
  have hvv : ¬ (v < 0) := hv0
  clear hsm HV HVK hvk hv0
  have p0 := box_cell X.out 0 (v := .int .i64 L) rfl
  have p1 := box_cell X.out 1 (v := .int .i64 S) rfl
  have p2 := box_cell X.out 2 (v := .slice a1 ws.length c1) rfl
  have p3 := box_cell X.out 3 (v := .slice a2 gs.length c2) rfl
  have p4 := box_cell X.out 4 (v := .int .i64 C) rfl
  have p5 := box_cell X.out 5 (v := .int .i64 Z) rfl
  have p6 := box_cell X.out 6 (v := .slice a es.length cap) rfl
  go_wp2_with fail
  refine (toGetting_ap L S a1 a2 c1 c2 ws gs C Z a cap es _ (HA.out.below B.out).i1 (HA.out.below B.out).i2 hxl hyl (HA.out.below B.out).eq hs HS.out).mono ?_
  rintro e w2 ⟨q1, g1, q2, g2, q3, g3, fs, rfl, o2, s2, -, b2⟩
  have X := hid (kept X.out b2)
  have B := hid (u_cat B.out b2)
  have M1 := hid s2
  have O1 := hid o2
  clear b2 o2 s2 p0 p1 p2 p3 p4 p5 p6
  go_wp2_with fail
  refine (HSP.out q1 g1 q2 g2 q3 g3 fs _ O1.out.at' M1.out hpl (by rw [M1.out.len]; exact hs) (M1.out.symm.small HS.out) (getOwn_cap O1.out)).mono ?_
  rintro e w3 ⟨⟨p1, e1, p2, e2, p3, e3, gs0, rfl, o0, v0, -⟩, b3⟩
  have hxw := lt_of_block (kept X.out b3)
  have I0 := hid o0.in'
  obtain ⟨W3, hW3⟩ : ∃ W, W = w3.alloc (.cells #[.int .i64 LL, .int .i64 SS, .slice p1 WW.length e1, .slice p2 GG.length e2, .int .i64 CC, .int .i64 ZZ, .slice p3 gs0.length e3] 36) := ⟨_, rfl⟩
  have bb : Below w3.heap.size w3 W3 := by rw [hW3]; exact u_b1 _ _
  have hzW3 : w3.heap.size + 1 ≤ W3.heap.size := by rw [hW3]; simp
  have Y0 := hid (show W3.heap[w3.heap.size]? = some (.cells #[.int .i64 LL, .int .i64 SS, .slice p1 WW.length e1, .slice p2 GG.length e2, .int .i64 CC, .int .i64 ZZ, .slice p3 gs0.length e3] 36 (0, 0)) by rw [hW3]; exact laid w3 _ _)
  have X := hid (kept X.out b3)
  have B := hid (u_cat B.out b3)
  have X := hid (kept X.out bb)
  have B := hid (u_cat B.out bb)
  have G0 := hid (o0.below bb)
  have V0 := hid v0
  have hgl0 : gs0.length ≤ 1048576 := by rw [vals_len v0]; exact hvl
  clear b3 bb o0 v0 M1 O1
  repeat ((fail_if_success (with_reducible show Code.wp _ (Code.region 8 _ _) _ _ _)); (first | go_values | go_skip | go_guarded | go_step | go_upon | go_back | go_simp))
  rw [← hW3]
  clear hW3
  have p0 := box_cell X.out 0 (v := .int .i64 L) rfl
  have p1 := box_cell X.out 1 (v := .int .i64 S) rfl
  have p2 := box_cell X.out 2 (v := .slice a1 ws.length c1) rfl
  have p3 := box_cell X.out 3 (v := .slice a2 gs.length c2) rfl
  have p4 := box_cell X.out 4 (v := .int .i64 C) rfl
  have p5 := box_cell X.out 5 (v := .int .i64 Z) rfl
  have p6 := box_cell X.out 6 (v := .slice a es.length cap) rfl
  go_wp2_with fail
  refine (toGetting_ap L S a1 a2 c1 c2 ws gs C Z a cap es _ (HA.out.below B.out).i1 (HA.out.below B.out).i2 hxl hyl (HA.out.below B.out).eq hs HS.out).mono ?_
  rintro e w4 ⟨q1, g1, q2, g2, q3, g3, gx, rfl, o4, s4, ap4, b4⟩
  have hz4 := b4.size
  have Ix := hid o4.in'
  obtain ⟨W4, hW4⟩ : ∃ W, W = w4.alloc (.cells #[.int .i64 L, .int .i64 S, .slice q1 ws.length g1, .slice q2 gs.length g2, .int .i64 C, .int .i64 Z, .slice q3 gx.length g3] 36) := ⟨_, rfl⟩
  have bb : Below w4.heap.size w4 W4 := by rw [hW4]; exact u_b1 _ _
  have hzW4 : w4.heap.size + 1 ≤ W4.heap.size := by rw [hW4]; simp
  have Yx := hid (show W4.heap[w4.heap.size]? = some (.cells #[.int .i64 L, .int .i64 S, .slice q1 ws.length g1, .slice q2 gs.length g2, .int .i64 C, .int .i64 Z, .slice q3 gx.length g3] 36 (0, 0)) by rw [hW4]; exact laid w4 _ _)
  have b4' := u_cat b4 bb
  have X := hid (kept X.out b4')
  have B := hid (u_cat B.out b4')
  have Y0 := hid (kept Y0.out b4')
  have G0 := hid (G0.out.below b4')
  have Gx := hid (o4.below bb)
  have APx := hid ap4
  have M2 := hid s4
  clear b4 b4' o4 s4 ap4 bb p0 p1 p2 p3 p4 p5 p6
  repeat ((fail_if_success (with_reducible show Code.wp _ (Code.region 9 _ _) _ _ _)); (first | go_values | go_skip | go_guarded | go_step | go_upon | go_back | go_simp))
  rw [← hW4]
  clear hW4
  have s0 := box_cell Yx.out 0 (v := .int .i64 L) rfl
  have s1 := box_cell Yx.out 1 (v := .int .i64 S) rfl
  have s2 := box_cell Yx.out 2 (v := .slice q1 ws.length g1) rfl
  have s3 := box_cell Yx.out 3 (v := .slice q2 gs.length g2) rfl
  have s4 := box_cell Yx.out 4 (v := .int .i64 C) rfl
  have s5 := box_cell Yx.out 5 (v := .int .i64 Z) rfl
  have s6 := box_cell Yx.out 6 (v := .slice q3 gx.length g3) rfl
  go_wp2_with fail
  refine (HIM.out q1 g1 q2 g2 q3 g3 gx _ Gx.out.at' M2.out hpl (by rw [M2.out.len]; exact hs) (M2.out.symm.small HS.out) (HT.out.below B.out) (HE.out.below B.out)).mono ?_
  rintro e w6 ⟨⟨r1, f1, r2, f2, r3, f3, gg, rfl, o6, v6, ap6⟩, b6⟩
  have hz6 := b6.size
  have Ig := hid o6.in'
  obtain ⟨W6, hW6⟩ : ∃ W, W = w6.alloc (.cells #[.int .i64 LL, .int .i64 SS, .slice r1 WW.length f1, .slice r2 GG.length f2, .int .i64 CC, .int .i64 ZZ, .slice r3 gg.length f3] 36) := ⟨_, rfl⟩
  have bb : Below w6.heap.size w6 W6 := by rw [hW6]; exact u_b1 _ _
  have hzW6 : w6.heap.size + 1 ≤ W6.heap.size := by rw [hW6]; simp
  have Yg := hid (show W6.heap[w6.heap.size]? = some (.cells #[.int .i64 LL, .int .i64 SS, .slice r1 WW.length f1, .slice r2 GG.length f2, .int .i64 CC, .int .i64 ZZ, .slice r3 gg.length f3] 36 (0, 0)) by rw [hW6]; exact laid w6 _ _)
  have b6' := u_cat b6 bb
  have X := hid (kept X.out b6')
  have B := hid (u_cat B.out b6')
  have Y0 := hid (kept Y0.out b6')
  have G0 := hid (G0.out.below b6')
  have Yx := hid (kept Yx.out b6')
  have Gx := hid (Gx.out.below b6')
  have Gg := hid (o6.below bb)
  have APg := hid (ap6 rfl)
  have SG := hid (vals_same.1 (v6.trans V0.out.symm))
  have hggl : gg.length ≤ 1048576 := by rw [vals_len v6]; exact hvl
  have SMG := hid (vals_smallG v6 HVL.out)
  clear b6 b6' o6 v6 ap6 bb s0 s1 s2 s3 s4 s5 s6
  repeat ((fail_if_success (with_reducible show Code.wp _ (Code.region 10 _ _) _ _ _)); (first | go_values | go_skip | go_guarded | go_step | go_upon | go_back | go_simp))
  rw [← hW6]
  clear hW6
  have s0 := box_cell Yg.out 0 (v := .int .i64 LL) rfl
  have s1 := box_cell Yg.out 1 (v := .int .i64 SS) rfl
  have s2 := box_cell Yg.out 2 (v := .slice r1 WW.length f1) rfl
  have s3 := box_cell Yg.out 3 (v := .slice r2 GG.length f2) rfl
  have s4 := box_cell Yg.out 4 (v := .int .i64 CC) rfl
  have s5 := box_cell Yg.out 5 (v := .int .i64 ZZ) rfl
  have s6 := box_cell Yg.out 6 (v := .slice r3 gg.length f3) rfl
  have u0 := box_cell Y0.out 0 (v := .int .i64 LL) rfl
  have u1 := box_cell Y0.out 1 (v := .int .i64 SS) rfl
  have u2 := box_cell Y0.out 2 (v := .slice p1 WW.length e1) rfl
  have u3 := box_cell Y0.out 3 (v := .slice p2 GG.length e2) rfl
  have u4 := box_cell Y0.out 4 (v := .int .i64 CC) rfl
  have u5 := box_cell Y0.out 5 (v := .int .i64 ZZ) rfl
  have u6 := box_cell Y0.out 6 (v := .slice p3 gs0.length e3) rfl
  go_wp2_with fail
  refine (eqGetting_eq LL SS r1 r2 f1 f2 p1 p2 e1 e2 WW GG CC ZZ r3 p3 f3 e3 gg gs0 _ Gg.out.at'.i1 Gg.out.at'.i2 G0.out.at'.i1 G0.out.at'.i2 hwl hgl Gg.out.at'.eq G0.out.at'.eq SG.out hggl SMG.out).mono ?_
  rintro e w7 ⟨rfl, b7⟩
  have hz7 := b7.size
  have X := hid (kept X.out b7)
  have B := hid (u_cat B.out b7)
  have Y0 := hid (kept Y0.out b7)
  have G0 := hid (G0.out.below b7)
  have Yx := hid (kept Yx.out b7)
  have Gx := hid (Gx.out.below b7)
  have Yg := hid (kept Yg.out b7)
  have Gg := hid (Gg.out.below b7)
  clear b7 s0 s1 s2 s3 s4 s5 s6 u0 u1 u2 u3 u4 u5 u6
  have hcc : (code != code) = false := by simp
  go_wp2_with fail
  have p0 := cell_regrown (box_cell X.out 0 (v := .int .i64 L) rfl)
  have p1 := cell_regrown (box_cell X.out 1 (v := .int .i64 S) rfl)
  have p2 := cell_regrown (box_cell X.out 2 (v := .slice a1 ws.length c1) rfl)
  have p3 := cell_regrown (box_cell X.out 3 (v := .slice a2 gs.length c2) rfl)
  have p4 := cell_regrown (box_cell X.out 4 (v := .int .i64 C) rfl)
  have p5 := cell_regrown (box_cell X.out 5 (v := .int .i64 Z) rfl)
  have p6 := cell_regrown (box_cell X.out 6 (v := .slice a es.length cap) rfl)
  have s0 := cell_regrown (box_cell Yx.out 0 (v := .int .i64 L) rfl)
  have s1 := cell_regrown (box_cell Yx.out 1 (v := .int .i64 S) rfl)
  have s2 := cell_regrown (box_cell Yx.out 2 (v := .slice q1 ws.length g1) rfl)
  have s3 := cell_regrown (box_cell Yx.out 3 (v := .slice q2 gs.length g2) rfl)
  have s4 := cell_regrown (box_cell Yx.out 4 (v := .int .i64 C) rfl)
  have s5 := cell_regrown (box_cell Yx.out 5 (v := .int .i64 Z) rfl)
  have s6 := cell_regrown (box_cell Yx.out 6 (v := .slice q3 gx.length g3) rfl)
  refine wp_plan 5 (.pull [(0, 2)] (.step 2 (.step 3 (.pull [(4, 1)] .done)))) (by kernel_rfl) (by kernel_rfl) ?_
  intro V0' hw0
  have hbq := of_class hw0
  refine pln_pull ?_
  simp only [cutOut, List.take_succ_cons, List.take_zero, List.drop_zero, List.append_nil]
  repeat (first | go_big_quiet_step (fail) | quiet_step (fail))
  try refine wpQuiet_nil ?_
  clear p0 p1 p2 p3 p4 p5 p6 s0 s1 s2 s3 s4 s5 s6 hw0
  have X := hid (kept X.out hbq)
  have B := hid (u_cat B.out hbq)
  have Y0 := hid (kept Y0.out hbq)
  have G0 := hid (G0.out.below hbq)
  have Yx := hid (kept Yx.out hbq)
  have Gx := hid (Gx.out.below hbq)
  have Yg := hid (kept Yg.out hbq)
  have Gg := hid (Gg.out.below hbq)
  have hz7' := hbq.size
  refine pln_step rfl (by omega) (fun K hK => ?_)
  go_simp
  with_reducible refine (toGetting_ap L S a1 a2 c1 c2 ws gs C Z a cap es V0' (HA.out.below B.out).i1 (HA.out.below B.out).i2 hxl hyl (HA.out.below B.out).eq hs HS.out).mono ?_
  rintro _ V1 ⟨t1, h1, t2, h2, t3, h3, ks, rfl, o8, s8, -, b8⟩
  have hcl := u_cat hbq b8
  refine hK _ _ (class_of hcl) ?_
  clear hK K hbq
  have X := hid (kept X.out b8)
  have B := hid (u_cat B.out b8)
  have Y0 := hid (kept Y0.out b8)
  have G0 := hid (G0.out.below b8)
  have Yx := hid (kept Yx.out b8)
  have Gx := hid (Gx.out.below b8)
  have Yg := hid (kept Yg.out b8)
  have Gg := hid (Gg.out.below b8)
  have hz8 := b8.size
  have M3 := hid s8
  have O8 := hid o8
  clear o8 s8 b8
  refine pln_step rfl (by omega) (fun K hK => ?_)
  go_simp
  with_reducible refine (eqGetting_eq L S q1 q2 g1 g2 t1 t2 h1 h2 ws gs C Z q3 t3 g3 h3 gx ks V1 Gx.out.at'.i1 Gx.out.at'.i2 O8.out.at'.i1 O8.out.at'.i2 hxl hyl Gx.out.at'.eq O8.out.at'.eq (M2.out.trans M3.out.symm) (by rw [M2.out.len]; exact hs) (M2.out.symm.small HS.out)).mono ?_
  rintro _ w10 ⟨rfl, b10⟩
  refine hK _ _ (class_of (u_cat hcl b10)) ?_
  clear hK K hcl O8
  have X := hid (kept X.out b10)
  have B := hid (u_cat B.out b10)
  have Y0 := hid (kept Y0.out b10)
  have G0 := hid (G0.out.below b10)
  have Yx := hid (kept Yx.out b10)
  have Gx := hid (Gx.out.below b10)
  have Yg := hid (kept Yg.out b10)
  have Gg := hid (Gg.out.below b10)
  have hz10 := b10.size
  clear b10
  refine pln_pull ?_
  simp only [cutOut, List.take_succ_cons, List.take_zero, List.drop_succ_cons, List.drop_zero, List.append_nil]
  repeat (first | go_big_quiet_step (fail) | quiet_step (fail))
  try refine wpQuiet_nil ?_
  refine pln_done ?_
  have s0 := box_cell Yx.out 0 (v := .int .i64 L) rfl
  have s1 := box_cell Yx.out 1 (v := .int .i64 S) rfl
  have s2 := box_cell Yx.out 2 (v := .slice q1 ws.length g1) rfl
  have s3 := box_cell Yx.out 3 (v := .slice q2 gs.length g2) rfl
  have s4 := box_cell Yx.out 4 (v := .int .i64 C) rfl
  have s5 := box_cell Yx.out 5 (v := .int .i64 Z) rfl
  have s6 := box_cell Yx.out 6 (v := .slice q3 gx.length g3) rfl
  go_wp2_with fail
  refine (markGetting_at W3.heap.size L S C Z ws gs q1 q2 q3 g1 g2 g3 gx 1 _ Gx.out APx.out (by omega) hxl hyl (by rw [M2.out.len]; exact hs) (fun f hf => (M2.out.symm.small HS.out f hf).1) (by omega) (by omega)).mono ?_
  rintro e w12 ⟨rfl, -, k12, b12⟩
  have KO := hid (k12 _ _ Ix.out)
  have hz12 := b12.size
  have X := hid (KO.out.blk X.out (by omega))
  have Y0 := hid (KO.out.blk Y0.out (by omega))
  have Yg := hid (KO.out.blk Yg.out (by omega))
  have G0 := hid (G0.out.keep I0.out KO.out (by omega))
  have Gg := hid (Gg.out.keep Ig.out KO.out (by omega))
  have B := hid (B.out.trans (b12.mono (by omega)))
  have hct := cntE_le (fs := gx) (fun f hf => (M2.out.symm.small HS.out f hf).1)
  have hgxl : gx.length ≤ 1048576 := by rw [M2.out.len]; exact hs
  obtain ⟨K1, hK1⟩ : ∃ K1 : Nat, K1 = 1 + ws.length + gs.length + cntE gx := ⟨_, rfl⟩
  have hK1b : ¬ ((K1 : Int) < 0) := by omega
  rw [← hK1]
  clear s0 s1 s2 s3 s4 s5 s6 b12 k12 KO Yx Gx hK1 hct hgxl
  have s0 := box_cell Yg.out 0 (v := .int .i64 LL) rfl
  have s1 := box_cell Yg.out 1 (v := .int .i64 SS) rfl
  have s2 := box_cell Yg.out 2 (v := .slice r1 WW.length f1) rfl
  have s3 := box_cell Yg.out 3 (v := .slice r2 GG.length f2) rfl
  have s4 := box_cell Yg.out 4 (v := .int .i64 CC) rfl
  have s5 := box_cell Yg.out 5 (v := .int .i64 ZZ) rfl
  have s6 := box_cell Yg.out 6 (v := .slice r3 gg.length f3) rfl
  have u0 := box_cell Y0.out 0 (v := .int .i64 LL) rfl
  have u1 := box_cell Y0.out 1 (v := .int .i64 SS) rfl
  have u2 := box_cell Y0.out 2 (v := .slice p1 WW.length e1) rfl
  have u3 := box_cell Y0.out 3 (v := .slice p2 GG.length e2) rfl
  have u4 := box_cell Y0.out 4 (v := .int .i64 CC) rfl
  have u5 := box_cell Y0.out 5 (v := .int .i64 ZZ) rfl
  have u6 := box_cell Y0.out 6 (v := .slice p3 gs0.length e3) rfl
  go_wp2_with fail
  refine (eqGetting_eq LL SS r1 r2 f1 f2 p1 p2 e1 e2 WW GG CC ZZ r3 p3 f3 e3 gg gs0 _ Gg.out.at'.i1 Gg.out.at'.i2 G0.out.at'.i1 G0.out.at'.i2 hwl hgl Gg.out.at'.eq G0.out.at'.eq SG.out hggl SMG.out).mono ?_
  rintro e w14 ⟨rfl, b14⟩
  have hz14 := b14.size
  have X := hid (kept X.out b14)
  have B := hid (u_cat B.out b14)
  have Y0 := hid (kept Y0.out b14)
  have G0 := hid (G0.out.below b14)
  have Yg := hid (kept Yg.out b14)
  have Gg := hid (Gg.out.below b14)
  clear b14 s0 s1 s2 s3 s4 s5 s6 u0 u1 u2 u3 u4 u5 u6
  have s0 := box_cell Yg.out 0 (v := .int .i64 LL) rfl
  have s1 := box_cell Yg.out 1 (v := .int .i64 SS) rfl
  have s2 := box_cell Yg.out 2 (v := .slice r1 WW.length f1) rfl
  have s3 := box_cell Yg.out 3 (v := .slice r2 GG.length f2) rfl
  have s4 := box_cell Yg.out 4 (v := .int .i64 CC) rfl
  have s5 := box_cell Yg.out 5 (v := .int .i64 ZZ) rfl
  have s6 := box_cell Yg.out 6 (v := .slice r3 gg.length f3) rfl
  go_wp2_with fail
  refine (markGetting_at W4.heap.size LL SS CC ZZ WW GG r1 r2 r3 f1 f2 f3 gg 1 _ Gg.out APg.out (by omega) hwl hgl hggl (fun f hf => (SMG.out f hf).1) (by omega) (by omega)).mono ?_
  rintro e w15 ⟨rfl, m15, k15, b15⟩
  have KO := hid (k15 _ _ Ig.out)
  have hz15 := b15.size
  have MG := hid m15
  have X := hid (KO.out.blk X.out (by omega))
  have Y0 := hid (KO.out.blk Y0.out (by omega))
  have Yg := hid (KO.out.blk Yg.out (by omega))
  have G0 := hid (G0.out.keep I0.out KO.out (by omega))
  have B := hid (B.out.trans (b15.mono (by omega)))
  have hct := cntE_le (fs := gg) (fun f hf => (SMG.out f hf).1)
  obtain ⟨K2, hK2⟩ : ∃ K2 : Nat, K2 = 1 + WW.length + GG.length + cntE gg := ⟨_, rfl⟩
  have KH := hid (fun W (h : GMk W 1 r1 r2 r3 WW.length GG.length gg) => heldGetting_at LL SS CC ZZ r1 r2 r3 WW.length GG.length f1 f2 f3 gg 1 W h hwl hgl hggl (fun f hf => (SMG.out f hf).1) (by omega) (by omega))
  have hK2b : ¬ ((K2 : Int) < 0) := by omega
  rw [← hK2] at KH ⊢
  have hkk : ((K2 : Int) != (K2 : Int)) = false := by simp
  clear s0 s1 s2 s3 s4 s5 s6 b15 k15 m15 KO Gg hK2 hct
  have s0 := box_cell Yg.out 0 (v := .int .i64 LL) rfl
  have s1 := box_cell Yg.out 1 (v := .int .i64 SS) rfl
  have s2 := box_cell Yg.out 2 (v := .slice r1 WW.length f1) rfl
  have s3 := box_cell Yg.out 3 (v := .slice r2 GG.length f2) rfl
  have s4 := box_cell Yg.out 4 (v := .int .i64 CC) rfl
  have s5 := box_cell Yg.out 5 (v := .int .i64 ZZ) rfl
  have s6 := box_cell Yg.out 6 (v := .slice r3 gg.length f3) rfl
  go_wp2_with fail
  refine (KH.out _ MG.out).mono ?_
  rintro e w16 ⟨rfl, b16⟩
  have hz16 := b16.size
  have X := hid (kept X.out b16)
  have B := hid (u_cat B.out b16)
  have Y0 := hid (kept Y0.out b16)
  have G0 := hid (G0.out.below b16)
  have Yg := hid (kept Yg.out b16)
  have MG := hid (MG.out.below b16)
  clear b16 s0 s1 s2 s3 s4 s5 s6
  have p0 := box_cell X.out 0 (v := .int .i64 L) rfl
  have p1 := box_cell X.out 1 (v := .int .i64 S) rfl
  have p2 := box_cell X.out 2 (v := .slice a1 ws.length c1) rfl
  have p3 := box_cell X.out 3 (v := .slice a2 gs.length c2) rfl
  have p4 := box_cell X.out 4 (v := .int .i64 C) rfl
  have p5 := box_cell X.out 5 (v := .int .i64 Z) rfl
  have p6 := box_cell X.out 6 (v := .slice a es.length cap) rfl
  go_wp2_with fail
  refine (toGetting_ap L S a1 a2 c1 c2 ws gs C Z a cap es _ (HA.out.below B.out).i1 (HA.out.below B.out).i2 hxl hyl (HA.out.below B.out).eq hs HS.out).mono ?_
  rintro e w17 ⟨q1, g1, q2, g2, q3, g3, gz, rfl, o17, s17, -, b17⟩
  have X := hid (kept X.out b17)
  have B := hid (u_cat B.out b17)
  have Y0 := hid (kept Y0.out b17)
  have G0 := hid (G0.out.below b17)
  have Yg := hid (kept Yg.out b17)
  have MG := hid (MG.out.below b17)
  have M4 := hid s17
  have O17 := hid o17
  clear b17 o17 s17 p0 p1 p2 p3 p4 p5 p6
  go_wp2_with fail
  refine (HIM.out q1 g1 q2 g2 q3 g3 gz _ O17.out.at' M4.out hpl (by rw [M4.out.len]; exact hs) (M4.out.symm.small HS.out) (HT.out.below B.out) (HE.out.below B.out)).mono ?_
  rintro e w18 ⟨⟨r1', f1', r2', f2', r3', f3', gz', rfl, o18, v18, -⟩, b18⟩
  obtain ⟨W18, hW18⟩ : ∃ W, W = w18.alloc (.cells #[.int .i64 LL, .int .i64 SS, .slice r1' WW.length f1', .slice r2' GG.length f2', .int .i64 CC, .int .i64 ZZ, .slice r3' gz'.length f3'] 36) := ⟨_, rfl⟩
  have bb : Below w18.heap.size w18 W18 := by rw [hW18]; exact u_b1 _ _
  have hzW18 : w18.heap.size + 1 ≤ W18.heap.size := by rw [hW18]; simp
  have Yz := hid (show W18.heap[w18.heap.size]? = some (.cells #[.int .i64 LL, .int .i64 SS, .slice r1' WW.length f1', .slice r2' GG.length f2', .int .i64 CC, .int .i64 ZZ, .slice r3' gz'.length f3'] 36 (0, 0)) by rw [hW18]; exact laid w18 _ _)
  have b18' := u_cat b18 bb
  have B := hid (u_cat B.out b18')
  have Y0 := hid (kept Y0.out b18')
  have G0 := hid (G0.out.below b18')
  have Yg := hid (kept Yg.out b18')
  have MG := hid (MG.out.below b18')
  have Gz := hid (o18.below bb)
  have SZ := hid (vals_same.1 (v18.trans V0.out.symm))
  have hgzl : gz'.length ≤ 1048576 := by rw [vals_len v18]; exact hvl
  have SMZ := hid (vals_smallG v18 HVL.out)
  clear b18 b18' o18 v18 bb M4 O17
  repeat ((fail_if_success (with_reducible show Code.wp _ (Code.region 27 _ _) _ _ _)); (first | go_values | go_skip | go_guarded | go_step | go_upon | go_back | go_simp))
  rw [← hW18]
  clear hW18
  have s0 := box_cell Yz.out 0 (v := .int .i64 LL) rfl
  have s1 := box_cell Yz.out 1 (v := .int .i64 SS) rfl
  have s2 := box_cell Yz.out 2 (v := .slice r1' WW.length f1') rfl
  have s3 := box_cell Yz.out 3 (v := .slice r2' GG.length f2') rfl
  have s4 := box_cell Yz.out 4 (v := .int .i64 CC) rfl
  have s5 := box_cell Yz.out 5 (v := .int .i64 ZZ) rfl
  have s6 := box_cell Yz.out 6 (v := .slice r3' gz'.length f3') rfl
  have u0 := box_cell Y0.out 0 (v := .int .i64 LL) rfl
  have u1 := box_cell Y0.out 1 (v := .int .i64 SS) rfl
  have u2 := box_cell Y0.out 2 (v := .slice p1 WW.length e1) rfl
  have u3 := box_cell Y0.out 3 (v := .slice p2 GG.length e2) rfl
  have u4 := box_cell Y0.out 4 (v := .int .i64 CC) rfl
  have u5 := box_cell Y0.out 5 (v := .int .i64 ZZ) rfl
  have u6 := box_cell Y0.out 6 (v := .slice p3 gs0.length e3) rfl
  go_wp2_with fail
  refine (eqGetting_eq LL SS r1' r2' f1' f2' p1 p2 e1 e2 WW GG CC ZZ r3' p3 f3' e3 gz' gs0 _ Gz.out.at'.i1 Gz.out.at'.i2 G0.out.at'.i1 G0.out.at'.i2 hwl hgl Gz.out.at'.eq G0.out.at'.eq SZ.out hgzl SMZ.out).mono ?_
  rintro e w19 ⟨rfl, b19⟩
  have B := hid (u_cat B.out b19)
  have Yg := hid (kept Yg.out b19)
  have MG := hid (MG.out.below b19)
  clear b19 s0 s1 s2 s3 s4 s5 s6 u0 u1 u2 u3 u4 u5 u6
  have s0 := box_cell Yg.out 0 (v := .int .i64 LL) rfl
  have s1 := box_cell Yg.out 1 (v := .int .i64 SS) rfl
  have s2 := box_cell Yg.out 2 (v := .slice r1 WW.length f1) rfl
  have s3 := box_cell Yg.out 3 (v := .slice r2 GG.length f2) rfl
  have s4 := box_cell Yg.out 4 (v := .int .i64 CC) rfl
  have s5 := box_cell Yg.out 5 (v := .int .i64 ZZ) rfl
  have s6 := box_cell Yg.out 6 (v := .slice r3 gg.length f3) rfl
  go_wp2_with fail
  refine (KH.out _ MG.out).mono ?_
  rintro e w20 ⟨rfl, b20⟩
  have B := hid (u_cat B.out b20)
  clear b20
  go_wp2_with fail
  go_ret
  exact ⟨rfl, B.out⟩
end Go.Proofs.YtegldmdcdnnegaaGreatDoor
