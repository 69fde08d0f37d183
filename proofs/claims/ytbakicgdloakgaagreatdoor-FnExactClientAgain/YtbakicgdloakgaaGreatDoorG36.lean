/- The walk of the law FnExactClientAgain. -/
import Derived.Test.YtbakicgdloakgaaGreatDoorG35
import Derived.Test.YtbakicgdloakgaaGreatDoorG34
namespace Go.Proofs.YtbakicgdloakgaaGreatDoor
open Go.ChangeShapes Go.WideShapes Go.ChangeAt Go.RowKit Go.Sort Go.Shelf
attribute [local go_sem] Oper.semAt_some

set_option maxHeartbeats 32000000 in
set_option maxRecDepth 100000 in
theorem exactClientAgain_of (i t s ed : Int) (nm : ByteArray) (L S : Int) (a1 a2 : Option Addr) (c1 c2 : Nat) (ws gs : List Int) (C Z : Int) (a : Option Addr) (cap : Nat) (es : List EqV) (ii tt ss dd : Int) (nn : ByteArray) (LL SS CC ZZ : Int) (WW GG : List Int) (vs : List Vl) (o : Option WV) (w : World) (hA : GAt w a1 a2 a ws gs es) (hnm : nm.size ≤ maxLen) (hx : ws.length ≤ 9223372036854775807) (hy : gs.length ≤ 9223372036854775807) (hn : es.length ≤ 9223372036854775807) (hL : LongE es) (hT : Tab w)
    (hvk : ws.length + gs.length ≤ 1048576 → es.length ≤ 1048576 → SmallE es → WW.length ≤ 1048576 ∧ GG.length ≤ 1048576 ∧ vs.length ≤ 1048576 ∧ ∀ k ∈ vs, k.1.length ≤ 1048576 ∧ k.2.size ≤ 1048576)
    (hsp : ∀ p1 f1 p2 f2 a c' fs w, GAt w p1 p2 a ws gs fs → SamV fs es → ws.length + gs.length ≤ 1048576 → fs.length ≤ 1048576 → SmallE fs → (∀ e ∈ fs, e.a = none → e.c = 0) → Calls Tryz.prog 17 #[.agg #[.int .i64 i, .int .i64 t, .int .i64 s, .string nm, .int .i64 ed, .int .i64 L, .int .i64 S, .slice p1 ws.length f1, .slice p2 gs.length f2, .int .i64 C, .int .i64 Z, .slice a fs.length c']] w fun e w' => CliO w' w.heap.size ii tt ss dd nn LL SS CC ZZ WW GG vs o false e ∧ Below w.heap.size w w')
    (him : ∀ p1 f1 p2 f2 a c' fs w, GAt w p1 p2 a ws gs fs → SamV fs es → ws.length + gs.length ≤ 1048576 → fs.length ≤ 1048576 → SmallE fs → Tab w → Calls Tryz.prog 18 #[.agg #[.int .i64 i, .int .i64 t, .int .i64 s, .string nm, .int .i64 ed, .int .i64 L, .int .i64 S, .slice p1 ws.length f1, .slice p2 gs.length f2, .int .i64 C, .int .i64 Z, .slice a fs.length c']] w fun e w' => CliO w' w.heap.size ii tt ss dd nn LL SS CC ZZ WW GG vs o true e ∧ Below w.heap.size w w') :
    Calls Tryz.prog 4 #[.agg #[.int .i64 i, .int .i64 t, .int .i64 s, .string nm, .int .i64 ed, .int .i64 L, .int .i64 S, .slice a1 ws.length c1, .slice a2 gs.length c2, .int .i64 C, .int .i64 Z, .slice a es.length cap]] w fun e w' => e = .returned (.bool true) ∧ Below w.heap.size w w' := by
  have HA := hid hA
  have HT := hid hT
  have HSP := hid hsp
  have HIM := hid him
  have HVK := hid hvk
  have hnm2 : nm.size ≤ 9223372036854775807 := by unfold maxLen at hnm; omega
  have hwo := wn_le o
  clear hA hT hsp him hvk
  go_enter Tryz.func4, Tryz.ntmps4
  go_wp2_with fail
  refine (szClient_ex i t s ed nm L S a1 a2 ws.length c1 gs.length c2 C Z a cap es _ hnm2 hx hy ((HA.out.below (u_b1 _ _)).eq) hn hL).mono ?_
  rintro e w1 ⟨v, rfl, hv, b1⟩
  have X := hid (kept (laid w #[.int .i64 i, .int .i64 t, .int .i64 s, .string nm, .int .i64 ed, .int .i64 L, .int .i64 S, .slice a1 ws.length c1, .slice a2 gs.length c2, .int .i64 C, .int .i64 Z, .slice a es.length cap] 31) b1)
  have B := hid (u_cat (u_b1 _ _) b1)
  have HV := hid hv
  clear b1 hv
  by_cases hv0 : v < 0
  · go_wp2_with fail
    go_ret
    exact ⟨rfl, B.out⟩
  obtain ⟨⟨hpl, hs, hsm⟩, -, -⟩ := HV.out.resolve_left hv0
  have hxl : ws.length ≤ 1048576 := by omega
  have hyl : gs.length ≤ 1048576 := by omega
  obtain ⟨hwl, hgl, hvl, hvk⟩ := HVK.out hpl hs hsm
  have HVL := hid hvk
  have HS := hid hsm
  have hvv : ¬ (v < 0) := hv0
  clear hsm HV hv0 HVK hvk
  have p0 := (box_cell X.out 0 (v := .int .i64 i) rfl)
  have p1 := (box_cell X.out 1 (v := .int .i64 t) rfl)
  have p2 := (box_cell X.out 2 (v := .int .i64 s) rfl)
  have p3 := (box_cell X.out 3 (v := .string nm) rfl)
  have p4 := (box_cell X.out 4 (v := .int .i64 ed) rfl)
  have p5 := (box_cell X.out 5 (v := .int .i64 L) rfl)
  have p6 := (box_cell X.out 6 (v := .int .i64 S) rfl)
  have p7 := (box_cell X.out 7 (v := .slice a1 ws.length c1) rfl)
  have p8 := (box_cell X.out 8 (v := .slice a2 gs.length c2) rfl)
  have p9 := (box_cell X.out 9 (v := .int .i64 C) rfl)
  have p10 := (box_cell X.out 10 (v := .int .i64 Z) rfl)
  have p11 := (box_cell X.out 11 (v := .slice a es.length cap) rfl)
  go_wp2_with fail
  refine (toClient_ap i t s ed nm L S a1 a2 c1 c2 ws gs C Z a cap es _ (HA.out.below B.out).i1 (HA.out.below B.out).i2 hxl hyl (HA.out.below B.out).eq hs HS.out).mono ?_
  rintro e w2 ⟨q1, g1, q2, g2, q3, g3, fs, rfl, o2, s2, -, b2⟩
  have X := hid (kept X.out b2)
  have B := hid (u_cat B.out b2)
  have M1 := hid s2
  have O1 := hid o2
  clear b2 o2 s2 p0 p1 p2 p3 p4 p5 p6 p7 p8 p9 p10 p11
  go_wp2_with fail
  refine (HSP.out q1 g1 q2 g2 q3 g3 fs _ O1.out.at' M1.out hpl (by rw [M1.out.len]; exact hs) (M1.out.symm.small HS.out) (getOwn_cap O1.out)).mono ?_
  rintro e w3 ⟨⟨p1, e1, p2, e2, p3, e3, gs0, v0, m0, rfl, o0, -, x0, -, -, va0, -⟩, b3⟩
  have hxw := lt_of_block (kept X.out b3)
  have I0 := hid o0.in'
  have J0 := hid x0.in'
  obtain ⟨W3, hW3⟩ : ∃ W, W = w3.alloc (.cells #[.int .i64 ii, .int .i64 tt, .int .i64 ss, .string nn, .int .i64 dd, .int .i64 LL, .int .i64 SS, .slice p1 WW.length e1, .slice p2 GG.length e2, .int .i64 CC, .int .i64 ZZ, .slice p3 gs0.length e3] 40) := ⟨_, rfl⟩
  have bb : Below w3.heap.size w3 W3 := by rw [hW3]; exact u_b1 _ _
  have hzW3 : w3.heap.size + 1 ≤ W3.heap.size := by rw [hW3]; simp
  have Y0 := hid (show W3.heap[w3.heap.size]? = some (.cells #[.int .i64 ii, .int .i64 tt, .int .i64 ss, .string nn, .int .i64 dd, .int .i64 LL, .int .i64 SS, .slice p1 WW.length e1, .slice p2 GG.length e2, .int .i64 CC, .int .i64 ZZ, .slice p3 gs0.length e3] 40 (0, 0)) by rw [hW3]; exact laid w3 _ _)
  have X := hid (kept X.out b3)
  have B := hid (u_cat B.out b3)
  have X := hid (kept X.out bb)
  have B := hid (u_cat B.out bb)
  have G0 := hid (o0.below bb)
  have W0w := hid (x0.below bb)
  have V0 := hid va0
  have hgl0 : gs0.length ≤ 1048576 := by rw [vals_len va0]; exact hvl
  clear b3 bb o0 x0 va0 M1 O1
  repeat ((fail_if_success (with_reducible show Code.wp _ (Code.region 6 _ _) _ _ _)); (first | go_values | go_skip | go_guarded | go_step | go_upon | go_back | go_simp))
  rw [← hW3]
  clear hW3
  have p0 := (box_cell X.out 0 (v := .int .i64 i) rfl)
  have p1 := (box_cell X.out 1 (v := .int .i64 t) rfl)
  have p2 := (box_cell X.out 2 (v := .int .i64 s) rfl)
  have p3 := (box_cell X.out 3 (v := .string nm) rfl)
  have p4 := (box_cell X.out 4 (v := .int .i64 ed) rfl)
  have p5 := (box_cell X.out 5 (v := .int .i64 L) rfl)
  have p6 := (box_cell X.out 6 (v := .int .i64 S) rfl)
  have p7 := (box_cell X.out 7 (v := .slice a1 ws.length c1) rfl)
  have p8 := (box_cell X.out 8 (v := .slice a2 gs.length c2) rfl)
  have p9 := (box_cell X.out 9 (v := .int .i64 C) rfl)
  have p10 := (box_cell X.out 10 (v := .int .i64 Z) rfl)
  have p11 := (box_cell X.out 11 (v := .slice a es.length cap) rfl)
  go_wp2_with fail
  refine (toClient_ap i t s ed nm L S a1 a2 c1 c2 ws gs C Z a cap es _ (HA.out.below B.out).i1 (HA.out.below B.out).i2 hxl hyl (HA.out.below B.out).eq hs HS.out).mono ?_
  rintro e w4 ⟨q1, g1, q2, g2, q3, g3, gx, rfl, o4, s4, ap4, b4⟩
  have hz4 := b4.size
  have Ix := hid o4.in'
  obtain ⟨W4, hW4⟩ : ∃ W, W = w4.alloc (.cells #[.int .i64 i, .int .i64 t, .int .i64 s, .string nm, .int .i64 ed, .int .i64 L, .int .i64 S, .slice q1 ws.length g1, .slice q2 gs.length g2, .int .i64 C, .int .i64 Z, .slice q3 gx.length g3] 40) := ⟨_, rfl⟩
  have bb : Below w4.heap.size w4 W4 := by rw [hW4]; exact u_b1 _ _
  have hzW4 : w4.heap.size + 1 ≤ W4.heap.size := by rw [hW4]; simp
  have Yx := hid (show W4.heap[w4.heap.size]? = some (.cells #[.int .i64 i, .int .i64 t, .int .i64 s, .string nm, .int .i64 ed, .int .i64 L, .int .i64 S, .slice q1 ws.length g1, .slice q2 gs.length g2, .int .i64 C, .int .i64 Z, .slice q3 gx.length g3] 40 (0, 0)) by rw [hW4]; exact laid w4 _ _)
  have b4' := u_cat b4 bb
  have X := hid (kept X.out b4')
  have B := hid (u_cat B.out b4')
  have W0w := hid (W0w.out.below b4')
  have Y0 := hid (kept Y0.out b4')
  have G0 := hid (G0.out.below b4')
  have Gx := hid (o4.below bb)
  have APx := hid ap4
  have M2 := hid s4
  clear b4 b4' o4 s4 ap4 bb p0 p1 p2 p3 p4 p5 p6 p7 p8 p9 p10 p11
  repeat ((fail_if_success (with_reducible show Code.wp _ (Code.region 7 _ _) _ _ _)); (first | go_values | go_skip | go_guarded | go_step | go_upon | go_back | go_simp))
  rw [← hW4]
  clear hW4
  have s0 := (box_cell Yx.out 0 (v := .int .i64 i) rfl)
  have s1 := (box_cell Yx.out 1 (v := .int .i64 t) rfl)
  have s2 := (box_cell Yx.out 2 (v := .int .i64 s) rfl)
  have s3 := (box_cell Yx.out 3 (v := .string nm) rfl)
  have s4 := (box_cell Yx.out 4 (v := .int .i64 ed) rfl)
  have s5 := (box_cell Yx.out 5 (v := .int .i64 L) rfl)
  have s6 := (box_cell Yx.out 6 (v := .int .i64 S) rfl)
  have s7 := (box_cell Yx.out 7 (v := .slice q1 ws.length g1) rfl)
  have s8 := (box_cell Yx.out 8 (v := .slice q2 gs.length g2) rfl)
  have s9 := (box_cell Yx.out 9 (v := .int .i64 C) rfl)
  have s10 := (box_cell Yx.out 10 (v := .int .i64 Z) rfl)
  have s11 := (box_cell Yx.out 11 (v := .slice q3 gx.length g3) rfl)
  go_wp2_with fail
  refine (HIM.out q1 g1 q2 g2 q3 g3 gx _ Gx.out.at' M2.out hpl (by rw [M2.out.len]; exact hs) (M2.out.symm.small HS.out) (HT.out.below B.out)).mono ?_
  rintro e w6 ⟨⟨r1, f1, r2, f2, r3, f3, gg, v1, m1, rfl, o6, i6, x6, hm6, hm6', va6, ap6⟩, b6⟩
  have hz6 := b6.size
  have Ig := hid i6
  have Ig2 := hid o6.in'
  have PG := hid (rowsLt_of o6 i6)
  have J1 := hid x6.in'
  obtain ⟨W6, hW6⟩ : ∃ W, W = w6.alloc (.cells #[.int .i64 ii, .int .i64 tt, .int .i64 ss, .string nn, .int .i64 dd, .int .i64 LL, .int .i64 SS, .slice r1 WW.length f1, .slice r2 GG.length f2, .int .i64 CC, .int .i64 ZZ, .slice r3 gg.length f3] 40) := ⟨_, rfl⟩
  have bb : Below w6.heap.size w6 W6 := by rw [hW6]; exact u_b1 _ _
  have hzW6 : w6.heap.size + 1 ≤ W6.heap.size := by rw [hW6]; simp
  have Yg := hid (show W6.heap[w6.heap.size]? = some (.cells #[.int .i64 ii, .int .i64 tt, .int .i64 ss, .string nn, .int .i64 dd, .int .i64 LL, .int .i64 SS, .slice r1 WW.length f1, .slice r2 GG.length f2, .int .i64 CC, .int .i64 ZZ, .slice r3 gg.length f3] 40 (0, 0)) by rw [hW6]; exact laid w6 _ _)
  have b6' := u_cat b6 bb
  have X := hid (kept X.out b6')
  have B := hid (u_cat B.out b6')
  have Y0 := hid (kept Y0.out b6')
  have G0 := hid (G0.out.below b6')
  have W0w := hid (W0w.out.below b6')
  have Yx := hid (kept Yx.out b6')
  have Gx := hid (Gx.out.below b6')
  have Gg := hid (o6.below bb)
  have W1w := hid (x6.below bb)
  have APg := hid (ap6 rfl)
  have SG := hid (vals_same.1 (va6.trans V0.out.symm))
  have hggl : gg.length ≤ 1048576 := by rw [vals_len va6]; exact hvl
  have SMG := hid (vals_smallG va6 HVL.out)
  clear b6 b6' o6 i6 x6 va6 ap6 bb s0 s1 s2 s3 s4 s5 s6 s7 s8 s9 s10 s11
  repeat ((fail_if_success (with_reducible show Code.wp _ (Code.region 8 _ _) _ _ _)); (first | go_values | go_skip | go_guarded | go_step | go_upon | go_back | go_simp))
  rw [← hW6]
  clear hW6
  have s0 := (box_cell Yg.out 0 (v := .int .i64 ii) rfl)
  have s1 := (box_cell Yg.out 1 (v := .int .i64 tt) rfl)
  have s2 := (box_cell Yg.out 2 (v := .int .i64 ss) rfl)
  have s3 := (box_cell Yg.out 3 (v := .string nn) rfl)
  have s4 := (box_cell Yg.out 4 (v := .int .i64 dd) rfl)
  have s5 := (box_cell Yg.out 5 (v := .int .i64 LL) rfl)
  have s6 := (box_cell Yg.out 6 (v := .int .i64 SS) rfl)
  have s7 := (box_cell Yg.out 7 (v := .slice r1 WW.length f1) rfl)
  have s8 := (box_cell Yg.out 8 (v := .slice r2 GG.length f2) rfl)
  have s9 := (box_cell Yg.out 9 (v := .int .i64 CC) rfl)
  have s10 := (box_cell Yg.out 10 (v := .int .i64 ZZ) rfl)
  have s11 := (box_cell Yg.out 11 (v := .slice r3 gg.length f3) rfl)
  have u0 := (box_cell Y0.out 0 (v := .int .i64 ii) rfl)
  have u1 := (box_cell Y0.out 1 (v := .int .i64 tt) rfl)
  have u2 := (box_cell Y0.out 2 (v := .int .i64 ss) rfl)
  have u3 := (box_cell Y0.out 3 (v := .string nn) rfl)
  have u4 := (box_cell Y0.out 4 (v := .int .i64 dd) rfl)
  have u5 := (box_cell Y0.out 5 (v := .int .i64 LL) rfl)
  have u6 := (box_cell Y0.out 6 (v := .int .i64 SS) rfl)
  have u7 := (box_cell Y0.out 7 (v := .slice p1 WW.length e1) rfl)
  have u8 := (box_cell Y0.out 8 (v := .slice p2 GG.length e2) rfl)
  have u9 := (box_cell Y0.out 9 (v := .int .i64 CC) rfl)
  have u10 := (box_cell Y0.out 10 (v := .int .i64 ZZ) rfl)
  have u11 := (box_cell Y0.out 11 (v := .slice p3 gs0.length e3) rfl)
  go_wp2_with fail
  refine (eqClient_eq ii tt ss dd nn LL SS r1 r2 f1 f2 p1 p2 e1 e2 WW GG CC ZZ r3 p3 f3 e3 gg gs0 _ Gg.out.at'.i1 Gg.out.at'.i2 G0.out.at'.i1 G0.out.at'.i2 hwl hgl Gg.out.at'.eq G0.out.at'.eq SG.out hggl SMG.out).mono ?_
  rintro e wq7 ⟨rfl, bq7⟩
  have X := hid (kept X.out bq7)
  have B := hid (u_cat B.out bq7)
  have W0w := hid (W0w.out.below bq7)
  have W1w := hid (W1w.out.below bq7)
  have Y0 := hid (kept Y0.out bq7)
  have G0 := hid (G0.out.below bq7)
  have Yx := hid (kept Yx.out bq7)
  have Gx := hid (Gx.out.below bq7)
  have Yg := hid (kept Yg.out bq7)
  have Gg := hid (Gg.out.below bq7)
  have hzq7 := bq7.size
  clear bq7 s0 s1 s2 s3 s4 s5 s6 s7 s8 s9 s10 s11 u0 u1 u2 u3 u4 u5 u6 u7 u8 u9 u10 u11
  go_wp2_with fail
  refine (eqWordS_any W1w.out W0w.out).mono ?_
  rintro e wr7 ⟨rfl, bq7⟩
  have X := hid (kept X.out bq7)
  have B := hid (u_cat B.out bq7)
  have W0w := hid (W0w.out.below bq7)
  have W1w := hid (W1w.out.below bq7)
  have Y0 := hid (kept Y0.out bq7)
  have G0 := hid (G0.out.below bq7)
  have Yx := hid (kept Yx.out bq7)
  have Gx := hid (Gx.out.below bq7)
  have Yg := hid (kept Yg.out bq7)
  have Gg := hid (Gg.out.below bq7)
  have hzr7 := bq7.size
  clear bq7
  go_wp2_with fail
  have p0 := cell_regrown (box_cell X.out 0 (v := .int .i64 i) rfl)
  have p1 := cell_regrown (box_cell X.out 1 (v := .int .i64 t) rfl)
  have p2 := cell_regrown (box_cell X.out 2 (v := .int .i64 s) rfl)
  have p3 := cell_regrown (box_cell X.out 3 (v := .string nm) rfl)
  have p4 := cell_regrown (box_cell X.out 4 (v := .int .i64 ed) rfl)
  have p5 := cell_regrown (box_cell X.out 5 (v := .int .i64 L) rfl)
  have p6 := cell_regrown (box_cell X.out 6 (v := .int .i64 S) rfl)
  have p7 := cell_regrown (box_cell X.out 7 (v := .slice a1 ws.length c1) rfl)
  have p8 := cell_regrown (box_cell X.out 8 (v := .slice a2 gs.length c2) rfl)
  have p9 := cell_regrown (box_cell X.out 9 (v := .int .i64 C) rfl)
  have p10 := cell_regrown (box_cell X.out 10 (v := .int .i64 Z) rfl)
  have p11 := cell_regrown (box_cell X.out 11 (v := .slice a es.length cap) rfl)
  have s0 := cell_regrown (box_cell Yx.out 0 (v := .int .i64 i) rfl)
  have s1 := cell_regrown (box_cell Yx.out 1 (v := .int .i64 t) rfl)
  have s2 := cell_regrown (box_cell Yx.out 2 (v := .int .i64 s) rfl)
  have s3 := cell_regrown (box_cell Yx.out 3 (v := .string nm) rfl)
  have s4 := cell_regrown (box_cell Yx.out 4 (v := .int .i64 ed) rfl)
  have s5 := cell_regrown (box_cell Yx.out 5 (v := .int .i64 L) rfl)
  have s6 := cell_regrown (box_cell Yx.out 6 (v := .int .i64 S) rfl)
  have s7 := cell_regrown (box_cell Yx.out 7 (v := .slice q1 ws.length g1) rfl)
  have s8 := cell_regrown (box_cell Yx.out 8 (v := .slice q2 gs.length g2) rfl)
  have s9 := cell_regrown (box_cell Yx.out 9 (v := .int .i64 C) rfl)
  have s10 := cell_regrown (box_cell Yx.out 10 (v := .int .i64 Z) rfl)
  have s11 := cell_regrown (box_cell Yx.out 11 (v := .slice q3 gx.length g3) rfl)
  refine wp_plan 5 (.pull [(0, 2)] (.step 2 (.step 3 (.pull [(4, 1)] .done)))) (by kernel_rfl) (by kernel_rfl) ?_
  intro V0' hw0
  have hbq := of_class hw0
  refine pln_pull ?_
  simp only [cutOut, List.take_succ_cons, List.take_zero, List.drop_zero, List.append_nil]
  repeat (first | go_big_quiet_step (fail) | quiet_step (fail))
  try refine wpQuiet_nil ?_
  clear p0 p1 p2 p3 p4 p5 p6 p7 p8 p9 p10 p11 s0 s1 s2 s3 s4 s5 s6 s7 s8 s9 s10 s11 hw0
  have X := hid (kept X.out hbq)
  have B := hid (u_cat B.out hbq)
  have W0w := hid (W0w.out.below hbq)
  have W1w := hid (W1w.out.below hbq)
  have Y0 := hid (kept Y0.out hbq)
  have G0 := hid (G0.out.below hbq)
  have Yx := hid (kept Yx.out hbq)
  have Gx := hid (Gx.out.below hbq)
  have Yg := hid (kept Yg.out hbq)
  have Gg := hid (Gg.out.below hbq)
  have hz7' := hbq.size
  refine pln_step rfl (by omega) (fun K hK => ?_)
  go_simp
  with_reducible refine (toClient_ap i t s ed nm L S a1 a2 c1 c2 ws gs C Z a cap es V0' (HA.out.below B.out).i1 (HA.out.below B.out).i2 hxl hyl (HA.out.below B.out).eq hs HS.out).mono ?_
  rintro _ V1 ⟨t1, h1, t2, h2, t3, h3, ks, rfl, o8, s8, -, b8⟩
  have hcl := u_cat hbq b8
  refine hK _ _ (class_of hcl) ?_
  clear hK K hbq
  have X := hid (kept X.out b8)
  have B := hid (u_cat B.out b8)
  have W0w := hid (W0w.out.below b8)
  have W1w := hid (W1w.out.below b8)
  have Y0 := hid (kept Y0.out b8)
  have G0 := hid (G0.out.below b8)
  have Yx := hid (kept Yx.out b8)
  have Gx := hid (Gx.out.below b8)
  have Yg := hid (kept Yg.out b8)
  have Gg := hid (Gg.out.below b8)
  have hz8 := b8.size
  have M3 := hid s8
  have O8 := hid o8
  clear o8 s8 b8
  refine pln_step rfl (by omega) (fun K hK => ?_)
  go_simp
  with_reducible refine (eqClient_eq i t s ed nm L S q1 q2 g1 g2 t1 t2 h1 h2 ws gs C Z q3 t3 g3 h3 gx ks V1 Gx.out.at'.i1 Gx.out.at'.i2 O8.out.at'.i1 O8.out.at'.i2 hxl hyl Gx.out.at'.eq O8.out.at'.eq (M2.out.trans M3.out.symm) (by rw [M2.out.len]; exact hs) (M2.out.symm.small HS.out)).mono ?_
  rintro _ w10 ⟨rfl, b10⟩
  refine hK _ _ (class_of (u_cat hcl b10)) ?_
  clear hK K hcl O8
  have X := hid (kept X.out b10)
  have B := hid (u_cat B.out b10)
  have W0w := hid (W0w.out.below b10)
  have W1w := hid (W1w.out.below b10)
  have Y0 := hid (kept Y0.out b10)
  have G0 := hid (G0.out.below b10)
  have Yx := hid (kept Yx.out b10)
  have Gx := hid (Gx.out.below b10)
  have Yg := hid (kept Yg.out b10)
  have Gg := hid (Gg.out.below b10)
  have hz10 := b10.size
  clear b10
  refine pln_pull ?_
  simp only [cutOut, List.take_succ_cons, List.take_zero, List.drop_succ_cons, List.drop_zero, List.append_nil]
  repeat (first | go_big_quiet_step (fail) | quiet_step (fail))
  try refine wpQuiet_nil ?_
  refine pln_done ?_
  have s0 := (box_cell Yx.out 0 (v := .int .i64 i) rfl)
  have s1 := (box_cell Yx.out 1 (v := .int .i64 t) rfl)
  have s2 := (box_cell Yx.out 2 (v := .int .i64 s) rfl)
  have s3 := (box_cell Yx.out 3 (v := .string nm) rfl)
  have s4 := (box_cell Yx.out 4 (v := .int .i64 ed) rfl)
  have s5 := (box_cell Yx.out 5 (v := .int .i64 L) rfl)
  have s6 := (box_cell Yx.out 6 (v := .int .i64 S) rfl)
  have s7 := (box_cell Yx.out 7 (v := .slice q1 ws.length g1) rfl)
  have s8 := (box_cell Yx.out 8 (v := .slice q2 gs.length g2) rfl)
  have s9 := (box_cell Yx.out 9 (v := .int .i64 C) rfl)
  have s10 := (box_cell Yx.out 10 (v := .int .i64 Z) rfl)
  have s11 := (box_cell Yx.out 11 (v := .slice q3 gx.length g3) rfl)
  go_wp2_with fail
  refine (markClient_at w3.heap.size i t s ed nm L S C Z ws gs q1 q2 q3 g1 g2 g3 gx 1 _ (Gx.out.mono (by omega)) APx.out (by omega) hxl hyl (by rw [M2.out.len]; exact hs) (fun f hf => (M2.out.symm.small HS.out f hf).1) (by omega) (by omega)).mono ?_
  rintro e w12 ⟨rfl, -, k12, b12⟩
  have KO := hid (k12 _ _ Ix.out)
  have hz12 := b12.size
  have X := hid (KO.out.blk X.out (by omega))
  have Y0 := hid (KO.out.blk Y0.out (by omega))
  have Yg := hid (KO.out.blk Yg.out (by omega))
  have G0 := hid (G0.out.keep I0.out KO.out (by omega))
  have Gg := hid (Gg.out.keep Ig2.out KO.out (by omega))
  have W0w := hid (W0w.out.keep KO.out hz12 (fun g hg => by have := J0.out g hg; omega))
  have W1w := hid (W1w.out.keep KO.out hz12 (fun g hg => by have := J1.out g hg; omega))
  have B := hid (B.out.trans (b12.mono (by have := B.out.size; omega)))
  have hct := cntE_le (fs := gx) (fun f hf => (M2.out.symm.small HS.out f hf).1)
  have hgxl : gx.length ≤ 1048576 := by rw [M2.out.len]; exact hs
  obtain ⟨K1, hK1⟩ : ∃ K1 : Nat, K1 = 1 + ws.length + gs.length + cntE gx := ⟨_, rfl⟩
  have hK1b : ¬ ((K1 : Int) < 0) := by omega
  rw [← hK1]
  clear s0 s1 s2 s3 s4 s5 s6 s7 s8 s9 s10 s11 b12 k12 KO Yx Gx hK1 hct hgxl
  have s0 := (box_cell Yg.out 0 (v := .int .i64 ii) rfl)
  have s1 := (box_cell Yg.out 1 (v := .int .i64 tt) rfl)
  have s2 := (box_cell Yg.out 2 (v := .int .i64 ss) rfl)
  have s3 := (box_cell Yg.out 3 (v := .string nn) rfl)
  have s4 := (box_cell Yg.out 4 (v := .int .i64 dd) rfl)
  have s5 := (box_cell Yg.out 5 (v := .int .i64 LL) rfl)
  have s6 := (box_cell Yg.out 6 (v := .int .i64 SS) rfl)
  have s7 := (box_cell Yg.out 7 (v := .slice r1 WW.length f1) rfl)
  have s8 := (box_cell Yg.out 8 (v := .slice r2 GG.length f2) rfl)
  have s9 := (box_cell Yg.out 9 (v := .int .i64 CC) rfl)
  have s10 := (box_cell Yg.out 10 (v := .int .i64 ZZ) rfl)
  have s11 := (box_cell Yg.out 11 (v := .slice r3 gg.length f3) rfl)
  have u0 := (box_cell Y0.out 0 (v := .int .i64 ii) rfl)
  have u1 := (box_cell Y0.out 1 (v := .int .i64 tt) rfl)
  have u2 := (box_cell Y0.out 2 (v := .int .i64 ss) rfl)
  have u3 := (box_cell Y0.out 3 (v := .string nn) rfl)
  have u4 := (box_cell Y0.out 4 (v := .int .i64 dd) rfl)
  have u5 := (box_cell Y0.out 5 (v := .int .i64 LL) rfl)
  have u6 := (box_cell Y0.out 6 (v := .int .i64 SS) rfl)
  have u7 := (box_cell Y0.out 7 (v := .slice p1 WW.length e1) rfl)
  have u8 := (box_cell Y0.out 8 (v := .slice p2 GG.length e2) rfl)
  have u9 := (box_cell Y0.out 9 (v := .int .i64 CC) rfl)
  have u10 := (box_cell Y0.out 10 (v := .int .i64 ZZ) rfl)
  have u11 := (box_cell Y0.out 11 (v := .slice p3 gs0.length e3) rfl)
  go_wp2_with fail
  refine (eqClient_eq ii tt ss dd nn LL SS r1 r2 f1 f2 p1 p2 e1 e2 WW GG CC ZZ r3 p3 f3 e3 gg gs0 _ Gg.out.at'.i1 Gg.out.at'.i2 G0.out.at'.i1 G0.out.at'.i2 hwl hgl Gg.out.at'.eq G0.out.at'.eq SG.out hggl SMG.out).mono ?_
  rintro e wq14 ⟨rfl, bq14⟩
  have X := hid (kept X.out bq14)
  have B := hid (u_cat B.out bq14)
  have W0w := hid (W0w.out.below bq14)
  have W1w := hid (W1w.out.below bq14)
  have Y0 := hid (kept Y0.out bq14)
  have G0 := hid (G0.out.below bq14)
  have Yg := hid (kept Yg.out bq14)
  have Gg := hid (Gg.out.below bq14)
  have hzq14 := bq14.size
  clear bq14 s0 s1 s2 s3 s4 s5 s6 s7 s8 s9 s10 s11 u0 u1 u2 u3 u4 u5 u6 u7 u8 u9 u10 u11
  go_wp2_with fail
  refine (eqWordS_any W1w.out W0w.out).mono ?_
  rintro e wr14 ⟨rfl, bq14⟩
  have X := hid (kept X.out bq14)
  have B := hid (u_cat B.out bq14)
  have W0w := hid (W0w.out.below bq14)
  have W1w := hid (W1w.out.below bq14)
  have Y0 := hid (kept Y0.out bq14)
  have G0 := hid (G0.out.below bq14)
  have Yg := hid (kept Yg.out bq14)
  have Gg := hid (Gg.out.below bq14)
  have hzr14 := bq14.size
  clear bq14
  have s0 := (box_cell Yg.out 0 (v := .int .i64 ii) rfl)
  have s1 := (box_cell Yg.out 1 (v := .int .i64 tt) rfl)
  have s2 := (box_cell Yg.out 2 (v := .int .i64 ss) rfl)
  have s3 := (box_cell Yg.out 3 (v := .string nn) rfl)
  have s4 := (box_cell Yg.out 4 (v := .int .i64 dd) rfl)
  have s5 := (box_cell Yg.out 5 (v := .int .i64 LL) rfl)
  have s6 := (box_cell Yg.out 6 (v := .int .i64 SS) rfl)
  have s7 := (box_cell Yg.out 7 (v := .slice r1 WW.length f1) rfl)
  have s8 := (box_cell Yg.out 8 (v := .slice r2 GG.length f2) rfl)
  have s9 := (box_cell Yg.out 9 (v := .int .i64 CC) rfl)
  have s10 := (box_cell Yg.out 10 (v := .int .i64 ZZ) rfl)
  have s11 := (box_cell Yg.out 11 (v := .slice r3 gg.length f3) rfl)
  go_wp2_with fail
  refine (markClient_at W4.heap.size ii tt ss dd nn LL SS CC ZZ WW GG r1 r2 r3 f1 f2 f3 gg 1 _ Gg.out APg.out (by omega) hwl hgl hggl (fun f hf => (SMG.out f hf).1) (by omega) (by omega)).mono ?_
  rintro e w15 ⟨rfl, mk, k15, b15⟩
  have KO := hid (k15 _ _ Ig.out)
  have hz15 := b15.size
  have MG := hid mk
  have X := hid (KO.out.blk X.out (by omega))
  have Y0 := hid (KO.out.blk Y0.out (by omega))
  have Yg := hid (KO.out.blk Yg.out (by omega))
  have G0 := hid (G0.out.keep I0.out KO.out (by omega))
  have W0w := hid (W0w.out.keep KO.out hz15 (fun g hg => by have := J0.out g hg; omega))
  have W1w := hid (W1w.out.keep KO.out hz15 (fun g hg => by have := J1.out g hg; omega))
  have B := hid (B.out.trans (b15.mono (by have := B.out.size; omega)))
  have hct := cntE_le (fs := gg) (fun f hf => (SMG.out f hf).1)
  obtain ⟨K2, hK2⟩ : ∃ K2 : Nat, K2 = 1 + WW.length + GG.length + cntE gg := ⟨_, rfl⟩
  have KH := hid (fun W (h : GMk W 1 r1 r2 r3 WW.length GG.length gg) => heldClient_at ii tt ss dd nn LL SS CC ZZ r1 r2 r3 WW.length GG.length f1 f2 f3 gg 1 W h hwl hgl hggl (fun f hf => (SMG.out f hf).1) (by omega) (by omega))
  have hK2b : ¬ ((K2 : Int) < 0) := by omega
  have hK20 : 0 < K2 := by omega
  have hK21 : K2 ≤ 1125899906842624 := by omega
  rw [← hK2] at KH ⊢
  clear s0 s1 s2 s3 s4 s5 s6 s7 s8 s9 s10 s11 b15 k15 mk KO Gg hK2 hct
  go_wp2_with fail
  refine (markWordS_any K2 (W1w.out.mono (Nat.zero_le _)) hK20 hK21 (Nat.zero_le _)).mono ?_
  rintro e w16 ⟨rfl, mw, k16, b16⟩
  have KW := hid (k16 _ _ J1.out)
  have hz16 := b16.size
  have MW := hid mw
  have X := hid (KW.out.blk X.out (by omega))
  have W0w := hid (W0w.out.keep KW.out hz16 (fun g hg => by have := J0.out g hg; omega))
  have Y0 := hid (KW.out.blk Y0.out (by omega))
  have Yg := hid (KW.out.blk Yg.out (by omega))
  have G0 := hid (G0.out.keep I0.out KW.out (by omega))
  have MG := hid (MG.out.keep PG.out (keep_below KW.out b16 (Nat.le_refl _) (by omega)))
  have B := hid (B.out.trans (keep_below KW.out b16 (by omega) (by have := B.out.size; omega)))
  obtain ⟨K3, hK3⟩ : ∃ K3 : Nat, K3 = K2 + wn o := ⟨_, rfl⟩
  have hK3b : ¬ ((K3 : Int) < 0) := by omega
  have KV := hid (fun W (h : WsMk W K2 v1 o) => heldWordS_any K2 h hK20 hK21)
  rw [← hK3] at KV ⊢
  have hkk : ((K3 : Int) != (K3 : Int)) = false := by simp
  clear b16 k16 mw KW W1w hK3
  have s0 := (box_cell Yg.out 0 (v := .int .i64 ii) rfl)
  have s1 := (box_cell Yg.out 1 (v := .int .i64 tt) rfl)
  have s2 := (box_cell Yg.out 2 (v := .int .i64 ss) rfl)
  have s3 := (box_cell Yg.out 3 (v := .string nn) rfl)
  have s4 := (box_cell Yg.out 4 (v := .int .i64 dd) rfl)
  have s5 := (box_cell Yg.out 5 (v := .int .i64 LL) rfl)
  have s6 := (box_cell Yg.out 6 (v := .int .i64 SS) rfl)
  have s7 := (box_cell Yg.out 7 (v := .slice r1 WW.length f1) rfl)
  have s8 := (box_cell Yg.out 8 (v := .slice r2 GG.length f2) rfl)
  have s9 := (box_cell Yg.out 9 (v := .int .i64 CC) rfl)
  have s10 := (box_cell Yg.out 10 (v := .int .i64 ZZ) rfl)
  have s11 := (box_cell Yg.out 11 (v := .slice r3 gg.length f3) rfl)
  go_wp2_with fail
  refine (KH.out _ MG.out).mono ?_
  rintro e wh1 ⟨rfl, bh⟩
  have X := hid (kept X.out bh)
  have B := hid (u_cat B.out bh)
  have W0w := hid (W0w.out.below bh)
  have MW := hid (MW.out.below bh)
  have Y0 := hid (kept Y0.out bh)
  have G0 := hid (G0.out.below bh)
  have Yg := hid (kept Yg.out bh)
  have MG := hid (MG.out.below bh)
  have hzh1 := bh.size
  clear bh s0 s1 s2 s3 s4 s5 s6 s7 s8 s9 s10 s11
  go_wp2_with fail
  refine (KV.out _ MW.out).mono ?_
  rintro e wv1 ⟨rfl, bh⟩
  have X := hid (kept X.out bh)
  have B := hid (u_cat B.out bh)
  have W0w := hid (W0w.out.below bh)
  have MW := hid (MW.out.below bh)
  have Y0 := hid (kept Y0.out bh)
  have G0 := hid (G0.out.below bh)
  have Yg := hid (kept Yg.out bh)
  have MG := hid (MG.out.below bh)
  have hzv1 := bh.size
  clear bh
  have p0 := (box_cell X.out 0 (v := .int .i64 i) rfl)
  have p1 := (box_cell X.out 1 (v := .int .i64 t) rfl)
  have p2 := (box_cell X.out 2 (v := .int .i64 s) rfl)
  have p3 := (box_cell X.out 3 (v := .string nm) rfl)
  have p4 := (box_cell X.out 4 (v := .int .i64 ed) rfl)
  have p5 := (box_cell X.out 5 (v := .int .i64 L) rfl)
  have p6 := (box_cell X.out 6 (v := .int .i64 S) rfl)
  have p7 := (box_cell X.out 7 (v := .slice a1 ws.length c1) rfl)
  have p8 := (box_cell X.out 8 (v := .slice a2 gs.length c2) rfl)
  have p9 := (box_cell X.out 9 (v := .int .i64 C) rfl)
  have p10 := (box_cell X.out 10 (v := .int .i64 Z) rfl)
  have p11 := (box_cell X.out 11 (v := .slice a es.length cap) rfl)
  go_wp2_with fail
  refine (toClient_ap i t s ed nm L S a1 a2 c1 c2 ws gs C Z a cap es _ (HA.out.below B.out).i1 (HA.out.below B.out).i2 hxl hyl (HA.out.below B.out).eq hs HS.out).mono ?_
  rintro e w17 ⟨q1, g1, q2, g2, q3, g3, gz, rfl, o17, s17, -, b17⟩
  have X := hid (kept X.out b17)
  have B := hid (u_cat B.out b17)
  have W0w := hid (W0w.out.below b17)
  have MW := hid (MW.out.below b17)
  have Y0 := hid (kept Y0.out b17)
  have G0 := hid (G0.out.below b17)
  have Yg := hid (kept Yg.out b17)
  have MG := hid (MG.out.below b17)
  have M4 := hid s17
  have O17 := hid o17
  clear b17 o17 s17 p0 p1 p2 p3 p4 p5 p6 p7 p8 p9 p10 p11
  go_wp2_with fail
  refine (HIM.out q1 g1 q2 g2 q3 g3 gz _ O17.out.at' M4.out hpl (by rw [M4.out.len]; exact hs) (M4.out.symm.small HS.out) (HT.out.below B.out)).mono ?_
  rintro e w18 ⟨⟨z1, y1, z2, y2, z3, y3, gz', v2, m2, rfl, o18, -, x18, -, -, va18, -⟩, b18⟩
  obtain ⟨W18, hW18⟩ : ∃ W, W = w18.alloc (.cells #[.int .i64 ii, .int .i64 tt, .int .i64 ss, .string nn, .int .i64 dd, .int .i64 LL, .int .i64 SS, .slice z1 WW.length y1, .slice z2 GG.length y2, .int .i64 CC, .int .i64 ZZ, .slice z3 gz'.length y3] 40) := ⟨_, rfl⟩
  have bb : Below w18.heap.size w18 W18 := by rw [hW18]; exact u_b1 _ _
  have hzW18 : w18.heap.size + 1 ≤ W18.heap.size := by rw [hW18]; simp
  have Yz := hid (show W18.heap[w18.heap.size]? = some (.cells #[.int .i64 ii, .int .i64 tt, .int .i64 ss, .string nn, .int .i64 dd, .int .i64 LL, .int .i64 SS, .slice z1 WW.length y1, .slice z2 GG.length y2, .int .i64 CC, .int .i64 ZZ, .slice z3 gz'.length y3] 40 (0, 0)) by rw [hW18]; exact laid w18 _ _)
  have b18' := u_cat b18 bb
  have B := hid (u_cat B.out b18')
  have W0w := hid (W0w.out.below b18')
  have MW := hid (MW.out.below b18')
  have Y0 := hid (kept Y0.out b18')
  have G0 := hid (G0.out.below b18')
  have Yg := hid (kept Yg.out b18')
  have MG := hid (MG.out.below b18')
  have Gz := hid (o18.below bb)
  have W2w := hid (x18.below bb)
  have SZ := hid (vals_same.1 (va18.trans V0.out.symm))
  have hgzl : gz'.length ≤ 1048576 := by rw [vals_len va18]; exact hvl
  have SMZ := hid (vals_smallG va18 HVL.out)
  clear b18 b18' o18 x18 va18 bb M4 O17 X
  repeat ((fail_if_success (with_reducible show Code.wp _ (Code.region 29 _ _) _ _ _)); (first | go_values | go_skip | go_guarded | go_step | go_upon | go_back | go_simp))
  rw [← hW18]
  clear hW18
  have s0 := (box_cell Yz.out 0 (v := .int .i64 ii) rfl)
  have s1 := (box_cell Yz.out 1 (v := .int .i64 tt) rfl)
  have s2 := (box_cell Yz.out 2 (v := .int .i64 ss) rfl)
  have s3 := (box_cell Yz.out 3 (v := .string nn) rfl)
  have s4 := (box_cell Yz.out 4 (v := .int .i64 dd) rfl)
  have s5 := (box_cell Yz.out 5 (v := .int .i64 LL) rfl)
  have s6 := (box_cell Yz.out 6 (v := .int .i64 SS) rfl)
  have s7 := (box_cell Yz.out 7 (v := .slice z1 WW.length y1) rfl)
  have s8 := (box_cell Yz.out 8 (v := .slice z2 GG.length y2) rfl)
  have s9 := (box_cell Yz.out 9 (v := .int .i64 CC) rfl)
  have s10 := (box_cell Yz.out 10 (v := .int .i64 ZZ) rfl)
  have s11 := (box_cell Yz.out 11 (v := .slice z3 gz'.length y3) rfl)
  have u0 := (box_cell Y0.out 0 (v := .int .i64 ii) rfl)
  have u1 := (box_cell Y0.out 1 (v := .int .i64 tt) rfl)
  have u2 := (box_cell Y0.out 2 (v := .int .i64 ss) rfl)
  have u3 := (box_cell Y0.out 3 (v := .string nn) rfl)
  have u4 := (box_cell Y0.out 4 (v := .int .i64 dd) rfl)
  have u5 := (box_cell Y0.out 5 (v := .int .i64 LL) rfl)
  have u6 := (box_cell Y0.out 6 (v := .int .i64 SS) rfl)
  have u7 := (box_cell Y0.out 7 (v := .slice p1 WW.length e1) rfl)
  have u8 := (box_cell Y0.out 8 (v := .slice p2 GG.length e2) rfl)
  have u9 := (box_cell Y0.out 9 (v := .int .i64 CC) rfl)
  have u10 := (box_cell Y0.out 10 (v := .int .i64 ZZ) rfl)
  have u11 := (box_cell Y0.out 11 (v := .slice p3 gs0.length e3) rfl)
  go_wp2_with fail
  refine (eqClient_eq ii tt ss dd nn LL SS z1 z2 y1 y2 p1 p2 e1 e2 WW GG CC ZZ z3 p3 y3 e3 gz' gs0 _ Gz.out.at'.i1 Gz.out.at'.i2 G0.out.at'.i1 G0.out.at'.i2 hwl hgl Gz.out.at'.eq G0.out.at'.eq SZ.out hgzl SMZ.out).mono ?_
  rintro e w19 ⟨rfl, b19⟩
  have B := hid (u_cat B.out b19)
  have Yg := hid (kept Yg.out b19)
  have MG := hid (MG.out.below b19)
  have MW := hid (MW.out.below b19)
  have W2w := hid (W2w.out.below b19)
  have W0w := hid (W0w.out.below b19)
  clear b19 s0 s1 s2 s3 s4 s5 s6 s7 s8 s9 s10 s11 u0 u1 u2 u3 u4 u5 u6 u7 u8 u9 u10 u11
  go_wp2_with fail
  refine (eqWordS_any W2w.out W0w.out).mono ?_
  rintro e w20 ⟨rfl, b20⟩
  have B := hid (u_cat B.out b20)
  have MW := hid (MW.out.below b20)
  have Yg := hid (kept Yg.out b20)
  have MG := hid (MG.out.below b20)
  clear b20 W2w W0w
  have s0 := (box_cell Yg.out 0 (v := .int .i64 ii) rfl)
  have s1 := (box_cell Yg.out 1 (v := .int .i64 tt) rfl)
  have s2 := (box_cell Yg.out 2 (v := .int .i64 ss) rfl)
  have s3 := (box_cell Yg.out 3 (v := .string nn) rfl)
  have s4 := (box_cell Yg.out 4 (v := .int .i64 dd) rfl)
  have s5 := (box_cell Yg.out 5 (v := .int .i64 LL) rfl)
  have s6 := (box_cell Yg.out 6 (v := .int .i64 SS) rfl)
  have s7 := (box_cell Yg.out 7 (v := .slice r1 WW.length f1) rfl)
  have s8 := (box_cell Yg.out 8 (v := .slice r2 GG.length f2) rfl)
  have s9 := (box_cell Yg.out 9 (v := .int .i64 CC) rfl)
  have s10 := (box_cell Yg.out 10 (v := .int .i64 ZZ) rfl)
  have s11 := (box_cell Yg.out 11 (v := .slice r3 gg.length f3) rfl)
  go_wp2_with fail
  refine (KH.out _ MG.out).mono ?_
  rintro e wh2 ⟨rfl, bh⟩
  have B := hid (u_cat B.out bh)
  have MW := hid (MW.out.below bh)
  have Yg := hid (kept Yg.out bh)
  have MG := hid (MG.out.below bh)
  have hzh2 := bh.size
  clear bh s0 s1 s2 s3 s4 s5 s6 s7 s8 s9 s10 s11
  go_wp2_with fail
  refine (KV.out _ MW.out).mono ?_
  rintro e wv2 ⟨rfl, bh⟩
  have B := hid (u_cat B.out bh)
  have MW := hid (MW.out.below bh)
  have Yg := hid (kept Yg.out bh)
  have MG := hid (MG.out.below bh)
  have hzv2 := bh.size
  clear bh
  go_wp2_with fail
  go_ret
  exact ⟨rfl, B.out⟩
theorem walk_FnExactClientAgain (cs0 : List Value) (w : World) (w0 : Reads w 31 cs0) (hT : Tab w) :
    Calls Tryz.prog 4 #[.agg cs0.toArray] w fun e w' => e = .returned (.bool true) ∧ Below w.heap.size w w' := by
  obtain ⟨i, t, s, nm, ed, L, S, a1, n1, k1, z1, a2, n2, k2, z2, C, Z, a, cap, es, rfl, hnm, r1, r2, ha, hl, hL⟩ := reads_client w0
  have e1 := isRow_len r1
  have e2 := isRow_len r2
  have l1 := isRow_le r1
  have l2 := isRow_le r2
  have i1 := isRow_ints r1
  have i2 := isRow_ints r2
  obtain ⟨ws, hws⟩ : ∃ ws, z1.take n1 = ws := ⟨_, rfl⟩
  obtain ⟨gs, hgs⟩ : ∃ gs, z2.take n2 = gs := ⟨_, rfl⟩
  rw [hws] at e1 i1
  rw [hgs] at e2 i2
  subst e1 e2
  have key : ∀ fs, SamV fs es → (cliP i t s ed nm (nonP L S ws.length gs.length C Z fs.length) (getP L S ws gs C Z fs) (getP L S ws gs C Z fs ∧ (fs.length : Int) = C) ↔ cliP i t s ed nm (nonP L S ws.length gs.length C Z es.length) (getP L S ws gs C Z es) (getP L S ws gs C Z es ∧ (es.length : Int) = C)) := fun fs h => by
    have h1 : getP L S ws gs C Z fs ↔ getP L S ws gs C Z es := h.getP
    rw [h.len, h1]
  have hvk0 : ws.length + gs.length ≤ 1048576 → es.length ≤ 1048576 → SmallE es → ([] : List Int).length ≤ 1048576 ∧ ([] : List Int).length ≤ 1048576 ∧ ([] : List Vl).length ≤ 1048576 ∧ ∀ k ∈ ([] : List Vl), k.1.length ≤ 1048576 ∧ k.2.size ≤ 1048576 := fun _ _ _ => ⟨by simp, by simp, by simp, fun k hk => by simp at hk⟩
  have hvk1 : ws.length + gs.length ≤ 1048576 → es.length ≤ 1048576 → SmallE es → ws.length ≤ 1048576 ∧ gs.length ≤ 1048576 ∧ (valsE es).length ≤ 1048576 ∧ ∀ k ∈ valsE es, k.1.length ≤ 1048576 ∧ k.2.size ≤ 1048576 := fun h1 h2 h3 => ⟨by omega, by omega, by simpa [valsE] using h2, fun k hk => by
    obtain ⟨e, he, rfl⟩ := List.mem_map.1 hk
    exact h3 e he⟩
  by_cases hp : cliP i t s ed nm (nonP L S ws.length gs.length C Z es.length) (getP L S ws gs C Z es) (getP L S ws gs C Z es ∧ (es.length : Int) = C)
  · have ht0 := hp.2.1
    by_cases ht : t = 99999
    · subst ht
      by_cases he : ed = 0
      · subst he
        exact exactClientAgain_of i 99999 s 0 nm L S a1 a2 k1 k2 ws gs C Z a cap es i 99999 s 0 nm L S C Z ws gs (valsE es) none w ⟨i1, i2, ha⟩ hnm l1 l2 hl hL hT hvk1
          (fun p1 f1 p2 f2 a c' fs w hA hs hpl hl hsm hcap => by rw [← vals_same.2 hs]; exact specAgain_full i s 0 nm L S p1 p2 f1 f2 ws gs C Z a c' fs w hA (by omega) (by omega) hl hsm hnm hcap ((key fs hs).2 hp))
          (fun p1 f1 p2 f2 a c' fs w hA hs hpl hl hsm hT => by rw [← vals_same.2 hs]; exact implAgain_ed i 99999 s nm L S p1 p2 f1 f2 ws gs C Z a c' fs w hA (by omega) (by omega) hl hsm hnm hT ((key fs hs).2 hp))
      · by_cases hs3 : s = 3
        · subst hs3
          exact exactClientAgain_of i 99999 3 ed nm L S a1 a2 k1 k2 ws gs C Z a cap es i 99999 3 ed nm L S C Z ws gs (valsE es) none w ⟨i1, i2, ha⟩ hnm l1 l2 hl hL hT hvk1
            (fun p1 f1 p2 f2 a c' fs w hA hs hpl hl hsm hcap => by rw [← vals_same.2 hs]; exact specAgain_full i 3 ed nm L S p1 p2 f1 f2 ws gs C Z a c' fs w hA (by omega) (by omega) hl hsm hnm hcap ((key fs hs).2 hp))
            (fun p1 f1 p2 f2 a c' fs w hA hs hpl hl hsm hT => by rw [← vals_same.2 hs]; exact implAgain_known i 99999 ed nm L S p1 p2 f1 f2 ws gs C Z a c' fs w hA (by omega) (by omega) hl hsm hnm hT ((key fs hs).2 hp) he)
        · skip
          exact exactClientAgain_of i 99999 s ed nm L S a1 a2 k1 k2 ws gs C Z a cap es i 99999 s ed nm L S C Z ws gs (valsE es) none w ⟨i1, i2, ha⟩ hnm l1 l2 hl hL hT hvk1
            (fun p1 f1 p2 f2 a c' fs w hA hs hpl hl hsm hcap => by rw [← vals_same.2 hs]; exact specAgain_full i s ed nm L S p1 p2 f1 f2 ws gs C Z a c' fs w hA (by omega) (by omega) hl hsm hnm hcap ((key fs hs).2 hp))
            (fun p1 f1 p2 f2 a c' fs w hA hs hpl hl hsm hT => by rw [← vals_same.2 hs]; exact implAgain_full i s ed nm L S p1 p2 f1 f2 ws gs C Z a c' fs w hA (by omega) (by omega) hl hsm hnm hT ((key fs hs).2 hp) he hs3)
    · have ht9 : t < 99999 := by omega
      by_cases he : ed = 0
      · subst he
        exact exactClientAgain_of i t s 0 nm L S a1 a2 k1 k2 ws gs C Z a cap es i t s 0 nm L S C Z ws gs (valsE es) none w ⟨i1, i2, ha⟩ hnm l1 l2 hl hL hT hvk1
          (fun p1 f1 p2 f2 a c' fs w hA hs hpl hl hsm hcap => by rw [← vals_same.2 hs]; exact specAgain_ed i t s nm L S p1 p2 f1 f2 ws gs C Z a c' fs w hA (by omega) (by omega) hl hsm hnm hcap ((key fs hs).2 hp) ht9)
          (fun p1 f1 p2 f2 a c' fs w hA hs hpl hl hsm hT => by rw [← vals_same.2 hs]; exact implAgain_ed i t s nm L S p1 p2 f1 f2 ws gs C Z a c' fs w hA (by omega) (by omega) hl hsm hnm hT ((key fs hs).2 hp))
      · by_cases hs3 : s = 3
        · subst hs3
          exact exactClientAgain_of i t 3 ed nm L S a1 a2 k1 k2 ws gs C Z a cap es i t 3 ed nm L S C Z ws gs (valsE es) none w ⟨i1, i2, ha⟩ hnm l1 l2 hl hL hT hvk1
            (fun p1 f1 p2 f2 a c' fs w hA hs hpl hl hsm hcap => by rw [← vals_same.2 hs]; exact specAgain_known i t ed nm L S p1 p2 f1 f2 ws gs C Z a c' fs w hA (by omega) (by omega) hl hsm hnm hcap ((key fs hs).2 hp) ht9 he)
            (fun p1 f1 p2 f2 a c' fs w hA hs hpl hl hsm hT => by rw [← vals_same.2 hs]; exact implAgain_known i t ed nm L S p1 p2 f1 f2 ws gs C Z a c' fs w hA (by omega) (by omega) hl hsm hnm hT ((key fs hs).2 hp) he)
        · skip
          exact exactClientAgain_of i t s ed nm L S a1 a2 k1 k2 ws gs C Z a cap es i (t + 1) 1 ed nm L S C Z ws gs (valsE es) (some ⟨1, i, t + 1, ed, 0, nm, ⟨#[]⟩⟩) w ⟨i1, i2, ha⟩ hnm l1 l2 hl hL hT hvk1
            (fun p1 f1 p2 f2 a c' fs w hA hs hpl hl hsm hcap => by rw [← vals_same.2 hs]; exact specAgain_new i t s ed nm L S p1 p2 f1 f2 ws gs C Z a c' fs w hA (by omega) (by omega) hl hsm hnm hcap ((key fs hs).2 hp) ht9 he hs3)
            (fun p1 f1 p2 f2 a c' fs w hA hs hpl hl hsm hT => by rw [← vals_same.2 hs]; exact implAgain_new i t s ed nm L S p1 p2 f1 f2 ws gs C Z a c' fs w hA (by omega) (by omega) hl hsm hnm hT ((key fs hs).2 hp) ht9 he hs3)
  · skip
    exact exactClientAgain_of i t s ed nm L S a1 a2 k1 k2 ws gs C Z a cap es 0 0 0 0 ⟨#[]⟩ 0 0 0 0 [] [] [] none w ⟨i1, i2, ha⟩ hnm l1 l2 hl hL hT hvk0
      (fun p1 f1 p2 f2 a c' fs w hA hs hpl hl hsm hcap => specAgain_no i t s ed nm L S p1 p2 f1 f2 ws gs C Z a c' fs w hA (by omega) (by omega) hl hsm hnm hcap (fun h => hp ((key fs hs).1 h)))
      (fun p1 f1 p2 f2 a c' fs w hA hs hpl hl hsm hT => implAgain_no i t s ed nm L S p1 p2 f1 f2 ws gs C Z a c' fs w hA (by omega) (by omega) hl hsm hnm hT (fun h => hp ((key fs hs).1 h)))
end Go.Proofs.YtbakicgdloakgaaGreatDoor
