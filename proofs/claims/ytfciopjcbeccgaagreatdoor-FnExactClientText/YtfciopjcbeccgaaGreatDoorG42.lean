/- The walk of the law on what a client knows. -/
import Derived.Test.YtfciopjcbeccgaaGreatDoorG37
import Derived.Test.YtfciopjcbeccgaaGreatDoorG41
import Derived.Test.YtfciopjcbeccgaaGreatDoorG6
namespace Go.Proofs.YtfciopjcbeccgaaGreatDoor
open Go.ChangeShapes Go.WideShapes Go.ChangeAt Go.RowKit Go.Sort Go.Shelf
attribute [local go_sem] Oper.semAt_some

set_option maxHeartbeats 16000000 in
set_option maxRecDepth 100000 in
theorem clientText_of (i t s ed : Int) (nm : ByteArray) (L S : Int) (a1 a2 : Option Addr) (c1 c2 : Nat) (ws gs : List Int) (C Z : Int) (a : Option Addr) (cap : Nat) (es : List EqV) (T : ByteArray) (w : World) (hnm : nm.size ≤ maxLen) (ha1 : IntsAt w a1 ws) (ha2 : IntsAt w a2 gs) (hx : ws.length ≤ 9223372036854775807) (hy : gs.length ≤ 9223372036854775807) (ha : EqsAt w a es) (hn : es.length ≤ 9223372036854775807) (hL : LongE es) (hT : Tab w)
    (hsp : ∀ p1 f1 p2 f2 a c' fs w, IntsAt w p1 ws → IntsAt w p2 gs → ws.length + gs.length ≤ 1048576 → EqsAt w a fs → SamV fs es → fs.length ≤ 1048576 → SmallE fs → Calls Tryz.prog 5 #[.agg #[.int .i64 i, .int .i64 t, .int .i64 s, .string nm, .int .i64 ed, .int .i64 L, .int .i64 S, .slice p1 ws.length f1, .slice p2 gs.length f2, .int .i64 C, .int .i64 Z, .slice a fs.length c']] w fun e w' => e = .returned (.string T) ∧ Below w.heap.size w w')
    (him : ∀ p1 f1 p2 f2 a c' fs w, IntsAt w p1 ws → IntsAt w p2 gs → ws.length + gs.length ≤ 1048576 → EqsAt w a fs → SamV fs es → fs.length ≤ 1048576 → SmallE fs → Tab w → Calls Tryz.prog 7 #[.agg #[.int .i64 i, .int .i64 t, .int .i64 s, .string nm, .int .i64 ed, .int .i64 L, .int .i64 S, .slice p1 ws.length f1, .slice p2 gs.length f2, .int .i64 C, .int .i64 Z, .slice a fs.length c']] w fun e w' => e = .returned (.string T) ∧ Below w.heap.size w w') :
    Calls Tryz.prog 3 #[.agg #[.int .i64 i, .int .i64 t, .int .i64 s, .string nm, .int .i64 ed, .int .i64 L, .int .i64 S, .slice a1 ws.length c1, .slice a2 gs.length c2, .int .i64 C, .int .i64 Z, .slice a es.length cap]] w fun e w' => e = .returned (.bool true) ∧ Below w.heap.size w w' := by
  have HA := hid ha
  have H1 := hid ha1
  have H2 := hid ha2
  have HT := hid hT
  have HSP := hid hsp
  have HIM := hid him
  have hbb : (T.toList == T.toList) = true := by simp
  have hnm2 : nm.size ≤ 9223372036854775807 := by unfold maxLen at hnm; omega
  clear ha ha1 ha2 hT hsp him
  go_enter Tryz.func3, Tryz.ntmps3
  go_wp2_with fail
  refine (szClient_ex i t s ed nm L S a1 a2 ws.length c1 gs.length c2 C Z a cap es _ hnm2 hx hy (HA.out.below (u_b1 _ _)) hn hL).mono ?_
  rintro e w1 ⟨v, rfl, hv, b1⟩
  have X := hid (kept (laid w #[.int .i64 i, .int .i64 t, .int .i64 s, .string nm, .int .i64 ed, .int .i64 L, .int .i64 S, .slice a1 ws.length c1, .slice a2 gs.length c2, .int .i64 C, .int .i64 Z, .slice a es.length cap] 31) b1)
  have B := hid (u_cat (u_b1 _ _) b1)
  have HV := hid hv
  clear b1 hv
  by_cases hv0 : v < 0
  · go_wp2_with fail
    go_ret
    exact ⟨rfl, B.out⟩
  obtain ⟨⟨hpl, hs, hsm⟩, -, -⟩ := HV.out.resolve_left hv0
  have HS := hid hsm
  have hvv : ¬ (v < 0) := hv0
  clear hsm HV
  have p0 := (box_cell X.out 0 (v := .int .i64 i) rfl)
  have p1 := (box_cell X.out 1 (v := .int .i64 t) rfl)
  have p2 := (box_cell X.out 2 (v := .int .i64 s) rfl)
  have p3 := (box_cell X.out 3 (v := .string nm) rfl)
  have p4 := (box_cell X.out 4 (v := .int .i64 ed) rfl)
  have p5 := (box_cell X.out 5 (v := .int .i64 L) rfl)
  have p6 := (box_cell X.out 6 (v := .int .i64 S) rfl)
  have p7 := (box_cell X.out 7 (v := .slice a1 ws.length c1) rfl)
  have p8 := (box_cell X.out 8 (v := .slice a2 gs.length c2) rfl)
  have p9 := (box_cell X.out 9 (v := .int .i64 C) rfl)
  have p10 := (box_cell X.out 10 (v := .int .i64 Z) rfl)
  have p11 := (box_cell X.out 11 (v := .slice a es.length cap) rfl)
  go_wp2_with fail
  refine (toClient_any i t s ed nm L S a1 a2 c1 c2 ws gs C Z a cap es _ (H1.out.below B.out) (H2.out.below B.out) (by omega) (by omega) (HA.out.below B.out) hs HS.out).mono ?_
  rintro e w2 ⟨p1', d1, p2', d2, r1, f1, fs, rfl, i1, i2, o2, s2', b2⟩
  have X := hid (kept X.out b2)
  have B := hid (u_cat B.out b2)
  have I1 := hid i1
  have I2 := hid i2
  have O2 := hid o2
  have M1 := hid s2'
  clear b2 i1 i2 o2 s2' p0 p1 p2 p3 p4 p5 p6 p7 p8 p9 p10 p11
  go_wp2_with fail
  refine (HSP.out p1' d1 p2' d2 r1 f1 fs _ I1.out I2.out hpl O2.out M1.out (by rw [M1.out.len]; exact hs) (M1.out.symm.small HS.out)).mono ?_
  rintro e w3 ⟨rfl, b3⟩
  have X := hid (kept X.out b3)
  have B := hid (u_cat B.out b3)
  clear b3 O2 M1 I1 I2
  have p0 := (box_cell X.out 0 (v := .int .i64 i) rfl)
  have p1 := (box_cell X.out 1 (v := .int .i64 t) rfl)
  have p2 := (box_cell X.out 2 (v := .int .i64 s) rfl)
  have p3 := (box_cell X.out 3 (v := .string nm) rfl)
  have p4 := (box_cell X.out 4 (v := .int .i64 ed) rfl)
  have p5 := (box_cell X.out 5 (v := .int .i64 L) rfl)
  have p6 := (box_cell X.out 6 (v := .int .i64 S) rfl)
  have p7 := (box_cell X.out 7 (v := .slice a1 ws.length c1) rfl)
  have p8 := (box_cell X.out 8 (v := .slice a2 gs.length c2) rfl)
  have p9 := (box_cell X.out 9 (v := .int .i64 C) rfl)
  have p10 := (box_cell X.out 10 (v := .int .i64 Z) rfl)
  have p11 := (box_cell X.out 11 (v := .slice a es.length cap) rfl)
  go_wp2_with fail
  refine (toClient_any i t s ed nm L S a1 a2 c1 c2 ws gs C Z a cap es _ (H1.out.below B.out) (H2.out.below B.out) (by omega) (by omega) (HA.out.below B.out) hs HS.out).mono ?_
  rintro e w4 ⟨q1, g1, q2, g2, r2, f2, gq, rfl, i1, i2, o4, s4', b4⟩
  have b5' := u_b1 w4 (.cells #[.int .i64 i, .int .i64 t, .int .i64 s, .string nm, .int .i64 ed, .int .i64 L, .int .i64 S, .slice q1 ws.length g1, .slice q2 gs.length g2, .int .i64 C, .int .i64 Z, .slice r2 gq.length f2] 41)
  have b4' := u_cat b4 b5'
  have X := hid (kept X.out b4')
  have B := hid (u_cat B.out b4')
  have Y := hid (laid w4 #[.int .i64 i, .int .i64 t, .int .i64 s, .string nm, .int .i64 ed, .int .i64 L, .int .i64 S, .slice q1 ws.length g1, .slice q2 gs.length g2, .int .i64 C, .int .i64 Z, .slice r2 gq.length f2] 41)
  have J1 := hid (o4.below b5')
  have I1 := hid (i1.below b5')
  have I2 := hid (i2.below b5')
  have M2 := hid s4'
  clear b4 b4' b5' i1 i2 o4 s4' p0 p1 p2 p3 p4 p5 p6 p7 p8 p9 p10 p11
  have s0 := (box_cell Y.out 0 (v := .int .i64 i) rfl)
  have s1 := (box_cell Y.out 1 (v := .int .i64 t) rfl)
  have s2 := (box_cell Y.out 2 (v := .int .i64 s) rfl)
  have s3 := (box_cell Y.out 3 (v := .string nm) rfl)
  have s4 := (box_cell Y.out 4 (v := .int .i64 ed) rfl)
  have s5 := (box_cell Y.out 5 (v := .int .i64 L) rfl)
  have s6 := (box_cell Y.out 6 (v := .int .i64 S) rfl)
  have s7 := (box_cell Y.out 7 (v := .slice q1 ws.length g1) rfl)
  have s8 := (box_cell Y.out 8 (v := .slice q2 gs.length g2) rfl)
  have s9 := (box_cell Y.out 9 (v := .int .i64 C) rfl)
  have s10 := (box_cell Y.out 10 (v := .int .i64 Z) rfl)
  have s11 := (box_cell Y.out 11 (v := .slice r2 gq.length f2) rfl)
  go_wp2_with fail
  refine (HIM.out q1 g1 q2 g2 r2 f2 gq _ I1.out I2.out hpl J1.out M2.out (by rw [M2.out.len]; exact hs) (M2.out.symm.small HS.out) (HT.out.below B.out)).mono ?_
  rintro e w5 ⟨rfl, b5⟩
  have X := hid (kept X.out b5)
  have B := hid (u_cat B.out b5)
  have Y := hid (kept Y.out b5)
  have J1 := hid (J1.out.below b5)
  have I1 := hid (I1.out.below b5)
  have I2 := hid (I2.out.below b5)
  clear b5 s0 s1 s2 s3 s4 s5 s6 s7 s8 s9 s10 s11
  repeat ((fail_if_success (with_reducible show Code.wp _ (Code.region 10 _ _) _ _ _)); (first | go_values | go_skip | go_guarded | go_step | go_upon | go_back | go_simp))
  have p0 := cell_regrown (box_cell X.out 0 (v := .int .i64 i) rfl)
  have p1 := cell_regrown (box_cell X.out 1 (v := .int .i64 t) rfl)
  have p2 := cell_regrown (box_cell X.out 2 (v := .int .i64 s) rfl)
  have p3 := cell_regrown (box_cell X.out 3 (v := .string nm) rfl)
  have p4 := cell_regrown (box_cell X.out 4 (v := .int .i64 ed) rfl)
  have p5 := cell_regrown (box_cell X.out 5 (v := .int .i64 L) rfl)
  have p6 := cell_regrown (box_cell X.out 6 (v := .int .i64 S) rfl)
  have p7 := cell_regrown (box_cell X.out 7 (v := .slice a1 ws.length c1) rfl)
  have p8 := cell_regrown (box_cell X.out 8 (v := .slice a2 gs.length c2) rfl)
  have p9 := cell_regrown (box_cell X.out 9 (v := .int .i64 C) rfl)
  have p10 := cell_regrown (box_cell X.out 10 (v := .int .i64 Z) rfl)
  have p11 := cell_regrown (box_cell X.out 11 (v := .slice a es.length cap) rfl)
  have s0 := cell_regrown (box_cell Y.out 0 (v := .int .i64 i) rfl)
  have s1 := cell_regrown (box_cell Y.out 1 (v := .int .i64 t) rfl)
  have s2 := cell_regrown (box_cell Y.out 2 (v := .int .i64 s) rfl)
  have s3 := cell_regrown (box_cell Y.out 3 (v := .string nm) rfl)
  have s4 := cell_regrown (box_cell Y.out 4 (v := .int .i64 ed) rfl)
  have s5 := cell_regrown (box_cell Y.out 5 (v := .int .i64 L) rfl)
  have s6 := cell_regrown (box_cell Y.out 6 (v := .int .i64 S) rfl)
  have s7 := cell_regrown (box_cell Y.out 7 (v := .slice q1 ws.length g1) rfl)
  have s8 := cell_regrown (box_cell Y.out 8 (v := .slice q2 gs.length g2) rfl)
  have s9 := cell_regrown (box_cell Y.out 9 (v := .int .i64 C) rfl)
  have s10 := cell_regrown (box_cell Y.out 10 (v := .int .i64 Z) rfl)
  have s11 := cell_regrown (box_cell Y.out 11 (v := .slice r2 gq.length f2) rfl)
  refine wp_plan 5 (.pull [(0, 2)] (.step 2 (.step 3 (.pull [(4, 1)] .done)))) (by kernel_rfl) (by kernel_rfl) ?_
  intro V0' hw0
  have hbq := of_class hw0
  refine pln_pull ?_
  simp only [cutOut, List.take_succ_cons, List.take_zero, List.drop_zero, List.append_nil]
  repeat (first | go_big_quiet_step (fail) | quiet_step (fail))
  try refine wpQuiet_nil ?_
  clear p0 p1 p2 p3 p4 p5 p6 p7 p8 p9 p10 p11 s0 s1 s2 s3 s4 s5 s6 s7 s8 s9 s10 s11 hw0
  have X := hid (kept X.out hbq)
  have B := hid (u_cat B.out hbq)
  have J1 := hid (J1.out.below hbq)
  have I1 := hid (I1.out.below hbq)
  have I2 := hid (I2.out.below hbq)
  refine pln_step rfl (by omega) (fun K hK => ?_)
  go_simp
  with_reducible refine (toClient_any i t s ed nm L S a1 a2 c1 c2 ws gs C Z a cap es V0' (H1.out.below B.out) (H2.out.below B.out) (by omega) (by omega) (HA.out.below B.out) hs HS.out).mono ?_
  rintro _ V1 ⟨t1, h1, t2, h2, t3, h3, ks, rfl, j1, j2, o8, s8, b8⟩
  have hcl := u_cat hbq b8
  refine hK _ _ (class_of hcl) ?_
  clear hK K
  have B := hid (u_cat B.out b8)
  refine pln_step rfl (by omega) (fun K hK => ?_)
  go_simp
  with_reducible refine (eqClient_eq i t s ed nm L S q1 q2 g1 g2 t1 t2 h1 h2 ws gs C Z r2 t3 f2 h3 gq ks V1 (I1.out.below b8) (I2.out.below b8) j1 j2 (by omega) (by omega) (J1.out.below b8) o8 (M2.out.trans s8.symm) (by rw [M2.out.len]; exact hs) (M2.out.symm.small HS.out)).mono ?_
  rintro _ V2 ⟨rfl, b9⟩
  refine hK _ _ (class_of (u_cat hcl b9)) ?_
  clear hK K
  have B := hid (u_cat B.out b9)
  refine pln_pull ?_
  simp only [cutOut, List.take_succ_cons, List.take_zero, List.drop_succ_cons, List.drop_zero, List.append_nil]
  repeat (first | go_big_quiet_step (fail) | quiet_step (fail))
  try refine wpQuiet_nil ?_
  refine pln_done ?_
  go_wp2_with fail
  go_ret
  exact ⟨rfl, B.out⟩

theorem walk_FnExactClientText (cs0 : List Value) (w : World) (w0 : Reads w 31 cs0) (hT : Tab w) :
    Calls Tryz.prog 3 #[.agg cs0.toArray] w fun e w' => e = .returned (.bool true) ∧ Below w.heap.size w w' := by
  obtain ⟨i, t, s, nm, ed, L, S, a1, n1, k1, z1, a2, n2, k2, z2, C, Z, a, cap, es, rfl, hnm, r1, r2, ha, hl, hL⟩ := reads_client w0
  have e1 := isRow_len r1
  have e2 := isRow_len r2
  have l1 := isRow_le r1
  have l2 := isRow_le r2
  have i1 := isRow_ints r1
  have i2 := isRow_ints r2
  obtain ⟨ws, hws⟩ : ∃ ws, z1.take n1 = ws := ⟨_, rfl⟩
  obtain ⟨gs, hgs⟩ : ∃ gs, z2.take n2 = gs := ⟨_, rfl⟩
  rw [hws] at e1 i1
  rw [hgs] at e2 i2
  subst e1 e2
  have key : ∀ fs, SamV fs es → cliT i t s ed nm L S ws gs C Z fs = cliT i t s ed nm L S ws gs C Z es := fun fs h => by
    have h1 : getP L S ws gs C Z fs ↔ getP L S ws gs C Z es := h.getP
    have h2 : cliP i t s ed nm (nonP L S ws.length gs.length C Z fs.length) (getP L S ws gs C Z fs) (getP L S ws gs C Z fs ∧ (fs.length : Int) = C) ↔ cliP i t s ed nm (nonP L S ws.length gs.length C Z es.length) (getP L S ws gs C Z es) (getP L S ws gs C Z es ∧ (es.length : Int) = C) := by rw [h.len, h1]
    unfold cliT
    by_cases hp : cliP i t s ed nm (nonP L S ws.length gs.length C Z es.length) (getP L S ws gs C Z es) (getP L S ws gs C Z es ∧ (es.length : Int) = C)
    · rw [if_pos hp, if_pos (h2.2 hp), h.text]
    · rw [if_neg hp, if_neg (fun h3 => hp (h2.1 h3))]
  exact clientText_of i t s ed nm L S a1 a2 k1 k2 ws gs C Z a cap es _ w hnm i1 i2 l1 l2 ha hl hL hT
    (fun p1 f1 p2 f2 a c' fs w i1 i2 hpl he hs hl hsm => key fs hs ▸ specTx_any i t s ed nm L S p1 p2 f1 f2 ws gs C Z a c' fs w i1 i2 (by omega) (by omega) he hl hsm hnm)
    (fun p1 f1 p2 f2 a c' fs w i1 i2 hpl he hs hl hsm hT => key fs hs ▸ implTx_any i t s ed nm L S p1 p2 f1 f2 ws gs C Z a c' fs w i1 i2 (by omega) (by omega) he hl hsm hnm hT)
end Go.Proofs.YtfciopjcbeccgaaGreatDoor
