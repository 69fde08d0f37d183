/- A getting, a client copied by the program. Clients copied, by the program and by the model. -/
import Derived.Test.YtbakicgdloakgaaGreatDoorG30
import Derived.Test.YtbakicgdloakgaaGreatDoorG23
import Derived.Test.YtbakicgdloakgaaGreatDoorG29
import Derived.Test.YtbakicgdloakgaaGreatDoorG6
namespace Go.Proofs.YtbakicgdloakgaaGreatDoor
open Go.ChangeShapes Go.WideShapes Go.ChangeAt Go.RowKit Go.Sort Go.Shelf
attribute [local go_sem] Oper.semAt_some

set_option maxHeartbeats 8000000 in
set_option maxRecDepth 100000 in
theorem gcopied_any (L S : Int) (a1 a2 : Option Addr) (c1 c2 : Nat) (ws gs : List Int) (C Z : Int) (a : Option Addr) (cap : Nat) (es : List EqV) (w : World) (h : GAt w a1 a2 a ws gs es) (hx : ws.length ≤ 1048576) (hy : gs.length ≤ 1048576) (hl : es.length ≤ 1048576) (hsm : SmallE es) (hT : Tab w)
    (LL SS CC ZZ : Int) (WW GG : List Int) (vs : List Vl)
    (h1 : ¬ getP L S ws gs C Z es → LL = 0 ∧ SS = 0 ∧ WW = [] ∧ GG = [] ∧ CC = 0 ∧ ZZ = 0 ∧ vs = []) (h2 : getP L S ws gs C Z es → LL = L ∧ SS = S ∧ WW = ws ∧ GG = gs ∧ CC = C ∧ ZZ = Z ∧ vs = valsE es) :
    Calls Tryz.prog 56 #[.agg #[.int .i64 L, .int .i64 S, .slice a1 ws.length c1, .slice a2 gs.length c2, .int .i64 C, .int .i64 Z, .slice a es.length cap]] w fun e w' => ∃ b1 d1 b2 d2 a' c' fs, e = .returned (.agg #[.int .i64 LL, .int .i64 SS, .slice b1 WW.length d1, .slice b2 GG.length d2, .int .i64 CC, .int .i64 ZZ, .slice a' fs.length c']) ∧ GetOwn w' w.heap.size WW GG b1 b2 d1 d2 a' c' fs ∧ valsE fs = vs ∧ RowsAp fs ∧ Below w.heap.size w w' := by
  have HA := hid h
  have HS := hid hsm
  have HT := hid hT
  obtain ⟨W0, hW0⟩ : ∃ W0, W0 = (w.alloc (.cells #[.int .i64 L, .int .i64 S, .slice a1 ws.length c1, .slice a2 gs.length c2, .int .i64 C, .int .i64 Z, .slice a es.length cap] 38)).alloc (.cells #[.int .i64 0, .int .i64 0, .slice none 0 0, .slice none 0 0, .int .i64 0, .int .i64 0, .slice none 0 0] 38) := ⟨_, rfl⟩
  obtain ⟨X0, X1, B0⟩ := u_box2 (w := w) (c := #[.int .i64 L, .int .i64 S, .slice a1 ws.length c1, .slice a2 gs.length c2, .int .i64 C, .int .i64 Z, .slice a es.length cap]) (t := 38) (d := #[.int .i64 0, .int .i64 0, .slice none 0 0, .slice none 0 0, .int .i64 0, .int .i64 0, .slice none 0 0]) (s := 38) (w1 := W0) (by rw [hW0]; exact Below.refl _ _)
  have hs0 : w.heap.size + 2 ≤ W0.heap.size := by rw [hW0]; simp
  have hs0' : W0.heap.size ≤ w.heap.size + 2 := by rw [hW0]; simp
  have q0 := box_cell X0 0 (v := .int .i64 L) rfl
  have q1 := box_cell X0 1 (v := .int .i64 S) rfl
  have q2 := box_cell X0 2 (v := .slice a1 ws.length c1) rfl
  have q3 := box_cell X0 3 (v := .slice a2 gs.length c2) rfl
  have q4 := box_cell X0 4 (v := .int .i64 C) rfl
  have q5 := box_cell X0 5 (v := .int .i64 Z) rfl
  have q6 := box_cell X0 6 (v := .slice a es.length cap) rfl
  have HX1 := hid X1
  have HB := hid B0
  have H1 := hid h1
  have H2 := hid h2
  clear h hsm hT X0 X1 B0 h1 h2
  go_enter Tryz.func56, Tryz.ntmps56
  repeat ((fail_if_success (with_reducible show Code.wp _ (Code.region 1 _ _) _ _ _)); (first | go_values | go_skip | go_guarded | go_step | go_upon | go_back | go_simp))
  rw [← hW0]
  clear hW0
  go_wp2_with fail
  refine (known_any L S a1 a2 c1 c2 ws gs C Z a cap es W0 (HA.out.below HB.out).i1 (HA.out.below HB.out).i2 hx hy (HA.out.below HB.out).eq hl HS.out (HT.out.below HB.out)).mono ?_
  rintro e w1 ⟨bb, ⟨hg, ls, b1, d1, b2, d2, rfl, o1, o2, ap, hL, hSm⟩ | ⟨hg, rfl⟩⟩
  · skip
    have HG := hid hg
    have z2 := hg.2.1.1.2.2
    have k1 := hg.2.1.1.1.1
    have cc2 := hg.2.1.1.1.2
    have c0 : 0 ≤ C := by omega
    have hs1 := bb.size
    have AP := hid ap
    have HM := hid hSm
    replace HX1 := hid (kept HX1.out bb)
    replace HB := hid (u_cat HB.out bb)
    repeat ((fail_if_success (with_reducible show Code.wp _ (Code.region 2 _ _) _ _ _)); (first | go_values | go_skip | go_guarded | go_step | go_upon | go_back | go_simp))
    obtain ⟨V, hV⟩ : ∃ V, V = w1.alloc (.cells #[.int .i64 L, .int .i64 S, .slice b1 ws.length d1, .slice b2 gs.length d2, .int .i64 C, .int .i64 Z, .pointer (ptrOf ls)] 111) := ⟨_, rfl⟩
    obtain ⟨kb, hkb⟩ : ∃ kb, kb = w1.heap.size := ⟨_, rfl⟩
    have bv : Below w1.heap.size w1 V := by rw [hV]; exact u_b1 _ _
    have KB := hid (show V.heap[kb]? = some (.cells (knC L S (.slice b1 ws.length d1) (.slice b2 gs.length d2) C Z (ptrOf ls)) 111 (0, 0)) by rw [hV, hkb]; exact laid _ _ _)
    have hkb1 : w1.heap.size ≤ kb := by omega
    have hsv : kb + 1 ≤ V.heap.size := by rw [hV, hkb]; simp
    rw [← hV, ← hkb]
    clear hV hkb
    replace HX1 := hid (kept HX1.out bv)
    replace HB := hid (u_cat HB.out bv)
    have O1 := hid (owns_below o1 bv)
    have O2 := hid (owns_below o2 bv)
    have LI := hid (show ListAt V kb 4 (w.heap.size + 2) (knC L S (.slice b1 ws.length d1) (.slice b2 gs.length d2) C Z) 111 C Z ls from ⟨KB.out, (hL.below bv).mono (Nat.zero_le _), by rw [sameE_vals HM.out]; exact ok_vals.1 HG.out.2.1.2, sameE_bytes HM.out, fun l hl => by
      obtain ⟨i, hi, rfl⟩ := List.getElem_of_mem hl
      have := (hL i hi).1
      omega, by omega⟩)
    clear o1 o2 hL hg ap hSm
    obtain ⟨rfl, rfl, rfl, rfl, rfl, rfl, rfl⟩ := H2.out HG.out
    clear bv bb q0 q1 q2 q3 q4 q5 q6
    go_wp2_with fail
    have hwu := lt_of_block HX1.out
    with_reducible refine (getting_any kb (w.heap.size + 2) LL SS CC ZZ b1 b2 WW.length GG.length d1 d2 ls V LI.out c0 cc2 z2 (HT.out.below HB.out)).mono ?_
    rintro e w4 ⟨a', c', hs, rfl, o4, v4, r4, p4, b4⟩
    have hs4 := b4.size
    have X1b := hid (kept HX1.out b4)
    have O4 := hid o4
    have V4 := hid v4
    have R4 := hid r4
    have P4 := hid p4
    have B4 := hid (u_cat HB.out b4)
    have N1 := hid (owns_below O1.out b4)
    have N2 := hid (owns_below O2.out b4)
    have r0 := box_cell X1b.out 0 (v := .int .i64 0) rfl
    have r1 := box_cell X1b.out 1 (v := .int .i64 0) rfl
    have r2 := box_cell X1b.out 2 (v := .slice none 0 0) rfl
    have r3 := box_cell X1b.out 3 (v := .slice none 0 0) rfl
    have r4 := box_cell X1b.out 4 (v := .int .i64 0) rfl
    have r5 := box_cell X1b.out 5 (v := .int .i64 0) rfl
    have r6 := box_cell X1b.out 6 (v := .slice none 0 0) rfl
    have z0 := box_frozen X1b.out
    have l0 := lt_of_block X1b.out
    have S5 := set_block (set_block (set_block (set_block (set_block (set_block (set_block (X1b.out) 0 (.int .i64 LL)) 1 (.int .i64 SS)) 2 (.slice b1 WW.length d1)) 3 (.slice b2 GG.length d2)) 4 (.int .i64 CC)) 5 (.int .i64 ZZ)) 6 (.slice a' hs.length c')
    have x0 := box_cell S5 0 (v := .int .i64 LL) (by simp)
    have x1 := box_cell S5 1 (v := .int .i64 SS) (by simp)
    have x2 := box_cell S5 2 (v := .slice b1 WW.length d1) (by simp)
    have x3 := box_cell S5 3 (v := .slice b2 GG.length d2) (by simp)
    have x4 := box_cell S5 4 (v := .int .i64 CC) (by simp)
    have x5 := box_cell S5 5 (v := .int .i64 ZZ) (by simp)
    have x6 := box_cell S5 6 (v := .slice a' hs.length c') (by simp)
    clear o4 v4 p4 b4 S5
    go_wp2_with fail
    refine bodyPost_ret (v := .agg #[.int .i64 LL, .int .i64 SS, .slice b1 WW.length d1, .slice b2 GG.length d2, .int .i64 CC, .int .i64 ZZ, .slice a' hs.length c']) ?_ rfl ⟨b1, d1, b2, d2, a', c', hs, rfl, ⟨?_, ?_, AP.out, V.heap.size + 1, ?_, fun k e => ?_, fun k e => ?_, ?_, ?_⟩, V4.out.trans (sameE_vals HM.out), P4.out, ?_⟩
    · unfold results; rw [Tryz.results56]; simp [go_sem, x0, x1, x2, x3, x4, x5, x6]
    · have hpb : w.heap.size + 1 < W0.heap.size := by omega
      exact owns_base (owns_set (owns_set (owns_set (owns_set (owns_set (owns_set (owns_set N1.out hpb _) hpb _) hpb _) hpb _) hpb _) hpb _) hpb _) (by omega)
    · have hpb : w.heap.size + 1 < W0.heap.size := by omega
      exact owns_base (owns_set (owns_set (owns_set (owns_set (owns_set (owns_set (owns_set N2.out hpb _) hpb _) hpb _) hpb _) hpb _) hpb _) hpb _) (by omega)
    · have := HB.out.size; omega
    · have := (O1.out.lt k e).2; omega
    · have := (O2.out.lt k e).2; omega
    · exact owns_set (owns_set (owns_set (owns_set (owns_set (owns_set (owns_set O4.out (by simp; omega) _) (by simp; omega) _) (by simp; omega) _) (by simp; omega) _) (by simp; omega) _) (by simp; omega) _) (by simp; omega) _
    · exact RowsOwn.set (RowsOwn.set (RowsOwn.set (RowsOwn.set (RowsOwn.set (RowsOwn.set (RowsOwn.set R4.out (by omega) _ _) (by omega) _ _) (by omega) _ _) (by omega) _ _) (by omega) _ _) (by omega) _ _) (by omega) _ _
    · exact u_set (u_set (u_set (u_set (u_set (u_set (u_set B4.out (by simp) _ _) (by simp) _ _) (by simp) _ _) (by simp) _ _) (by simp) _ _) (by simp) _ _) (by simp) _ _
  · obtain ⟨rfl, rfl, rfl, rfl, rfl, rfl, rfl⟩ := H1.out hg
    clear hg
    have hs1 := bb.size
    obtain ⟨ls, hls⟩ : ∃ ls : List Lk, ls = [] := ⟨_, rfl⟩
    have cc2 : (0 : Int) ≤ 24 := by omega
    have c0 : (0 : Int) ≤ 0 := by omega
    have z2 : (0 : Int) ≤ 16 := by omega
    replace HX1 := hid (kept HX1.out bb)
    replace HB := hid (u_cat HB.out bb)
    repeat ((fail_if_success (with_reducible show Code.wp _ (Code.region 2 _ _) _ _ _)); (first | go_values | go_skip | go_guarded | go_step | go_upon | go_back | go_simp))
    obtain ⟨V, hV⟩ : ∃ V, V = w1.alloc (.cells #[.int .i64 0, .int .i64 0, .slice none 0 0, .slice none 0 0, .int .i64 0, .int .i64 0, .pointer none] 111) := ⟨_, rfl⟩
    obtain ⟨kb, hkb⟩ : ∃ kb, kb = w1.heap.size := ⟨_, rfl⟩
    have bv : Below w1.heap.size w1 V := by rw [hV]; exact u_b1 _ _
    have KB := hid (show V.heap[kb]? = some (.cells (knC 0 0 (.slice none 0 0) (.slice none 0 0) 0 0 (ptrOf ls)) 111 (0, 0)) by rw [hV, hkb, hls]; exact laid _ _ _)
    have hkb1 : w1.heap.size ≤ kb := by omega
    have hsv : kb + 1 ≤ V.heap.size := by rw [hV, hkb]; simp
    rw [← hV, ← hkb]
    clear hV hkb
    replace HX1 := hid (kept HX1.out bv)
    replace HB := hid (u_cat HB.out bv)
    subst hls
    have O1 := hid (show V.ownsRow W0.heap.size 3 1 (.slice none 0 0) ([] : List Int).length (([] : List Int).map (Value.int .i64)) from ⟨rfl, .inl ⟨rfl, rfl⟩⟩)
    have O2 := O1
    have LI := hid (show ListAt V kb 4 (w.heap.size + 2) (knC 0 0 (.slice none 0 0) (.slice none 0 0) 0 0) 111 0 0 [] from ⟨KB.out, LksAt.nil _ _, (by simp [valsL, okV]), fun l hl => (by cases hl), fun l hl => (by cases hl), by omega⟩)
    clear bv bb q0 q1 q2 q3 q4 q5 q6
    go_wp2_with fail
    have hwu := lt_of_block HX1.out
    with_reducible refine (getting_any kb (w.heap.size + 2) 0 0 0 0 none none 0 0 0 0 [] V LI.out c0 cc2 z2 (HT.out.below HB.out)).mono ?_
    rintro e w4 ⟨a', c', hs, rfl, o4, v4, r4, p4, b4⟩
    have hs4 := b4.size
    have X1b := hid (kept HX1.out b4)
    have O4 := hid o4
    have V4 := hid v4
    have R4 := hid r4
    have P4 := hid p4
    have B4 := hid (u_cat HB.out b4)
    have N1 := hid (owns_below O1.out b4)
    have N2 := hid (owns_below O2.out b4)
    have r0 := box_cell X1b.out 0 (v := .int .i64 0) rfl
    have r1 := box_cell X1b.out 1 (v := .int .i64 0) rfl
    have r2 := box_cell X1b.out 2 (v := .slice none 0 0) rfl
    have r3 := box_cell X1b.out 3 (v := .slice none 0 0) rfl
    have r4 := box_cell X1b.out 4 (v := .int .i64 0) rfl
    have r5 := box_cell X1b.out 5 (v := .int .i64 0) rfl
    have r6 := box_cell X1b.out 6 (v := .slice none 0 0) rfl
    have z0 := box_frozen X1b.out
    have l0 := lt_of_block X1b.out
    have S5 := set_block (set_block (set_block (set_block (set_block (set_block (set_block (X1b.out) 0 (.int .i64 0)) 1 (.int .i64 0)) 2 (.slice none 0 0)) 3 (.slice none 0 0)) 4 (.int .i64 0)) 5 (.int .i64 0)) 6 (.slice a' hs.length c')
    have x0 := box_cell S5 0 (v := .int .i64 0) (by simp)
    have x1 := box_cell S5 1 (v := .int .i64 0) (by simp)
    have x2 := box_cell S5 2 (v := .slice none 0 0) (by simp)
    have x3 := box_cell S5 3 (v := .slice none 0 0) (by simp)
    have x4 := box_cell S5 4 (v := .int .i64 0) (by simp)
    have x5 := box_cell S5 5 (v := .int .i64 0) (by simp)
    have x6 := box_cell S5 6 (v := .slice a' hs.length c') (by simp)
    clear o4 v4 p4 b4 S5
    go_wp2_with fail
    refine bodyPost_ret (v := .agg #[.int .i64 0, .int .i64 0, .slice none 0 0, .slice none 0 0, .int .i64 0, .int .i64 0, .slice a' hs.length c']) ?_ rfl ⟨none, 0, none, 0, a', c', hs, rfl, ⟨?_, ?_, ⟨fun k hk => (by cases hk), fun k hk => (by cases hk)⟩, V.heap.size + 1, ?_, fun k e => ?_, fun k e => ?_, ?_, ?_⟩, V4.out, P4.out, ?_⟩
    · unfold results; rw [Tryz.results56]; simp [go_sem, x0, x1, x2, x3, x4, x5, x6]
    · have hpb : w.heap.size + 1 < W0.heap.size := by omega
      exact owns_base (owns_set (owns_set (owns_set (owns_set (owns_set (owns_set (owns_set N1.out hpb _) hpb _) hpb _) hpb _) hpb _) hpb _) hpb _) (by omega)
    · have hpb : w.heap.size + 1 < W0.heap.size := by omega
      exact owns_base (owns_set (owns_set (owns_set (owns_set (owns_set (owns_set (owns_set N2.out hpb _) hpb _) hpb _) hpb _) hpb _) hpb _) hpb _) (by omega)
    · have := HB.out.size; omega
    · have := (O1.out.lt k e).2; omega
    · have := (O2.out.lt k e).2; omega
    · exact owns_set (owns_set (owns_set (owns_set (owns_set (owns_set (owns_set O4.out (by simp; omega) _) (by simp; omega) _) (by simp; omega) _) (by simp; omega) _) (by simp; omega) _) (by simp; omega) _) (by simp; omega) _
    · exact RowsOwn.set (RowsOwn.set (RowsOwn.set (RowsOwn.set (RowsOwn.set (RowsOwn.set (RowsOwn.set R4.out (by omega) _ _) (by omega) _ _) (by omega) _ _) (by omega) _ _) (by omega) _ _) (by omega) _ _) (by omega) _ _
    · exact u_set (u_set (u_set (u_set (u_set (u_set (u_set B4.out (by simp) _ _) (by simp) _ _) (by simp) _ _) (by simp) _ _) (by simp) _ _) (by simp) _ _) (by simp) _ _
end Go.Proofs.YtbakicgdloakgaaGreatDoor
namespace Go.Proofs.YtbakicgdloakgaaGreatDoor
open Go.ChangeShapes Go.WideShapes Go.ChangeAt Go.RowKit Go.Sort Go.Shelf
attribute [local go_sem] Oper.semAt_some

theorem cli_name {i t s ed : Int} {nm : ByteArray} {non get done : Prop} (h : cliP i t s ed nm non get done) : nm.size ≤ 6 := by
  by_cases h0 : s = 0
  · rw [(h.2.2.2.2.2.2.1 h0).1]; decide
  · have h1 := (h.2.2.2.2.2.2.2.1 h0).2
    unfold nameB at h1
    simp only [Bool.and_eq_true, decide_eq_true_eq] at h1
    omega
theorem cli_rows {i t s ed : Int} {nm : ByteArray} {L S : Int} {ws gs : List Int} {C Z : Int} {es : List EqV} (hp : cliP i t s ed nm (nonP L S ws.length gs.length C Z es.length) (getP L S ws gs C Z es) (getP L S ws gs C Z es ∧ (es.length : Int) = C)) (hg : ¬ getP L S ws gs C Z es) : L = 0 ∧ S = 0 ∧ ws = [] ∧ gs = [] ∧ C = 0 ∧ Z = 0 ∧ es = [] ∧ ed = 0 := by
  have h4 := hp.2.2.2.1
  have he : ed = 0 := by
    by_cases h0 : 0 < ed
    · exact absurd (hp.2.2.2.2.2.1 h0) hg
    · omega
  obtain ⟨h1, h2, h3, h5, h6, h7, h8⟩ := hp.2.2.2.2.1 he
  exact ⟨h1, h2, List.eq_nil_of_length_eq_zero h3, List.eq_nil_of_length_eq_zero h5, h6, h7, List.eq_nil_of_length_eq_zero h8, he⟩
theorem cli_ed {i t s ed : Int} {nm : ByteArray} {L S : Int} {ws gs : List Int} {C Z : Int} {es : List EqV} (hp : cliP i t s ed nm (nonP L S ws.length gs.length C Z es.length) (getP L S ws gs C Z es) (getP L S ws gs C Z es ∧ (es.length : Int) = C)) (hg : getP L S ws gs C Z es) : 0 < ed := by
  have h4 := hp.2.2.2.1
  by_cases he : ed = 0
  · exact absurd hg (non_get (hp.2.2.2.2.1 he))
  · omega

set_option maxHeartbeats 8000000 in
set_option maxRecDepth 100000 in
theorem ccopied_any (i t s ed : Int) (nm : ByteArray) (L S : Int) (a1 a2 : Option Addr) (c1 c2 : Nat) (ws gs : List Int) (C Z : Int) (a : Option Addr) (cap : Nat) (es : List EqV) (w : World) (hA : GAt w a1 a2 a ws gs es) (hx : ws.length ≤ 1048576) (hy : gs.length ≤ 1048576) (hl : es.length ≤ 1048576) (hsm : SmallE es) (hp : cliP i t s ed nm (nonP L S ws.length gs.length C Z es.length) (getP L S ws gs C Z es) (getP L S ws gs C Z es ∧ (es.length : Int) = C)) (hT : Tab w) :
    Calls Tryz.prog 31 #[.agg #[.int .i64 i, .int .i64 t, .int .i64 s, .string nm, .int .i64 ed, .int .i64 L, .int .i64 S, .slice a1 ws.length c1, .slice a2 gs.length c2, .int .i64 C, .int .i64 Z, .slice a es.length cap]] w fun e w' => ∃ b1 d1 b2 d2 a' c' fs, e = .returned (.agg #[.int .i64 i, .int .i64 t, .int .i64 s, .string nm, .int .i64 ed, .int .i64 L, .int .i64 S, .slice b1 ws.length d1, .slice b2 gs.length d2, .int .i64 C, .int .i64 Z, .slice a' fs.length c']) ∧ GetOwn w' w.heap.size ws gs b1 b2 d1 d2 a' c' fs ∧ SamV fs es ∧ RowsAp fs ∧ Below w.heap.size w w' := by
  have hn6 := cli_name hp
  have HK := hid (fun W (b : Below w.heap.size w W) => gcopied_any L S a1 a2 c1 c2 ws gs C Z a cap es W (hA.below b) hx hy hl hsm (hT.below b) L S C Z ws gs (valsE es) (fun h => by obtain ⟨q1, q2, q3, q4, q5, q6, q7, _⟩ := cli_rows hp h; exact ⟨q1, q2, q3, q4, q5, q6, by rw [q7]; rfl⟩) (fun _ => ⟨rfl, rfl, rfl, rfl, rfl, rfl, rfl⟩))
  obtain ⟨W0, hW0⟩ : ∃ W0, W0 = (w.alloc (.cells #[.int .i64 i, .int .i64 t, .int .i64 s, .string nm, .int .i64 ed, .int .i64 L, .int .i64 S, .slice a1 ws.length c1, .slice a2 gs.length c2, .int .i64 C, .int .i64 Z, .slice a es.length cap] 40)).alloc (.cells #[.int .i64 0, .int .i64 0, .int .i64 0, .string ⟨#[]⟩, .int .i64 0, .int .i64 0, .int .i64 0, .slice none 0 0, .slice none 0 0, .int .i64 0, .int .i64 0, .slice none 0 0] 40) := ⟨_, rfl⟩
  obtain ⟨X0, X1, B0⟩ := u_box2 (w := w) (c := #[.int .i64 i, .int .i64 t, .int .i64 s, .string nm, .int .i64 ed, .int .i64 L, .int .i64 S, .slice a1 ws.length c1, .slice a2 gs.length c2, .int .i64 C, .int .i64 Z, .slice a es.length cap]) (t := 40) (d := #[.int .i64 0, .int .i64 0, .int .i64 0, .string ⟨#[]⟩, .int .i64 0, .int .i64 0, .int .i64 0, .slice none 0 0, .slice none 0 0, .int .i64 0, .int .i64 0, .slice none 0 0]) (s := 40) (w1 := W0) (by rw [hW0]; exact Below.refl _ _)
  have hs0 : w.heap.size + 2 ≤ W0.heap.size := by rw [hW0]; simp
  have X := hid X0
  have R := hid X1
  have B := hid B0
  clear X0 X1 B0 hA hsm hT hp
  go_enter Tryz.func31, Tryz.ntmps31
  repeat ((fail_if_success (with_reducible show Code.wp _ (Code.region 1 _ _) _ _ _)); (first | go_values | go_skip | go_guarded | go_step | go_upon | go_back | go_simp))
  rw [← hW0]
  clear hW0
  have y0 := cell_regrown (box_cell X.out 0 (v := .int .i64 i) rfl)
  have y1 := cell_regrown (box_cell X.out 1 (v := .int .i64 t) rfl)
  have y2 := cell_regrown (box_cell X.out 2 (v := .int .i64 s) rfl)
  have y3 := cell_regrown (box_cell X.out 3 (v := .string nm) rfl)
  have y4 := cell_regrown (box_cell X.out 4 (v := .int .i64 ed) rfl)
  have y5 := cell_regrown (box_cell X.out 5 (v := .int .i64 L) rfl)
  have y6 := cell_regrown (box_cell X.out 6 (v := .int .i64 S) rfl)
  have y7 := cell_regrown (box_cell X.out 7 (v := .slice a1 ws.length c1) rfl)
  have y8 := cell_regrown (box_cell X.out 8 (v := .slice a2 gs.length c2) rfl)
  have y9 := cell_regrown (box_cell X.out 9 (v := .int .i64 C) rfl)
  have y10 := cell_regrown (box_cell X.out 10 (v := .int .i64 Z) rfl)
  have y11 := cell_regrown (box_cell X.out 11 (v := .slice a es.length cap) rfl)
  refine wp_planz 7 (.pull [(0, 2), (3, 2)] (.step 2 (.pull [(6, 1)] (.step 5 (.step 7 (.step 8 (.step 9 .done))))))) (by kernel_rfl) (by kernel_rfl) ?_
  intro V0 hw0
  have hbq := of_class hw0
  refine plz_pull ?_
  simp only [cutOut, List.take_succ_cons, List.take_zero, List.drop_succ_cons, List.drop_zero, List.nil_append, List.cons_append, List.append_nil]
  repeat (first | go_big_quiet_step (fail) | quiet_step (fail))
  try refine wpQuiet_nil ?_
  clear y0 y1 y2 y3 y4 y5 y6 y7 y8 y9 y10 y11 hw0
  refine plz_step rfl (by omega) (fun K hK => ?_)
  go_simp
  with_reducible refine (clone_all nm V0 (by omega)).mono ?_
  rintro _ V1 ⟨rfl, b1⟩
  refine hK _ _ (class_of (u_cat hbq b1)) ?_
  clear hK K
  refine plz_pull ?_
  simp only [cutOut, List.take_succ_cons, List.take_zero, List.drop_succ_cons, List.drop_zero, List.append_nil]
  repeat (first | go_big_quiet_step (fail) | quiet_step (fail))
  try refine wpQuiet_nil ?_
  refine plz_step rfl (by omega) (fun K hK => ?_)
  go_simp
  with_reducible refine (HK.out V1 (u_cat (u_cat B.out hbq) b1)).mono ?_
  rintro _ V2 ⟨b1', d1, b2', d2, a', c', fs, rfl, o2, v2, p2, b2⟩
  refine hK _ _ (class_of (u_cat (u_cat hbq b1) b2)) ?_
  clear hK K
  have bq := u_cat (u_cat hbq b1) b2
  have X := hid (kept X.out bq)
  have R := hid (kept R.out bq)
  have B := hid (u_cat B.out bq)
  have O := hid o2
  have VV := hid v2
  have PP := hid p2
  have hs1 : w.heap.size + 2 ≤ V1.heap.size := by have := (u_cat hbq b1).size; omega
  have hs2 := b2.size
  clear hbq b1 bq o2 v2 p2 b2 HK
  have y0 := (box_cell X.out 0 (v := .int .i64 i) rfl)
  have y1 := (box_cell X.out 1 (v := .int .i64 t) rfl)
  have y2 := (box_cell X.out 2 (v := .int .i64 s) rfl)
  have y3 := (box_cell X.out 3 (v := .string nm) rfl)
  have y4 := (box_cell X.out 4 (v := .int .i64 ed) rfl)
  have y5 := (box_cell X.out 5 (v := .int .i64 L) rfl)
  have y6 := (box_cell X.out 6 (v := .int .i64 S) rfl)
  have y7 := (box_cell X.out 7 (v := .slice a1 ws.length c1) rfl)
  have y8 := (box_cell X.out 8 (v := .slice a2 gs.length c2) rfl)
  have y9 := (box_cell X.out 9 (v := .int .i64 C) rfl)
  have y10 := (box_cell X.out 10 (v := .int .i64 Z) rfl)
  have y11 := (box_cell X.out 11 (v := .slice a es.length cap) rfl)
  have zf := box_frozen X.out
  refine plz_last rfl (by omega) (fun K hK => ?_)
  go_simp
  refine hK _ _ ?_
  clear hK K
  refine plz_last rfl (by omega) (fun K hK => ?_)
  go_simp
  refine hK _ _ ?_
  clear hK K
  refine plz_last rfl (by omega) (fun K hK => ?_)
  go_simp
  refine hK _ _ ?_
  clear hK K
  refine plz_done ?_
  obtain ⟨V3, hV3⟩ : ∃ V3, V3 = ((((((((V2.setCell ⟨w.heap.size, 3, none⟩ (.string nm)).setCell ⟨w.heap.size, 5, none⟩ (.int .i64 L)).setCell ⟨w.heap.size, 6, none⟩ (.int .i64 S)).setCell ⟨w.heap.size, 7, none⟩ (.slice b1' ws.length d1)).setCell ⟨w.heap.size, 8, none⟩ (.slice b2' gs.length d2)).setCell ⟨w.heap.size, 9, none⟩ (.int .i64 C)).setCell ⟨w.heap.size, 10, none⟩ (.int .i64 Z)).setCell ⟨w.heap.size, 11, none⟩ (.slice a' fs.length c')) := ⟨_, rfl⟩
  have hq : V3 = setsC (V2.setCell ⟨w.heap.size, 3, none⟩ (.string nm)) (w.heap.size) [.int .i64 L, .int .i64 S, .slice b1' ws.length d1, .slice b2' gs.length d2, .int .i64 C, .int .i64 Z, .slice a' fs.length c'] 5 := hV3
  have X3 := hid (show V3.heap[w.heap.size]? = some (.cells #[.int .i64 i, .int .i64 t, .int .i64 s, .string nm, .int .i64 ed, .int .i64 L, .int .i64 S, .slice b1' ws.length d1, .slice b2' gs.length d2, .int .i64 C, .int .i64 Z, .slice a' fs.length c'] 40 (0, 0)) by rw [hq, sets_block [.int .i64 L, .int .i64 S, .slice b1' ws.length d1, .slice b2' gs.length d2, .int .i64 C, .int .i64 Z, .slice a' fs.length c'] 5 (V2.setCell ⟨w.heap.size, 3, none⟩ (.string nm)) _ (set_block X.out 3 (.string nm))]; simp [setsA])
  have R3 := hid (show V3.heap[w.heap.size + 1]? = some (.cells #[.int .i64 0, .int .i64 0, .int .i64 0, .string ⟨#[]⟩, .int .i64 0, .int .i64 0, .int .i64 0, .slice none 0 0, .slice none 0 0, .int .i64 0, .int .i64 0, .slice none 0 0] 40 (0, 0)) by rw [hq]; exact sets_other (by omega) _ _ _ (set_other R.out (by omega) _ _))
  have B3 := hid (show Below w.heap.size w V3 by rw [hq]; exact sets_below (by omega) _ _ _ (u_set B.out (Nat.le_refl _) _ _))
  have O3 := hid (show GetOwn V3 V1.heap.size ws gs b1' b2' d1 d2 a' c' fs by rw [hq]; exact sets_own (by omega) _ _ _ (O.out.setB (by omega) 3 _))
  rw [← hV3]
  clear hV3 hq X R B O zf y0 y1 y2 y3 y4 y5 y6 y7 y8 y9 y10 y11
  have y0 := (box_cell X3.out 0 (v := .int .i64 i) rfl)
  have y1 := (box_cell X3.out 1 (v := .int .i64 t) rfl)
  have y2 := (box_cell X3.out 2 (v := .int .i64 s) rfl)
  have y3 := (box_cell X3.out 3 (v := .string nm) rfl)
  have y4 := (box_cell X3.out 4 (v := .int .i64 ed) rfl)
  have y5 := (box_cell X3.out 5 (v := .int .i64 L) rfl)
  have y6 := (box_cell X3.out 6 (v := .int .i64 S) rfl)
  have y7 := (box_cell X3.out 7 (v := .slice b1' ws.length d1) rfl)
  have y8 := (box_cell X3.out 8 (v := .slice b2' gs.length d2) rfl)
  have y9 := (box_cell X3.out 9 (v := .int .i64 C) rfl)
  have y10 := (box_cell X3.out 10 (v := .int .i64 Z) rfl)
  have y11 := (box_cell X3.out 11 (v := .slice a' fs.length c') rfl)
  have r0 := (box_cell R3.out 0 (v := .int .i64 0) rfl)
  have r1 := (box_cell R3.out 1 (v := .int .i64 0) rfl)
  have r2 := (box_cell R3.out 2 (v := .int .i64 0) rfl)
  have r3 := (box_cell R3.out 3 (v := .string ⟨#[]⟩) rfl)
  have r4 := (box_cell R3.out 4 (v := .int .i64 0) rfl)
  have r5 := (box_cell R3.out 5 (v := .int .i64 0) rfl)
  have r6 := (box_cell R3.out 6 (v := .int .i64 0) rfl)
  have r7 := (box_cell R3.out 7 (v := .slice none 0 0) rfl)
  have r8 := (box_cell R3.out 8 (v := .slice none 0 0) rfl)
  have r9 := (box_cell R3.out 9 (v := .int .i64 0) rfl)
  have r10 := (box_cell R3.out 10 (v := .int .i64 0) rfl)
  have r11 := (box_cell R3.out 11 (v := .slice none 0 0) rfl)
  have zf := box_frozen R3.out
  go_wp2_with fail
  obtain ⟨V4, hV4⟩ : ∃ V4, V4 = ((((((((((((V3.setCell ⟨w.heap.size + 1, 0, none⟩ (.int .i64 i)).setCell ⟨w.heap.size + 1, 1, none⟩ (.int .i64 t)).setCell ⟨w.heap.size + 1, 2, none⟩ (.int .i64 s)).setCell ⟨w.heap.size + 1, 3, none⟩ (.string nm)).setCell ⟨w.heap.size + 1, 4, none⟩ (.int .i64 ed)).setCell ⟨w.heap.size + 1, 5, none⟩ (.int .i64 L)).setCell ⟨w.heap.size + 1, 6, none⟩ (.int .i64 S)).setCell ⟨w.heap.size + 1, 7, none⟩ (.slice b1' ws.length d1)).setCell ⟨w.heap.size + 1, 8, none⟩ (.slice b2' gs.length d2)).setCell ⟨w.heap.size + 1, 9, none⟩ (.int .i64 C)).setCell ⟨w.heap.size + 1, 10, none⟩ (.int .i64 Z)).setCell ⟨w.heap.size + 1, 11, none⟩ (.slice a' fs.length c')) := ⟨_, rfl⟩
  have hq : V4 = setsC V3 (w.heap.size + 1) [.int .i64 i, .int .i64 t, .int .i64 s, .string nm, .int .i64 ed, .int .i64 L, .int .i64 S, .slice b1' ws.length d1, .slice b2' gs.length d2, .int .i64 C, .int .i64 Z, .slice a' fs.length c'] 0 := hV4
  have R4 := (show V4.heap[w.heap.size + 1]? = some (.cells #[.int .i64 i, .int .i64 t, .int .i64 s, .string nm, .int .i64 ed, .int .i64 L, .int .i64 S, .slice b1' ws.length d1, .slice b2' gs.length d2, .int .i64 C, .int .i64 Z, .slice a' fs.length c'] 40 (0, 0)) by rw [hq, sets_block [.int .i64 i, .int .i64 t, .int .i64 s, .string nm, .int .i64 ed, .int .i64 L, .int .i64 S, .slice b1' ws.length d1, .slice b2' gs.length d2, .int .i64 C, .int .i64 Z, .slice a' fs.length c'] 0 V3 _ R3.out]; simp [setsA])
  have B4 : Below w.heap.size w V4 := by rw [hq]; exact sets_below (by omega) _ _ _ B3.out
  have O4 : GetOwn V4 V1.heap.size ws gs b1' b2' d1 d2 a' c' fs := by rw [hq]; exact sets_own (by omega) _ _ _ O3.out
  rw [← hV4]
  clear hV4 hq zf y0 y1 y2 y3 y4 y5 y6 y7 y8 y9 y10 y11 r0 r1 r2 r3 r4 r5 r6 r7 r8 r9 r10 r11
  have y0 := box_cell R4 0 (v := .int .i64 i) rfl
  have y1 := box_cell R4 1 (v := .int .i64 t) rfl
  have y2 := box_cell R4 2 (v := .int .i64 s) rfl
  have y3 := box_cell R4 3 (v := .string nm) rfl
  have y4 := box_cell R4 4 (v := .int .i64 ed) rfl
  have y5 := box_cell R4 5 (v := .int .i64 L) rfl
  have y6 := box_cell R4 6 (v := .int .i64 S) rfl
  have y7 := box_cell R4 7 (v := .slice b1' ws.length d1) rfl
  have y8 := box_cell R4 8 (v := .slice b2' gs.length d2) rfl
  have y9 := box_cell R4 9 (v := .int .i64 C) rfl
  have y10 := box_cell R4 10 (v := .int .i64 Z) rfl
  have y11 := box_cell R4 11 (v := .slice a' fs.length c') rfl
  refine bodyPost_ret (v := .agg #[.int .i64 i, .int .i64 t, .int .i64 s, .string nm, .int .i64 ed, .int .i64 L, .int .i64 S, .slice b1' ws.length d1, .slice b2' gs.length d2, .int .i64 C, .int .i64 Z, .slice a' fs.length c']) ?_ rfl ⟨b1', d1, b2', d2, a', c', fs, rfl, O4.mono (by omega), vals_same.1 VV.out, PP.out, B4⟩
  unfold results; rw [Tryz.results31]; simp [go_sem, y0, y1, y2, y3, y4, y5, y6, y7, y8, y9, y10, y11]
end Go.Proofs.YtbakicgdloakgaaGreatDoor
