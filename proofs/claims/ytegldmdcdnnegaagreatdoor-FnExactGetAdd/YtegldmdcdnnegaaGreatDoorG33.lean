/- GetAdd by the program. A plan copied by the model: rows of its own. -/
import Derived.Test.YtegldmdcdnnegaaGreatDoorG29
import Derived.Test.YtegldmdcdnnegaaGreatDoorG32
import Derived.Test.YtegldmdcdnnegaaGreatDoorG26
namespace Go.Proofs.YtegldmdcdnnegaaGreatDoor
open Go.ChangeShapes Go.WideShapes Go.ChangeAt Go.RowKit Go.Sort Go.Shelf
attribute [local go_sem] Oper.semAt_some

/-- What is answered: a getting of the call's own, and a code. -/
def GAddO (w' : World) (B : Nat) (LL SS CC ZZ : Int) (WW GG : List Int) (vs : List Vl) (code : Int) (r : Bool) (e : Ending) : Prop :=
  ∃ b1 d1 b2 d2 a' c' fs, e = .returned (.tuple #[.agg #[.int .i64 LL, .int .i64 SS, .slice b1 WW.length d1, .slice b2 GG.length d2, .int .i64 CC, .int .i64 ZZ, .slice a' fs.length c'], .int .i64 code]) ∧ GetOwn w' B WW GG b1 b2 d1 d2 a' c' fs ∧ valsE fs = vs ∧ (r = true → RowsAp fs)

theorem owns_nolink {w : World} {base B n kb : Nat} {v : Value} {xs : List Value} {ls : List Lk} {cs : Array Value} (ho : w.ownsRow B 3 1 v n xs) (hL : LksAt w base ls) (hk : w.heap[kb]? = some (.cells cs 57 (0, 0))) : ∀ j, v.ownBlock = some j → j ∉ kb :: ls.map Lk.b := by
  intro j hj hm
  rcases ho.2 with ⟨hv, -⟩ | ⟨g, cap, cur, hv, -, hh, -⟩
  · rw [hv] at hj; cases hj
  · rw [hv] at hj
    cases hj
    rcases List.mem_cons.1 hm with rfl | hm
    · rw [hk] at hh; cases hh
    · obtain ⟨l, hl, rfl⟩ := List.mem_map.1 hm
      obtain ⟨i, hi, rfl⟩ := List.getElem_of_mem hl
      have h3 := (hL i hi).2.2.1
      rw [h3] at hh
      cases hh

set_option maxHeartbeats 8000000 in
set_option maxRecDepth 100000 in
theorem implGetAdd_any (L S : Int) (a1 a2 : Option Addr) (c1 c2 : Nat) (ws gs : List Int) (C Z : Int) (a : Option Addr) (cap : Nat) (es : List EqV) (id : Int) (data : ByteArray) (w : World) (h : GAt w a1 a2 a ws gs es) (hx : ws.length ≤ 1048576) (hy : gs.length ≤ 1048576) (hl : es.length ≤ 1048576) (hsm : SmallE es) (hT : Tab w) (hE : ErrT w)
    (LL SS CC ZZ : Int) (WW GG : List Int) (vs : List Vl) (code : Int)
    (h1 : ¬ getP L S ws gs C Z es → LL = 0 ∧ SS = 0 ∧ WW = [] ∧ GG = [] ∧ CC = 0 ∧ ZZ = 0 ∧ vs = [] ∧ code = 3) (h2 : getP L S ws gs C Z es → LL = L ∧ SS = S ∧ WW = ws ∧ GG = gs ∧ CC = C ∧ ZZ = Z)
    (h3 : getP L S ws gs C Z es → ¬ (0 ≤ id ∧ id ≤ 9999 ∧ (data.size : Int) = S) → vs = valsE es ∧ code = 3)
    (h4 : getP L S ws gs C Z es → (0 ≤ id ∧ id ≤ 9999 ∧ (data.size : Int) = S) → vs = learnV es (rowI L S ws gs id) (numsOf data) ∧ code = learnC es (rowI L S ws gs id) (numsOf data) data.size) :
    Calls Tryz.prog 7 #[.agg #[.int .i64 L, .int .i64 S, .slice a1 ws.length c1, .slice a2 gs.length c2, .int .i64 C, .int .i64 Z, .slice a es.length cap], .int .i64 id, .string data] w fun e w' => GAddO w' w.heap.size LL SS CC ZZ WW GG vs code true e ∧ Below w.heap.size w w' := by
  have HA := hid h
  have HS := hid hsm
  have HT := hid hT
  have HE := hid hE
  obtain ⟨W0, hW0⟩ : ∃ W0, W0 = (w.alloc (.cells #[.int .i64 L, .int .i64 S, .slice a1 ws.length c1, .slice a2 gs.length c2, .int .i64 C, .int .i64 Z, .slice a es.length cap] 36)).alloc (.cells #[.int .i64 0, .int .i64 0, .slice none 0 0, .slice none 0 0, .int .i64 0, .int .i64 0, .slice none 0 0] 36) := ⟨_, rfl⟩
  obtain ⟨X0, X1, B0⟩ := u_box2 (w := w) (c := #[.int .i64 L, .int .i64 S, .slice a1 ws.length c1, .slice a2 gs.length c2, .int .i64 C, .int .i64 Z, .slice a es.length cap]) (t := 36) (d := #[.int .i64 0, .int .i64 0, .slice none 0 0, .slice none 0 0, .int .i64 0, .int .i64 0, .slice none 0 0]) (s := 36) (w1 := W0) (by rw [hW0]; exact Below.refl _ _)
  have hs0 : w.heap.size + 2 ≤ W0.heap.size := by rw [hW0]; simp
  have hs0' : W0.heap.size ≤ w.heap.size + 2 := by rw [hW0]; simp
  have q0 := box_cell X0 0 (v := .int .i64 L) rfl
  have q1 := box_cell X0 1 (v := .int .i64 S) rfl
  have q2 := box_cell X0 2 (v := .slice a1 ws.length c1) rfl
  have q3 := box_cell X0 3 (v := .slice a2 gs.length c2) rfl
  have q4 := box_cell X0 4 (v := .int .i64 C) rfl
  have q5 := box_cell X0 5 (v := .int .i64 Z) rfl
  have q6 := box_cell X0 6 (v := .slice a es.length cap) rfl
  have HX1 := hid X1
  have HB := hid B0
  have H1 := hid h1
  have H2 := hid h2
  have H3 := hid h3
  have H4 := hid h4
  clear h hsm hT hE X0 X1 B0 h1 h2 h3 h4
  go_enter Tryz.func7, Tryz.ntmps7
  repeat ((fail_if_success (with_reducible show Code.wp _ (Code.region 1 _ _) _ _ _)); (first | go_values | go_skip | go_guarded | go_step | go_upon | go_back | go_simp))
  rw [← hW0]
  clear hW0
  go_wp2_with fail
  refine (known_any L S a1 a2 c1 c2 ws gs C Z a cap es W0 (HA.out.below HB.out).i1 (HA.out.below HB.out).i2 hx hy (HA.out.below HB.out).eq hl HS.out (HT.out.below HB.out)).mono ?_
  rintro e w1 ⟨bb, ⟨hg, ls, b1, d1, b2, d2, rfl, o1, o2, ap, hL, hSm⟩ | ⟨hg, rfl⟩⟩
  · have HG := hid hg
    have z2 := hg.2.1.1.2.2
    have k1 := hg.2.1.1.1.1
    have c2 := hg.2.1.1.1.2
    have hs1 := bb.size
    have AP := hid ap
    have HM := hid hSm
    replace HX1 := hid (kept HX1.out bb)
    replace HB := hid (u_cat HB.out bb)
    repeat ((fail_if_success (with_reducible show Code.wp _ (Code.region 2 _ _) _ _ _)); (first | go_values | go_skip | go_guarded | go_step | go_upon | go_back | go_simp))
    obtain ⟨V, hV⟩ : ∃ V, V = w1.alloc (.cells #[.int .i64 L, .int .i64 S, .slice b1 ws.length d1, .slice b2 gs.length d2, .int .i64 C, .int .i64 Z, .pointer (ptrOf ls)] 57) := ⟨_, rfl⟩
    obtain ⟨kb, hkb⟩ : ∃ kb, kb = w1.heap.size := ⟨_, rfl⟩
    have bv : Below w1.heap.size w1 V := by rw [hV]; exact u_b1 _ _
    have KB := hid (show V.heap[kb]? = some (.cells (knC L S (.slice b1 ws.length d1) (.slice b2 gs.length d2) C Z (ptrOf ls)) 57 (0, 0)) by rw [hV, hkb]; exact laid _ _ _)
    have hkb1 : w1.heap.size ≤ kb := by omega
    have hsv : kb + 1 ≤ V.heap.size := by rw [hV, hkb]; simp
    rw [← hV, ← hkb]
    clear hV hkb
    replace HX1 := hid (kept HX1.out bv)
    replace HB := hid (u_cat HB.out bv)
    have O1 := hid (owns_below o1 bv)
    have O2 := hid (owns_below o2 bv)
    have LK := hid (hL.below bv)
    have LI := hid (show ListAt V kb 4 (w.heap.size + 2) (knC L S (.slice b1 ws.length d1) (.slice b2 gs.length d2) C Z) 57 C Z ls from ⟨KB.out, (hL.below bv).mono (Nat.zero_le _), by rw [sameE_vals HM.out]; exact ok_vals.1 HG.out.2.1.2, sameE_bytes HM.out, fun l hl => by
      obtain ⟨i, hi, rfl⟩ := List.getElem_of_mem hl
      have := (hL i hi).1
      omega, by omega⟩)
    clear bv o1 o2 hL bb hg ap hSm q0 q1 q2 q3 q4 q5 q6
    obtain ⟨rfl, rfl, rfl, rfl, rfl, rfl⟩ := H2.out HG.out
    by_cases hgd : 0 ≤ id ∧ id ≤ 9999 ∧ (data.size : Int) = SS
    · obtain ⟨rfl, rfl⟩ := H4.out HG.out hgd
      have KL := hid (learnK_yes kb (w.heap.size + 2) LL SS CC ZZ b1 b2 d1 d2 WW GG ls es id data V LI.out (sameE_vals HM.out) HM.out HG.out (owns_at O1.out) (owns_at O2.out) hgd.1 hgd.2.1 hgd.2.2 (HT.out.below HB.out) (by omega))
      have I1 := hid (owns_nolink O1.out LK.out KB.out)
      have I2 := hid (owns_nolink O2.out LK.out KB.out)
      clear hgd
      go_wp2_with fail
      with_reducible refine KL.out.mono ?_
      rintro e w3 ⟨rfl, ls', hI', hv', hkk, hb'⟩
      clear KL
      have HB3 := hid (show Below w.heap.size w w3 from HB.out.trans (hb'.mono (by omega)))
      have X13 := hid ((hb'.block _ (by omega)).trans HX1.out)
      have N1 := hid (u_owns O1.out (fun j e => hkk j (O1.out.lt j e).2 (I1.out j e)))
      have N2 := hid (u_owns O2.out (fun j e => hkk j (O2.out.lt j e).2 (I2.out j e)))
      have LI' := hid hI'
      have LV := hid hv'
      clear hI' hv' hkk hb' I1 I2 LK KB LI O1 O2 HB HX1
      repeat ((fail_if_success (with_reducible show Code.wp _ (Code.region 6 _ _) _ _ _)); (first | go_values | go_skip | go_guarded | go_step | go_upon | go_back | go_simp))
      obtain ⟨U, hU⟩ : ∃ U, U = w3.alloc (.cells #[.int .i64 0, .int .i64 0] 65) := ⟨_, rfl⟩
      have bu : Below w3.heap.size w3 U := by rw [hU]; exact u_b1 _ _
      rw [← hU]
      clear hU
      have HB := hid (u_cat HB3.out bu)
      have HX1 := hid (kept X13.out bu)
      have O1 := hid (owns_below N1.out bu)
      have O2 := hid (owns_below N2.out bu)
      have LI := hid (LI'.out.below bu)
      clear bu HB3 X13 N1 N2 LI'
      go_wp2_with fail
      refine (as_nil _ U).mono ?_
      rintro e w5 ⟨rfl, hw⟩
      replace hw := hw.symm
      subst hw
      go_wp2_with fail
      have hwu := lt_of_block HX1.out
      with_reducible refine (getting_any kb (w.heap.size + 2) LL SS CC ZZ b1 b2 WW.length GG.length d1 d2 ls' U LI.out (by omega) c2 z2 (HT.out.below HB.out)).mono ?_
      rintro e w4 ⟨a', c', hs, rfl, o4, v4, r4, p4, b4⟩
      have hs4 := b4.size
      have X1b := hid (kept HX1.out b4)
      have O4 := hid o4
      have V4 := hid (v4.trans LV.out)
      have R4 := hid r4
      have P4 := hid p4
      have B4 := hid (u_cat HB.out b4)
      have N1 := hid (owns_below O1.out b4)
      have N2 := hid (owns_below O2.out b4)
      have r0 := box_cell X1b.out 0 (v := .int .i64 0) rfl
      have r1 := box_cell X1b.out 1 (v := .int .i64 0) rfl
      have r2 := box_cell X1b.out 2 (v := .slice none 0 0) rfl
      have r3 := box_cell X1b.out 3 (v := .slice none 0 0) rfl
      have r4 := box_cell X1b.out 4 (v := .int .i64 0) rfl
      have r5 := box_cell X1b.out 5 (v := .int .i64 0) rfl
      have r6 := box_cell X1b.out 6 (v := .slice none 0 0) rfl
      have z0 := box_frozen X1b.out
      have l0 := lt_of_block X1b.out
      have S5 := set_block (set_block (set_block (set_block (set_block (set_block (set_block X1b.out 0 (.int .i64 LL)) 1 (.int .i64 SS)) 2 (.slice b1 WW.length d1)) 3 (.slice b2 GG.length d2)) 4 (.int .i64 CC)) 5 (.int .i64 ZZ)) 6 (.slice a' hs.length c')
      have x0 := box_cell S5 0 (v := .int .i64 LL) (by simp)
      have x1 := box_cell S5 1 (v := .int .i64 SS) (by simp)
      have x2 := box_cell S5 2 (v := .slice b1 WW.length d1) (by simp)
      have x3 := box_cell S5 3 (v := .slice b2 GG.length d2) (by simp)
      have x4 := box_cell S5 4 (v := .int .i64 CC) (by simp)
      have x5 := box_cell S5 5 (v := .int .i64 ZZ) (by simp)
      have x6 := box_cell S5 6 (v := .slice a' hs.length c') (by simp)
      clear o4 v4 p4 b4 S5
      go_wp2_with fail
      refine bodyPost_ret (v := .tuple #[.agg #[.int .i64 LL, .int .i64 SS, .slice b1 WW.length d1, .slice b2 GG.length d2, .int .i64 CC, .int .i64 ZZ, .slice a' hs.length c'], .int .i64 (learnC es (rowI LL SS WW GG id) (numsOf data) data.size)]) ?_ rfl ⟨⟨b1, d1, b2, d2, a', c', hs, rfl, ⟨?_, ?_, AP.out, U.heap.size + 1, ?_, fun k e => ?_, fun k e => ?_, ?_, ?_⟩, V4.out, fun _ => P4.out⟩, ?_⟩
      · unfold results; rw [Tryz.results7]; simp [go_sem, x0, x1, x2, x3, x4, x5, x6]
      · have hpb : w.heap.size + 1 < W0.heap.size := by omega
        exact owns_base (owns_set (owns_set (owns_set (owns_set (owns_set (owns_set (owns_set N1.out hpb _) hpb _) hpb _) hpb _) hpb _) hpb _) hpb _) (by omega)
      · have hpb : w.heap.size + 1 < W0.heap.size := by omega
        exact owns_base (owns_set (owns_set (owns_set (owns_set (owns_set (owns_set (owns_set N2.out hpb _) hpb _) hpb _) hpb _) hpb _) hpb _) hpb _) (by omega)
      · have := HB.out.size; omega
      · have := (O1.out.lt k e).2; omega
      · have := (O2.out.lt k e).2; omega
      · exact owns_set (owns_set (owns_set (owns_set (owns_set (owns_set (owns_set O4.out (by simp; omega) _) (by simp; omega) _) (by simp; omega) _) (by simp; omega) _) (by simp; omega) _) (by simp; omega) _) (by simp; omega) _
      · exact RowsOwn.set (RowsOwn.set (RowsOwn.set (RowsOwn.set (RowsOwn.set (RowsOwn.set (RowsOwn.set R4.out (by omega) _ _) (by omega) _ _) (by omega) _ _) (by omega) _ _) (by omega) _ _) (by omega) _ _) (by omega) _ _
      · exact u_set (u_set (u_set (u_set (u_set (u_set (u_set B4.out (by simp) _ _) (by simp) _ _) (by simp) _ _) (by simp) _ _) (by simp) _ _) (by simp) _ _) (by simp) _ _
    · obtain ⟨rfl, rfl⟩ := H3.out HG.out hgd
      have KL := hid (learnK_no kb LL SS CC ZZ (.slice b1 WW.length d1) (.slice b2 GG.length d2) (ptrOf ls) id data V KB.out hgd)
      clear hgd
      go_wp2_with fail
      with_reducible refine KL.out.mono ?_
      rintro e w3 ⟨rfl, hw⟩
      replace hw := hw.symm
      subst hw
      clear KL
      have LV := hid (sameE_vals HM.out)
      repeat ((fail_if_success (with_reducible show Code.wp _ (Code.region 6 _ _) _ _ _)); (first | go_values | go_skip | go_guarded | go_step | go_upon | go_back | go_simp))
      obtain ⟨U0, hU0⟩ : ∃ U, U = V.alloc (.cells #[.int .i64 0, .int .i64 0] 65) := ⟨_, rfl⟩
      obtain ⟨T, hT⟩ : ∃ T, T = V.heap.size := ⟨_, rfl⟩
      have bu0 : Below V.heap.size V U0 := by rw [hU0]; exact u_b1 _ _
      have KT := hid (show U0.heap[T]? = some (.cells #[.int .i64 0, .int .i64 0] 65 (0, 0)) by rw [hU0, hT]; exact laid _ _ _)
      have hT1 : V.heap.size ≤ T := by omega
      rw [← hU0, ← hT]
      clear hU0 hT
      go_wp2_with fail
      refine (as_hit T id data.size (.int .i64 0) (.int .i64 0) U0 (HE.out.below (u_cat HB.out bu0)) (box_cell KT.out 0 rfl) (box_cell KT.out 1 rfl) (box_frozen KT.out 0) (box_frozen KT.out 1)).mono ?_
      rintro e w5 ⟨rfl, V5, b5, hw5⟩
      have bu : Below V.heap.size V w5 := by rw [hw5]; exact u_set (u_set (u_cat bu0 b5) hT1 _ _) hT1 _ _
      clear hw5 b5 bu0
      replace HB := hid (u_cat HB.out bu)
      replace HX1 := hid (kept HX1.out bu)
      replace O1 := hid (owns_below O1.out bu)
      replace O2 := hid (owns_below O2.out bu)
      replace LI := hid (LI.out.below bu)
      clear bu LK KB KT
      go_wp2_with fail
      have hwu := lt_of_block HX1.out
      with_reducible refine (getting_any kb (w.heap.size + 2) LL SS CC ZZ b1 b2 WW.length GG.length d1 d2 ls w5 LI.out (by omega) c2 z2 (HT.out.below HB.out)).mono ?_
      rintro e w4 ⟨a', c', hs, rfl, o4, v4, r4, p4, b4⟩
      have hs4 := b4.size
      have X1b := hid (kept HX1.out b4)
      have O4 := hid o4
      have V4 := hid (v4.trans LV.out)
      have R4 := hid r4
      have P4 := hid p4
      have B4 := hid (u_cat HB.out b4)
      have N1 := hid (owns_below O1.out b4)
      have N2 := hid (owns_below O2.out b4)
      have r0 := box_cell X1b.out 0 (v := .int .i64 0) rfl
      have r1 := box_cell X1b.out 1 (v := .int .i64 0) rfl
      have r2 := box_cell X1b.out 2 (v := .slice none 0 0) rfl
      have r3 := box_cell X1b.out 3 (v := .slice none 0 0) rfl
      have r4 := box_cell X1b.out 4 (v := .int .i64 0) rfl
      have r5 := box_cell X1b.out 5 (v := .int .i64 0) rfl
      have r6 := box_cell X1b.out 6 (v := .slice none 0 0) rfl
      have z0 := box_frozen X1b.out
      have l0 := lt_of_block X1b.out
      have S5 := set_block (set_block (set_block (set_block (set_block (set_block (set_block X1b.out 0 (.int .i64 LL)) 1 (.int .i64 SS)) 2 (.slice b1 WW.length d1)) 3 (.slice b2 GG.length d2)) 4 (.int .i64 CC)) 5 (.int .i64 ZZ)) 6 (.slice a' hs.length c')
      have x0 := box_cell S5 0 (v := .int .i64 LL) (by simp)
      have x1 := box_cell S5 1 (v := .int .i64 SS) (by simp)
      have x2 := box_cell S5 2 (v := .slice b1 WW.length d1) (by simp)
      have x3 := box_cell S5 3 (v := .slice b2 GG.length d2) (by simp)
      have x4 := box_cell S5 4 (v := .int .i64 CC) (by simp)
      have x5 := box_cell S5 5 (v := .int .i64 ZZ) (by simp)
      have x6 := box_cell S5 6 (v := .slice a' hs.length c') (by simp)
      clear o4 v4 p4 b4 S5
      go_wp2_with fail
      refine bodyPost_ret (v := .tuple #[.agg #[.int .i64 LL, .int .i64 SS, .slice b1 WW.length d1, .slice b2 GG.length d2, .int .i64 CC, .int .i64 ZZ, .slice a' hs.length c'], .int .i64 3]) ?_ rfl ⟨⟨b1, d1, b2, d2, a', c', hs, rfl, ⟨?_, ?_, AP.out, w5.heap.size + 1, ?_, fun k e => ?_, fun k e => ?_, ?_, ?_⟩, V4.out, fun _ => P4.out⟩, ?_⟩
      · unfold results; rw [Tryz.results7]; simp [go_sem, x0, x1, x2, x3, x4, x5, x6]
      · have hpb : w.heap.size + 1 < W0.heap.size := by omega
        exact owns_base (owns_set (owns_set (owns_set (owns_set (owns_set (owns_set (owns_set N1.out hpb _) hpb _) hpb _) hpb _) hpb _) hpb _) hpb _) (by omega)
      · have hpb : w.heap.size + 1 < W0.heap.size := by omega
        exact owns_base (owns_set (owns_set (owns_set (owns_set (owns_set (owns_set (owns_set N2.out hpb _) hpb _) hpb _) hpb _) hpb _) hpb _) hpb _) (by omega)
      · have := HB.out.size; omega
      · have := (O1.out.lt k e).2; omega
      · have := (O2.out.lt k e).2; omega
      · exact owns_set (owns_set (owns_set (owns_set (owns_set (owns_set (owns_set O4.out (by simp; omega) _) (by simp; omega) _) (by simp; omega) _) (by simp; omega) _) (by simp; omega) _) (by simp; omega) _) (by simp; omega) _
      · exact RowsOwn.set (RowsOwn.set (RowsOwn.set (RowsOwn.set (RowsOwn.set (RowsOwn.set (RowsOwn.set R4.out (by omega) _ _) (by omega) _ _) (by omega) _ _) (by omega) _ _) (by omega) _ _) (by omega) _ _) (by omega) _ _
      · exact u_set (u_set (u_set (u_set (u_set (u_set (u_set B4.out (by simp) _ _) (by simp) _ _) (by simp) _ _) (by simp) _ _) (by simp) _ _) (by simp) _ _) (by simp) _ _
  · obtain ⟨rfl, rfl, rfl, rfl, rfl, rfl, rfl, rfl⟩ := H1.out hg
    clear hg
    replace HX1 := hid (kept HX1.out bb)
    replace HB := hid (u_cat HB.out bb)
    repeat ((fail_if_success (with_reducible show Code.wp _ (Code.region 2 _ _) _ _ _)); (first | go_values | go_skip | go_guarded | go_step | go_upon | go_back | go_simp))
    obtain ⟨V, hV⟩ : ∃ V, V = w1.alloc (.cells #[.int .i64 0, .int .i64 0, .slice none 0 0, .slice none 0 0, .int .i64 0, .int .i64 0, .pointer none] 57) := ⟨_, rfl⟩
    have bv : Below w1.heap.size w1 V := by rw [hV]; exact u_b1 _ _
    rw [← hV]
    clear hV
    replace HB := hid (u_cat HB.out bv)
    replace HX1 := hid (kept HX1.out bv)
    clear bv bb q0 q1 q2 q3 q4 q5 q6
    have r0 := box_cell HX1.out 0 (v := .int .i64 0) rfl
    have r1 := box_cell HX1.out 1 (v := .int .i64 0) rfl
    have r2 := box_cell HX1.out 2 (v := .slice none 0 0) rfl
    have r3 := box_cell HX1.out 3 (v := .slice none 0 0) rfl
    have r4 := box_cell HX1.out 4 (v := .int .i64 0) rfl
    have r5 := box_cell HX1.out 5 (v := .int .i64 0) rfl
    have r6 := box_cell HX1.out 6 (v := .slice none 0 0) rfl
    have z0 := box_frozen HX1.out
    have l0 := lt_of_block HX1.out
    have S5 := set_block (set_block (set_block (set_block (set_block (set_block (set_block HX1.out 0 (.int .i64 0)) 1 (.int .i64 0)) 2 (.slice none 0 0)) 3 (.slice none 0 0)) 4 (.int .i64 0)) 5 (.int .i64 0)) 6 (.slice none 0 0)
    have x0 := box_cell S5 0 (v := .int .i64 0) (by simp)
    have x1 := box_cell S5 1 (v := .int .i64 0) (by simp)
    have x2 := box_cell S5 2 (v := .slice none 0 0) (by simp)
    have x3 := box_cell S5 3 (v := .slice none 0 0) (by simp)
    have x4 := box_cell S5 4 (v := .int .i64 0) (by simp)
    have x5 := box_cell S5 5 (v := .int .i64 0) (by simp)
    have x6 := box_cell S5 6 (v := .slice none 0 0) (by simp)
    clear S5
    go_wp2_with fail
    refine bodyPost_ret (v := .tuple #[.agg #[.int .i64 0, .int .i64 0, .slice none 0 0, .slice none 0 0, .int .i64 0, .int .i64 0, .slice none 0 0], .int .i64 3]) ?_ rfl ⟨⟨none, 0, none, 0, none, 0, [], rfl, own_nil _ _, rfl, fun _ => List.Pairwise.nil⟩, ?_⟩
    · unfold results; rw [Tryz.results7]; simp [go_sem, x0, x1, x2, x3, x4, x5, x6]
    · exact u_set (u_set (u_set (u_set (u_set (u_set (u_set HB.out (by simp) _ _) (by simp) _ _) (by simp) _ _) (by simp) _ _) (by simp) _ _) (by simp) _ _) (by simp) _ _
end Go.Proofs.YtegldmdcdnnegaaGreatDoor
namespace Go.Proofs.YtegldmdcdnnegaaGreatDoor
open Go.ChangeShapes Go.WideShapes Go.ChangeAt Go.RowKit Go.Sort

set_option maxRecDepth 100000 in
set_option maxHeartbeats 2000000 in
theorem l6Plan_any (long size : Int) (b1 o1 b2 o2 c1 c2 : Nat) (ws gs : List Int) (w : World) (h1 : ∀ i, i < ws.length → w.cell? ⟨b1, o1 + i, none⟩ = some (.int .i64 (ws.getD i 0))) (h2 : ∀ i, i < gs.length → w.cell? ⟨b2, o2 + i, none⟩ = some (.int .i64 (gs.getD i 0)))
    (n1 : ws.length ≤ 1000) (n2 : gs.length ≤ 1000) (p1 : 1 ≤ ws.length) (p2 : 1 ≤ gs.length) :
    Calls Tryz.prog 35 #[.agg #[.int .i64 long, .int .i64 size, .slice (some ⟨b1, o1, none⟩) ws.length c1, .slice (some ⟨b2, o2, none⟩) gs.length c2]] w fun e w' => ∃ v, e = .returned v ∧ PlanO w' w.heap.size long size ws gs v ∧ Below w.heap.size w w' := by
  obtain ⟨i0, hi, hz0, hz1, hz2⟩ := info_parts Tryz.info3
  have l1 := block_lt_of_cell (h1 0 (by omega))
  have l2 := block_lt_of_cell (h2 0 (by omega))
  have H1 := hid h1
  have H2 := hid h2
  clear h1 h2
  go_enter Tryz.func35, Tryz.ntmps35
  go_wp2_with (first
    | (at_builtin
       refine append_copy 22 3 i0 _ 8 Tryz.underlying22 hi hz0 hz1 hz2 rfl (xs := ws) _ _ rfl rfl rfl rfl (by simp) rfl (fun i hi => ((below2' w _ _).cell (p := ⟨b1, o1 + i, none⟩) l1).trans (H1.out i hi)) (by omega) (by omega) ?_
       intro v1 w1 ow1 bw1
       obtain ⟨a1, d1, rfl⟩ := owns_slice ow1
       have OW1 := hid ow1
       have X1 := hid (kept (kept (laid w #[.int .i64 long, .int .i64 size, .slice (some ⟨b1, o1, none⟩) ws.length c1, .slice (some ⟨b2, o2, none⟩) gs.length c2] 31) (below_alloc' _ (.cells #[.int .i64 0, .int .i64 0, .slice none 0 0, .slice none 0 0] 31))) bw1)
       have R1 := hid (kept (laid (w.alloc (.cells #[.int .i64 long, .int .i64 size, .slice (some ⟨b1, o1, none⟩) ws.length c1, .slice (some ⟨b2, o2, none⟩) gs.length c2] 31)) #[.int .i64 0, .int .i64 0, .slice none 0 0, .slice none 0 0] 31) bw1)
       rw [World.size_alloc'] at R1
       have B1 := hid (below_cat' (below2' w _ _) bw1)
       clear ow1 bw1
       have p0 := box_cell X1.out 0 (v := .int .i64 long) rfl
       have p1' := box_cell X1.out 1 (v := .int .i64 size) rfl
       have p2' := box_cell X1.out 2 (v := .slice (some ⟨b1, o1, none⟩) ws.length c1) rfl
       have p3 := box_cell X1.out 3 (v := .slice (some ⟨b2, o2, none⟩) gs.length c2) rfl
       have f2 := box_frozen X1.out 2
       have lw1 := lt_of_block R1.out
       have lw0 : w.heap.size < w1.heap.size := Nat.lt_of_succ_lt lw1)
    | (at_builtin
       refine append_copy 22 3 i0 _ 8 Tryz.underlying22 hi hz0 hz1 hz2 rfl (xs := gs) _ _ rfl rfl rfl rfl (by simp) rfl (fun i hi => ((below_set' B1.out (p := ⟨w.heap.size, 2, none⟩) (Nat.le_refl _) _).cell (p := ⟨b2, o2 + i, none⟩) l2).trans (H2.out i hi)) (by omega) (by omega) ?_
       intro v2 w2 ow2 bw2
       obtain ⟨a2, d2, rfl⟩ := owns_slice ow2
       have O1 := hid (owns_below (owns_set (OW1.out) (p := ⟨w.heap.size, 2, none⟩) (by simp; omega) (.slice a1 ws.length d1)) bw2)
       have O2 := hid ow2
       have AP := hid (owns_apart OW1.out ow2 (by simp))
       have X2 := hid (kept (set_block X1.out 2 (.slice a1 ws.length d1)) bw2)
       have R2 := hid (kept (set_other (g := w.heap.size) R1.out (by omega) 2 (.slice a1 ws.length d1)) bw2)
       have B2 := hid (below_cat' (below_set' B1.out (p := ⟨w.heap.size, 2, none⟩) (Nat.le_refl _) (.slice a1 ws.length d1)) bw2)
       clear ow2 bw2 p0 p1' p2' p3 f2
       have lw3 := lt_of_block R2.out
       have lw4 : w.heap.size < w2.heap.size := Nat.lt_of_succ_lt lw3
       have p0 := box_cell X2.out 0 (v := .int .i64 long) rfl
       have p1' := box_cell X2.out 1 (v := .int .i64 size) rfl
       have p2' := box_cell X2.out 2 (v := .slice a1 ws.length d1) rfl
       have f3 := box_frozen X2.out 3
       have p3 := box_cell X2.out 3 (v := .slice (some ⟨b2, o2, none⟩) gs.length c2) rfl
       have r0 := box_cell R2.out 0 (v := .int .i64 0) rfl
       have r1 := box_cell R2.out 1 (v := .int .i64 0) rfl
       have r2 := box_cell R2.out 2 (v := .slice none 0 0) rfl
       have r3 := box_cell R2.out 3 (v := .slice none 0 0) rfl
       have e0 := box_frozen R2.out 0
       have e1 := box_frozen R2.out 1
       have e2 := box_frozen R2.out 2
       have e3 := box_frozen R2.out 3))
  have Y := set_block (set_block (set_block (set_block (set_other (g := w.heap.size) R2.out (by omega) 3 (.slice a2 gs.length d2)) 0 (.int .i64 long)) 1 (.int .i64 size)) 2 (.slice a1 ws.length d1)) 3 (.slice a2 gs.length d2)
  have q0 := box_cell Y 0 (v := .int .i64 long) rfl
  have q1 := box_cell Y 1 (v := .int .i64 size) rfl
  have q2 := box_cell Y 2 (v := .slice a1 ws.length d1) rfl
  have q3 := box_cell Y 3 (v := .slice a2 gs.length d2) rfl
  refine bodyPost_ret (v := .agg #[.int .i64 long, .int .i64 size, .slice a1 ws.length d1, .slice a2 gs.length d2]) ?_ rfl ⟨_, rfl, ⟨_, _, rfl, ?_, ?_, AP.out⟩, ?_⟩
  · unfold results; rw [Tryz.results35]; simp [go_sem, q0, q1, q2, q3]
  · exact owns_base (owns_set (owns_set (owns_set (owns_set (owns_set O1.out (by simp; omega) _) (by simp) _) (by simp) _) (by simp) _) (by simp) _) (by simp; omega)
  · exact owns_base (owns_set (owns_set (owns_set (owns_set (owns_set O2.out (by simp; omega) _) (by simp; omega) _) (by simp; omega) _) (by simp; omega) _) (by simp; omega) _) (by simp; omega)
  · exact below_set' (below_set' (below_set' (below_set' (below_set' B2.out (by simp) _) (by simp) _) (by simp) _) (by simp) _) (by simp) _
end Go.Proofs.YtegldmdcdnnegaaGreatDoor