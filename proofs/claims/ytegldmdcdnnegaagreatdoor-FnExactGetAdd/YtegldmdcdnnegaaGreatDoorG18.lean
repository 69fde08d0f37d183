/- What is left of an equation, link by link: the program's iterator. -/
import Derived.Test.YtegldmdcdnnegaaGreatDoorG7
import Derived.Deep.RegionHeld3
namespace Go.Proofs.YtegldmdcdnnegaaGreatDoor
open Go.ChangeShapes Go.WideShapes Go.ChangeAt Go.RowKit Go.Sort Go.Shelf
attribute [local go_sem] Oper.semAt_some

set_option maxRecDepth 100000 in
set_option maxHeartbeats 4000000 in
theorem left1_at (k l : Nat) (w0 W : World) (bL bR bD sb so base : Nat) (cs : Option Addr → Array Value) (ct : TypeId) (c z : Int) (XC : Bx cs ct so c z) (ls : List Lk) (r d : List Int) (q cc : Nat) (mine : Nat → Prop) (J : Option El → World → Prop)
    (hB : Below w0.heap.size w0 W) (hmine : ∀ j, mine j → w0.heap.size ≤ j ∧ j < W.heap.size ∧ j ≠ bL ∧ j ≠ bR ∧ j ≠ bD)
    (hbL : W.heap[bL]? = some (.cells #[.pointer (some ⟨sb, so, none⟩)] 133 (0, 0))) (hbR : W.heap[bR]? = some (.cells #[.int .u32 (setI r : Nat)] 97 (0, 0))) (hbD : W.heap[bD]? = some (.cells #[.slice (some ⟨q, 0, none⟩) d.length cc] 102 (0, 0)))
    (hsb : w0.heap[sb]? = some (.cells (cs (ptrOf ls)) ct (0, 0))) (hL : LksAt w0 base ls) (hR : RowsL ls) (hll : ls.length ≤ 24) (hr : ascB (-1) 24 r = true) (hq : BytsAt w0 q d) (hd1 : d.length ≤ 1048576) (hdl : ∀ l ∈ ls, l.d.length = d.length) (hT : Tab w0)
    (hJ : ∀ s A B, J s A → Below W.heap.size A B → J s B) (h0 : J none W)
    (hY : ∀ s (x : El) W1, J s W1 → BytsAt W1 x.q x.d → W.heap.size ≤ W1.heap.size → YieldAt Fence.wide k Tryz.prog l #[.int .u32 (setI x.r : Nat), .slice (some ⟨x.q, 0, none⟩) x.d.length x.c] W1 fun e W' => e = .returned (.bool true) ∧ J (some x) W' ∧ Spare mine W1 W') :
    CallsIn Fence.wide 8 Tryz.prog 115 #[.func (.yield l) #[] #[], .pointer (some ⟨bR, 0, none⟩), .pointer (some ⟨bD, 0, none⟩), .pointer (some ⟨bL, 0, none⟩)] W fun e W' => (∃ v, e = .returned v) ∧ ∃ x : El, (x.r, x.d) = ls.foldl stepL (r, d) ∧ BytsAt W' x.q x.d ∧ Below w0.heap.size w0 W' ∧ J (some x) W' := by
  have HL := hid hL
  have HR := hid hR
  have HQ := hid hq
  have HT := hid hT
  have HB := hid hB
  have HS := hid hsb
  have HM := hid hmine
  have HbL := hid hbL
  have HbR := hid hbR
  have HbD := hid hbD
  have HJ := hid hJ
  have HY := hid hY
  have H0 := hid h0
  have HDL := hid hdl
  have HC := hid (show ∀ x ∈ ls, ∃ p, w0.heap[x.b]? = some (.cells #[.int .u32 (setI x.r : Nat), .slice (some ⟨x.q, 0, none⟩) x.d.length x.c, p] 130 (0, 0)) ∧ BytsAt w0 x.q x.d from fun x hx => by
    obtain ⟨j, hj, rfl⟩ := List.getElem_of_mem hx
    exact ⟨_, (hL j hj).2.2.1, (hL j hj).2.2.2⟩)
  have lL := lt_of_block hbL
  have lR := lt_of_block hbR
  have lD := lt_of_block hbD
  have q0 := box_cell hbR 0 (v := .int .u32 (setI r : Nat)) rfl
  have q1 := box_cell hbD 0 (v := .slice (some ⟨q, 0, none⟩) d.length cc) rfl
  clear hL hR hq hT hB hsb hmine hbL hbR hbD hJ hY h0 hdl
  refine callsIn_of_wp_marks Tryz.func115 rfl trivial ?_ rfl
  simp only [Tryz.ntmps115, List.size_toArray, List.length_cons, List.length_nil, Nat.reduceAdd, Nat.reduceSub, Array.replicate_succ, Array.replicate_zero, List.push_toArray, List.append_toArray, List.nil_append, List.cons_append]
  gi_wp2
  obtain ⟨V, hV⟩ : ∃ V, V = W.alloc (.cells #[.func (.yield l) #[] #[]] 170) := ⟨_, rfl⟩
  have bv : Below W.heap.size W V := by rw [hV]; exact u_b1 _ _
  have Y4 := hid (show V.heap[W.heap.size]? = some (.cells #[.func (.yield l) #[] #[]] 170 (0, 0)) by rw [hV]; exact laid _ _ _)
  have hvs : V.heap.size = W.heap.size + 1 := by rw [hV]; simp
  rw [← hV]
  clear hV q0 q1
  have q0 : V.cell? ⟨bR, 0, none⟩ = some (.int .u32 (setI r : Nat)) := box_cell (kept HbR.out bv) 0 rfl
  have q1 : V.cell? ⟨bD, 0, none⟩ = some (.slice (some ⟨q, 0, none⟩) d.length cc) := box_cell (kept HbD.out bv) 0 rfl
  have n0 : ¬ V.heap.size = bR := by omega
  have n1 : ¬ V.heap.size = bD := by omega
  have n6 : ¬ V.heap.size + 1 = bR := by omega
  have n7 : ¬ V.heap.size + 1 = bD := by omega
  have n2 : ¬ bR = V.heap.size := by omega
  have n3 : ¬ bD = V.heap.size := by omega
  have n4 : ¬ bR = V.heap.size + 1 := by omega
  have n5 : ¬ bD = V.heap.size + 1 := by omega
  refine wpIn_wide.2 ?_
  go_region_held3 (fun w' => w'.cell? ⟨bR, 0, none⟩ = some (.int .u32 (setI r : Nat)) ∧ w'.cell? ⟨bD, 0, none⟩ = some (.slice (some ⟨q, 0, none⟩) d.length cc)) (go_keep) (fail)
  · obtain ⟨b5, h5⟩ : ∃ b, b = W.heap.size + 1 := ⟨_, rfl⟩
    obtain ⟨b6, h6⟩ : ∃ b, b = W.heap.size + 1 + 1 := ⟨_, rfl⟩
    obtain ⟨V2, hV2⟩ : ∃ V2, V2 = ((V.alloc (.cells #[.int .u32 (setI r : Nat)] 97)).alloc (.cells #[.slice (some ⟨q, 0, none⟩) d.length cc] 102)).drew := ⟨_, rfl⟩
    have b2 : Below V.heap.size V V2 := by rw [hV2]; exact (u_b2 V _ _).drew
    have Y5 := hid (show V2.heap[b5]? = some (.cells #[.int .u32 (setI r : Nat)] 97 (0, 0)) by rw [hV2, h5]; exact new2a V _ _ hvs)
    have Y6 := hid (show V2.heap[b6]? = some (.cells #[.slice (some ⟨q, 0, none⟩) d.length cc] 102 (0, 0)) by rw [hV2, h6]; exact new2b V _ _ hvs)
    have hv2 : V2.heap.size = W.heap.size + 3 := by rw [hV2]; simp; omega
    rw [← hV2]
    rw [← h6, ← h5]
    have hne : b5 ≠ b6 := by omega
    have hb5 : W.heap.size < b5 ∧ b5 < W.heap.size + 3 := by omega
    have hb6 : W.heap.size < b6 ∧ b6 < W.heap.size + 3 := by omega
    clear hV2 h5 h6
    have BW := hid (bv.trans (b2.mono bv.size))
    replace Y4 := hid (kept Y4.out b2)
    have J0 := hid (HJ.out none W V2 H0.out BW.out)
    have BB := hid (HB.out.trans (BW.out.mono HB.out.size))
    clear b2 bv q0 q1 n0 n1 n2 n3 n4 n5 n6 n7
    obtain ⟨fn, tmps, assign, body, hy, hRo⟩ := HY.out none ⟨r, q, cc, d⟩ V2 J0.out (HQ.out.below BB.out) BW.out.size
    dsimp only at hy
    have y4 := box_cell Y4.out 0 (v := .func (.yield l) #[] #[]) rfl
    have y5 := box_cell Y5.out 0 (v := .int .u32 (setI r : Nat)) rfl
    have y6 := box_cell Y6.out 0 (v := .slice (some ⟨q, 0, none⟩) d.length cc) rfl
    gi_wp2
    refine (roundIn_w hRo).mono ?_
    rintro e W3 ⟨rfl, hJ3, hs3⟩
    have NM : ∀ j, W.heap.size ≤ j ∨ j = bL → ¬ mine j := fun j hj hm => by have := HM.out j hm; omega
    have Z4 := hid ((hs3.same _ (by omega) (NM _ (.inl (by omega)))).trans Y4.out)
    have Z5 := hid ((hs3.same _ (by omega) (NM _ (.inl (by omega)))).trans Y5.out)
    have Z6 := hid ((hs3.same _ (by omega) (NM _ (.inl (by omega)))).trans Y6.out)
    have ZL := hid ((hs3.same _ (by omega) (NM _ (.inr rfl))).trans (kept HbL.out BW.out))
    have ZB := hid (BB.out.trans (hs3.below BB.out.size (fun j hj => (HM.out j hj).1)))
    have J3 := hid hJ3
    have hw3 : W.heap.size + 3 ≤ W3.heap.size := by have := hs3.size; omega
    clear hJ3 hs3 y4 y5 y6 Y4 Y5 Y6 hy hRo J0
    have zl := box_cell ZL.out 0 (v := .pointer (some ⟨sb, so, none⟩)) rfl
    gi_wp2_with (refine ⟨trivial, ?_⟩; gi_at_call 89; refine (callsIn_wide.2 (links_in _ _)).mono ?_; rintro e w' ⟨rfl, rfl⟩)
    obtain ⟨W4, hW4⟩ : ∃ W4, W4 = W3.alloc (.cells #[.pointer (some ⟨sb, so, none⟩)] 133) := ⟨_, rfl⟩
    have b4 : Below W3.heap.size W3 W4 := by rw [hW4]; exact u_b1 _ _
    have Z7 := hid (show W4.heap[W3.heap.size]? = some (.cells #[.pointer (some ⟨sb, so, none⟩)] 133 (0, 0)) by rw [hW4]; exact laid _ _ _)
    have hw4 : W4.heap.size = W3.heap.size + 1 := by rw [hW4]; simp
    rw [← hW4]
    clear hW4 zl
    replace Z4 := hid (kept Z4.out b4)
    replace Z5 := hid (kept Z5.out b4)
    replace Z6 := hid (kept Z6.out b4)
    replace ZB := hid (u_catn ZB.out (Nat.le_refl _) b4)
    replace J3 := hid (HJ.out _ W3 W4 J3.out (b4.mono (by omega)))
    clear b4
    have hw0 : w0.heap.size ≤ W.heap.size := HB.out.size
    have L4 := HL.out.below ZB.out
    have HI : LeftI w0 W4 (W.heap.size + 3) W.heap.size b5 b6 l d.length J (r, d) := ⟨ZB.out, by omega, Z4.out, Z5.out, ⟨q, cc, Z6.out, HQ.out.below ZB.out, J3.out⟩, hr, rfl⟩
    refine wpIn_rangeFunc_ownG (α := {x : Lk // x ∈ ls}) rfl (by omega) (gf := 111) (lb := #[.pointer (some ⟨W3.heap.size, 0, none⟩)]) rfl trivial (enters_of Tryz.func111 (by kernel_rfl) rfl)
      (links_stops (8 - 1) W3.heap.size sb ls (by omega) (by omega) (Below w0.heap.size) (fun A B h k j hj => (k.cell (p := ⟨ls[j].b, 2, none⟩) (lt_of_block (HL.out j hj).2.2.1)).trans (h j hj)) W4 (box_cell Z7.out 0 rfl) (box_cell (kept HS.out ZB.out) (so + 2) (XC.e2 _)) L4.leads)
      belowK_t (belowK_b (by omega)) (Below.refl _ _) (fun _ => rfl)
      (fun pre A => LeftI w0 A (W.heap.size + 3) W.heap.size b5 b6 l d.length J (stL pre (r, d)))
      (fun _ _ _ => False)
      (fun s A B row hs hg hr => hs.own (n := W.heap.size) HJ.out (by omega) hw0 hg (fun r e => ⟨by have := (hr r e).1; omega, (hr r e).2⟩))
      (fun _ _ _ _ _ hs _ _ => hs)
      HI
      (fun x => { tmps := #[.func (.yield l) #[] #[], .pointer (some ⟨bR, 0, none⟩), .pointer (some ⟨bD, 0, none⟩), .pointer (some ⟨bL, 0, none⟩), .pointer (some ⟨W.heap.size, 0, none⟩), .pointer (some ⟨b5, 0, none⟩), .pointer (some ⟨b6, 0, none⟩), .pointer (some ⟨x.1.b, 0, none⟩), .int .u32 (setI r : Nat),
        .slice (some ⟨q, 0, none⟩) d.length cc, .func (.yield l) #[] #[], .int .u32 (setI r : Nat), .slice (some ⟨q, 0, none⟩) d.length cc, .bool true, .bool false, .pointer (some ⟨sb, so, none⟩), .func (.func 111) #[] #[.pointer (some ⟨W3.heap.size, 0, none⟩)], .pointer (some ⟨x.1.b, 0, none⟩),
        undef, undef, undef, undef, undef, undef, undef, undef, undef, undef, undef, undef, undef, undef, undef, undef, undef, undef, undef, undef, undef, undef, undef, undef, undef], defers := [] }) ?assign ?body ?done ?stop
    case assign =>
      intro l x A K hK
      gi_wp2
      exact hK
    case body =>
      rintro l' pre x A I hlen
      obtain ⟨s, hs⟩ : ∃ s, s = stL pre (r, d) := ⟨_, rfl⟩
      have HST := hid (show stL (pre ++ [x]) (r, d) = stepL s x.1 by rw [stL_snoc, hs])
      rw [← hs] at I
      clear hs
      obtain ⟨iB, iN, i4, i5, ⟨q', c', i6, iq, iJ⟩, iA, iL⟩ := I
      have hx := HR.out x.1 x.2
      have hh := asc_mem hx.1 (hd_mem hx.2)
      obtain ⟨p, xb, xq⟩ := HC.out x.1 x.2
      have XB := hid (kept xb iB)
      have XQ := hid (xq.below iB)
      have HDX := hid (show x.1.d.length = s.2.length by rw [iL]; exact HDL.out x.1 x.2)
      have y5 := cell_regrown (box_cell i5 0 (v := .int .u32 (setI s.1 : Nat)) rfl)
      have r0 := cell_regrown (box_cell XB.out 0 (v := .int .u32 (setI x.1.r : Nat)) rfl)
      have k1 := hid (rg (w := A) (fun w' hb => same_below (firstS hx.1 hx.2 w' ((HT.out.below iB).below hb))))
      have k2 := hid (rg (w := A) (fun w' _ => same_below (hasS iA (hd x.1.r) w' (by omega) (by omega))))
      have I4 := hid i4
      have I5 := hid i5
      have I6 := hid i6
      have IQ := hid iq
      have IJ := hid iJ
      have IB := hid iB
      have HX := hid hx
      obtain ⟨F, hF⟩ : ∃ F, F = hd x.1.r := ⟨_, rfl⟩
      rw [← hF] at k1 k2
      have HF := hid hF
      have hsl : s.2.length ≤ 1048576 := by omega
      have IL := hid iL
      clear iL i4 i5 i6 iq iJ iB hx hh xb xq hF
      gi_wp2
      by_cases hin : F ∈ s.1
      · rw [decide_eq_true hin] at k2
        have HE := hid (show stepL s x.1 = (xorM s.1 x.1.r, xorL s.2 x.1.d) by unfold stepL; rw [if_pos (by rw [← HF.out]; exact hin)])
        clear hin
        refine inR_below (by kernel_rfl) (by kernel_rfl) (by kernel_rfl) (fun ⟨_, _, h⟩ => h) ?_
        repeat (first
          | go_big_quiet_step (first | (go_at_call 91; with_reducible exact k1.out _ _) | (go_at_call 90; with_reducible exact k2.out _ _))
          | quiet_step (first | (go_at_call 91; with_reducible exact k1.out _ _) | (go_at_call 90; with_reducible exact k2.out _ _)))
        refine wpQuiet_nil ?_
        intro A1 hw'
        have hbq := of_class hw'
        clear hw' y5 r0 k1 k2
        replace I4 := hid (kept I4.out hbq)
        replace I5 := hid (kept I5.out hbq)
        replace I6 := hid (kept I6.out hbq)
        replace IQ := hid (IQ.out.below hbq)
        replace XB := hid (kept XB.out hbq)
        replace XQ := hid (XQ.out.below hbq)
        replace IB := hid (u_catn IB.out (Nat.le_refl _) hbq)
        replace IJ := hid (HJ.out _ A A1 IJ.out (hbq.mono (by omega)))
        have hn1 : W.heap.size + 3 ≤ A1.heap.size := Nat.le_trans iN hbq.size
        have HK1 := hid (keeps_below hbq)
        have HK1B := hid (hbq.mono (show w0.heap.size ≤ A.heap.size by omega))
        clear hbq
        have y5 := cell_regrown (box_cell I5.out 0 (v := .int .u32 (setI s.1 : Nat)) rfl)
        have y6 := cell_regrown (box_cell I6.out 0 (v := .slice (some ⟨q', 0, none⟩) s.2.length c') rfl)
        have r0 := cell_regrown (box_cell XB.out 0 (v := .int .u32 (setI x.1.r : Nat)) rfl)
        have r1 := cell_regrown (box_cell XB.out 1 (v := .slice (some ⟨x.1.q, 0, none⟩) x.1.d.length x.1.c) rfl)
        have k3 := hid (rg (w := A1) (fun w' _ => same_below (xorS iA HX.out.1 w')))
        gi_wp2
        refine inR_fore 11 (by kernel_rfl) (by kernel_rfl) (by kernel_rfl) (fun ⟨_, _, h⟩ => h) (fun _ _ d _ _ h => by cases d <;> exact h) ?_
        dsimp only [List.take_succ_cons, List.take_zero, List.drop_succ_cons, List.drop_zero]
        repeat (first
          | go_big_quiet_step ((go_at_call 92; with_reducible exact k3.out _ _))
          | quiet_step ((go_at_call 92; with_reducible exact k3.out _ _)))
        refine wpQuiet_nil ?_
        intro A2 hw'
        have hbq := of_class hw'
        clear hw' y5 y6 r0 r1 k3
        replace I4 := hid (kept I4.out hbq)
        replace I5 := hid (kept I5.out hbq)
        replace I6 := hid (kept I6.out hbq)
        replace IQ := hid (IQ.out.below hbq)
        replace XQ := hid (XQ.out.below hbq)
        replace IB := hid (u_catn IB.out (Nat.le_refl _) hbq)
        replace IJ := hid (HJ.out _ A1 A2 IJ.out (hbq.mono (by omega)))
        have hn2 : W.heap.size + 3 ≤ A2.heap.size := Nat.le_trans hn1 hbq.size
        replace HK1 := hid (HK1.out.trans (keeps_below hbq))
        replace HK1B := hid (HK1B.out.trans (hbq.mono (by omega)))
        clear hbq
        go_wp2_with (go_at_call 93; refine (bmix_any q' x.1.q c' x.1.c s.2 x.1.d _ IQ.out XQ.out HDX.out hsl).mono ?_; rintro e A3 ⟨q2, c2, rfl, hq2, ba3, b3⟩; have BA := hid ba3; have I5 := hid (kept I5.out b3); have I6 := hid (kept I6.out b3); have I4 := hid (kept I4.out b3); have IB := hid (u_catn IB.out (Nat.le_refl _) b3); have IJ := hid (HJ.out _ A2 A3 IJ.out (b3.mono (by omega))); have HK1 := hid (HK1.out.trans (keeps_below b3)); have HK1B := hid (HK1B.out.trans (b3.mono (by omega))); have hn3 : W.heap.size + 3 ≤ A3.heap.size := (Nat.le_trans hn2 b3.size); have y5 := box_cell I5.out 0 (v := .int .u32 (setI s.1 : Nat)) rfl; have y6 := box_cell I6.out 0 (v := .slice (some ⟨q', 0, none⟩) s.2.length c') rfl; have f5 := box_frozen I5.out 0; have f6 := box_frozen I6.out 0; have HQ2 := hid hq2; clear b3 ba3 hq2)
        obtain ⟨A5, hA5⟩ : ∃ A5, A5 = (A3.setCell ⟨b5, 0, none⟩ (.int .u32 (setI (xorM s.1 x.1.r) : Nat))).setCell ⟨b6, 0, none⟩ (.slice (some ⟨q2, 0, none⟩) s.2.length c2) := ⟨_, rfl⟩
        have hxl : (xorL s.2 x.1.d).length = s.2.length := xorL_len _ _ HDX.out.symm
        have hq2 := HQ2.out
        have P5 := hid (show A5.heap[b5]? = some (.cells #[.int .u32 (setI (xorM s.1 x.1.r) : Nat)] 97 (0, 0)) by rw [hA5]; exact set_other (set_block I5.out 0 _) hne _ _)
        have P6 := hid (show A5.heap[b6]? = some (.cells #[.slice (some ⟨q2, 0, none⟩) (xorL s.2 x.1.d).length c2] 102 (0, 0)) by rw [hxl, hA5]; exact set_block (set_other I6.out hne.symm _ _) 0 _)
        have P4 := hid (show A5.heap[W.heap.size]? = some (.cells #[.func (.yield l) #[] #[]] 170 (0, 0)) by rw [hA5]; exact set_other (set_other I4.out (by omega) _ _) (by omega) _ _)
        have PB := hid (show Below W.heap.size A3 A5 by rw [hA5]; exact u_set (u_set (Below.refl _ _) (by omega) _ _) (by omega) _ _)
        have PA := hid (show BytsAt A5 q2 (xorL s.2 x.1.d) by rw [hA5]; exact (BA.out.set (by omega) _ _).set (by omega) _ _)
        have HK5 := hid (show KeepsOthers A A5 by rw [hA5]; exact (HK1.out.trans (KeepsOthers.setCell _ _ _)).trans (KeepsOthers.setCell _ _ _))
        have hs5 : A5.heap.size = A3.heap.size := by rw [hA5]; simp [World.setCell]
        have IJ5 := hid (HJ.out _ A3 A5 IJ.out PB.out)
        have IB5 := hid (IB.out.trans (PB.out.mono (by omega)))
        rw [← hA5]
        clear hA5 y5 y6 f5 f6
        obtain ⟨fn, tmps, assign, body, hy, hRo⟩ := HY.out _ ⟨xorM s.1 x.1.r, q2, c2, xorL s.2 x.1.d⟩ A5 IJ5.out PA.out (by omega)
        dsimp only at hy
        rw [hxl] at hy
        have y4 := box_cell P4.out 0 (v := .func (.yield l) #[] #[]) rfl
        have y5 := box_cell P5.out 0 (v := .int .u32 (setI (xorM s.1 x.1.r) : Nat)) rfl
        have y6 := box_cell P6.out 0 (v := .slice (some ⟨q2, 0, none⟩) (xorL s.2 x.1.d).length c2) rfl
        rw [hxl] at y6
        have HXL := hid hxl
        clear hxl
        gi_wp2
        refine (roundIn_r hRo).mono ?_
        rintro e A6 ⟨rfl, hJ6, hs6⟩
        have NM2 : ∀ j, W.heap.size ≤ j → ¬ mine j := fun j hj => NM j (.inl hj)
        have R4 := hid ((hs6.same _ (lt_of_block P4.out) (NM2 _ (by omega))).trans P4.out)
        have R5 := hid ((hs6.same _ (lt_of_block P5.out) (NM2 _ (by omega))).trans P5.out)
        have R6 := hid ((hs6.same _ (lt_of_block P6.out) (NM2 _ (by omega))).trans P6.out)
        have RA := hid (show BytsAt A6 q2 (xorL s.2 x.1.d) from ⟨Nat.lt_of_lt_of_le PA.out.1 hs6.size, fun i hi => (World.cell?_of_block (w := A5) (hs6.same q2 PA.out.1 (NM2 _ (by omega)))).trans (PA.out.2 i hi)⟩)
        have RB := hid (IB5.out.trans (hs6.below IB5.out.size (fun j hj => (HM.out j hj).1)))
        have RK := hid ((HK5.out.from W4.heap.size).trans (hs6.keeps (fun j hj => by have := HM.out j hj; omega)))
        have RS : W.heap.size + 3 ≤ A6.heap.size := Nat.le_trans (by omega) hs6.size
        have RJ := hid hJ6
        have BKP := hid (show Below w0.heap.size A A6 from (HK1B.out.trans ((PB.out.mono hw0).trans (hs6.below (by omega) (fun j hj => (HM.out j hj).1)))))
        clear hs6 hJ6 hy hRo y4 y5 y6
        gi_wp2
        refine ⟨RK.out, BKP.out, ?_⟩
        show LeftI w0 A6 (W.heap.size + 3) W.heap.size b5 b6 l d.length J (stL (pre ++ [x]) (r, d))
        rw [HST.out, HE.out]
        exact ⟨RB.out, RS, R4.out, R5.out, ⟨q2, c2, R6.out, RA.out, RJ.out⟩, xorM_asc iA HX.out.1, HXL.out.trans IL.out⟩
      · rw [decide_eq_false hin] at k2
        have HE := hid (show stepL s x.1 = s by unfold stepL; rw [if_neg (by rw [← HF.out]; exact hin)])
        clear hin
        refine inR_below (by kernel_rfl) (by kernel_rfl) (by kernel_rfl) (fun ⟨_, _, h⟩ => h) ?_
        repeat (first
          | go_big_quiet_step (first | (go_at_call 91; with_reducible exact k1.out _ _) | (go_at_call 90; with_reducible exact k2.out _ _))
          | quiet_step (first | (go_at_call 91; with_reducible exact k1.out _ _) | (go_at_call 90; with_reducible exact k2.out _ _)))
        refine wpQuiet_nil ?_
        intro A1 hw'
        have hbq := of_class hw'
        clear hw' y5 r0 k1 k2
        gi_wp2
        refine ⟨(keeps_below hbq).from _, hbq.mono (by omega), ?_⟩
        show LeftI w0 A1 (W.heap.size + 3) W.heap.size b5 b6 l d.length J (stL (pre ++ [x]) (r, d))
        rw [HST.out, HE.out]
        exact ⟨u_catn IB.out (Nat.le_refl _) hbq, Nat.le_trans iN hbq.size, kept I4.out hbq, kept I5.out hbq, ⟨q', c', kept I6.out hbq, IQ.out.below hbq, HJ.out _ A A1 IJ.out (hbq.mono (by omega))⟩, iA, IL.out⟩
    case done =>
      rintro D ys A hD rfl I hK
      obtain ⟨iB, iN, i4, i5, ⟨q', c', i6, iq, iJ⟩, iA, iL⟩ := I
      gi_wp2
      refine ⟨by simp, .inl ⟨_, _, rfl, run_takeDeferred hK, ?_⟩⟩
      refine ⟨_, results_none rfl _ _ _, ⟨_, rfl⟩, ⟨_, q', c', _⟩, stL_all ls (r, d), ?_, ?_, ?_⟩
      · exact iq.own (grownBy_putObj' _ D (.deferred none)) (fun r e => by cases e; exact ⟨_, hK, rfl⟩)
      · exact iB.trans (below_putObj A (by omega) _)
      · exact HJ.out _ _ _ iJ (below_putObj A (by omega) _)
    case stop =>
      rintro D cx pre A _ _ h _
      exact h.elim
  · obtain ⟨b5, h5⟩ : ∃ b, b = W.heap.size + 1 + 1 := ⟨_, rfl⟩
    obtain ⟨b6, h6⟩ : ∃ b, b = W.heap.size + 1 := ⟨_, rfl⟩
    obtain ⟨V2, hV2⟩ : ∃ V2, V2 = ((V.alloc (.cells #[.slice (some ⟨q, 0, none⟩) d.length cc] 102)).alloc (.cells #[.int .u32 (setI r : Nat)] 97)).drew := ⟨_, rfl⟩
    have b2 : Below V.heap.size V V2 := by rw [hV2]; exact (u_b2 V _ _).drew
    have Y5 := hid (show V2.heap[b5]? = some (.cells #[.int .u32 (setI r : Nat)] 97 (0, 0)) by rw [hV2, h5]; exact new2b V _ _ hvs)
    have Y6 := hid (show V2.heap[b6]? = some (.cells #[.slice (some ⟨q, 0, none⟩) d.length cc] 102 (0, 0)) by rw [hV2, h6]; exact new2a V _ _ hvs)
    have hv2 : V2.heap.size = W.heap.size + 3 := by rw [hV2]; simp; omega
    rw [← hV2]
    rw [← h5, ← h6]
    have hne : b5 ≠ b6 := by omega
    have hb5 : W.heap.size < b5 ∧ b5 < W.heap.size + 3 := by omega
    have hb6 : W.heap.size < b6 ∧ b6 < W.heap.size + 3 := by omega
    clear hV2 h5 h6
    have BW := hid (bv.trans (b2.mono bv.size))
    replace Y4 := hid (kept Y4.out b2)
    have J0 := hid (HJ.out none W V2 H0.out BW.out)
    have BB := hid (HB.out.trans (BW.out.mono HB.out.size))
    clear b2 bv q0 q1 n0 n1 n2 n3 n4 n5 n6 n7
    obtain ⟨fn, tmps, assign, body, hy, hRo⟩ := HY.out none ⟨r, q, cc, d⟩ V2 J0.out (HQ.out.below BB.out) BW.out.size
    dsimp only at hy
    have y4 := box_cell Y4.out 0 (v := .func (.yield l) #[] #[]) rfl
    have y5 := box_cell Y5.out 0 (v := .int .u32 (setI r : Nat)) rfl
    have y6 := box_cell Y6.out 0 (v := .slice (some ⟨q, 0, none⟩) d.length cc) rfl
    gi_wp2
    refine (roundIn_w hRo).mono ?_
    rintro e W3 ⟨rfl, hJ3, hs3⟩
    have NM : ∀ j, W.heap.size ≤ j ∨ j = bL → ¬ mine j := fun j hj hm => by have := HM.out j hm; omega
    have Z4 := hid ((hs3.same _ (by omega) (NM _ (.inl (by omega)))).trans Y4.out)
    have Z5 := hid ((hs3.same _ (by omega) (NM _ (.inl (by omega)))).trans Y5.out)
    have Z6 := hid ((hs3.same _ (by omega) (NM _ (.inl (by omega)))).trans Y6.out)
    have ZL := hid ((hs3.same _ (by omega) (NM _ (.inr rfl))).trans (kept HbL.out BW.out))
    have ZB := hid (BB.out.trans (hs3.below BB.out.size (fun j hj => (HM.out j hj).1)))
    have J3 := hid hJ3
    have hw3 : W.heap.size + 3 ≤ W3.heap.size := by have := hs3.size; omega
    clear hJ3 hs3 y4 y5 y6 Y4 Y5 Y6 hy hRo J0
    have zl := box_cell ZL.out 0 (v := .pointer (some ⟨sb, so, none⟩)) rfl
    gi_wp2_with (refine ⟨trivial, ?_⟩; gi_at_call 89; refine (callsIn_wide.2 (links_in _ _)).mono ?_; rintro e w' ⟨rfl, rfl⟩)
    obtain ⟨W4, hW4⟩ : ∃ W4, W4 = W3.alloc (.cells #[.pointer (some ⟨sb, so, none⟩)] 133) := ⟨_, rfl⟩
    have b4 : Below W3.heap.size W3 W4 := by rw [hW4]; exact u_b1 _ _
    have Z7 := hid (show W4.heap[W3.heap.size]? = some (.cells #[.pointer (some ⟨sb, so, none⟩)] 133 (0, 0)) by rw [hW4]; exact laid _ _ _)
    have hw4 : W4.heap.size = W3.heap.size + 1 := by rw [hW4]; simp
    rw [← hW4]
    clear hW4 zl
    replace Z4 := hid (kept Z4.out b4)
    replace Z5 := hid (kept Z5.out b4)
    replace Z6 := hid (kept Z6.out b4)
    replace ZB := hid (u_catn ZB.out (Nat.le_refl _) b4)
    replace J3 := hid (HJ.out _ W3 W4 J3.out (b4.mono (by omega)))
    clear b4
    have hw0 : w0.heap.size ≤ W.heap.size := HB.out.size
    have L4 := HL.out.below ZB.out
    have HI : LeftI w0 W4 (W.heap.size + 3) W.heap.size b5 b6 l d.length J (r, d) := ⟨ZB.out, by omega, Z4.out, Z5.out, ⟨q, cc, Z6.out, HQ.out.below ZB.out, J3.out⟩, hr, rfl⟩
    refine wpIn_rangeFunc_ownG (α := {x : Lk // x ∈ ls}) rfl (by omega) (gf := 111) (lb := #[.pointer (some ⟨W3.heap.size, 0, none⟩)]) rfl trivial (enters_of Tryz.func111 (by kernel_rfl) rfl)
      (links_stops (8 - 1) W3.heap.size sb ls (by omega) (by omega) (Below w0.heap.size) (fun A B h k j hj => (k.cell (p := ⟨ls[j].b, 2, none⟩) (lt_of_block (HL.out j hj).2.2.1)).trans (h j hj)) W4 (box_cell Z7.out 0 rfl) (box_cell (kept HS.out ZB.out) (so + 2) (XC.e2 _)) L4.leads)
      belowK_t (belowK_b (by omega)) (Below.refl _ _) (fun _ => rfl)
      (fun pre A => LeftI w0 A (W.heap.size + 3) W.heap.size b5 b6 l d.length J (stL pre (r, d)))
      (fun _ _ _ => False)
      (fun s A B row hs hg hr => hs.own (n := W.heap.size) HJ.out (by omega) hw0 hg (fun r e => ⟨by have := (hr r e).1; omega, (hr r e).2⟩))
      (fun _ _ _ _ _ hs _ _ => hs)
      HI
      (fun x => { tmps := #[.func (.yield l) #[] #[], .pointer (some ⟨bR, 0, none⟩), .pointer (some ⟨bD, 0, none⟩), .pointer (some ⟨bL, 0, none⟩), .pointer (some ⟨W.heap.size, 0, none⟩), .pointer (some ⟨b5, 0, none⟩), .pointer (some ⟨b6, 0, none⟩), .pointer (some ⟨x.1.b, 0, none⟩), .int .u32 (setI r : Nat),
        .slice (some ⟨q, 0, none⟩) d.length cc, .func (.yield l) #[] #[], .int .u32 (setI r : Nat), .slice (some ⟨q, 0, none⟩) d.length cc, .bool true, .bool false, .pointer (some ⟨sb, so, none⟩), .func (.func 111) #[] #[.pointer (some ⟨W3.heap.size, 0, none⟩)], .pointer (some ⟨x.1.b, 0, none⟩),
        undef, undef, undef, undef, undef, undef, undef, undef, undef, undef, undef, undef, undef, undef, undef, undef, undef, undef, undef, undef, undef, undef, undef, undef, undef], defers := [] }) ?assign ?body ?done ?stop
    case assign =>
      intro l x A K hK
      gi_wp2
      exact hK
    case body =>
      rintro l' pre x A I hlen
      obtain ⟨s, hs⟩ : ∃ s, s = stL pre (r, d) := ⟨_, rfl⟩
      have HST := hid (show stL (pre ++ [x]) (r, d) = stepL s x.1 by rw [stL_snoc, hs])
      rw [← hs] at I
      clear hs
      obtain ⟨iB, iN, i4, i5, ⟨q', c', i6, iq, iJ⟩, iA, iL⟩ := I
      have hx := HR.out x.1 x.2
      have hh := asc_mem hx.1 (hd_mem hx.2)
      obtain ⟨p, xb, xq⟩ := HC.out x.1 x.2
      have XB := hid (kept xb iB)
      have XQ := hid (xq.below iB)
      have HDX := hid (show x.1.d.length = s.2.length by rw [iL]; exact HDL.out x.1 x.2)
      have y5 := cell_regrown (box_cell i5 0 (v := .int .u32 (setI s.1 : Nat)) rfl)
      have r0 := cell_regrown (box_cell XB.out 0 (v := .int .u32 (setI x.1.r : Nat)) rfl)
      have k1 := hid (rg (w := A) (fun w' hb => same_below (firstS hx.1 hx.2 w' ((HT.out.below iB).below hb))))
      have k2 := hid (rg (w := A) (fun w' _ => same_below (hasS iA (hd x.1.r) w' (by omega) (by omega))))
      have I4 := hid i4
      have I5 := hid i5
      have I6 := hid i6
      have IQ := hid iq
      have IJ := hid iJ
      have IB := hid iB
      have HX := hid hx
      obtain ⟨F, hF⟩ : ∃ F, F = hd x.1.r := ⟨_, rfl⟩
      rw [← hF] at k1 k2
      have HF := hid hF
      have hsl : s.2.length ≤ 1048576 := by omega
      have IL := hid iL
      clear iL i4 i5 i6 iq iJ iB hx hh xb xq hF
      gi_wp2
      by_cases hin : F ∈ s.1
      · rw [decide_eq_true hin] at k2
        have HE := hid (show stepL s x.1 = (xorM s.1 x.1.r, xorL s.2 x.1.d) by unfold stepL; rw [if_pos (by rw [← HF.out]; exact hin)])
        clear hin
        refine inR_below (by kernel_rfl) (by kernel_rfl) (by kernel_rfl) (fun ⟨_, _, h⟩ => h) ?_
        repeat (first
          | go_big_quiet_step (first | (go_at_call 91; with_reducible exact k1.out _ _) | (go_at_call 90; with_reducible exact k2.out _ _))
          | quiet_step (first | (go_at_call 91; with_reducible exact k1.out _ _) | (go_at_call 90; with_reducible exact k2.out _ _)))
        refine wpQuiet_nil ?_
        intro A1 hw'
        have hbq := of_class hw'
        clear hw' y5 r0 k1 k2
        replace I4 := hid (kept I4.out hbq)
        replace I5 := hid (kept I5.out hbq)
        replace I6 := hid (kept I6.out hbq)
        replace IQ := hid (IQ.out.below hbq)
        replace XB := hid (kept XB.out hbq)
        replace XQ := hid (XQ.out.below hbq)
        replace IB := hid (u_catn IB.out (Nat.le_refl _) hbq)
        replace IJ := hid (HJ.out _ A A1 IJ.out (hbq.mono (by omega)))
        have hn1 : W.heap.size + 3 ≤ A1.heap.size := Nat.le_trans iN hbq.size
        have HK1 := hid (keeps_below hbq)
        have HK1B := hid (hbq.mono (show w0.heap.size ≤ A.heap.size by omega))
        clear hbq
        have y5 := cell_regrown (box_cell I5.out 0 (v := .int .u32 (setI s.1 : Nat)) rfl)
        have y6 := cell_regrown (box_cell I6.out 0 (v := .slice (some ⟨q', 0, none⟩) s.2.length c') rfl)
        have r0 := cell_regrown (box_cell XB.out 0 (v := .int .u32 (setI x.1.r : Nat)) rfl)
        have r1 := cell_regrown (box_cell XB.out 1 (v := .slice (some ⟨x.1.q, 0, none⟩) x.1.d.length x.1.c) rfl)
        have k3 := hid (rg (w := A1) (fun w' _ => same_below (xorS iA HX.out.1 w')))
        gi_wp2
        refine inR_fore 11 (by kernel_rfl) (by kernel_rfl) (by kernel_rfl) (fun ⟨_, _, h⟩ => h) (fun _ _ d _ _ h => by cases d <;> exact h) ?_
        dsimp only [List.take_succ_cons, List.take_zero, List.drop_succ_cons, List.drop_zero]
        repeat (first
          | go_big_quiet_step ((go_at_call 92; with_reducible exact k3.out _ _))
          | quiet_step ((go_at_call 92; with_reducible exact k3.out _ _)))
        refine wpQuiet_nil ?_
        intro A2 hw'
        have hbq := of_class hw'
        clear hw' y5 y6 r0 r1 k3
        replace I4 := hid (kept I4.out hbq)
        replace I5 := hid (kept I5.out hbq)
        replace I6 := hid (kept I6.out hbq)
        replace IQ := hid (IQ.out.below hbq)
        replace XQ := hid (XQ.out.below hbq)
        replace IB := hid (u_catn IB.out (Nat.le_refl _) hbq)
        replace IJ := hid (HJ.out _ A1 A2 IJ.out (hbq.mono (by omega)))
        have hn2 : W.heap.size + 3 ≤ A2.heap.size := Nat.le_trans hn1 hbq.size
        replace HK1 := hid (HK1.out.trans (keeps_below hbq))
        replace HK1B := hid (HK1B.out.trans (hbq.mono (by omega)))
        clear hbq
        go_wp2_with (go_at_call 93; refine (bmix_any q' x.1.q c' x.1.c s.2 x.1.d _ IQ.out XQ.out HDX.out hsl).mono ?_; rintro e A3 ⟨q2, c2, rfl, hq2, ba3, b3⟩; have BA := hid ba3; have I5 := hid (kept I5.out b3); have I6 := hid (kept I6.out b3); have I4 := hid (kept I4.out b3); have IB := hid (u_catn IB.out (Nat.le_refl _) b3); have IJ := hid (HJ.out _ A2 A3 IJ.out (b3.mono (by omega))); have HK1 := hid (HK1.out.trans (keeps_below b3)); have HK1B := hid (HK1B.out.trans (b3.mono (by omega))); have hn3 : W.heap.size + 3 ≤ A3.heap.size := (Nat.le_trans hn2 b3.size); have y5 := box_cell I5.out 0 (v := .int .u32 (setI s.1 : Nat)) rfl; have y6 := box_cell I6.out 0 (v := .slice (some ⟨q', 0, none⟩) s.2.length c') rfl; have f5 := box_frozen I5.out 0; have f6 := box_frozen I6.out 0; have HQ2 := hid hq2; clear b3 ba3 hq2)
        obtain ⟨A5, hA5⟩ : ∃ A5, A5 = (A3.setCell ⟨b5, 0, none⟩ (.int .u32 (setI (xorM s.1 x.1.r) : Nat))).setCell ⟨b6, 0, none⟩ (.slice (some ⟨q2, 0, none⟩) s.2.length c2) := ⟨_, rfl⟩
        have hxl : (xorL s.2 x.1.d).length = s.2.length := xorL_len _ _ HDX.out.symm
        have hq2 := HQ2.out
        have P5 := hid (show A5.heap[b5]? = some (.cells #[.int .u32 (setI (xorM s.1 x.1.r) : Nat)] 97 (0, 0)) by rw [hA5]; exact set_other (set_block I5.out 0 _) hne _ _)
        have P6 := hid (show A5.heap[b6]? = some (.cells #[.slice (some ⟨q2, 0, none⟩) (xorL s.2 x.1.d).length c2] 102 (0, 0)) by rw [hxl, hA5]; exact set_block (set_other I6.out hne.symm _ _) 0 _)
        have P4 := hid (show A5.heap[W.heap.size]? = some (.cells #[.func (.yield l) #[] #[]] 170 (0, 0)) by rw [hA5]; exact set_other (set_other I4.out (by omega) _ _) (by omega) _ _)
        have PB := hid (show Below W.heap.size A3 A5 by rw [hA5]; exact u_set (u_set (Below.refl _ _) (by omega) _ _) (by omega) _ _)
        have PA := hid (show BytsAt A5 q2 (xorL s.2 x.1.d) by rw [hA5]; exact (BA.out.set (by omega) _ _).set (by omega) _ _)
        have HK5 := hid (show KeepsOthers A A5 by rw [hA5]; exact (HK1.out.trans (KeepsOthers.setCell _ _ _)).trans (KeepsOthers.setCell _ _ _))
        have hs5 : A5.heap.size = A3.heap.size := by rw [hA5]; simp [World.setCell]
        have IJ5 := hid (HJ.out _ A3 A5 IJ.out PB.out)
        have IB5 := hid (IB.out.trans (PB.out.mono (by omega)))
        rw [← hA5]
        clear hA5 y5 y6 f5 f6
        obtain ⟨fn, tmps, assign, body, hy, hRo⟩ := HY.out _ ⟨xorM s.1 x.1.r, q2, c2, xorL s.2 x.1.d⟩ A5 IJ5.out PA.out (by omega)
        dsimp only at hy
        rw [hxl] at hy
        have y4 := box_cell P4.out 0 (v := .func (.yield l) #[] #[]) rfl
        have y5 := box_cell P5.out 0 (v := .int .u32 (setI (xorM s.1 x.1.r) : Nat)) rfl
        have y6 := box_cell P6.out 0 (v := .slice (some ⟨q2, 0, none⟩) (xorL s.2 x.1.d).length c2) rfl
        rw [hxl] at y6
        have HXL := hid hxl
        clear hxl
        gi_wp2
        refine (roundIn_r hRo).mono ?_
        rintro e A6 ⟨rfl, hJ6, hs6⟩
        have NM2 : ∀ j, W.heap.size ≤ j → ¬ mine j := fun j hj => NM j (.inl hj)
        have R4 := hid ((hs6.same _ (lt_of_block P4.out) (NM2 _ (by omega))).trans P4.out)
        have R5 := hid ((hs6.same _ (lt_of_block P5.out) (NM2 _ (by omega))).trans P5.out)
        have R6 := hid ((hs6.same _ (lt_of_block P6.out) (NM2 _ (by omega))).trans P6.out)
        have RA := hid (show BytsAt A6 q2 (xorL s.2 x.1.d) from ⟨Nat.lt_of_lt_of_le PA.out.1 hs6.size, fun i hi => (World.cell?_of_block (w := A5) (hs6.same q2 PA.out.1 (NM2 _ (by omega)))).trans (PA.out.2 i hi)⟩)
        have RB := hid (IB5.out.trans (hs6.below IB5.out.size (fun j hj => (HM.out j hj).1)))
        have RK := hid ((HK5.out.from W4.heap.size).trans (hs6.keeps (fun j hj => by have := HM.out j hj; omega)))
        have RS : W.heap.size + 3 ≤ A6.heap.size := Nat.le_trans (by omega) hs6.size
        have RJ := hid hJ6
        have BKP := hid (show Below w0.heap.size A A6 from (HK1B.out.trans ((PB.out.mono hw0).trans (hs6.below (by omega) (fun j hj => (HM.out j hj).1)))))
        clear hs6 hJ6 hy hRo y4 y5 y6
        gi_wp2
        refine ⟨RK.out, BKP.out, ?_⟩
        show LeftI w0 A6 (W.heap.size + 3) W.heap.size b5 b6 l d.length J (stL (pre ++ [x]) (r, d))
        rw [HST.out, HE.out]
        exact ⟨RB.out, RS, R4.out, R5.out, ⟨q2, c2, R6.out, RA.out, RJ.out⟩, xorM_asc iA HX.out.1, HXL.out.trans IL.out⟩
      · rw [decide_eq_false hin] at k2
        have HE := hid (show stepL s x.1 = s by unfold stepL; rw [if_neg (by rw [← HF.out]; exact hin)])
        clear hin
        refine inR_below (by kernel_rfl) (by kernel_rfl) (by kernel_rfl) (fun ⟨_, _, h⟩ => h) ?_
        repeat (first
          | go_big_quiet_step (first | (go_at_call 91; with_reducible exact k1.out _ _) | (go_at_call 90; with_reducible exact k2.out _ _))
          | quiet_step (first | (go_at_call 91; with_reducible exact k1.out _ _) | (go_at_call 90; with_reducible exact k2.out _ _)))
        refine wpQuiet_nil ?_
        intro A1 hw'
        have hbq := of_class hw'
        clear hw' y5 r0 k1 k2
        gi_wp2
        refine ⟨(keeps_below hbq).from _, hbq.mono (by omega), ?_⟩
        show LeftI w0 A1 (W.heap.size + 3) W.heap.size b5 b6 l d.length J (stL (pre ++ [x]) (r, d))
        rw [HST.out, HE.out]
        exact ⟨u_catn IB.out (Nat.le_refl _) hbq, Nat.le_trans iN hbq.size, kept I4.out hbq, kept I5.out hbq, ⟨q', c', kept I6.out hbq, IQ.out.below hbq, HJ.out _ A A1 IJ.out (hbq.mono (by omega))⟩, iA, IL.out⟩
    case done =>
      rintro D ys A hD rfl I hK
      obtain ⟨iB, iN, i4, i5, ⟨q', c', i6, iq, iJ⟩, iA, iL⟩ := I
      gi_wp2
      refine ⟨by simp, .inl ⟨_, _, rfl, run_takeDeferred hK, ?_⟩⟩
      refine ⟨_, results_none rfl _ _ _, ⟨_, rfl⟩, ⟨_, q', c', _⟩, stL_all ls (r, d), ?_, ?_, ?_⟩
      · exact iq.own (grownBy_putObj' _ D (.deferred none)) (fun r e => by cases e; exact ⟨_, hK, rfl⟩)
      · exact iB.trans (below_putObj A (by omega) _)
      · exact HJ.out _ _ _ iJ (below_putObj A (by omega) _)
    case stop =>
      rintro D cx pre A _ _ h _
      exact h.elim
end Go.Proofs.YtegldmdcdnnegaaGreatDoor
