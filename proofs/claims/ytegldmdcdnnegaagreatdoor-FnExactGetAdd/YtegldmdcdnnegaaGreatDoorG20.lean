/- An equation learnt by the program: where something of its row is left. -/
import Derived.Test.YtegldmdcdnnegaaGreatDoorG15
import Derived.Test.YtegldmdcdnnegaaGreatDoorG19
namespace Go.Proofs.YtegldmdcdnnegaaGreatDoor
open Go.ChangeShapes Go.WideShapes Go.ChangeAt Go.RowKit Go.Sort Go.Shelf
attribute [local go_sem] Oper.semAt_some

set_option maxHeartbeats 8000000 in
set_option maxRecDepth 100000 in
theorem learn_new_at (sb so : Nat) (cs : Option Addr → Array Value) (ct : TypeId) (c z : Int) (XC : Bx cs ct so c z) (XT : ct ≠ 130) (ls : List Lk) (r d : List Int) (q cc : Nat) (w : World)
    (hsb : w.heap[sb]? = some (.cells (cs (ptrOf ls)) ct (0, 0))) (hL : LksAt w 0 ls) (hR : RowsL ls) (hll : ls.length ≤ 24) (hr : ascB (-1) 24 r = true) (hq : BytsAt w q d) (hd1 : d.length ≤ 1048576) (hdl : ∀ l ∈ ls, l.d.length = d.length) (hT : Tab w)
    (hN : (ls.map Lk.b).Nodup) (hdB : BytesL d) (hdb : ∀ l ∈ ls, BytesL l.d) (hfree : ∀ l ∈ ls, hd l.r ∉ (ls.foldl stepL (r, d)).1) (hnil : (ls.foldl stepL (r, d)).1 ≠ []) :
    Calls Tryz.prog 53 #[.pointer (some ⟨sb, so, none⟩), .int .u32 (setI r : Nat), .slice (some ⟨q, 0, none⟩) d.length cc] w fun e w' => e = .returned (.int .i64 0) ∧
      ∃ ls', w'.heap[sb]? = some (.cells (cs (ptrOf ls')) ct (0, 0)) ∧ LksAt w' 0 ls' ∧ valsL ls' = learnE (ls.foldl stepL (r, d)) (valsL ls) ∧ (ls'.map Lk.b).Nodup ∧ (∀ l ∈ ls', BytesL l.d ∧ l.d.length = d.length) ∧ (∀ l ∈ ls', l.b ∈ ls.map Lk.b ∨ w.heap.size ≤ l.b) ∧ LkKeep w w' (sb :: ls.map Lk.b) ∧ Below 0 w w' := by
  have K := hid (fun V (b : Below w.heap.size w V) => last_at sb so 0 cs ct c z XC ls r d q cc V (kept hsb b) (hL.below b) hR hll hr (hq.below b) hd1 hdl (hT.below b))
  have HLN := hid (foldL_len (s := (r, d)) (fun l hl => hdl l hl))
  have HNIL := hid hnil
  have HAS := hid (foldL_asc (s := (r, d)) hR hr)
  have HSB := hid hsb
  have HL := hid hL
  have HR := hid hR
  have HDL := hid hdl
  have HDB := hid hdb
  have HFR := hid hfree
  have HDX2 := hid (foldL_bytes (ls := ls) (s := (r, d)) hdB)
  have HT := hid hT
  have HN := hid hN
  clear hsb hL hR hr hq hdl hT hnil hN hdb hfree
  refine (callsIn_wide (n := 9)).1 ?_
  refine callsIn_of_wp_marks Tryz.func53 rfl trivial ?_ rfl
  simp only [Tryz.ntmps53, List.size_toArray, List.length_cons, List.length_nil, Nat.reduceAdd, Nat.reduceSub, Array.replicate_succ, Array.replicate_zero, List.push_toArray, List.append_toArray, List.nil_append, List.cons_append]
  obtain ⟨W0, hW0⟩ : ∃ W0, W0 = (w.alloc (.cells #[.int .u32 (setI r : Nat)] 97)).alloc (.cells #[.slice (some ⟨q, 0, none⟩) d.length cc] 102) := ⟨_, rfl⟩
  obtain ⟨X0, X1, B0⟩ := u_box2 (w := w) (c := #[.int .u32 (setI r : Nat)]) (t := 97) (d := #[.slice (some ⟨q, 0, none⟩) d.length cc]) (s := 102) (w1 := W0) (by rw [hW0]; exact Below.refl _ _)
  have hs0 : W0.heap.size = w.heap.size + 2 := by rw [hW0]; simp
  have HX0 := hid X0
  have HX1 := hid X1
  have HB := hid B0
  clear X0 X1 B0
  gi_wp2_with fail
  rw [← hW0]
  clear hW0
  refine ⟨trivial, ?_⟩
  gi_at_call 86
  refine (callsIn_wide.2 (K.out W0 HB.out)).mono ?_
  rintro e w1 ⟨x, hx, rfl, hbx, b1⟩
  have HX := hid hx
  have HXR := hid (show x.r ≠ [] by have := congrArg Prod.fst HX.out; rw [show x.r = (ls.foldl stepL (r, d)).1 from this]; exact HNIL.out)
  have HBX := hid hbx
  have Y0 := kept HX0.out b1
  have Y1 := kept HX1.out b1
  have p0 := box_cell Y0 0 (v := .int .u32 (setI r : Nat)) rfl
  have p1 := box_cell Y1 0 (v := .slice (some ⟨q, 0, none⟩) d.length cc) rfl
  have z0 := box_frozen Y0 0
  have z1 := box_frozen Y1 0
  have l0 := lt_of_block Y0
  have l1 := lt_of_block Y1
  have HB1 := hid (u_cat HB.out b1)
  obtain ⟨V, hV⟩ : ∃ V, V = (w1.setCell ⟨w.heap.size, 0, none⟩ (.int .u32 (setI x.r : Nat))).setCell ⟨w.heap.size + 1, 0, none⟩ (.slice (some ⟨x.q, 0, none⟩) x.d.length x.c) := ⟨_, rfl⟩
  have bV : Below w.heap.size w V := by rw [hV]; exact u_set (u_set HB1.out (Nat.le_refl _) _ _) (by omega) _ _
  have Y1' : (w1.setCell ⟨w.heap.size, 0, none⟩ (.int .u32 (setI x.r : Nat))).heap[w.heap.size + 1]? = some (.cells #[.slice (some ⟨q, 0, none⟩) d.length cc] 102 (0, 0)) := set_other Y1 (by omega) _ _
  have hbV : BytsAt V x.q x.d := by
    rw [hV]
    refine (HBX.out.set_any p0 (fun _ => by simp) _ _).set_any (box_cell Y1' 0 (v := .slice (some ⟨q, 0, none⟩) d.length cc) rfl) (fun _ => by simp) _ _
  have V1 : V.heap[w.heap.size + 1]? = some (.cells #[.slice (some ⟨x.q, 0, none⟩) x.d.length x.c] 102 (0, 0)) := by rw [hV]; exact set_block Y1' 0 _
  have V0 : V.heap[w.heap.size]? = some (.cells #[.int .u32 (setI x.r : Nat)] 97 (0, 0)) := by rw [hV]; exact set_other (set_block Y0 0 _) (by omega) _ _
  have HV0 := hid V0
  have HV1 := hid V1
  have HBV := hid hbV
  have HBB := hid bV
  have HXA := hid (show ascB (-1) 24 x.r = true by have := congrArg Prod.fst HX.out; rw [show x.r = (ls.foldl stepL (r, d)).1 from this]; exact HAS.out)
  have KE := hid (fun w => emptyS HXA.out w)
  rw [decide_eq_false HXR.out] at KE
  have hdx : x.d.length = d.length := by have := congrArg (fun s => s.2.length) HX.out; exact this.trans HLN.out
  have HDX := hid hdx
  have hV2 : w.heap.size + 2 ≤ V.heap.size := by rw [hV]; have := b1.size; simp [World.setCell]; omega
  clear b1 hx hbx Y0 Y1 Y1' hbV V1 V0 bV hdx K
  gi_wp2_with fail
  rw [← hV]
  clear hV p0 p1 z0 z1 l0 l1
  refine ⟨trivial, ?_⟩
  gi_at_call 87
  have q0 := box_cell HV0.out 0 (v := .int .u32 (setI x.r : Nat)) rfl
  refine (callsIn_wide.2 (KE.out V)).mono ?_
  rintro e w2 ⟨rfl, e2⟩
  rw [e2]
  clear e2 w2 KE
  gi_wp2_with (refine ⟨trivial, ?_⟩; gi_at_call 89; refine (callsIn_wide.2 (links_in _ _)).mono ?_; rintro e w' ⟨rfl, rfl⟩)
  obtain ⟨W2, hW2⟩ : ∃ W2, W2 = V.alloc (.cells #[.pointer (some ⟨sb, so, none⟩)] 133) := ⟨_, rfl⟩
  have b2 : Below V.heap.size V W2 := by rw [hW2]; exact u_b1 _ _
  have X2 : W2.heap[V.heap.size]? = some (.cells #[.pointer (some ⟨sb, so, none⟩)] 133 (0, 0)) := by rw [hW2]; exact laid V _ _
  have hs2 : W2.heap.size = V.heap.size + 1 := by rw [hW2]; simp
  rw [← hW2]
  clear hW2
  have B2 := hid (u_cat HBB.out b2)
  have L2 := hid (HL.out.below B2.out)
  have S2 := hid (kept HSB.out B2.out)
  have HXL := hid (show (x.r, x.d) = ls.foldl stepL (r, d) from HX.out)
  have HG := hid (show ∀ l ∈ ls, GoodL d.length (x.r, x.d) l from fun l hl => ⟨(HR.out l hl).1, (HR.out l hl).2, by rw [HX.out]; exact HFR.out l hl, HDL.out l hl, HDB.out l hl⟩)
  have HM0 := hid (MixIs.start (s := (x.r, x.d)) HL.out HG.out B2.out (Nat.zero_le _))
  have hBr : w.heap.size ≤ W2.heap.size := by omega
  refine wpIn_rangeFunc_ownG (α := Fin ls.length) rfl (by omega) (gf := 111) (lb := #[.pointer (some ⟨V.heap.size, 0, none⟩)]) rfl trivial (enters_of Tryz.func111 (by kernel_rfl) rfl)
    (linksF_stops (9 - 1) _ sb ls (by omega) (by omega) (KeepsL ls) (fun W W' h k => k h) W2 (box_cell X2 0 rfl) (box_cell S2.out (so + 2) (XC.e2 _)) L2.out.leads)
    keepsL_t (keepsL_b (n := W2.heap.size)) (Below.refl _ _) (fun _ => rfl)
    (fun pre W => (∃ ks, MixIs w 0 d.length (x.r, x.d) ls pre W ks) ∧ W.heap[w.heap.size]? = some (.cells #[.int .u32 (setI x.r : Nat)] 97 (0, 0)) ∧ W.heap[w.heap.size + 1]? = some (.cells #[.slice (some ⟨x.q, 0, none⟩) x.d.length x.c] 102 (0, 0)) ∧ W.heap[sb]? = some (.cells (cs (ptrOf ls)) ct (0, 0)) ∧ BytsAt W x.q x.d)
    (fun _ _ _ => False)
    (fun s A B row hs hg hr => by
      obtain ⟨⟨ks, h1⟩, h2, h3, h4, h5⟩ := hs
      exact ⟨⟨ks, h1.own hg hr hBr (Nat.zero_le _)⟩, own_blk h2 hg hr, own_blk h3 hg hr, own_blk h4 hg hr, h5.own hg (fun r e => (hr r e).2)⟩)
    (fun _ _ _ _ _ hs _ _ => hs)
    ⟨⟨ls, HM0.out⟩, kept HV0.out b2, kept HV1.out b2, S2.out, HBV.out.below b2⟩
    (fun k => { tmps := #[.pointer (some ⟨sb, so, none⟩), .int .u32 (setI r : Nat), .slice (some ⟨q, 0, none⟩) d.length cc, undef, .pointer (some ⟨w.heap.size, 0, none⟩), .pointer (some ⟨w.heap.size + 1, 0, none⟩), .int .i64 0, .pointer (some ⟨ls[k.val].b, 0, none⟩), .tuple #[.int .u32 (setI x.r : Nat), .slice (some ⟨x.q, 0, none⟩) x.d.length x.c], .pointer (some ⟨sb, so, none⟩), .int .u32 (setI r : Nat), .slice (some ⟨q, 0, none⟩) d.length cc, .tuple #[.int .u32 (setI x.r : Nat), .slice (some ⟨x.q, 0, none⟩) x.d.length x.c], .int .u32 (setI x.r : Nat), .slice (some ⟨x.q, 0, none⟩) x.d.length x.c, .int .u32 (setI x.r : Nat), .bool false, undef, undef, .pointer (some ⟨sb, so, none⟩), .func (.func 111) #[] #[.pointer (some ⟨V.heap.size, 0, none⟩)], .pointer (some ⟨ls[k.val].b, 0, none⟩), undef, undef, undef, undef, undef, undef, undef, undef, undef, undef, undef, undef, undef, undef, undef, undef, undef, undef, undef, undef, undef, undef, undef, undef, undef, undef, undef, undef, undef, undef, undef, undef, undef, undef, undef, undef, undef], defers := [] }) ?assign ?body ?done ?stop
  case assign =>
    intro l k W K hK
    gi_wp2
    exact hK
  case body =>
    rintro l pre k W ⟨⟨ks, M⟩, Y0, Y1, Y2, YB⟩ hlen
    have hkl : k.val < ks.length := by have := congrArg List.length M.bs; rw [List.length_map, List.length_map] at this; rw [this]; exact k.isLt
    have hbk : ls[k.val].b = ks[k.val].b := by
      have h1 := congrArg (fun l => l[k.val]?) M.bs
      simpa [List.getElem?_eq_getElem hkl, List.getElem?_eq_getElem k.isLt] using h1.symm
    rw [hbk]
    obtain ⟨g1, g2, g3, g4⟩ := M.at' k.val hkl
    have hgood := M.good _ (List.getElem_mem hkl)
    obtain ⟨l0, hl0⟩ : ∃ l0, l0 = ks[k.val] := ⟨_, rfl⟩
    obtain ⟨P, hP⟩ : ∃ P, P = ptrOf (ks.drop (k.val + 1)) := ⟨_, rfl⟩
    rw [← hl0] at g1 g2 g3 g4 hgood ⊢
    rw [← hP] at g3
    have HL0 := hid hl0
    have HGD := hid hgood
    have HM := hid M
    have HG3 := hid g3
    have HG4 := hid g4
    have HY0 := hid Y0
    have HY1 := hid Y1
    have HY2 := hid Y2
    have HYB := hid YB
    have HTW := hid (HT.out.keep HL.out M.keep)
    have hwW := M.bel.size
    have y0 := cell_regrown (box_cell g3 0 (v := .int .u32 (setI l0.r : Nat)) rfl)
    have y1 := cell_regrown (box_cell Y0 0 (v := .int .u32 (setI x.r : Nat)) rfl)
    have F1 := hid (rg (w := W) (fun w' hb => same_below (firstS HXA.out HXR.out w' (HTW.out.below hb))))
    have hx24 := asc_mem HXA.out (hd_mem HXR.out)
    have F2 := hid (rg (w := W) (fun w' hb => same_below (hasS HGD.out.1 (hd x.r) w' (by omega) (by omega))))
    obtain ⟨Y, hY⟩ : ∃ Y, Y = hd x.r := ⟨_, rfl⟩
    rw [← hY] at F1 F2
    have HY := hid hY
    clear hl0 hP hgood M g3 g4 Y0 Y1 Y2 YB hbk hx24 hY
    gi_wp2
    by_cases hin : Y ∈ l0.r
    · rw [decide_eq_true hin] at F2
      have HGM := hid (fun q c => good_mix HGD.out HXA.out HXR.out HDX.out (by rw [← HY.out]; exact hin) l0.b q c)
      clear hin
      refine inR_below (by kernel_rfl) (by kernel_rfl) (by kernel_rfl) (fun ⟨_, _, h⟩ => h) ?_
      repeat (first | go_big_quiet_step (first | (go_at_call 91; with_reducible exact F1.out _ _) | (go_at_call 90; with_reducible exact F2.out _ _)) | quiet_step (first | (go_at_call 91; with_reducible exact F1.out _ _) | (go_at_call 90; with_reducible exact F2.out _ _)))
      refine wpQuiet_nil ?_
      intro V2 hw'
      have hbq := of_class hw'
      clear hw' y0 y1 F1 F2
      replace HM := hid (HM.out.below hbq (Nat.zero_le _))
      replace HG3 := hid (kept HG3.out hbq)
      replace HG4 := hid (HG4.out.below hbq)
      replace HY0 := hid (kept HY0.out hbq)
      replace HY1 := hid (kept HY1.out hbq)
      replace HY2 := hid (kept HY2.out hbq)
      replace HYB := hid (HYB.out.below hbq)
      have hwV := hbq.size
      have HKO := hid (keeps_below hbq)
      clear hbq
      have y0 := cell_regrown (box_cell HG3.out 0 (v := .int .u32 (setI l0.r : Nat)) rfl)
      have y1 := cell_regrown (box_cell HG3.out 1 (v := .slice (some ⟨l0.q, 0, none⟩) l0.d.length l0.c) rfl)
      have y2 := cell_regrown (box_cell HY0.out 0 (v := .int .u32 (setI x.r : Nat)) rfl)
      have y3 := cell_regrown (box_cell HY1.out 0 (v := .slice (some ⟨x.q, 0, none⟩) x.d.length x.c) rfl)
      have KX := hid (fun w => xorS HGD.out.1 HXA.out w)
      have KB := hid (fun w h1 h2 => bmix_any l0.q x.q l0.c x.c l0.d x.d w h1 h2 (by have := HGD.out.2.2.2.1; have := HDX.out; omega) (by have := HGD.out.2.2.2.1; omega))
      gi_wp2
      refine inR_pickP 16 4 [(1, 1)] [(0, 1), (2, 5), (8, 5)] [(7, 1), (13, 7)] (by kernel_rfl) (by kernel_rfl) (by kernel_rfl) (fun ⟨_, _, h⟩ => h) (fun _ _ d _ _ h => by cases d <;> exact h) ?_
      simp only [cutOut, List.take_succ_cons, List.take_zero, List.drop_succ_cons, List.drop_zero, List.nil_append, List.cons_append, List.append_nil]
      repeat (first | go_big_quiet_step (fail) | quiet_step (fail))
      refine wpQuiet_nil ?_
      intro V3 hw'
      have hbq := of_class hw'
      clear hw' y0 y1 y2 y3
      refine wpRest_step (fun Kn hK => ?_)
      go_simp
      with_reducible refine (KX.out V3).mono ?_
      rintro _ w5 ⟨rfl, e5⟩
      rw [e5]
      clear e5 w5
      refine hK _ _ (class_of hbq) ?_
      clear hK Kn
      refine wpRest_step (fun Kn hK => ?_)
      go_simp
      with_reducible refine (KB.out V3 (HG4.out.below hbq) (HYB.out.below hbq)).mono ?_
      rintro _ w6 ⟨nq, nc, rfl, hnq, nby, b6⟩
      refine hK _ _ (class_of (u_cat hbq b6)) ?_
      clear hK Kn
      refine wpRest_step (fun Kn hK => ?_)
      go_simp
      refine hK _ _ (class_of (u_cat hbq b6)) ?_
      clear hK Kn
      refine wpRest_step (fun Kn hK => ?_)
      go_simp
      refine hK _ _ (class_of (u_cat hbq b6)) ?_
      clear hK Kn
      have B6 := u_cat hbq b6
      have HM6 := hid (HM.out.below B6 (Nat.zero_le _))
      have G6 := kept HG3.out B6
      have HY06 := hid (kept HY0.out B6)
      have HY16 := hid (kept HY1.out B6)
      have HY26 := hid (kept HY2.out B6)
      have HYB6 := hid (HYB.out.below B6)
      have HKO6 := hid (HKO.out.trans (keeps_below B6))
      have NBY := hid nby
      have p0 := box_cell G6 0 (v := .int .u32 (setI l0.r : Nat)) rfl
      have p1 := box_cell G6 1 (v := .slice (some ⟨l0.q, 0, none⟩) l0.d.length l0.c) rfl
      have z0 := box_frozen G6
      have lr := lt_of_block G6
      have G6' := set_block G6 0 (.int .u32 (setI (xorM l0.r x.r) : Nat))
      have p2 := box_cell G6' 1 (v := .slice (some ⟨l0.q, 0, none⟩) l0.d.length l0.c) rfl
      have z2 := box_frozen G6'
      have lr2 := lt_of_block G6'
      have HG6 := hid G6
      have hnq2 : 0 ≤ nq := Nat.zero_le _
      clear hbq b6 B6 nby HM HG3 HG4 HY0 HY1 HY2 HYB HKO KX KB G6 G6'
      go_wp2_with fail
      refine .inl ?_
      go_simp
      go_wp2_with fail
      have hln : (xorL l0.d x.d).length = l0.d.length := xorL_len _ _ (by have := HGD.out.2.2.2.1; have := HDX.out; omega)
      have MS := HM6.out.step HN.out k hkl ⟨l0.b, xorM l0.r x.r, nq, nc, xorL l0.d x.d⟩ (by rw [HL0.out]) hnq2 NBY.out (by rw [← HL0.out]; exact (HGM.out nq nc).2) (HGM.out nq nc).1
      dsimp only at MS
      rw [← HL0.out, hln] at MS
      have n1 := blk_ne HY06.out HG6.out (by decide)
      have n2 := blk_ne HY16.out HG6.out (by decide)
      have n3 := blk_ne HY26.out HG6.out XT
      exact ⟨(HKO6.out.trans ((KeepsOthers.setCell _ _ _).trans (KeepsOthers.setCell _ _ _))).from _, fun _ => MS.leads, ⟨_, MS⟩, set_other (set_other HY06.out n1 _ _) n1 _ _, set_other (set_other HY16.out n2 _ _) n2 _ _, set_other (set_other HY26.out n3 _ _) n3 _ _, mix_byts HG6.out _ _ HYB6.out⟩
    · rw [decide_eq_false hin] at F2
      have HGN := hid (show mixE (x.r, x.d) (valL l0) = valL l0 from good_not (by show hd x.r ∉ l0.r; rw [← HY.out]; exact hin))
      clear hin
      refine inR_below (by kernel_rfl) (by kernel_rfl) (by kernel_rfl) (fun ⟨_, _, h⟩ => h) ?_
      repeat (first | go_big_quiet_step (first | (go_at_call 91; with_reducible exact F1.out _ _) | (go_at_call 90; with_reducible exact F2.out _ _)) | quiet_step (first | (go_at_call 91; with_reducible exact F1.out _ _) | (go_at_call 90; with_reducible exact F2.out _ _)))
      refine wpQuiet_nil ?_
      intro V2 hw'
      have hbq := of_class hw'
      clear hw' y0 y1 F1 F2
      have MS := (HM.out.below hbq (Nat.zero_le _)).same k hkl (by rw [← HL0.out]; exact HGN.out)
      gi_wp2
      exact ⟨(keeps_below hbq).from _, fun _ => MS.leads, ⟨_, MS⟩, kept HY0.out hbq, kept HY1.out hbq, kept HY2.out hbq, HYB.out.below hbq⟩
  case done =>
    rintro D ys W hD rfl ⟨⟨ks, M⟩, Y0, Y1, Y2, YB⟩ hK
    have hwW := M.bel.size
    have HVS := hid (show valsL ks = (valsL ls).map (mixE (x.r, x.d)) by rw [M.vals]; exact atEach_all' _ _ (by simp [valsL]))
    have HM := hid M
    have HY0 := hid Y0
    have HY1 := hid Y1
    have HY2 := hid Y2
    have HYB := hid YB
    have HK := hid hK
    have HPT := hid (ptr_map M.bs)
    have y0 := cell_regrown (box_cell Y0 0 (v := .int .u32 (setI x.r : Nat)) rfl)
    have y1 := cell_regrown (box_cell Y1 0 (v := .slice (some ⟨x.q, 0, none⟩) x.d.length x.c) rfl)
    have y2 := cell_regrown (box_cell Y2 (so + 2) (XC.e2 (ptrOf ls)))
    clear M Y0 Y1 Y2 YB hK
    gi_wp2
    refine wpIn_wide.2 ?_
    refine wp_pickPn 9 2 [(0, 1)] [(1, 6)] [(7, 6)] (by kernel_rfl) (by kernel_rfl) ?_
    simp only [cutOut, List.take_succ_cons, List.take_zero, List.drop_succ_cons, List.drop_zero, List.append_nil]
    repeat (first | go_big_quiet_step (fail) | quiet_step (fail))
    refine wpQuiet_nil ?_
    intro V3 hw'
    have hbq := of_class hw'
    clear hw' y0 y1 y2
    refine wpRest_step (fun Kn hK => ?_)
    go_simp
    refine hK _ _ (class_of hbq) ?_
    clear hK Kn
    refine wpRest_step (fun Kn hK => ?_)
    go_simp
    refine hK _ _ (class_of (u_cat hbq (u_b1 _ _))) ?_
    clear hK Kn
    obtain ⟨V4, hV4⟩ : ∃ V4, V4 = V3.alloc (.cells #[.int .u32 (setI x.r : Nat), .slice (some ⟨x.q, 0, none⟩) x.d.length x.c, .pointer none] 130) := ⟨_, rfl⟩
    rw [← hV4]
    have bV4 : Below V3.heap.size V3 V4 := by rw [hV4]; exact u_b1 _ _
    have G4 : V4.heap[V3.heap.size]? = some (.cells #[.int .u32 (setI x.r : Nat), .slice (some ⟨x.q, 0, none⟩) x.d.length x.c, .pointer none] 130 (0, 0)) := by rw [hV4]; exact laid V3 _ _
    clear hV4
    have B4 := u_cat hbq bV4
    have hs4 := hbq.size
    have hs5 := bV4.size
    have M4 := HM.out.below B4 (Nat.zero_le _)
    have KA := hid (among_any ⟨V3.heap.size, x.r, x.q, x.c, x.d⟩ 0 HXA.out HXR.out ks none V4 (fun l hl => ⟨(M4.good l hl).1, (M4.good l hl).2.1⟩) M4.at' ⟨Nat.zero_le _, Nat.zero_le _, G4, HYB.out.below B4⟩ (by
      refine List.nodup_cons.2 ⟨fun hm => ?_, by rw [M4.bs]; exact HN.out⟩
      obtain ⟨l, hl, e⟩ := List.mem_map.1 hm
      obtain ⟨i, hi, rfl⟩ := List.getElem_of_mem hl
      have := lt_of_block (HM.out.at' i hi).2.2.1
      have e2 : ks[i].b = V3.heap.size := e
      omega) (Nat.zero_le _) (HT.out.keep HL.out M4.keep))
    have S4 := hid (kept HY2.out B4)
    have M5 := hid M4
    have K4 := hid (kept HK.out B4)
    have G5 := hid G4
    have hV3W : V3.heap.size < V4.heap.size := lt_of_block G4
    rw [HPT.out] at KA
    clear hbq bV4 B4 G4 M4
    show wpList _ _ _ _ _ _
    refine .inl ?_
    go_simp
    refine KA.out.mono ?_
    rintro e w7 ⟨rfl, l7, k7, b7⟩
    have hsn : sb ∉ V3.heap.size :: ks.map Lk.b := by
      intro hm
      rcases List.mem_cons.1 hm with h1 | h1
      · exact blk_ne S4.out G5.out XT h1
      · obtain ⟨l, hl, e⟩ := List.mem_map.1 h1
        obtain ⟨i, hi, rfl⟩ := List.getElem_of_mem hl
        exact blk_ne S4.out (M5.out.at' i hi).2.2.1 XT e.symm
    have hDn : D ∉ V3.heap.size :: ks.map Lk.b := by
      intro hm
      have hkd := K4.out
      rcases List.mem_cons.1 hm with h1 | h1
      · rw [h1, G5.out] at hkd; cases hkd
      · obtain ⟨l, hl, e⟩ := List.mem_map.1 h1
        obtain ⟨i, hi, rfl⟩ := List.getElem_of_mem hl
        rw [← e, (M5.out.at' i hi).2.2.1] at hkd
        cases hkd
    have S7 := (k7.1 sb (lt_of_block S4.out) hsn).trans S4.out
    have K7 := (k7.1 D (lt_of_block K4.out) hDn).trans K4.out
    have hDs : D ≠ sb := fun e => by have h1 := K7; rw [e, S7] at h1; cases h1
    have HS7 := hid S7
    have HL7 := hid l7
    have HK7 := hid k7
    have HB7 := hid b7
    have HK8 := hid (show (w7.setCell ⟨sb, so + 2, none⟩ (.pointer (ptrOf (insL ⟨V3.heap.size, x.r, x.q, x.c, x.d⟩ ks)))).heap[D]? = some (.deferred (some [])) from set_other K7 hDs _ _)
    have p2 := box_cell S7 (so + 2) (XC.e2 (ptrOf ls))
    have z2 := box_frozen S7
    have lr := lt_of_block S7
    clear l7 k7 b7 S7 K7 hsn hDn hDs K4 HK
    go_wp2_with fail
    gi_wp2
    refine ⟨by simp, .inl ⟨_, _, rfl, run_takeDeferred HK8.out, ?_⟩⟩
    have hgr := grownBy_putObj' (w7.setCell ⟨sb, so + 2, none⟩ (.pointer (ptrOf (insL ⟨V3.heap.size, x.r, x.q, x.c, x.d⟩ ks)))) D (.deferred none)
    have hrr : ∀ r, some D = some r → W2.heap.size ≤ r ∧ ∃ o : Obj, (w7.setCell ⟨sb, so + 2, none⟩ (.pointer (ptrOf (insL ⟨V3.heap.size, x.r, x.q, x.c, x.d⟩ ks)))).heap[r]? = some o ∧ o.isCells = false := fun r e => by cases e; exact ⟨hD, _, HK8.out, rfl⟩
    have S8 := set_block HS7.out (so + 2) (.pointer (ptrOf (insL ⟨V3.heap.size, x.r, x.q, x.c, x.d⟩ ks)))
    rw [XC.e3] at S8
    have hsz7 : V4.heap.size ≤ w7.heap.size := HB7.out.size
    have kk : LkKeep w (w7.setCell ⟨sb, so + 2, none⟩ (.pointer (ptrOf (insL ⟨V3.heap.size, x.r, x.q, x.c, x.d⟩ ks)))) (sb :: ls.map Lk.b) := by
      refine ⟨fun g hg hn => ?_, fun qq dd hq => ?_⟩
      · simp only [List.mem_cons, not_or] at hn
        refine set_other ((HK7.out.1 g (by omega) (fun hm => ?_)).trans (M5.out.keep.1 g hg hn.2)) hn.1 _ _
        rcases List.mem_cons.1 hm with h1 | h1
        · omega
        · rw [M5.out.bs] at h1; exact hn.2 h1
      · exact (HK7.out.2 _ _ (M5.out.keep.2 _ _ hq)).set_any (box_cell HS7.out 0 (XC.e4.choose_spec _)) (fun _ => by simp) _ _
    have hval : valsL (insL ⟨V3.heap.size, x.r, x.q, x.c, x.d⟩ ks) = learnE (ls.foldl stepL (r, d)) (valsL ls) := by
      rw [insL_vals, HVS.out, ← HXL.out]
      rfl
    have hnd : ((insL ⟨V3.heap.size, x.r, x.q, x.c, x.d⟩ ks).map Lk.b).Nodup := insL_nodup (by
      refine List.nodup_cons.2 ⟨fun hm => ?_, by rw [M5.out.bs]; exact HN.out⟩
      obtain ⟨l, hl, e⟩ := List.mem_map.1 hm
      obtain ⟨i, hi, rfl⟩ := List.getElem_of_mem hl
      have := lt_of_block (HM.out.at' i hi).2.2.1
      have e2 : ks[i].b = V3.heap.size := e
      omega)
    refine ⟨.int .i64 0, ?_, rfl, insL ⟨V3.heap.size, x.r, x.q, x.c, x.d⟩ ks, own_blk S8 hgr hrr, (lks_setbx HL7.out HS7.out (XC.e4.choose_spec _) _ _).own hgr hrr, hval, hnd, fun l hl => ?_, fun l hl => ?_, kk.own hgr hrr hBr (by simp [World.setCell]; omega), ?_⟩
    · simp [results, Tryz.results53, go_sem]
    · rcases insL_mem hl with rfl | h1
      · exact ⟨by rw [show x.d = (ls.foldl stepL (r, d)).2 from congrArg Prod.snd HX.out]; exact HDX2.out, HDX.out⟩
      · exact ⟨(M5.out.good l h1).2.2.2.2, (M5.out.good l h1).2.2.2.1⟩
    · rcases insL_mem hl with rfl | h1
      · exact .inr (by show w.heap.size ≤ V3.heap.size; omega)
      · exact .inl (by rw [← M5.out.bs]; exact List.mem_map_of_mem h1)
    · exact ((M5.out.bel.trans HB7.out).setCell (p := ⟨sb, so + 2, none⟩) (Nat.zero_le _) _).trans (below_putObj _ (Nat.zero_le _) _)
  case stop =>
    rintro D c pre W _ _ h _
    exact h.elim
end Go.Proofs.YtegldmdcdnnegaaGreatDoor
