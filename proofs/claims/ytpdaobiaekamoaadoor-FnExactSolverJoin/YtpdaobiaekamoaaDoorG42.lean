/- What two know together, by the model. -/
import Derived.Test.YtpdaobiaekamoaaDoorG41
import Derived.Test.YtpdaobiaekamoaaDoorG39
namespace Go.Proofs.YtpdaobiaekamoaaDoor
open Go.ChangeShapes Go.WideShapes Go.ChangeAt Go.RowKit Go.Sort Go.Shelf
attribute [local go_sem] Oper.semAt_some

/-- A solver and whether it is one, handed out. -/
def JoinO (w w' : World) (B : Nat) (c z : Int) (o : Option (List Vl)) (e : Ending) : Prop :=
  ∃ a' c' gs, e = .returned (.tuple #[.agg #[.int .i64 (if o.isSome then c else 0), .int .i64 (if o.isSome then z else 0), .slice a' gs.length c'], .bool o.isSome]) ∧ w'.ownsRow B 53 2 (.slice a' gs.length c') gs.length (eqCells gs) ∧ valsE gs = o.getD [] ∧ RowsOwn w' B gs ∧ Below w.heap.size w w'

set_option maxHeartbeats 8000000 in
set_option maxRecDepth 100000 in
theorem specSolverJoin_yes (a b : Option Addr) (cap cap' : Nat) (es fs : List EqV) (c z : Int) (w : World) (ha : EqsAt w a es) (hsm : SmallE es) (hl : es.length ≤ 1048576) (hcap : ∀ e ∈ es, e.a = none → e.c = 0) (hb : EqsAt w b fs) (hsm' : SmallE fs) (hl' : fs.length ≤ 1048576) (hcap' : ∀ e ∈ fs, e.a = none → e.c = 0) (hp : solverP c z es) (hp' : solverP c z fs) :
    Calls Tryd.prog 30 #[.agg #[.int .i64 c, .int .i64 z, .slice a es.length cap], .agg #[.int .i64 c, .int .i64 z, .slice b fs.length cap']] w fun e w' => JoinO w w' w.heap.size c z (joinV (valsE es) (valsE fs)) e := by
  have HA := hid ha
  have HBb := hid hb
  have HS := hid hsm
  have HS' := hid hsm'
  have HC := hid hcap
  have HC' := hid hcap'
  have HP := hid hp
  have HP' := hid hp'
  obtain ⟨W0, hW0⟩ : ∃ W0, W0 = ((w.alloc (.cells #[.int .i64 c, .int .i64 z, .slice a es.length cap] 29)).alloc (.cells #[.int .i64 c, .int .i64 z, .slice b fs.length cap'] 29)).alloc (.cells #[.int .i64 0, .int .i64 0, .slice none 0 0] 29) := ⟨_, rfl⟩
  obtain ⟨X0, X1, X2, B0⟩ := u_box3 (w := w) (c := #[.int .i64 c, .int .i64 z, .slice a es.length cap]) (t := 29) (d := #[.int .i64 c, .int .i64 z, .slice b fs.length cap']) (s := 29) (f := #[.int .i64 0, .int .i64 0, .slice none 0 0]) (r := 29) (w1 := W0) (by rw [hW0]; exact Below.refl _ _)
  have hs0 : w.heap.size + 3 ≤ W0.heap.size := by rw [hW0]; simp
  have KO := hid (fun w ha => specSolverOk_any a cap es c z w ha hsm hl)
  have KO' := hid (fun w ha => specSolverOk_any b cap' fs c z w ha hsm' hl')
  rw [decide_eq_true hp] at KO
  rw [decide_eq_true hp'] at KO'
  have HX := hid X0
  have HX1 := hid X1
  have HX2 := hid X2
  have HB := hid B0
  clear ha hb hsm hsm' hcap hcap' hp hp' X0 X1 X2 B0
  go_enter Tryd.func30, Tryd.ntmps30
  repeat ((fail_if_success (with_reducible show Code.wp _ (Code.region 1 _ _) _ _ _)); (first | go_values | go_skip | go_guarded | go_step | go_upon | go_back | go_simp))
  rw [← hW0]
  clear hW0
  have q0 := box_cell HX.out 0 (v := .int .i64 c) rfl
  have q1 := box_cell HX.out 1 (v := .int .i64 z) rfl
  have q2 := box_cell HX.out 2 (v := .slice a es.length cap) rfl
  go_wp2_with fail
  refine (KO.out W0 (HA.out.below HB.out)).mono ?_
  rintro e w1 ⟨rfl, b1⟩
  have hs1 := b1.size
  replace HX := hid (kept HX.out b1)
  replace HX1 := hid (kept HX1.out b1)
  replace HX2 := hid (kept HX2.out b1)
  replace HB := hid (u_cat HB.out b1)
  clear q0 q1 q2 b1
  have r0 := box_cell HX1.out 0 (v := .int .i64 c) rfl
  have r1 := box_cell HX1.out 1 (v := .int .i64 z) rfl
  have r2 := box_cell HX1.out 2 (v := .slice b fs.length cap') rfl
  go_wp2_with fail
  refine (KO'.out w1 (HBb.out.below HB.out)).mono ?_
  rintro e w2 ⟨rfl, b2⟩
  have hs2 := b2.size
  replace HX := hid (kept HX.out b2)
  replace HX1 := hid (kept HX1.out b2)
  replace HX2 := hid (kept HX2.out b2)
  replace HB := hid (u_cat HB.out b2)
  clear r0 r1 r2 b2 KO KO'
  have q0 := box_cell HX.out 0 (v := .int .i64 c) rfl
  have q1 := box_cell HX.out 1 (v := .int .i64 z) rfl
  have q2 := box_cell HX.out 2 (v := .slice a es.length cap) rfl
  have r0 := box_cell HX1.out 0 (v := .int .i64 c) rfl
  have r1 := box_cell HX1.out 1 (v := .int .i64 z) rfl
  go_wp2_with fail
  refine (l3Copy_any a cap es c z w2 (HA.out.below HB.out) hl HS.out HC.out).mono ?_
  rintro e w3 ⟨ax, cx, xs, rfl, ox, sx, rx, b3⟩
  obtain ⟨W3, hW3⟩ : ∃ W3, W3 = w3.alloc (.cells #[.int .i64 c, .int .i64 z, .slice ax xs.length cx] 29) := ⟨_, rfl⟩
  have bb : Below w3.heap.size w3 W3 := by rw [hW3]; exact u_b1 _ _
  have hs3 := b3.size
  have hz3 : w3.heap.size + 1 ≤ W3.heap.size := by rw [hW3]; simp
  have YX := hid (show W3.heap[w3.heap.size]? = some (.cells #[.int .i64 c, .int .i64 z, .slice ax xs.length cx] 29 (0, 0)) by rw [hW3]; exact laid w3 _ _)
  have b3' := u_cat b3 bb
  replace HX1 := hid (kept HX1.out b3')
  replace HX2 := hid (kept HX2.out b3')
  replace HB := hid (u_cat HB.out b3')
  have OX := hid (owns_base (owns_below ox bb) (show w.heap.size + 3 ≤ w2.heap.size + 3 by omega))
  have RX := hid ((rx.below bb).mono (show w.heap.size + 3 ≤ w2.heap.size + 3 by omega))
  have VX := hid (vals_same.2 sx)
  clear q0 q1 q2 r0 r1 b3 b3' ox sx rx
  repeat ((fail_if_success (with_reducible show Code.wp _ (Code.region 4 _ _) _ _ _)); (first | go_values | go_skip | go_guarded | go_step | go_upon | go_back | go_simp))
  rw [← hW3]
  clear hW3 bb
  obtain ⟨G, hG⟩ : ∃ G, G = w3.heap.size := ⟨_, rfl⟩
  rw [← hG] at YX hz3 ⊢
  have hGw : w.heap.size + 3 ≤ G := by omega
  clear hG
  have c1 := HP.out.1
  go_wp2_with fail
  go_loopw [7] (fun i wr => ∃ (k : Nat) (ks : List Vl) (gs : List EqV) (ag : Option Addr) (cg : Nat), k ≤ fs.length ∧ i = .int .i64 k ∧ valsE gs = ks ∧ okV c z ks ∧ joinV ks ((valsE fs).drop k) = joinV (valsE es) (valsE fs) ∧ wr.ownsRow (w.heap.size + 3) 53 2 (.slice ag gs.length cg) gs.length (eqCells gs) ∧ RowsOwn wr (w.heap.size + 3) gs ∧
      wr.heap[G]? = some (.cells #[.int .i64 c, .int .i64 z, .slice ag gs.length cg] 29 (0, 0)) ∧ G + 1 ≤ wr.heap.size ∧ Below G W3 wr) (fun i _ => fs.length - (intOf i).toNat)
  case atStart => exact ⟨0, valsE es, xs, ax, cx, Nat.zero_le _, rfl, VX.out, ok_vals.1 HP.out.2, rfl, OX.out, RX.out, YX.out, hz3, Below.refl _ _⟩
  case round =>
    clear OX RX YX VX
    obtain ⟨k, ks, gs, ag, cg, hk, rfl, hv, hok, hj, og, rg', yg, hgz, hbl⟩ := hrel
    have HV := hid hv
    have HK := hid hok
    have HJ := hid hj
    have OG := hid og
    have RG := hid rg'
    have YG := hid yg
    have HBL := hid hbl
    have h24 := okV_24 hok (by omega) c1.1.2
    have hgl : gs.length ≤ 24 := by rw [vals_len hv]; exact h24
    have HX1r := hid ((hbl.block _ (by omega)).trans HX1.out)
    have HX2r := hid ((hbl.block _ (by omega)).trans HX2.out)
    have HBr := hid (HB.out.trans (hbl.mono (by omega)))
    clear hv hok hj og rg' yg hbl
    by_cases hlt : k < fs.length
    · have hlt1 : decide ((k : Int) < fs.length) = true := by simp; omega
      obtain ⟨f, hf⟩ : ∃ f, fs[k] = f := ⟨_, rfl⟩
      have hmem : f ∈ fs := by rw [← hf]; exact List.getElem_mem hlt
      have hfk := (okE_iff.1 HP'.out.2 k hlt).1
      rw [hf] at hfk
      obtain ⟨eb, off, rfl, hc⟩ := (HBb.out.below HBr.out) (by intro h; simp [h] at hlt)
      obtain ⟨d0, d1, drow⟩ := hc k f (by rw [List.getElem?_eq_getElem hlt, hf])
      have hdr : (valsE fs).drop k = (f.r, f.d) :: (valsE fs).drop (k + 1) := by
        have h1 : k < (valsE fs).length := by simpa [valsE] using hlt
        rw [List.drop_eq_getElem_cons h1]
        simp [valsE, hf]
      have HDR := hid hdr
      have HFK := hid hfk
      have DROW := hid drow
      have hfl := asc_len24 (asc_up hfk.1 c1.1.2)
      have hfz : (f.d.size : Int) = z := hfk.2.1
      have KA := fun W h1 h2 => l3Add_any ag cg gs c f.d.size f.a f.c f.r (numsOf f.d) W h1 (by omega) (vals_small HV.out (okV_small HK.out (by omega) c1.1.2 c1.2.2).2) (fun e he => owns_cap (RG.out e he)) (by rw [hfz]; exact ⟨c1, ok_vals.2 (by rw [HV.out]; exact HK.out)⟩) h2 HFK.out.1 (HC'.out f hmem) (numsOf_len _) (nums_bytes _)
      rw [hfz, str_numsOf] at KA
      have KA := hid KA
      have HSE := hid (sam_eqOf HV.out)
      have q2 := box_cell HX1r.out 2 (v := .slice (some ⟨eb, off, none⟩) fs.length cap') rfl
      have y0 := cell_regrown (box_cell YG.out 0 (v := .int .i64 c) rfl)
      have y1 := cell_regrown (box_cell YG.out 1 (v := .int .i64 z) rfl)
      have y2 := cell_regrown (box_cell YG.out 2 (v := .slice ag gs.length cg) rfl)
      have y3 := cell_regrown q2
      have u0 := cell_regrown d0
      have u1 := cell_regrown d1
      clear hc hf hfk drow hdr d0 d1
      go_wp2_with fail
      refine wp_plan 20 (.pull [(0, 13)] (.fork 13 (.pull [(14, 3)] (.step 17 (.step 18 (.step 19 .done)))) 17 (.step 13 (.pull [(14, 3)] (.step 18 (.step 19 .done)))))) (by kernel_rfl) (by kernel_rfl) ?_
      intro V0 hw0
      have hbq := of_class hw0
      have h0s := hbq.size
      refine pln_pull ?_
      simp only [cutOut, List.take_succ_cons, List.take_zero, List.drop_zero, List.append_nil]
      repeat (first | go_big_quiet_step (fail) | quiet_step (fail))
      try refine wpQuiet_nil ?_
      refine pln_fork ?f1 ?f2
      case' f1 =>
        refine pln_step rfl (by omega) (fun K hK => ?_)
        go_simp
        with_reducible refine (KA.out V0 ((eqs_at OG.out RG.out).below hbq) (DROW.out.below hbq)).mono ?_
        rintro _ V1 ⟨a2, e2, g2, rfl, o2, v2, r2, b2⟩
        have h1s := b2.size
        refine hK _ _ (class_of (u_cat hbq b2)) ?_
        clear hK K
        refine pln_pull ?_
        simp only [cutOut, List.take_succ_cons, List.take_zero, List.drop_succ_cons, List.drop_zero, List.append_nil]
        repeat (first | go_big_quiet_step (fail) | quiet_step (fail))
        try refine wpQuiet_nil ?_
        refine pln_step rfl (by omega) (fun K hK => ?_)
        go_simp
        refine hK _ _ (class_of (u_cat (u_cat hbq b2) (u_b1 _ _))) ?_
        clear hK K
        obtain ⟨g8, hg8⟩ : ∃ g8, g8 = V1.heap.size := ⟨_, rfl⟩
        obtain ⟨V2, hV2⟩ : ∃ V2, V2 = V1.alloc (.cells #[.int .i64 0, .int .i64 0, .slice none 0 0] 29) := ⟨_, rfl⟩
        have bV2 : Below V1.heap.size V1 V2 := by rw [hV2]; exact u_b1 _ _
        have Z8 := hid (show V2.heap[g8]? = some (.cells #[.int .i64 0, .int .i64 0, .slice none 0 0] 29 (0, 0)) by rw [hV2, hg8]; exact laid V1 _ _)
        rw [← hV2, ← hg8]
        have hg8b : wr.heap.size ≤ g8 := by omega
        have BV2 := hid (u_cat (u_cat hbq b2) bV2)
        have O2 := hid (owns_below o2 bV2)
        have R2 := hid (r2.below bV2)
        have V2V := hid v2
        clear hV2 hg8 bV2 b2 o2 r2 v2 h1s
      case' f2 =>
        refine pln_step rfl (by omega) (fun K hK => ?_)
        go_simp
        refine hK _ _ (class_of (u_cat hbq (u_b1 _ _))) ?_
        clear hK K
        obtain ⟨g8, hg8⟩ : ∃ g8, g8 = V0.heap.size := ⟨_, rfl⟩
        obtain ⟨V1, hV1⟩ : ∃ V1, V1 = V0.alloc (.cells #[.int .i64 0, .int .i64 0, .slice none 0 0] 29) := ⟨_, rfl⟩
        have bV1 : Below V0.heap.size V0 V1 := by rw [hV1]; exact u_b1 _ _
        have Z8 := hid (show V1.heap[g8]? = some (.cells #[.int .i64 0, .int .i64 0, .slice none 0 0] 29 (0, 0)) by rw [hV1, hg8]; exact laid V0 _ _)
        rw [← hV1, ← hg8]
        have hg8b : wr.heap.size ≤ g8 := by omega
        have hBV1 := u_cat hbq bV1
        have h1s := bV1.size
        clear hV1 hg8 bV1
        refine pln_step rfl (by omega) (fun K hK => ?_)
        go_simp
        with_reducible refine (KA.out V1 ((eqs_at OG.out RG.out).below hBV1) (DROW.out.below hBV1)).mono ?_
        rintro _ V2 ⟨a2, e2, g2, rfl, o2, v2, r2, b2⟩
        refine hK _ _ (class_of (u_cat hBV1 b2)) ?_
        clear hK K
        replace Z8 := hid (kept Z8.out b2)
        have BV2 := hid (u_cat hBV1 b2)
        have O2 := hid (owns_base o2 (show V0.heap.size + 2 ≤ V1.heap.size + 2 by omega))
        have R2 := hid (r2.mono (show V0.heap.size + 2 ≤ V1.heap.size + 2 by omega))
        have V2V := hid v2
        clear o2 v2 r2 b2 hBV1 h1s
        refine pln_pull ?_
        simp only [cutOut, List.take_succ_cons, List.take_zero, List.drop_succ_cons, List.drop_zero, List.append_nil]
        repeat (first | go_big_quiet_step (fail) | quiet_step (fail))
        try refine wpQuiet_nil ?_
      all_goals
        have t0 := box_cell Z8.out 0 (v := .int .i64 0) rfl
        have t1 := box_cell Z8.out 1 (v := .int .i64 0) rfl
        have t2 := box_cell Z8.out 2 (v := .slice none 0 0) rfl
        have tz := box_frozen Z8.out
        have tl := lt_of_block Z8.out
        refine pln_step rfl (by omega) (fun K hK => ?_)
        go_simp
        refine hK _ _ (class_of (u_set (u_set (u_set BV2.out hg8b _ _) hg8b _ _) hg8b _ _)) ?_
        clear hK K
        refine pln_step rfl (by omega) (fun K hK => ?_)
        go_simp
        refine hK _ _ (class_of (u_set (u_set (u_set BV2.out hg8b _ _) hg8b _ _) hg8b _ _)) ?_
        clear hK K
        refine pln_done ?_
        obtain ⟨V5, hV5⟩ : ∃ V5, V5 = ((V2.setCell ⟨g8, 0, none⟩ (.int .i64 c)).setCell ⟨g8, 1, none⟩ (.int .i64 z)).setCell ⟨g8, 2, none⟩ (.slice a2 g2.length e2) := ⟨_, rfl⟩
        have Z5 := hid (show V5.heap[g8]? = some (.cells #[.int .i64 c, .int .i64 z, .slice a2 g2.length e2] 29 (0, 0)) by rw [hV5]; exact set_block (set_block (set_block Z8.out 0 _) 1 _) 2 _)
        have BV5 := hid (show Below wr.heap.size wr V5 by rw [hV5]; exact u_set (u_set (u_set BV2.out hg8b _ _) hg8b _ _) hg8b _ _)
        have O5 := hid (show V5.ownsRow (w.heap.size + 3) 53 2 (.slice a2 g2.length e2) g2.length (eqCells g2) by
          rw [hV5]
          exact own_set_kind (set_block (set_block Z8.out 0 (.int .i64 c)) 1 (.int .i64 z)) (own_set_kind (set_block Z8.out 0 (.int .i64 c)) (own_set_kind Z8.out (owns_base O2.out (by omega)) (by decide)) (by decide)) (by decide))
        have R5 := hid (show RowsOwn V5 (w.heap.size + 3) g2 from fun f hf => by
          rw [hV5]
          exact own_set_kind (set_block (set_block Z8.out 0 (.int .i64 c)) 1 (.int .i64 z)) (own_set_kind (set_block Z8.out 0 (.int .i64 c)) (own_set_kind Z8.out (owns_base (R2.out f hf) (by omega)) (by decide)) (by decide)) (by decide))
        rw [← hV5]
        clear hV5 t0 t1 t2 tz tl Z8 BV2 O2 R2 y0 y1 y2 y3 u0 u1 q2 hbq h0s KA
        have HVN := hid (V2V.out.trans (HSE.out.learnV f.r (numsOf f.d)))
        have HCN := hid (HSE.out.learnC f.r (numsOf f.d) f.d.size)
        have YG5 := hid (kept YG.out BV5.out)
        have hs5 := BV5.out.size
        have HJ2 := hid (show ((valsE fs).drop k).foldl join1 (some ks) = ((valsE fs).drop (k + 1)).foldl join1 (if learnC (ks.map eqOf) f.r (numsOf f.d) f.d.size = 2 then none else some (learnV (ks.map eqOf) f.r (numsOf f.d))) by rw [HDR.out]; rfl)
        by_cases hc2 : learnC gs f.r (numsOf f.d) f.d.size = 2
        · have HJN := hid (show joinV (valsE es) (valsE fs) = none by
            rw [← HJ.out]
            show ((valsE fs).drop k).foldl join1 (some ks) = none
            rw [HJ2.out, if_pos (by rw [← HCN.out]; exact hc2), join_none])
          rw [hc2]
          clear hc2 HJ2 HCN
          have X2b := hid (kept HX2r.out BV5.out)
          have p0 := box_cell X2b.out 0 (v := .int .i64 0) rfl
          have p1 := box_cell X2b.out 1 (v := .int .i64 0) rfl
          have p2 := box_cell X2b.out 2 (v := .slice none 0 0) rfl
          have z0 := box_frozen X2b.out
          have l0 := lt_of_block X2b.out
          have S5 := set_block (set_block (set_block X2b.out 0 (.int .i64 0)) 1 (.int .i64 0)) 2 (.slice none 0 0)
          have x0 := box_cell S5 0 (v := .int .i64 0) (by simp)
          have x1 := box_cell S5 1 (v := .int .i64 0) (by simp)
          have x2 := box_cell S5 2 (v := .slice none 0 0) (by simp)
          clear S5
          go_wp2_with fail
          refine bodyPost_ret (v := .tuple #[.agg #[.int .i64 0, .int .i64 0, .slice none 0 0], .bool false]) ?_ rfl ?_
          · simp [results, Tryd.results30, go_sem, x0, x1, x2]
          · unfold JoinO
            rw [HJN.out]
            exact ⟨none, 0, [], rfl, ⟨rfl, .inl ⟨rfl, rfl⟩⟩, rfl, fun f hf => by simp at hf, by refine u_set (u_set (u_set (u_catn HBr.out (Nat.le_refl _) BV5.out) ?_ _ _) ?_ _ _) ?_ _ _ <;> omega⟩
        · have hcn : (learnC gs f.r (numsOf f.d) f.d.size == 2) = false := by simpa using hc2
          have HJN := hid (show joinV (learnV (ks.map eqOf) f.r (numsOf f.d)) ((valsE fs).drop (k + 1)) = joinV (valsE es) (valsE fs) by
            rw [← HJ.out]
            show ((valsE fs).drop (k + 1)).foldl join1 (some (learnV (ks.map eqOf) f.r (numsOf f.d))) = ((valsE fs).drop k).foldl join1 (some ks)
            rw [HJ2.out, if_neg (by rw [← HCN.out]; exact hc2)])
          have HKN := hid (show okV c z (learnV (ks.map eqOf) f.r (numsOf f.d)) from learnV_ok (solver_eqOf c1 HK.out) HFK.out.1 (by rw [numsOf_len]; exact HFK.out.2.1))
          clear hc2 HJ2 HCN
          have t0 := box_cell Z5.out 0 (v := .int .i64 c) rfl
          have t1 := box_cell Z5.out 1 (v := .int .i64 z) rfl
          have t2 := box_cell Z5.out 2 (v := .slice a2 g2.length e2) rfl
          have p0 := box_cell YG5.out 0 (v := .int .i64 c) rfl
          have p1 := box_cell YG5.out 1 (v := .int .i64 z) rfl
          have p2 := box_cell YG5.out 2 (v := .slice ag gs.length cg) rfl
          have z0 := box_frozen YG5.out
          have l0 := lt_of_block YG5.out
          have S5 := hid (set_block (set_block (set_block YG5.out 0 (.int .i64 c)) 1 (.int .i64 z)) 2 (.slice a2 g2.length e2))
          go_wp2_with fail
          go_roundw
          case rel =>
            refine ⟨k + 1, _, g2, a2, e2, by omega, by go_num, HVN.out, HKN.out, HJN.out, ?_, ?_, S5.out, ?_, ?_⟩
            · exact own_set_kind (set_block (set_block YG5.out 0 (.int .i64 c)) 1 (.int .i64 z)) (own_set_kind (set_block YG5.out 0 (.int .i64 c)) (own_set_kind YG5.out O5.out (by decide)) (by decide)) (by decide)
            · exact fun f hf => own_set_kind (set_block (set_block YG5.out 0 (.int .i64 c)) 1 (.int .i64 z)) (own_set_kind (set_block YG5.out 0 (.int .i64 c)) (own_set_kind YG5.out (R5.out f hf) (by decide)) (by decide)) (by decide)
            · simp [World.setCell]; omega
            · exact u_set (u_set (u_set (HBL.out.trans (BV5.out.mono (by omega))) (Nat.le_refl G) _ _) (Nat.le_refl G) _ _) (Nat.le_refl G) _ _
          case measure => simp [intOf]; omega
    · have hlt1 : decide ((k : Int) < fs.length) = false := by simp; omega
      have HJN := hid (show joinV (valsE es) (valsE fs) = some ks by
        rw [← HJ.out, show (valsE fs).drop k = [] from List.drop_of_length_le (by simp [valsE]; omega)]
        rfl)
      have q2 := box_cell HX1r.out 2 (v := .slice b fs.length cap') rfl
      have t0 := box_cell YG.out 0 (v := .int .i64 c) rfl
      have t1 := box_cell YG.out 1 (v := .int .i64 z) rfl
      have t2 := box_cell YG.out 2 (v := .slice ag gs.length cg) rfl
      have p0 := box_cell HX2r.out 0 (v := .int .i64 0) rfl
      have p1 := box_cell HX2r.out 1 (v := .int .i64 0) rfl
      have p2 := box_cell HX2r.out 2 (v := .slice none 0 0) rfl
      have z0 := box_frozen HX2r.out
      have l0 := lt_of_block HX2r.out
      have S5 := set_block (set_block (set_block HX2r.out 0 (.int .i64 c)) 1 (.int .i64 z)) 2 (.slice ag gs.length cg)
      have x0 := box_cell S5 0 (v := .int .i64 c) (by simp)
      have x1 := box_cell S5 1 (v := .int .i64 z) (by simp)
      have x2 := box_cell S5 2 (v := .slice ag gs.length cg) (by simp)
      clear S5
      go_wp2_with fail
      refine bodyPost_ret (v := .tuple #[.agg #[.int .i64 c, .int .i64 z, .slice ag gs.length cg], .bool true]) ?_ rfl ?_
      · simp [results, Tryd.results30, go_sem, x0, x1, x2]
      · unfold JoinO
        rw [HJN.out]
        refine ⟨ag, cg, gs, rfl, ?_, HV.out, ?_, ?_⟩
        · refine owns_base (Touch.owns (Touch.setCell _ ⟨_, _, _⟩ _) (Touch.owns (Touch.setCell _ ⟨_, _, _⟩ _) (Touch.owns (Touch.setCell _ ⟨_, _, _⟩ _) OG.out ?_) ?_) ?_) (show w.heap.size ≤ w.heap.size + 3 by omega) <;> (simp only []; omega)
        · refine RowsOwn.mono (RowsOwn.set (RowsOwn.set (RowsOwn.set RG.out ?_ _ _) ?_ _ _) ?_ _ _) (show w.heap.size ≤ w.heap.size + 3 by omega) <;> omega
        · refine u_set (u_set (u_set HBr.out ?_ _ _) ?_ _ _) ?_ _ _ <;> omega
end Go.Proofs.YtpdaobiaekamoaaDoor
