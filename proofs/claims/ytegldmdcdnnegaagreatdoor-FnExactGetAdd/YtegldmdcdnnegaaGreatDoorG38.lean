/- An equation learnt by the model: where something of its row is left. -/
import Derived.Test.YtegldmdcdnnegaaGreatDoorG37
import Derived.Test.YtegldmdcdnnegaaGreatDoorG13
namespace Go.Proofs.YtegldmdcdnnegaaGreatDoor
open Go.ChangeShapes Go.WideShapes Go.ChangeAt Go.RowKit Go.Sort Go.Shelf
attribute [local go_sem] Oper.semAt_some

theorem foldE_len {es : List EqV} : ∀ {s : List Int × List Int}, (∀ e ∈ es, e.d.size = s.2.length) → (es.foldl stepE s).2.length = s.2.length := by
  induction es with
  | nil => intro s _; rfl
  | cons e es ih =>
    intro s h
    have e1 := stepE_len (s := s) (h e (List.mem_cons_self ..))
    have := ih (s := stepE s e) (fun x hx => by rw [e1]; exact h x (List.mem_cons_of_mem _ hx))
    exact this.trans e1

set_option maxHeartbeats 16000000 in
set_option maxRecDepth 100000 in
theorem l3Add_new (a : Option Addr) (cap : Nat) (es : List EqV) (c : Int) (n : Nat) (ar : Option Addr) (cr : Nat) (row dn : List Int) (w : World) (ha : EqsAt w a es) (hl : es.length ≤ 1048576) (hsm : SmallE es) (hcap : ∀ e ∈ es, e.a = none → e.c = 0) (hok : OkRows es n) (hn : n ≤ 1000) (hrow : IntsAt w ar row) (hasc : ascB (-1) 24 row = true) (hcr : ar = none → cr = 0) (hdn : dn.length = n) (hdb : BytesL dn)
    (hok2 : okE c n es) (hc24 : c ≤ 24) (hnil : (es.foldl stepE (row, dn)).1 ≠ []) :
    Calls Tryz.prog 16 #[.agg #[.int .i64 c, .int .i64 (n : Int), .slice a es.length cap], .slice ar row.length cr, .string (strOfNums dn)] w fun e w' => ∃ a' c' gs, e = .returned (.tuple #[.agg #[.int .i64 c, .int .i64 (n : Int), .slice a' gs.length c'], .int .i64 0]) ∧
      w'.ownsRow (w.heap.size + 2) 81 2 (.slice a' gs.length c') gs.length (eqCells gs) ∧ valsE gs = learnE (es.foldl stepE (row, dn)) (valsE es) ∧ RowsOwn w' (w.heap.size + 2) gs ∧ Below w.heap.size w w' := by
  have HOK := hid hok2
  have HS24 := hid (less_to (z := n) (d := dn) hok2 hc24 hasc es.length (Nat.le_refl _)).1
  rw [List.take_length] at HS24
  have HFR := hid (fun e (he : e ∈ es) => less_free (d := dn) hok2 hc24 hasc he)
  have HLL := hid (show (es.foldl stepE (row, dn)).2.length = n from hdn ▸ foldE_len (fun e he => by rw [(hok e he).2.2]; exact hdn.symm))
  clear hok2
  have h24 := asc_len24 hasc
  have HA := hid ha
  have HR := hid hrow
  have HN := hid (show ar = none → row.length = 0 ∧ cr = 0 from fun h => ⟨none_len hrow h, hcr h⟩)
  have KL := hid (fun a5 d5 V h1 h2 => l3Less_any a cap es c n a5 d5 row dn n V h1 hok hl h2 hasc hdn hdb hn)
  have KC := hid (fun V h1 => l3Copy_any a cap es c n V h1 hl hsm hcap)
  have HNIL := hid hnil
  have HDB := hid hdb
  clear ha hsm hcap hok hrow hasc hcr hdn hdb hnil
  obtain ⟨i0, hi, hz0, hz1, hz2⟩ := info_parts Tryz.info3
  go_enter Tryz.func16, Tryz.ntmps16
  repeat ((fail_if_success (with_reducible show Code.wp _ (Code.region 1 _ _) _ _ _)); (first | go_values | go_skip | go_guarded | go_step | go_upon | go_back | go_simp))
  obtain ⟨W0, hW0⟩ : ∃ W0, W0 = (w.alloc (.cells #[.int .i64 c, .int .i64 (n : Int), .slice a es.length cap] 34)).alloc (.cells #[.int .i64 0, .int .i64 0, .slice none 0 0] 34) := ⟨_, rfl⟩
  obtain ⟨X0, X1, B0⟩ := u_box2 (w := w) (c := #[.int .i64 c, .int .i64 (n : Int), .slice a es.length cap]) (t := 34) (d := #[.int .i64 0, .int .i64 0, .slice none 0 0]) (s := 34) (w1 := W0) (by rw [hW0]; exact Below.refl _ _)
  have hs0 : W0.heap.size = w.heap.size + 2 := by rw [hW0]; simp
  rw [← hW0]
  clear hW0
  have HX0 := hid X0
  have HX1 := hid X1
  have HB := hid B0
  clear X0 X1 B0
  have y0 := cell_regrown (box_cell HX0.out 0 (v := .int .i64 c) rfl)
  have y1 := cell_regrown (box_cell HX0.out 1 (v := .int .i64 (n : Int)) rfl)
  have y2 := cell_regrown (box_cell HX0.out 2 (v := .slice a es.length cap) rfl)
  go_cut [8] from 14 (fun s8 W => ∃ g a' c' s, s8 = .pointer (some ⟨g, 0, none⟩) ∧ W0.heap.size ≤ g ∧ W.heap[g]? = some (.cells #[.slice a' s.1.length c', .string (strOfNums s.2)] 81 (0, 0)) ∧ s = es.foldl stepE (row, dn) ∧ W.ownsRow W0.heap.size 3 1 (.slice a' s.1.length c') s.1.length (s.1.map (Value.int .i64)) ∧ Below W0.heap.size W0 W)
  case first =>
    refine wp_float 8 7 _ [(0, 1), (2, 1), (4, 1)] [(1, 1), (3, 1), (5, 2)] [(8, 1)] (by kernel_rfl) rfl (by kernel_rfl) (fun _ _ d _ _ h => by cases d <;> exact h) ?_
    simp only [cutOut, List.take_succ_cons, List.take_zero, List.drop_succ_cons, List.drop_zero, List.nil_append, List.cons_append, List.append_nil]
    repeat (first | go_big_quiet_step (fail) | quiet_step (fail))
    refine wpQuiet_nil ?_
    intro V0 hw'
    have HCV0 := hid (of_class hw')
    clear hw' y0 y1 y2
    refine wpRestF_step (fun K hK => ?_) ?_
    · go_simp
      refine hK _ _ (class_of (HCV0.out.trans ((u_b1 _ _).mono HCV0.out.size))) ?_
      clear hK K
      obtain ⟨V1, hV1⟩ : ∃ V1, V1 = V0.alloc (.cells #[] 3) := ⟨_, rfl⟩
      rw [← hV1]
      have bV1 : Below V0.heap.size V0 V1 := by rw [hV1]; exact u_b1 _ _
      have OW := hid (show V1.ownsRow V0.heap.size 3 1 (.slice (some ⟨V0.heap.size, 0, none⟩) 0 0) 0 [] by rw [hV1]; exact World.ownsRow_lit V0 #[] 0 (Nat.le_refl _) (Nat.zero_le _) rfl)
      have hzV1 : W0.heap.size ≤ V0.heap.size ∧ V0.heap.size < V1.heap.size := ⟨HCV0.out.size, by rw [hV1]; simp⟩
      clear hV1
      have HCV1 := hid (HCV0.out.trans (bV1.mono HCV0.out.size))
      clear bV1
      refine wpRestF_step (fun K hK => ?_) ?_
      · refine step_append_row 22 3 i0 _ 8 Tryz.underlying22 hi hz0 hz1 hz2 rfl _ _ rfl rfl rfl ar row.length cr (row.map (Value.int .i64)) rfl (by simp) HN.out OW.out (fun ad had => row_news (HR.out.below (u_cat HB.out HCV1.out)) had) row_ones (by omega) (by omega) (by omega) ?_
        intro v' V2 o5 g5
        rw [Nat.zero_add, List.nil_append] at o5
        obtain ⟨a5, d5, rfl⟩ := owns_slice o5
        have HCV2 := hid (HCV1.out.trans ((grown_base g5 OW.out (by omega)).mono (by omega)))
        refine hK _ _ (class_of HCV2.out) ?_
        clear hK K
        have hzV2 : V1.heap.size ≤ V2.heap.size := g5.size
        have HIA := hid (owns_base o5 (show W0.heap.size ≤ V0.heap.size by omega))
        clear g5 OW o5
        refine wpRestF_step (fun K hK => ?_) ?_
        · go_simp
          refine hK _ _ (class_of HCV2.out) ?_
          clear hK K
          refine wpRestF_step (fun K hK => ?_) ?_
          · go_simp
            with_reducible refine (KL.out a5 d5 V2 (HA.out.below (u_cat HB.out HCV2.out)) (owns_at HIA.out)).mono ?_
            rintro _ V3 ⟨a', c', s, hs, rfl, -, ho, bV3⟩
            have HSS := hid hs
            have HOS := hid (ho W0.heap.size (by omega) HIA.out)
            have HCV3 := hid (HCV2.out.trans (bV3.mono HCV2.out.size))
            refine hK _ _ (class_of HCV3.out) ?_
            clear hK K hs HIA ho
            have hzV3 := bV3.size
            clear bV3
            refine wpRestF_nil ?_
            refine wpRest_step (fun K hK => ?_)
            go_simp
            refine hK _ _ (class_of (HCV3.out.trans ((u_b1 _ _).mono HCV3.out.size))) ?_
            clear hK K
            obtain ⟨V4, hV4⟩ : ∃ V4, V4 = V3.alloc (.cells #[.slice none 0 0, .string ⟨#[]⟩] 81) := ⟨_, rfl⟩
            rw [← hV4]
            have bV4 : Below V3.heap.size V3 V4 := by rw [hV4]; exact u_b1 _ _
            have G := hid (show V4.heap[V3.heap.size]? = some (.cells #[.slice none 0 0, .string ⟨#[]⟩] 81 (0, 0)) by rw [hV4]; exact laid V3 _ _)
            have hzV4 : W0.heap.size ≤ V3.heap.size ∧ V3.heap.size < V4.heap.size := ⟨HCV3.out.size, by rw [hV4]; simp⟩
            clear hV4
            have HCV4 := hid (HCV3.out.trans (bV4.mono HCV3.out.size))
            replace HOS := hid (owns_below HOS.out bV4)
            clear bV4
            have g0 := box_cell G.out 0 (v := .slice none 0 0) rfl
            have g1 := box_cell G.out 1 (v := .string ⟨#[]⟩) rfl
            have gz := box_frozen G.out
            have gl := lt_of_block G.out
            have S' := hid (set_block (set_block G.out 0 (.slice a' s.1.length c')) 1 (.string (strOfNums s.2)))
            have hgw : W0.heap.size ≤ V3.heap.size := by omega
            go_wp2_with fail
            refine .inl ?_
            go_simp
            go_wp2_with fail
            go_meet
            case rel => exact ⟨V3.heap.size, a', c', s, rfl, hgw, S'.out, HSS.out, own_set_kind (set_block G.out 0 _) (own_set_kind G.out HOS.out (by decide)) (by decide), u_set (u_set HCV4.out hgw _ _) hgw _ _⟩
          · simp only [List.cons_append, List.nil_append]
            refine wpRest_step (fun K hK => ?_)
            go_simp
            refine hK _ _ (class_of (HCV2.out.trans ((u_b1 _ _).mono HCV2.out.size))) ?_
            clear hK K
            obtain ⟨V3, hV3⟩ : ∃ V3, V3 = V2.alloc (.cells #[.slice none 0 0, .string ⟨#[]⟩] 81) := ⟨_, rfl⟩
            rw [← hV3]
            have bV3 : Below V2.heap.size V2 V3 := by rw [hV3]; exact u_b1 _ _
            have G := hid (show V3.heap[V2.heap.size]? = some (.cells #[.slice none 0 0, .string ⟨#[]⟩] 81 (0, 0)) by rw [hV3]; exact laid V2 _ _)
            have hzV3 : W0.heap.size ≤ V2.heap.size ∧ V2.heap.size < V3.heap.size := ⟨HCV2.out.size, by rw [hV3]; simp⟩
            clear hV3
            have HCV3 := hid (HCV2.out.trans (bV3.mono HCV2.out.size))
            replace HIA := hid (owns_below HIA.out bV3)
            clear bV3
            refine wpRest_step (fun K hK => ?_)
            go_simp
            with_reducible refine (KL.out a5 d5 V3 (HA.out.below (u_cat HB.out HCV3.out)) (owns_at HIA.out)).mono ?_
            rintro _ V4 ⟨a', c', s, hs, rfl, -, ho, bV4⟩
            have HSS := hid hs
            have HOS := hid (ho W0.heap.size (by omega) HIA.out)
            have HCV4 := hid (HCV3.out.trans (bV4.mono HCV3.out.size))
            refine hK _ _ (class_of HCV4.out) ?_
            clear hK K hs HIA ho
            have hzV4 := bV4.size
            replace G := hid (kept G.out bV4)
            clear bV4
            have g0 := box_cell G.out 0 (v := .slice none 0 0) rfl
            have g1 := box_cell G.out 1 (v := .string ⟨#[]⟩) rfl
            have gz := box_frozen G.out
            have gl := lt_of_block G.out
            have S' := hid (set_block (set_block G.out 0 (.slice a' s.1.length c')) 1 (.string (strOfNums s.2)))
            have hgw : W0.heap.size ≤ V2.heap.size := by omega
            go_wp2_with fail
            refine .inl ?_
            go_simp
            go_wp2_with fail
            go_meet
            case rel => exact ⟨V2.heap.size, a', c', s, rfl, hgw, S'.out, HSS.out, own_set_kind (set_block G.out 0 _) (own_set_kind G.out HOS.out (by decide)) (by decide), u_set (u_set HCV4.out hgw _ _) hgw _ _⟩
        · simp only [List.cons_append, List.nil_append]
          refine wpRest_step (fun K hK => ?_)
          go_simp
          refine hK _ _ (class_of (HCV2.out.trans ((u_b1 _ _).mono HCV2.out.size))) ?_
          clear hK K
          obtain ⟨V3, hV3⟩ : ∃ V3, V3 = V2.alloc (.cells #[.slice none 0 0, .string ⟨#[]⟩] 81) := ⟨_, rfl⟩
          rw [← hV3]
          have bV3 : Below V2.heap.size V2 V3 := by rw [hV3]; exact u_b1 _ _
          have G := hid (show V3.heap[V2.heap.size]? = some (.cells #[.slice none 0 0, .string ⟨#[]⟩] 81 (0, 0)) by rw [hV3]; exact laid V2 _ _)
          have hzV3 : W0.heap.size ≤ V2.heap.size ∧ V2.heap.size < V3.heap.size := ⟨HCV2.out.size, by rw [hV3]; simp⟩
          clear hV3
          have HCV3 := hid (HCV2.out.trans (bV3.mono HCV2.out.size))
          replace HIA := hid (owns_below HIA.out bV3)
          clear bV3
          refine wpRest_step (fun K hK => ?_)
          go_simp
          refine hK _ _ (class_of HCV3.out) ?_
          clear hK K
          refine wpRest_step (fun K hK => ?_)
          go_simp
          with_reducible refine (KL.out a5 d5 V3 (HA.out.below (u_cat HB.out HCV3.out)) (owns_at HIA.out)).mono ?_
          rintro _ V4 ⟨a', c', s, hs, rfl, -, ho, bV4⟩
          have HSS := hid hs
          have HOS := hid (ho W0.heap.size (by omega) HIA.out)
          have HCV4 := hid (HCV3.out.trans (bV4.mono HCV3.out.size))
          refine hK _ _ (class_of HCV4.out) ?_
          clear hK K hs HIA ho
          have hzV4 := bV4.size
          replace G := hid (kept G.out bV4)
          clear bV4
          have g0 := box_cell G.out 0 (v := .slice none 0 0) rfl
          have g1 := box_cell G.out 1 (v := .string ⟨#[]⟩) rfl
          have gz := box_frozen G.out
          have gl := lt_of_block G.out
          have S' := hid (set_block (set_block G.out 0 (.slice a' s.1.length c')) 1 (.string (strOfNums s.2)))
          have hgw : W0.heap.size ≤ V2.heap.size := by omega
          go_wp2_with fail
          refine .inl ?_
          go_simp
          go_wp2_with fail
          go_meet
          case rel => exact ⟨V2.heap.size, a', c', s, rfl, hgw, S'.out, HSS.out, own_set_kind (set_block G.out 0 _) (own_set_kind G.out HOS.out (by decide)) (by decide), u_set (u_set HCV4.out hgw _ _) hgw _ _⟩
      · simp only [List.cons_append, List.nil_append]
        refine wpRest_step (fun K hK => ?_)
        go_simp
        refine hK _ _ (class_of (HCV1.out.trans ((u_b1 _ _).mono HCV1.out.size))) ?_
        clear hK K
        obtain ⟨V2, hV2⟩ : ∃ V2, V2 = V1.alloc (.cells #[.slice none 0 0, .string ⟨#[]⟩] 81) := ⟨_, rfl⟩
        rw [← hV2]
        have bV2 : Below V1.heap.size V1 V2 := by rw [hV2]; exact u_b1 _ _
        have G := hid (show V2.heap[V1.heap.size]? = some (.cells #[.slice none 0 0, .string ⟨#[]⟩] 81 (0, 0)) by rw [hV2]; exact laid V1 _ _)
        have hzV2 : W0.heap.size ≤ V1.heap.size ∧ V1.heap.size < V2.heap.size := ⟨HCV1.out.size, by rw [hV2]; simp⟩
        clear hV2
        have HCV2 := hid (HCV1.out.trans (bV2.mono HCV1.out.size))
        replace OW := hid (owns_below OW.out bV2)
        clear bV2
        refine wpRest_step (fun K hK => ?_)
        refine step_append_row 22 3 i0 _ 8 Tryz.underlying22 hi hz0 hz1 hz2 rfl _ _ rfl rfl rfl ar row.length cr (row.map (Value.int .i64)) rfl (by simp) HN.out OW.out (fun ad had => row_news (HR.out.below (u_cat HB.out HCV2.out)) had) row_ones (by omega) (by omega) (by omega) ?_
        intro v' V3 o5 g5
        rw [Nat.zero_add, List.nil_append] at o5
        obtain ⟨a5, d5, rfl⟩ := owns_slice o5
        have HCV3 := hid (HCV2.out.trans ((grown_base g5 OW.out (by omega)).mono (by omega)))
        refine hK _ _ (class_of HCV3.out) ?_
        clear hK K
        have hzV3 : V2.heap.size ≤ V3.heap.size := g5.size
        have HIA := hid (owns_base o5 (show W0.heap.size ≤ V0.heap.size by omega))
        replace G := hid ((g5.block _ (lt_of_block G.out) (by intro h; have h2 : V0.heap.size = V1.heap.size := (Option.some.inj h).symm ▸ rfl; omega)).trans G.out)
        clear g5 OW o5
        refine wpRest_step (fun K hK => ?_)
        go_simp
        refine hK _ _ (class_of HCV3.out) ?_
        clear hK K
        refine wpRest_step (fun K hK => ?_)
        go_simp
        with_reducible refine (KL.out a5 d5 V3 (HA.out.below (u_cat HB.out HCV3.out)) (owns_at HIA.out)).mono ?_
        rintro _ V4 ⟨a', c', s, hs, rfl, -, ho, bV4⟩
        have HSS := hid hs
        have HOS := hid (ho W0.heap.size (by omega) HIA.out)
        have HCV4 := hid (HCV3.out.trans (bV4.mono HCV3.out.size))
        refine hK _ _ (class_of HCV4.out) ?_
        clear hK K hs HIA ho
        have hzV4 := bV4.size
        replace G := hid (kept G.out bV4)
        clear bV4
        have g0 := box_cell G.out 0 (v := .slice none 0 0) rfl
        have g1 := box_cell G.out 1 (v := .string ⟨#[]⟩) rfl
        have gz := box_frozen G.out
        have gl := lt_of_block G.out
        have S' := hid (set_block (set_block G.out 0 (.slice a' s.1.length c')) 1 (.string (strOfNums s.2)))
        have hgw : W0.heap.size ≤ V1.heap.size := by omega
        go_wp2_with fail
        refine .inl ?_
        go_simp
        go_wp2_with fail
        go_meet
        case rel => exact ⟨V1.heap.size, a', c', s, rfl, hgw, S'.out, HSS.out, own_set_kind (set_block G.out 0 _) (own_set_kind G.out HOS.out (by decide)) (by decide), u_set (u_set HCV4.out hgw _ _) hgw _ _⟩
    · simp only [List.cons_append, List.nil_append]
      refine wpRest_step (fun K hK => ?_)
      go_simp
      refine hK _ _ (class_of (HCV0.out.trans ((u_b1 _ _).mono HCV0.out.size))) ?_
      clear hK K
      obtain ⟨V1, hV1⟩ : ∃ V1, V1 = V0.alloc (.cells #[.slice none 0 0, .string ⟨#[]⟩] 81) := ⟨_, rfl⟩
      rw [← hV1]
      have bV1 : Below V0.heap.size V0 V1 := by rw [hV1]; exact u_b1 _ _
      have G := hid (show V1.heap[V0.heap.size]? = some (.cells #[.slice none 0 0, .string ⟨#[]⟩] 81 (0, 0)) by rw [hV1]; exact laid V0 _ _)
      have hzV1 : W0.heap.size ≤ V0.heap.size ∧ V0.heap.size < V1.heap.size := ⟨HCV0.out.size, by rw [hV1]; simp⟩
      clear hV1
      have HCV1 := hid (HCV0.out.trans (bV1.mono HCV0.out.size))
      clear bV1
      refine wpRest_step (fun K hK => ?_)
      go_simp
      refine hK _ _ (class_of (HCV1.out.trans ((u_b1 _ _).mono HCV1.out.size))) ?_
      clear hK K
      obtain ⟨V2, hV2⟩ : ∃ V2, V2 = V1.alloc (.cells #[] 3) := ⟨_, rfl⟩
      rw [← hV2]
      have bV2 : Below V1.heap.size V1 V2 := by rw [hV2]; exact u_b1 _ _
      have OW := hid (show V2.ownsRow V1.heap.size 3 1 (.slice (some ⟨V1.heap.size, 0, none⟩) 0 0) 0 [] by rw [hV2]; exact World.ownsRow_lit V1 #[] 0 (Nat.le_refl _) (Nat.zero_le _) rfl)
      have hzV2 : W0.heap.size ≤ V1.heap.size ∧ V1.heap.size < V2.heap.size := ⟨HCV1.out.size, by rw [hV2]; simp⟩
      clear hV2
      have HCV2 := hid (HCV1.out.trans (bV2.mono HCV1.out.size))
      have hg := lt_of_block G.out
      replace G := hid (kept G.out bV2)
      clear bV2
      refine wpRest_step (fun K hK => ?_)
      refine step_append_row 22 3 i0 _ 8 Tryz.underlying22 hi hz0 hz1 hz2 rfl _ _ rfl rfl rfl ar row.length cr (row.map (Value.int .i64)) rfl (by simp) HN.out OW.out (fun ad had => row_news (HR.out.below (u_cat HB.out HCV2.out)) had) row_ones (by omega) (by omega) (by omega) ?_
      intro v' V3 o5 g5
      rw [Nat.zero_add, List.nil_append] at o5
      obtain ⟨a5, d5, rfl⟩ := owns_slice o5
      have HCV3 := hid (HCV2.out.trans ((grown_base g5 OW.out (by omega)).mono (by omega)))
      refine hK _ _ (class_of HCV3.out) ?_
      clear hK K
      have hzV3 : V2.heap.size ≤ V3.heap.size := g5.size
      have HIA := hid (owns_base o5 (show W0.heap.size ≤ V1.heap.size by omega))
      replace G := hid ((g5.block _ (lt_of_block G.out) (by intro h; have h2 : V1.heap.size = V0.heap.size := (Option.some.inj h).symm ▸ rfl; omega)).trans G.out)
      clear g5 OW o5
      refine wpRest_step (fun K hK => ?_)
      go_simp
      refine hK _ _ (class_of HCV3.out) ?_
      clear hK K
      refine wpRest_step (fun K hK => ?_)
      go_simp
      with_reducible refine (KL.out a5 d5 V3 (HA.out.below (u_cat HB.out HCV3.out)) (owns_at HIA.out)).mono ?_
      rintro _ V4 ⟨a', c', s, hs, rfl, -, ho, bV4⟩
      have HSS := hid hs
      have HOS := hid (ho W0.heap.size (by omega) HIA.out)
      have HCV4 := hid (HCV3.out.trans (bV4.mono HCV3.out.size))
      refine hK _ _ (class_of HCV4.out) ?_
      clear hK K hs HIA ho
      have hzV4 := bV4.size
      replace G := hid (kept G.out bV4)
      clear bV4
      have g0 := box_cell G.out 0 (v := .slice none 0 0) rfl
      have g1 := box_cell G.out 1 (v := .string ⟨#[]⟩) rfl
      have gz := box_frozen G.out
      have gl := lt_of_block G.out
      have S' := hid (set_block (set_block G.out 0 (.slice a' s.1.length c')) 1 (.string (strOfNums s.2)))
      have hgw : W0.heap.size ≤ V0.heap.size := by omega
      go_wp2_with fail
      refine .inl ?_
      go_simp
      go_wp2_with fail
      go_meet
      case rel => exact ⟨V0.heap.size, a', c', s, rfl, hgw, S'.out, HSS.out, own_set_kind (set_block G.out 0 _) (own_set_kind G.out HOS.out (by decide)) (by decide), u_set (u_set HCV4.out hgw _ _) hgw _ _⟩
  case rest =>
    obtain ⟨g, a', c', s, rfl, hg, F, hs, ho, bc⟩ := hcut
    have HSS := hid hs
    have HF := hid F
    have HOS := hid ho
    have HBC := hid bc
    clear y0 y1 y2 hs F ho bc
    have p0 := box_cell (kept HX0.out HBC.out) 0 (v := .int .i64 c) rfl
    have p1 := box_cell (kept HX0.out HBC.out) 1 (v := .int .i64 (n : Int)) rfl
    have p2 := box_cell (kept HX0.out HBC.out) 2 (v := .slice a es.length cap) rfl
    have hgl := lt_of_block HF.out
    have HB2 := hid (u_cat HB.out HBC.out)
    have HX02 := hid (kept HX0.out HBC.out)
    have HX12 := hid (kept HX1.out HBC.out)
    clear HX0 HX1 HB
    go_wp2_with fail
    refine (KC.out wc (HA.out.below HB2.out)).mono ?_
    rintro _ w3 ⟨a3, c3, fs, rfl, oe, hsam, hro, b3⟩
    clear p0 p1 p2
    repeat ((fail_if_success (with_reducible show Code.wp _ (Code.region 3 _ _) _ _ _)); (first | go_values | go_skip | go_guarded | go_step | go_upon | go_back | go_simp))
    obtain ⟨W4, hW4⟩ : ∃ W4, W4 = w3.alloc (.cells #[.int .i64 c, .int .i64 (n : Int), .slice a3 fs.length c3] 34) := ⟨_, rfl⟩
    have b4 : Below w3.heap.size w3 W4 := by rw [hW4]; exact u_b1 _ _
    have X9 := hid (show W4.heap[w3.heap.size]? = some (.cells #[.int .i64 c, .int .i64 (n : Int), .slice a3 fs.length c3] 34 (0, 0)) by rw [hW4]; exact laid w3 _ _)
    rw [← hW4]
    clear hW4
    have bb := u_cat b3 b4
    have HF4 := hid (kept HF.out bb)
    have X0 := hid (kept HX02.out bb)
    have X1 := hid (kept HX12.out bb)
    have HB4 := hid (u_cat HB2.out bb)
    have HSAM := hid hsam
    have HOE := hid (owns_base (owns_below oe b4) (show w.heap.size + 2 ≤ wc.heap.size + 3 by have := HBC.out.size; omega))
    have HRO := hid ((hro.below b4).mono (show w.heap.size + 2 ≤ wc.heap.size + 3 by have := HBC.out.size; omega))
    have HES := hid (owns_below HOS.out bb)
    clear b3 b4 bb oe hsam hro HF HX02 HX12 HB2 HBC HOS
    have hne : s.1 ≠ [] := fun h => HNIL.out (by rw [← HSS.out]; exact h)
    have t1 : ((s.1.length : Int) == 0) = false := by have := List.length_pos_iff.2 hne; simp; omega
    obtain ⟨rb, ro, rfl, hrc⟩ := hd_cell (owns_at HES.out) hne
    have f0 := box_cell HF4.out 0 (v := .slice (some ⟨rb, ro, none⟩) s.1.length c') rfl
    have x0 := box_cell X0.out 0 (v := .int .i64 c) rfl
    have x1 := box_cell X0.out 1 (v := .int .i64 (n : Int)) rfl
    have hx0 := lt_of_block X0.out
    have HSA := hid (show ascB (-1) 24 s.1 = true by rw [HSS.out]; exact HS24.out)
    have HSL := hid (show s.2.length = n by rw [HSS.out]; exact HLL.out)
    have HSB := hid (show BytesL s.2 by rw [HSS.out]; exact fold_bytes HDB.out)
    have HOKF := hid ((SamV.ok HSAM.out).2 HOK.out)
    have HFRF := hid (show ∀ i (hi : i < fs.length), hd fs[i].r ∉ s.1 from fun i hi => by
      have hi2 : i < es.length := by rw [← HSAM.out.len]; exact hi
      rw [(HSAM.out.at hi hi2).1, HSS.out]
      exact HFR.out _ (List.getElem_mem hi2))
    have hfl : fs.length ≤ 1048576 := by rw [HSAM.out.len]; exact hl
    have EA := hid (eqs_at HOE.out HRO.out)
    have HNE := hid hne
    have s24 := asc_len24 HSA.out
    have HRC := hid hrc
    have hX1l := lt_of_block X1.out
    obtain ⟨i1, hj, hj0, hj1, hj2⟩ := info_parts Tryz.info81
    clear hne hrc KL KC HOE HFR HS24 HLL HN HR HA
    repeat ((fail_if_success (with_reducible show Code.wp _ (Code.region 8 _ _) _ _ _)); (first | go_values | go_skip | go_guarded | go_step | go_upon | go_back | go_simp))
    obtain ⟨U0, hU0⟩ : ∃ U0, U0 = W4.alloc (.cells #[.int .i64 c, .int .i64 (n : Int), .slice none 0 0] 34) := ⟨_, rfl⟩
    have bU : Below W4.heap.size W4 U0 := by rw [hU0]; exact u_b1 _ _
    have OU := hid (show OutIs U0 (w.heap.size + 2) W4.heap.size c n [] none 0 from ⟨by rw [hU0]; exact laid W4 _ _, ⟨rfl, .inl ⟨rfl, rfl⟩⟩, fun f hf => by simp at hf⟩)
    rw [← hU0]
    clear hU0 f0 x0 x1
    obtain ⟨G, hG⟩ : ∃ G, G = W4.heap.size := ⟨_, rfl⟩
    have hG2 : w.heap.size + 2 ≤ G := by have := HB4.out.size; have := lt_of_block X1.out; omega
    rw [← hG] at OU bU ⊢
    have HG := hid hG
    clear hG
    go_wp2_with fail
    go_loopw [11, 12] (fun dn i wr => ∃ (k : Nat) (done : Bool) (gs : List EqV) (b : Option Addr) (d : Nat), k ≤ fs.length ∧ i = .int .i64 k ∧ dn = .bool done ∧ valsE gs ++ restE (s.1, strOfNums s.2) done (((valsE fs).drop k).map (mixE s)) = learnE s (valsE fs) ∧ OutIs wr (w.heap.size + 2) G c n gs b d ∧ Below G W4 wr) (fun _ i _ => fs.length - (intOf i).toNat)
    case atStart => exact ⟨0, false, [], none, 0, Nat.zero_le _, rfl, rfl, rfl, OU.out, bU⟩
    case round =>
      clear OU bU U0
      obtain ⟨k, done, gs, b, d, hk, rfl, rfl, hv, ho, hB⟩ := hrel
      have hgl : gs.length ≤ fs.length + 1 := by
        have h1 := congrArg List.length hv
        rw [List.length_append] at h1
        unfold learnE at h1
        rw [ins_len] at h1
        simp only [valsE, List.length_map] at h1
        omega
      have HV := hid hv
      have HO := hid ho
      have HBW := hid (show Below W4.heap.size W4 wr by rw [← HG.out]; exact hB)
      have hgw := ho.lt
      clear hv ho hB
      by_cases hlt : k < fs.length
      · have hlt1 : decide ((k : Int) < fs.length) = true := by simp; omega
        obtain ⟨f, hf⟩ : ∃ f, fs[k] = f := ⟨_, rfl⟩
        have hmem : f ∈ fs := by rw [← hf]; exact List.getElem_mem hlt
        have hfr := HFRF.out k hlt
        have hfk := (okE_iff.1 HOKF.out k hlt).1
        rw [hf] at hfr hfk
        obtain ⟨eb, off, rfl, hc⟩ := (EA.out.below HBW.out) (by intro h; simp [h] at hlt)
        obtain ⟨c0, c1, crow⟩ := hc k f (by rw [List.getElem?_eq_getElem hlt, hf])
        have fa24 := asc_up hfk.1 hc24
        have f24 := asc_len24 fa24
        have HFA := hid fa24
        have HFZ := hid hfk.2.1
        have HFN := hid hfk.2.2
        have HFF := hid hfr
        have HVK := hid (show (valsE fs).drop k = (f.r, f.d) :: (valsE fs).drop (k + 1) by
          have h1 : k < (valsE fs).length := by simpa [valsE] using hlt
          rw [List.drop_eq_getElem_cons h1]
          simp [valsE, hf])
        have X9r := kept X9.out HBW.out
        have HFr := hid (kept HF4.out HBW.out)
        have FRo := hid (owns_below (HRO.out f hmem) HBW.out)
        have CRW := hid crow
        have HRCr := hid ((HBW.out.cell (p := ⟨rb, ro, none⟩) (block_lt_of_cell HRC.out)).trans HRC.out)
        have q2 := box_cell X9r 2 (v := .slice (some ⟨eb, off, none⟩) fs.length c3) rfl
        clear hc hf hmem hfr hfk fa24 crow
        repeat ((fail_if_success (with_reducible show Code.wp _ (Code.region 13 _ _) _ _ _)); (first | go_values | go_skip | go_guarded | go_step | go_upon | go_back | go_simp))
        obtain ⟨V1, hV1⟩ : ∃ V1, V1 = wr.alloc (.cells #[.slice f.a f.r.length f.c, .string f.d] 81) := ⟨_, rfl⟩
        have bV1 : Below wr.heap.size wr V1 := by rw [hV1]; exact u_b1 _ _
        have FB := hid (show V1.heap[wr.heap.size]? = some (.cells #[.slice f.a f.r.length f.c, .string f.d] 81 (0, 0)) by rw [hV1]; exact laid wr _ _)
        have hs1 : V1.heap.size = wr.heap.size + 1 := by rw [hV1]; simp
        rw [← hV1]
        clear hV1 q2 c0 c1
        have y0 := cell_regrown (box_cell FB.out 0 (v := .slice f.a f.r.length f.c) rfl)
        have y1 := cell_regrown (box_cell (kept HFr.out bV1) 0 (v := .slice (some ⟨rb, ro, none⟩) s.1.length c') rfl)
        have y2 := cell_regrown ((bV1.cell (p := ⟨rb, ro, none⟩) (block_lt_of_cell HRCr.out)).trans HRCr.out)
        have hpos : 0 < s.1.length := List.length_pos_iff.2 HNE.out
        have K := hid (rg (w := V1) (fun w' hb => same_below (l3Has_any f.a f.c f.r (hd s.1) w' ((CRW.out.below bV1).below hb) (by omega))))
        obtain ⟨Y, hY⟩ : ∃ Y, Y = hd s.1 := ⟨_, rfl⟩
        rw [← hY] at K y2
        have HY := hid hY
        have HBV := hid bV1
        clear hY bV1
        by_cases hin : Y ∈ f.r
        case' pos =>
          rw [decide_eq_true hin] at K
          have HMX := hid (show mixE s (f.r, f.d) = (xorM f.r s.1, strOfNums (xorL (numsOf f.d) s.2)) by unfold mixE; rw [if_pos (by rw [← HY.out]; exact hin)])
          have HMF := hid (mix_facts (s := s) (k := (f.r, f.d)) HSA.out HFA.out HNE.out HFN.out HFF.out)
          rw [HMX.out] at HMF
          clear hin
        case' neg =>
          rw [decide_eq_false hin] at K
          have HMX := hid (show mixE s (f.r, f.d) = (f.r, f.d) by unfold mixE; rw [if_neg (by rw [← HY.out]; exact hin)])
          clear hin
        all_goals
          refine wp_region_quiet_below (by kernel_rfl) (by kernel_rfl) ?_
          repeat (first | go_big_quiet_step ((go_at_call 39; with_reducible exact K.out _ _)) | quiet_step ((go_at_call 39; with_reducible exact K.out _ _)))
          refine wpQuiet_nil ?_
          intro V hw'
          have hbq := of_class hw'
          clear hw' y0 y1 y2 K
          replace FB := hid (kept FB.out hbq)
          replace HBV := hid (u_cat HBV.out hbq)
          have hs2 := hbq.size
          clear hbq
        -- the equation that lies in the box behind region 14: its row and its data
        case' pos =>
          go_wp2_with fail
          have HFe := hid (kept HFr.out HBV.out)
          have y0 := cell_regrown (box_cell FB.out 0 (v := .slice f.a f.r.length f.c) rfl)
          have y1 := cell_regrown (box_cell FB.out 1 (v := .string f.d) rfl)
          have y2 := cell_regrown (box_cell HFe.out 0 (v := .slice (some ⟨rb, ro, none⟩) s.1.length c') rfl)
          have y3 := cell_regrown (box_cell HFe.out 1 (v := .string (strOfNums s.2)) rfl)
          have KB := fun w => l2Block_any f.d (strOfNums s.2) w (by rw [strOfNums_size]; have := HFZ.out; have := HSL.out; omega) (by have := HFZ.out; omega)
          rw [nums_str HSB.out, show nums f.d = numsOf f.d from rfl] at KB
          have KB := hid KB
          have KX := hid (fun w h1 h2 => l2Xor_any f.a (some ⟨rb, ro, none⟩) f.c c' f.r s.1 w h1 h2 (by omega) (by omega))
          refine wp_pick 11 3 [(0, 4), (5, 4)] [(4, 1), (9, 3)] (by kernel_rfl) (by kernel_rfl) (fun _ _ d _ _ h => by cases d <;> exact h) ?_
          simp only [cutOut, List.take_succ_cons, List.take_zero, List.drop_succ_cons, List.drop_zero, List.nil_append, List.cons_append, List.append_nil]
          repeat (first | go_big_quiet_step (fail) | quiet_step (fail))
          refine wpQuiet_nil ?_
          intro V2 hw'
          have hbq := of_class hw'
          clear hw' y0 y1 y2 y3 HFe
          refine wpRest_step (fun Kn hK => ?_)
          go_simp
          with_reducible refine (KX.out V2 ((CRW.out.below HBV.out).below hbq) ((owns_at (owns_below (owns_below HES.out HBW.out) HBV.out)).below hbq)).mono ?_
          rintro _ w5 ⟨v, rfl, o5, b5⟩
          obtain ⟨a5, d5, rfl⟩ := owns_slice o5
          refine hK _ _ (class_of (u_cat hbq b5)) ?_
          clear hK Kn
          refine wpRest_step (fun Kn hK => ?_)
          go_simp
          with_reducible refine (KB.out w5).mono ?_
          rintro _ w6 ⟨rfl, b6⟩
          refine hK _ _ (class_of (u_cat (u_cat hbq b5) b6)) ?_
          clear hK Kn
          refine wpRest_step (fun Kn hK => ?_)
          go_simp
          refine hK _ _ (class_of (u_cat (u_cat hbq b5) b6)) ?_
          clear hK Kn
          have B6 := u_cat (u_cat hbq b5) b6
          have X1' := kept FB.out B6
          have q0 := box_cell X1' 0 (v := .slice f.a f.r.length f.c) rfl
          have q1 := box_cell X1' 1 (v := .string f.d) rfl
          have z0 := box_frozen X1'
          have lr := lt_of_block X1'
          have hV2w : w.heap.size + 2 ≤ V2.heap.size := by have := hbq.size; omega
          have S1 := hid (set_block (set_block X1' 0 (.slice a5 (xorM f.r s.1).length d5)) 1 (.string (strOfNums (xorL (numsOf f.d) s.2))))
          have RW5 := hid (owns_base (own_set_kind (i := 1) (u := .string (strOfNums (xorL (numsOf f.d) s.2))) (set_block X1' 0 (.slice a5 (xorM f.r s.1).length d5)) (own_set_kind (i := 0) (u := .slice a5 (xorM f.r s.1).length d5) X1' (owns_below o5 b6) (by decide)) (by decide)) hV2w)
          have HBV2 := hid (u_set (u_set (u_cat HBV.out B6) (Nat.le_refl wr.heap.size) 0 (.slice a5 (xorM f.r s.1).length d5)) (Nat.le_refl wr.heap.size) 1 (.string (strOfNums (xorL (numsOf f.d) s.2))))
          clear hbq b5 b6 o5 X1' B6 KB KX hV2w FB HBV hs2
          repeat ((fail_if_success (with_reducible show Code.wp _ (Code.region 15 _ _) _ _ _)); (first | go_values | go_skip | go_guarded | go_step | go_upon | go_back | (refine .inl ?_; go_simp) | go_simp))
          clear q0 q1 z0 lr
          obtain ⟨V3, hV3⟩ : ∃ V3, V3 = (w6.setCell ⟨wr.heap.size, 0, none⟩ (.slice a5 (xorM f.r s.1).length d5)).setCell ⟨wr.heap.size, 1, none⟩ (.string (strOfNums (xorL (numsOf f.d) s.2))) := ⟨_, rfl⟩
          rw [← hV3] at S1 RW5 HBV2 ⊢
          have FB := hid (show V3.heap[wr.heap.size]? = some (.cells #[.slice a5 (xorM f.r s.1).length d5, .string (strOfNums (xorL (numsOf f.d) s.2))] 81 (0, 0)) from S1.out)
          have HBV := HBV2
          have HRN := hid HMF.out.1
          obtain ⟨rr, hrr⟩ : ∃ rr, rr = xorM f.r s.1 := ⟨_, rfl⟩
          obtain ⟨dd, hdd⟩ : ∃ dd, dd = strOfNums (xorL (numsOf f.d) s.2) := ⟨_, rfl⟩
          have HR24 := hid (asc_len24 HMF.out.2.2.1)
          rw [← hrr] at FB RW5 HMX HRN HR24
          rw [← hdd] at FB HMX
          clear hV3 S1 HMF hrr hdd w6 HBV2
        case' neg =>
          repeat ((fail_if_success (with_reducible show Code.wp _ (Code.region 15 _ _) _ _ _)); (first | go_values | go_skip | go_guarded | go_step | go_upon | go_back | (refine .inl ?_; go_simp) | go_simp))
          obtain ⟨V3, hV3⟩ : ∃ V3, V3 = V := ⟨_, rfl⟩
          obtain ⟨a5, ha5⟩ : ∃ a5, a5 = f.a := ⟨_, rfl⟩
          obtain ⟨d5, hd5⟩ : ∃ d5, d5 = f.c := ⟨_, rfl⟩
          obtain ⟨rr, hrr⟩ : ∃ rr, rr = f.r := ⟨_, rfl⟩
          obtain ⟨dd, hdd⟩ : ∃ dd, dd = f.d := ⟨_, rfl⟩
          have RW5 := hid (owns_below FRo.out HBV.out)
          have HRN := hid HFN.out
          have HR24 := hid f24
          rw [← hV3] at HBV FB RW5 ⊢
          rw [← ha5, ← hd5, ← hrr] at RW5
          rw [← hrr] at HR24
          rw [← ha5, ← hd5, ← hrr, ← hdd] at FB
          have HMX2 := hid (show mixE s (f.r, f.d) = (rr, dd) by rw [HMX.out, hrr, hdd])
          have HRN2 := hid (show rr ≠ [] by rw [hrr]; exact HRN.out)
          clear HMX HRN hV3 ha5 hd5 hrr hdd hs2
          have HMX := HMX2
          have HRN := HRN2
          clear HMX2 HRN2
        all_goals
          obtain ⟨qb, qo, rfl, hrq⟩ := hd_cell (owns_at RW5.out) HRN.out
          have hposr : 0 < rr.length := List.length_pos_iff.2 HRN.out
          have hr24 : rr.length ≤ 24 := HR24.out
          have HFe := hid (kept HFr.out HBV.out)
          have y0 := cell_regrown (box_cell FB.out 0 (v := .slice (some ⟨qb, qo, none⟩) rr.length d5) rfl)
          have y1 := cell_regrown hrq
          have y2 := cell_regrown (box_cell HFe.out 0 (v := .slice (some ⟨rb, ro, none⟩) s.1.length c') rfl)
          have y3 := cell_regrown ((HBV.out.cell (p := ⟨rb, ro, none⟩) (block_lt_of_cell HRCr.out)).trans HRCr.out)
          rw [← HY.out] at y3
          have HVK2 := hid (show valsE gs ++ restE (s.1, strOfNums s.2) done ((rr, dd) :: (((valsE fs).drop (k + 1)).map (mixE s))) = learnE s (valsE fs) by
            have h1 := HV.out
            rw [HVK.out, List.map_cons, HMX.out] at h1
            exact h1)
          obtain ⟨X, hX⟩ : ∃ X, X = hd rr := ⟨_, rfl⟩
          rw [← hX] at y1
          have HX := hid hX
          have h3 : done = true ∨ (done = false ∧ Y < X) ∨ (done = false ∧ ¬ Y < X) := by
            cases done
            · by_cases h : Y < X
              · exact .inr (.inl ⟨rfl, h⟩)
              · exact .inr (.inr ⟨rfl, h⟩)
            · exact .inl rfl
          clear hrq hX HR24 HVK HMX
          rcases h3 with h3 | ⟨h3, hgt⟩ | ⟨h3, hgt⟩
          all_goals
            subst h3
            refine wp_region_quiet_below (by kernel_rfl) (by kernel_rfl) ?_
            repeat (first | go_big_quiet_step (fail) | quiet_step (fail))
            refine wpQuiet_nil ?_
            intro V4 hw'
            have hbq := of_class hw'
            clear hw' y0 y1 y2 y3
            replace FB := hid (kept FB.out hbq)
            replace RW5 := hid (owns_below RW5.out hbq)
            replace HBV := hid (u_cat HBV.out hbq)
            have HFe := hid (kept HFe.out hbq)
            have HO4 := hid (HO.out.below HBV.out)
            have HES4 := hid (owns_below (owns_below HES.out HBW.out) HBV.out)
            have hsv := HBV.out.size
            clear hbq
          case' inl =>
            repeat ((fail_if_success (with_reducible show Code.wp _ (Code.region 18 _ _) _ _ _)); (first | go_values | go_skip | go_guarded | go_step | go_upon | go_back | go_simp))
            obtain ⟨V5, hV5⟩ : ∃ V5, V5 = V4 := ⟨_, rfl⟩
            rw [← hV5] at FB RW5 HBV HO4 ⊢
            clear hV5 HES4 hsv
            have FB5 := hid FB.out
            have RW6 := hid RW5.out
            have HBG := hid (HBV.out.mono (show G ≤ wr.heap.size by omega))
            have HGL := hid hgl
            obtain ⟨gs5, b5, d6, HO5, HGL5, REST⟩ : ∃ gs5 b5 d6, Hid (OutIs V5 (w.heap.size + 2) G c n gs5 b5 d6) ∧ gs5.length ≤ fs.length + 2 ∧ Hid (valsE gs5 ++ (rr, dd) :: restE (s.1, strOfNums s.2) true (((valsE fs).drop (k + 1)).map (mixE s)) = learnE s (valsE fs)) := ⟨gs, b, d, HO4, by omega, by
              have h1 := HVK2.out
              rw [rest_done] at h1
              exact h1⟩
          case' inr.inl =>
            have p2 := box_cell HO4.out.blk 2 (v := .slice b gs.length d) rfl
            have p0 := box_cell HFe.out 0 (v := .slice (some ⟨rb, ro, none⟩) s.1.length c') rfl
            have p1 := box_cell HFe.out 1 (v := .string (strOfNums s.2)) rfl
            repeat ((fail_if_success (with_reducible show Code.wp _ (Code.region 18 _ _) _ _ _)); (first | (at_builtin; refine append_many 32 81 i1 _ 2 40 Tryz.underlying32 hj hj0 hj1 hj2 rfl (by omega) #[.slice (some ⟨rb, ro, none⟩) s.1.length c', .string (strOfNums s.2)] rfl _ _ rfl rfl rfl rfl rfl (by simp [Value.oneCell']) HO4.out.own (by omega) (by omega) (by omega) ?_; intro v' w7 o7 g7; obtain ⟨a7, c7, rfl, hg7, ho7, hb7, -, hk7, hr7⟩ := HO4.out.app ⟨some ⟨rb, ro, none⟩, c', s.1, strOfNums s.2⟩ (owns_base HES4.out (by omega)) o7 g7; have q0 := box_cell hg7 2 (v := .slice b gs.length d) rfl; have z0 := box_frozen hg7; have l0 := lt_of_block hg7; have HO7 := hid ho7; have HB7 := hid hb7; have HK7 := hid hk7; have HR7 := hid hr7; clear hg7 o7 g7 ho7 hb7 hk7 hr7) | go_values | go_skip | go_guarded | go_step | go_upon | go_back | go_simp))
            obtain ⟨V5, hV5⟩ : ∃ V5, V5 = w7.setCell ⟨G, 2, none⟩ (.slice a7 (gs.length + 1) c7) := ⟨_, rfl⟩
            rw [← hV5] at HO7 HB7 HK7 HR7 ⊢
            clear hV5 q0 z0 l0 p0 p1 p2
            have FB5 := hid (HK7.out _ _ FB.out (by omega) (fun e => by have := (HO.out.own.lt _ e).2; omega))
            have RW6 := hid (HR7.out _ _ _ _ RW5.out)
            have HBG := hid ((HBV.out.mono (show G ≤ wr.heap.size by omega)).trans HB7.out)
            have HGL := hid hgl
            obtain ⟨gs5, b5, d6, HO5, HGL5, REST⟩ : ∃ gs5 b5 d6, Hid (OutIs V5 (w.heap.size + 2) G c n gs5 b5 d6) ∧ gs5.length ≤ fs.length + 2 ∧ Hid (valsE gs5 ++ (rr, dd) :: restE (s.1, strOfNums s.2) true (((valsE fs).drop (k + 1)).map (mixE s)) = learnE s (valsE fs)) := ⟨_, _, _, HO7, by simp; omega, by
              have h1 := HVK2.out
              rw [rest_new (by show hd s.1 < hd rr; rw [← HX.out, ← HY.out]; exact hgt)] at h1
              rw [show ∀ (x : EqV), valsE (gs ++ [x]) = valsE gs ++ [(x.r, x.d)] from fun x => by simp [valsE], List.append_assoc]
              exact h1⟩
            clear HO7 HB7 HK7 HR7 hsv
          case' inr.inr =>
            repeat ((fail_if_success (with_reducible show Code.wp _ (Code.region 18 _ _) _ _ _)); (first | go_values | go_skip | go_guarded | go_step | go_upon | go_back | go_simp))
            obtain ⟨V5, hV5⟩ : ∃ V5, V5 = V4 := ⟨_, rfl⟩
            rw [← hV5] at FB RW5 HBV HO4 ⊢
            clear hV5 HES4 hsv
            have FB5 := hid FB.out
            have RW6 := hid RW5.out
            have HBG := hid (HBV.out.mono (show G ≤ wr.heap.size by omega))
            have HGL := hid hgl
            obtain ⟨gs5, b5, d6, HO5, HGL5, REST⟩ : ∃ gs5 b5 d6, Hid (OutIs V5 (w.heap.size + 2) G c n gs5 b5 d6) ∧ gs5.length ≤ fs.length + 2 ∧ Hid (valsE gs5 ++ (rr, dd) :: restE (s.1, strOfNums s.2) false (((valsE fs).drop (k + 1)).map (mixE s)) = learnE s (valsE fs)) := ⟨gs, b, d, HO4, by omega, by
              have h1 := HVK2.out
              rw [rest_old (by show ¬ hd s.1 < hd rr; rw [← HX.out, ← HY.out]; exact hgt)] at h1
              exact h1⟩
          all_goals
            clear FB RW5 HO4 HVK2 HGL hgl HFe
            have hG5 := HO5.out.lt
            have p2 := box_cell HO5.out.blk 2 (v := .slice b5 gs5.length d6) rfl
            have p0 := box_cell FB5.out 0 (v := .slice (some ⟨qb, qo, none⟩) rr.length d5) rfl
            have p1 := box_cell FB5.out 1 (v := .string dd) rfl
            go_wp2_with (at_builtin; refine append_many 32 81 i1 _ 2 40 Tryz.underlying32 hj hj0 hj1 hj2 rfl (by omega) #[.slice (some ⟨qb, qo, none⟩) rr.length d5, .string dd] rfl _ _ rfl rfl rfl rfl rfl (by simp [Value.oneCell']) HO5.out.own hG5 (by omega) (by omega) ?_; intro v' w8 o8 g8; obtain ⟨a8, c8, rfl, hg8, ho8, hb8, -, -, -⟩ := HO5.out.app ⟨some ⟨qb, qo, none⟩, d5, rr, dd⟩ RW6.out o8 g8; have q0 := box_cell hg8 2 (v := .slice b5 gs5.length d6) rfl; have z0 := box_frozen hg8; have l0 := lt_of_block hg8; have HO8 := hid ho8; have HB8 := hid hb8; clear hg8 o8 g8 ho8 hb8)
            go_roundw
            case rel =>
              refine ⟨k + 1, _, _, a8, c8, by omega, by go_num, rfl, ?_, HO8.out, ?_⟩
              · rw [show ∀ (x : EqV), valsE (gs5 ++ [x]) = valsE gs5 ++ [(x.r, x.d)] from fun x => by simp [valsE], List.append_assoc]
                exact REST.out
              · exact (((HBW.out.mono (by rw [← HG.out]; exact Nat.le_refl _))).trans HBG.out).trans HB8.out
            case measure => simp [intOf]; omega
      · have hlt1 : decide ((k : Int) < fs.length) = false := by simp; omega
        have hkl : k = fs.length := by omega
        have HVE := hid (show valsE gs ++ restE (s.1, strOfNums s.2) done [] = learnE s (valsE fs) by
          have h1 := HV.out
          rw [show (valsE fs).drop k = [] from List.drop_of_length_le (by simp [valsE]; omega)] at h1
          exact h1)
        have q2 := box_cell (kept X9.out HBW.out) 2 (v := .slice a3 fs.length c3) rfl
        have HLV := hid (show learnE s (valsE fs) = learnE (es.foldl stepE (row, dn)) (valsE es) by rw [HSS.out, vals_same.2 HSAM.out])
        have HBR := hid (show Below (w.heap.size + 2) W4 wr from HBW.out.mono (by omega))
        clear HV
        cases done
        case' true =>
          obtain ⟨gs5, b5, d6, HO5, HGL5, REST⟩ : ∃ gs5 b5 d6, Hid (OutIs wr (w.heap.size + 2) G c n gs5 b5 d6) ∧ gs5.length ≤ fs.length + 2 ∧ Hid (valsE gs5 = learnE s (valsE fs)) := ⟨gs, b, d, HO, by omega, by
            have h1 := HVE.out
            rw [show restE (s.1, strOfNums s.2) true [] = [] from rfl, List.append_nil] at h1
            exact h1⟩
          repeat ((fail_if_success (with_reducible show Code.wp _ (Code.region 21 _ _) _ _ _)); (first | go_values | go_skip | go_guarded | go_step | go_upon | go_back | go_simp))
          obtain ⟨V5, hV5⟩ : ∃ V5, V5 = wr := ⟨_, rfl⟩
          have HBG := hid (show Below (w.heap.size + 2) wr V5 by rw [hV5]; exact Below.refl _ _)
          rw [← hV5] at HO5 ⊢
          clear hV5
        case' false =>
          have hes4 := owns_below HES.out HBW.out
          have HES4 := hid hes4
          have HFe := hid (kept HF4.out HBW.out)
          have p2 := box_cell HO.out.blk 2 (v := .slice b gs.length d) rfl
          have p0 := box_cell HFe.out 0 (v := .slice (some ⟨rb, ro, none⟩) s.1.length c') rfl
          have p1 := box_cell HFe.out 1 (v := .string (strOfNums s.2)) rfl
          clear hes4
          repeat ((fail_if_success (with_reducible show Code.wp _ (Code.region 21 _ _) _ _ _)); (first | (at_builtin; refine append_many 32 81 i1 _ 2 40 Tryz.underlying32 hj hj0 hj1 hj2 rfl (by omega) #[.slice (some ⟨rb, ro, none⟩) s.1.length c', .string (strOfNums s.2)] rfl _ _ rfl rfl rfl rfl rfl (by simp [Value.oneCell']) HO.out.own (by omega) (by omega) (by omega) ?_; intro v' w7 o7 g7; obtain ⟨a7, c7, rfl, hg7, ho7, hb7, -, -, -⟩ := HO.out.app ⟨some ⟨rb, ro, none⟩, c', s.1, strOfNums s.2⟩ (owns_base HES4.out (by omega)) o7 g7; have q0 := box_cell hg7 2 (v := .slice b gs.length d) rfl; have z0 := box_frozen hg7; have l0 := lt_of_block hg7; have HO7 := hid ho7; have HB7 := hid hb7; clear hg7 o7 g7 ho7 hb7) | go_values | go_skip | go_guarded | go_step | go_upon | go_back | go_simp))
          obtain ⟨V5, hV5⟩ : ∃ V5, V5 = w7.setCell ⟨G, 2, none⟩ (.slice a7 (gs.length + 1) c7) := ⟨_, rfl⟩
          rw [← hV5] at HO7 HB7 ⊢
          clear hV5 q0 z0 l0 p0 p1 p2
          have HBG := hid (show Below (w.heap.size + 2) wr V5 from HB7.out.mono hG2)
          obtain ⟨gs5, b5, d6, HO5, HGL5, REST⟩ : ∃ gs5 b5 d6, Hid (OutIs V5 (w.heap.size + 2) G c n gs5 b5 d6) ∧ gs5.length ≤ fs.length + 2 ∧ Hid (valsE gs5 = learnE s (valsE fs)) := ⟨_, _, _, HO7, by simp; omega, by
            have h1 := HVE.out
            rw [show ∀ (x : EqV), valsE (gs ++ [x]) = valsE gs ++ [(x.r, x.d)] from fun x => by simp [valsE]]
            exact h1⟩
          clear HO7 HB7 HES4 HFe
        all_goals
          have X1b := hid ((HBG.out.block _ (by omega)).trans ((HBR.out.block _ (by omega)).trans X1.out))
          have p0 := box_cell HO5.out.blk 0 (v := .int .i64 c) rfl
          have p1 := box_cell HO5.out.blk 1 (v := .int .i64 (n : Int)) rfl
          have p2 := box_cell HO5.out.blk 2 (v := .slice b5 gs5.length d6) rfl
          have r0 := box_cell X1b.out 0 (v := .int .i64 0) rfl
          have r1 := box_cell X1b.out 1 (v := .int .i64 0) rfl
          have r2 := box_cell X1b.out 2 (v := .slice none 0 0) rfl
          have z0 := box_frozen X1b.out
          have l0 := lt_of_block X1b.out
          have S5 := set_block (set_block (set_block X1b.out 0 (.int .i64 c)) 1 (.int .i64 (n : Int))) 2 (.slice b5 gs5.length d6)
          have x0 := box_cell S5 0 (v := .int .i64 c) (by simp)
          have x1 := box_cell S5 1 (v := .int .i64 (n : Int)) (by simp)
          have x2 := box_cell S5 2 (v := .slice b5 gs5.length d6) (by simp)
          clear S5 q2
          go_wp2_with fail
          refine bodyPost_ret (v := .tuple #[.agg #[.int .i64 c, .int .i64 (n : Int), .slice b5 gs5.length d6], .int .i64 0]) ?_ rfl ⟨b5, d6, gs5, rfl, ?_, ?_, ?_, ?_⟩
          · simp [results, Tryz.results16, go_sem, x0, x1, x2]
          · refine Touch.owns (Touch.setCell _ ⟨_, _, _⟩ _) (Touch.owns (Touch.setCell _ ⟨_, _, _⟩ _) (Touch.owns (Touch.setCell _ ⟨_, _, _⟩ _) (owns_base HO5.out.own (by omega)) ?_) ?_) ?_ <;> (simp only []; omega)
          · rw [REST.out, HLV.out]
          · refine RowsOwn.set (RowsOwn.set (RowsOwn.set HO5.out.rows ?_ _ _) ?_ _ _) ?_ _ _ <;> omega
          · have b9 : Below w.heap.size w V5 := (HB4.out.trans (HBR.out.mono (by omega))).trans (HBG.out.mono (by omega))
            refine u_set (u_set (u_set b9 ?_ _ _) ?_ _ _) ?_ _ _ <;> omega
end Go.Proofs.YtegldmdcdnnegaaGreatDoor
