/- An equation learnt by the model: where nothing of its row is left. -/
import Derived.Test.YtegldmdcdnnegaaGreatDoorG34
import Derived.Test.YtegldmdcdnnegaaGreatDoorG12
import Derived.Test.YtegldmdcdnnegaaGreatDoorG16
import Derived.Deep.Cut
namespace Go.Proofs.YtegldmdcdnnegaaGreatDoor
open Go.ChangeShapes Go.WideShapes Go.ChangeAt Go.RowKit Go.Sort Go.Shelf
attribute [local go_sem] Oper.semAt_some

theorem fold_bytes {es : List EqV} : ∀ {s : List Int × List Int}, BytesL s.2 → BytesL (es.foldl stepE s).2 := by
  induction es with
  | nil => intro s h; exact h
  | cons e es ih => intro s h; exact ih (stepE_bytes h)
theorem text_inj {xs ys : List Int} (hx : BytesL xs) (hy : BytesL ys) (h : (strOfNums xs).toList = (strOfNums ys).toList) : xs = ys := by
  rw [ByteArray.toList_eq, ByteArray.toList_eq] at h
  have h2 : strOfNums xs = strOfNums ys := ByteArray.ext (Array.toList_inj.1 h)
  rw [← nums_str hx, ← nums_str hy, h2]

set_option maxHeartbeats 16000000 in
set_option maxRecDepth 100000 in
theorem l3Add_known (a : Option Addr) (cap : Nat) (es : List EqV) (c : Int) (n : Nat) (ar : Option Addr) (cr : Nat) (row dn : List Int) (w : World) (ha : EqsAt w a es) (hl : es.length ≤ 1048576) (hsm : SmallE es) (hcap : ∀ e ∈ es, e.a = none → e.c = 0) (hok : OkRows es n) (hn : n ≤ 1000) (hrow : IntsAt w ar row) (hasc : ascB (-1) 24 row = true) (hcr : ar = none → cr = 0) (hdn : dn.length = n) (hdb : BytesL dn)
    (hnil : (es.foldl stepE (row, dn)).1 = []) :
    Calls Tryz.prog 16 #[.agg #[.int .i64 c, .int .i64 (n : Int), .slice a es.length cap], .slice ar row.length cr, .string (strOfNums dn)] w fun e w' => ∃ a' c' fs, e = .returned (.tuple #[.agg #[.int .i64 c, .int .i64 (n : Int), .slice a' fs.length c'], .int .i64 (codeK (es.foldl stepE (row, dn)).2 n)]) ∧
      w'.ownsRow (w.heap.size + 2) 81 2 (.slice a' fs.length c') fs.length (eqCells fs) ∧ SamV fs es ∧ RowsOwn w' (w.heap.size + 2) fs ∧ Below w.heap.size w w' := by
  have h24 := asc_len24 hasc
  have HA := hid ha
  have HR := hid hrow
  have HN := hid (show ar = none → row.length = 0 ∧ cr = 0 from fun h => ⟨none_len hrow h, hcr h⟩)
  have KL := hid (fun a5 d5 V h1 h2 => l3Less_any a cap es c n a5 d5 row dn n V h1 hok hl h2 hasc hdn hdb hn)
  have KC := hid (fun V h1 => l3Copy_any a cap es c n V h1 hl hsm hcap)
  have HNIL := hid hnil
  have HDB := hid hdb
  clear ha hsm hcap hok hrow hasc hcr hdn hdb hnil
  obtain ⟨i0, hi, hz0, hz1, hz2⟩ := info_parts Tryz.info3
  go_enter Tryz.func16, Tryz.ntmps16
  repeat ((fail_if_success (with_reducible show Code.wp _ (Code.region 1 _ _) _ _ _)); (first | go_values | go_skip | go_guarded | go_step | go_upon | go_back | go_simp))
  obtain ⟨W0, hW0⟩ : ∃ W0, W0 = (w.alloc (.cells #[.int .i64 c, .int .i64 (n : Int), .slice a es.length cap] 34)).alloc (.cells #[.int .i64 0, .int .i64 0, .slice none 0 0] 34) := ⟨_, rfl⟩
  obtain ⟨X0, X1, B0⟩ := u_box2 (w := w) (c := #[.int .i64 c, .int .i64 (n : Int), .slice a es.length cap]) (t := 34) (d := #[.int .i64 0, .int .i64 0, .slice none 0 0]) (s := 34) (w1 := W0) (by rw [hW0]; exact Below.refl _ _)
  have hs0 : W0.heap.size = w.heap.size + 2 := by rw [hW0]; simp
  rw [← hW0]
  clear hW0
  have HX0 := hid X0
  have HX1 := hid X1
  have HB := hid B0
  clear X0 X1 B0
  have y0 := cell_regrown (box_cell HX0.out 0 (v := .int .i64 c) rfl)
  have y1 := cell_regrown (box_cell HX0.out 1 (v := .int .i64 (n : Int)) rfl)
  have y2 := cell_regrown (box_cell HX0.out 2 (v := .slice a es.length cap) rfl)
  go_cut [8] from 14 (fun s8 W => ∃ g a' c' s, s8 = .pointer (some ⟨g, 0, none⟩) ∧ W0.heap.size ≤ g ∧ W.heap[g]? = some (.cells #[.slice a' s.1.length c', .string (strOfNums s.2)] 81 (0, 0)) ∧ s = es.foldl stepE (row, dn) ∧ W.ownsRow W0.heap.size 3 1 (.slice a' s.1.length c') s.1.length (s.1.map (Value.int .i64)) ∧ Below W0.heap.size W0 W)
  case first =>
    refine wp_float 8 7 _ [(0, 1), (2, 1), (4, 1)] [(1, 1), (3, 1), (5, 2)] [(8, 1)] (by kernel_rfl) rfl (by kernel_rfl) (fun _ _ d _ _ h => by cases d <;> exact h) ?_
    simp only [cutOut, List.take_succ_cons, List.take_zero, List.drop_succ_cons, List.drop_zero, List.nil_append, List.cons_append, List.append_nil]
    repeat (first | go_big_quiet_step (fail) | quiet_step (fail))
    refine wpQuiet_nil ?_
    intro V0 hw'
    have HCV0 := hid (of_class hw')
    clear hw' y0 y1 y2
    refine wpRestF_step (fun K hK => ?_) ?_
    · go_simp
      refine hK _ _ (class_of (HCV0.out.trans ((u_b1 _ _).mono HCV0.out.size))) ?_
      clear hK K
      obtain ⟨V1, hV1⟩ : ∃ V1, V1 = V0.alloc (.cells #[] 3) := ⟨_, rfl⟩
      rw [← hV1]
      have bV1 : Below V0.heap.size V0 V1 := by rw [hV1]; exact u_b1 _ _
      have OW := hid (show V1.ownsRow V0.heap.size 3 1 (.slice (some ⟨V0.heap.size, 0, none⟩) 0 0) 0 [] by rw [hV1]; exact World.ownsRow_lit V0 #[] 0 (Nat.le_refl _) (Nat.zero_le _) rfl)
      have hzV1 : W0.heap.size ≤ V0.heap.size ∧ V0.heap.size < V1.heap.size := ⟨HCV0.out.size, by rw [hV1]; simp⟩
      clear hV1
      have HCV1 := hid (HCV0.out.trans (bV1.mono HCV0.out.size))
      clear bV1
      refine wpRestF_step (fun K hK => ?_) ?_
      · refine step_append_row 22 3 i0 _ 8 Tryz.underlying22 hi hz0 hz1 hz2 rfl _ _ rfl rfl rfl ar row.length cr (row.map (Value.int .i64)) rfl (by simp) HN.out OW.out (fun ad had => row_news (HR.out.below (u_cat HB.out HCV1.out)) had) row_ones (by omega) (by omega) (by omega) ?_
        intro v' V2 o5 g5
        rw [Nat.zero_add, List.nil_append] at o5
        obtain ⟨a5, d5, rfl⟩ := owns_slice o5
        have HCV2 := hid (HCV1.out.trans ((grown_base g5 OW.out (by omega)).mono (by omega)))
        refine hK _ _ (class_of HCV2.out) ?_
        clear hK K
        have hzV2 : V1.heap.size ≤ V2.heap.size := g5.size
        have HIA := hid (owns_base o5 (show W0.heap.size ≤ V0.heap.size by omega))
        clear g5 OW o5
        refine wpRestF_step (fun K hK => ?_) ?_
        · go_simp
          refine hK _ _ (class_of HCV2.out) ?_
          clear hK K
          refine wpRestF_step (fun K hK => ?_) ?_
          · go_simp
            with_reducible refine (KL.out a5 d5 V2 (HA.out.below (u_cat HB.out HCV2.out)) (owns_at HIA.out)).mono ?_
            rintro _ V3 ⟨a', c', s, hs, rfl, -, ho, bV3⟩
            have HSS := hid hs
            have HOS := hid (ho W0.heap.size (by omega) HIA.out)
            have HCV3 := hid (HCV2.out.trans (bV3.mono HCV2.out.size))
            refine hK _ _ (class_of HCV3.out) ?_
            clear hK K hs HIA ho
            have hzV3 := bV3.size
            clear bV3
            refine wpRestF_nil ?_
            refine wpRest_step (fun K hK => ?_)
            go_simp
            refine hK _ _ (class_of (HCV3.out.trans ((u_b1 _ _).mono HCV3.out.size))) ?_
            clear hK K
            obtain ⟨V4, hV4⟩ : ∃ V4, V4 = V3.alloc (.cells #[.slice none 0 0, .string ⟨#[]⟩] 81) := ⟨_, rfl⟩
            rw [← hV4]
            have bV4 : Below V3.heap.size V3 V4 := by rw [hV4]; exact u_b1 _ _
            have G := hid (show V4.heap[V3.heap.size]? = some (.cells #[.slice none 0 0, .string ⟨#[]⟩] 81 (0, 0)) by rw [hV4]; exact laid V3 _ _)
            have hzV4 : W0.heap.size ≤ V3.heap.size ∧ V3.heap.size < V4.heap.size := ⟨HCV3.out.size, by rw [hV4]; simp⟩
            clear hV4
            have HCV4 := hid (HCV3.out.trans (bV4.mono HCV3.out.size))
            replace HOS := hid (owns_below HOS.out bV4)
            clear bV4
            have g0 := box_cell G.out 0 (v := .slice none 0 0) rfl
            have g1 := box_cell G.out 1 (v := .string ⟨#[]⟩) rfl
            have gz := box_frozen G.out
            have gl := lt_of_block G.out
            have S' := hid (set_block (set_block G.out 0 (.slice a' s.1.length c')) 1 (.string (strOfNums s.2)))
            have hgw : W0.heap.size ≤ V3.heap.size := by omega
            go_wp2_with fail
            refine .inl ?_
            go_simp
            go_wp2_with fail
            go_meet
            case rel => exact ⟨V3.heap.size, a', c', s, rfl, hgw, S'.out, HSS.out, own_set_kind (set_block G.out 0 _) (own_set_kind G.out HOS.out (by decide)) (by decide), u_set (u_set HCV4.out hgw _ _) hgw _ _⟩
          · simp only [List.cons_append, List.nil_append]
            refine wpRest_step (fun K hK => ?_)
            go_simp
            refine hK _ _ (class_of (HCV2.out.trans ((u_b1 _ _).mono HCV2.out.size))) ?_
            clear hK K
            obtain ⟨V3, hV3⟩ : ∃ V3, V3 = V2.alloc (.cells #[.slice none 0 0, .string ⟨#[]⟩] 81) := ⟨_, rfl⟩
            rw [← hV3]
            have bV3 : Below V2.heap.size V2 V3 := by rw [hV3]; exact u_b1 _ _
            have G := hid (show V3.heap[V2.heap.size]? = some (.cells #[.slice none 0 0, .string ⟨#[]⟩] 81 (0, 0)) by rw [hV3]; exact laid V2 _ _)
            have hzV3 : W0.heap.size ≤ V2.heap.size ∧ V2.heap.size < V3.heap.size := ⟨HCV2.out.size, by rw [hV3]; simp⟩
            clear hV3
            have HCV3 := hid (HCV2.out.trans (bV3.mono HCV2.out.size))
            replace HIA := hid (owns_below HIA.out bV3)
            clear bV3
            refine wpRest_step (fun K hK => ?_)
            go_simp
            with_reducible refine (KL.out a5 d5 V3 (HA.out.below (u_cat HB.out HCV3.out)) (owns_at HIA.out)).mono ?_
            rintro _ V4 ⟨a', c', s, hs, rfl, -, ho, bV4⟩
            have HSS := hid hs
            have HOS := hid (ho W0.heap.size (by omega) HIA.out)
            have HCV4 := hid (HCV3.out.trans (bV4.mono HCV3.out.size))
            refine hK _ _ (class_of HCV4.out) ?_
            clear hK K hs HIA ho
            have hzV4 := bV4.size
            replace G := hid (kept G.out bV4)
            clear bV4
            have g0 := box_cell G.out 0 (v := .slice none 0 0) rfl
            have g1 := box_cell G.out 1 (v := .string ⟨#[]⟩) rfl
            have gz := box_frozen G.out
            have gl := lt_of_block G.out
            have S' := hid (set_block (set_block G.out 0 (.slice a' s.1.length c')) 1 (.string (strOfNums s.2)))
            have hgw : W0.heap.size ≤ V2.heap.size := by omega
            go_wp2_with fail
            refine .inl ?_
            go_simp
            go_wp2_with fail
            go_meet
            case rel => exact ⟨V2.heap.size, a', c', s, rfl, hgw, S'.out, HSS.out, own_set_kind (set_block G.out 0 _) (own_set_kind G.out HOS.out (by decide)) (by decide), u_set (u_set HCV4.out hgw _ _) hgw _ _⟩
        · simp only [List.cons_append, List.nil_append]
          refine wpRest_step (fun K hK => ?_)
          go_simp
          refine hK _ _ (class_of (HCV2.out.trans ((u_b1 _ _).mono HCV2.out.size))) ?_
          clear hK K
          obtain ⟨V3, hV3⟩ : ∃ V3, V3 = V2.alloc (.cells #[.slice none 0 0, .string ⟨#[]⟩] 81) := ⟨_, rfl⟩
          rw [← hV3]
          have bV3 : Below V2.heap.size V2 V3 := by rw [hV3]; exact u_b1 _ _
          have G := hid (show V3.heap[V2.heap.size]? = some (.cells #[.slice none 0 0, .string ⟨#[]⟩] 81 (0, 0)) by rw [hV3]; exact laid V2 _ _)
          have hzV3 : W0.heap.size ≤ V2.heap.size ∧ V2.heap.size < V3.heap.size := ⟨HCV2.out.size, by rw [hV3]; simp⟩
          clear hV3
          have HCV3 := hid (HCV2.out.trans (bV3.mono HCV2.out.size))
          replace HIA := hid (owns_below HIA.out bV3)
          clear bV3
          refine wpRest_step (fun K hK => ?_)
          go_simp
          refine hK _ _ (class_of HCV3.out) ?_
          clear hK K
          refine wpRest_step (fun K hK => ?_)
          go_simp
          with_reducible refine (KL.out a5 d5 V3 (HA.out.below (u_cat HB.out HCV3.out)) (owns_at HIA.out)).mono ?_
          rintro _ V4 ⟨a', c', s, hs, rfl, -, ho, bV4⟩
          have HSS := hid hs
          have HOS := hid (ho W0.heap.size (by omega) HIA.out)
          have HCV4 := hid (HCV3.out.trans (bV4.mono HCV3.out.size))
          refine hK _ _ (class_of HCV4.out) ?_
          clear hK K hs HIA ho
          have hzV4 := bV4.size
          replace G := hid (kept G.out bV4)
          clear bV4
          have g0 := box_cell G.out 0 (v := .slice none 0 0) rfl
          have g1 := box_cell G.out 1 (v := .string ⟨#[]⟩) rfl
          have gz := box_frozen G.out
          have gl := lt_of_block G.out
          have S' := hid (set_block (set_block G.out 0 (.slice a' s.1.length c')) 1 (.string (strOfNums s.2)))
          have hgw : W0.heap.size ≤ V2.heap.size := by omega
          go_wp2_with fail
          refine .inl ?_
          go_simp
          go_wp2_with fail
          go_meet
          case rel => exact ⟨V2.heap.size, a', c', s, rfl, hgw, S'.out, HSS.out, own_set_kind (set_block G.out 0 _) (own_set_kind G.out HOS.out (by decide)) (by decide), u_set (u_set HCV4.out hgw _ _) hgw _ _⟩
      · simp only [List.cons_append, List.nil_append]
        refine wpRest_step (fun K hK => ?_)
        go_simp
        refine hK _ _ (class_of (HCV1.out.trans ((u_b1 _ _).mono HCV1.out.size))) ?_
        clear hK K
        obtain ⟨V2, hV2⟩ : ∃ V2, V2 = V1.alloc (.cells #[.slice none 0 0, .string ⟨#[]⟩] 81) := ⟨_, rfl⟩
        rw [← hV2]
        have bV2 : Below V1.heap.size V1 V2 := by rw [hV2]; exact u_b1 _ _
        have G := hid (show V2.heap[V1.heap.size]? = some (.cells #[.slice none 0 0, .string ⟨#[]⟩] 81 (0, 0)) by rw [hV2]; exact laid V1 _ _)
        have hzV2 : W0.heap.size ≤ V1.heap.size ∧ V1.heap.size < V2.heap.size := ⟨HCV1.out.size, by rw [hV2]; simp⟩
        clear hV2
        have HCV2 := hid (HCV1.out.trans (bV2.mono HCV1.out.size))
        replace OW := hid (owns_below OW.out bV2)
        clear bV2
        refine wpRest_step (fun K hK => ?_)
        refine step_append_row 22 3 i0 _ 8 Tryz.underlying22 hi hz0 hz1 hz2 rfl _ _ rfl rfl rfl ar row.length cr (row.map (Value.int .i64)) rfl (by simp) HN.out OW.out (fun ad had => row_news (HR.out.below (u_cat HB.out HCV2.out)) had) row_ones (by omega) (by omega) (by omega) ?_
        intro v' V3 o5 g5
        rw [Nat.zero_add, List.nil_append] at o5
        obtain ⟨a5, d5, rfl⟩ := owns_slice o5
        have HCV3 := hid (HCV2.out.trans ((grown_base g5 OW.out (by omega)).mono (by omega)))
        refine hK _ _ (class_of HCV3.out) ?_
        clear hK K
        have hzV3 : V2.heap.size ≤ V3.heap.size := g5.size
        have HIA := hid (owns_base o5 (show W0.heap.size ≤ V0.heap.size by omega))
        replace G := hid ((g5.block _ (lt_of_block G.out) (by intro h; have h2 : V0.heap.size = V1.heap.size := (Option.some.inj h).symm ▸ rfl; omega)).trans G.out)
        clear g5 OW o5
        refine wpRest_step (fun K hK => ?_)
        go_simp
        refine hK _ _ (class_of HCV3.out) ?_
        clear hK K
        refine wpRest_step (fun K hK => ?_)
        go_simp
        with_reducible refine (KL.out a5 d5 V3 (HA.out.below (u_cat HB.out HCV3.out)) (owns_at HIA.out)).mono ?_
        rintro _ V4 ⟨a', c', s, hs, rfl, -, ho, bV4⟩
        have HSS := hid hs
        have HOS := hid (ho W0.heap.size (by omega) HIA.out)
        have HCV4 := hid (HCV3.out.trans (bV4.mono HCV3.out.size))
        refine hK _ _ (class_of HCV4.out) ?_
        clear hK K hs HIA ho
        have hzV4 := bV4.size
        replace G := hid (kept G.out bV4)
        clear bV4
        have g0 := box_cell G.out 0 (v := .slice none 0 0) rfl
        have g1 := box_cell G.out 1 (v := .string ⟨#[]⟩) rfl
        have gz := box_frozen G.out
        have gl := lt_of_block G.out
        have S' := hid (set_block (set_block G.out 0 (.slice a' s.1.length c')) 1 (.string (strOfNums s.2)))
        have hgw : W0.heap.size ≤ V1.heap.size := by omega
        go_wp2_with fail
        refine .inl ?_
        go_simp
        go_wp2_with fail
        go_meet
        case rel => exact ⟨V1.heap.size, a', c', s, rfl, hgw, S'.out, HSS.out, own_set_kind (set_block G.out 0 _) (own_set_kind G.out HOS.out (by decide)) (by decide), u_set (u_set HCV4.out hgw _ _) hgw _ _⟩
    · simp only [List.cons_append, List.nil_append]
      refine wpRest_step (fun K hK => ?_)
      go_simp
      refine hK _ _ (class_of (HCV0.out.trans ((u_b1 _ _).mono HCV0.out.size))) ?_
      clear hK K
      obtain ⟨V1, hV1⟩ : ∃ V1, V1 = V0.alloc (.cells #[.slice none 0 0, .string ⟨#[]⟩] 81) := ⟨_, rfl⟩
      rw [← hV1]
      have bV1 : Below V0.heap.size V0 V1 := by rw [hV1]; exact u_b1 _ _
      have G := hid (show V1.heap[V0.heap.size]? = some (.cells #[.slice none 0 0, .string ⟨#[]⟩] 81 (0, 0)) by rw [hV1]; exact laid V0 _ _)
      have hzV1 : W0.heap.size ≤ V0.heap.size ∧ V0.heap.size < V1.heap.size := ⟨HCV0.out.size, by rw [hV1]; simp⟩
      clear hV1
      have HCV1 := hid (HCV0.out.trans (bV1.mono HCV0.out.size))
      clear bV1
      refine wpRest_step (fun K hK => ?_)
      go_simp
      refine hK _ _ (class_of (HCV1.out.trans ((u_b1 _ _).mono HCV1.out.size))) ?_
      clear hK K
      obtain ⟨V2, hV2⟩ : ∃ V2, V2 = V1.alloc (.cells #[] 3) := ⟨_, rfl⟩
      rw [← hV2]
      have bV2 : Below V1.heap.size V1 V2 := by rw [hV2]; exact u_b1 _ _
      have OW := hid (show V2.ownsRow V1.heap.size 3 1 (.slice (some ⟨V1.heap.size, 0, none⟩) 0 0) 0 [] by rw [hV2]; exact World.ownsRow_lit V1 #[] 0 (Nat.le_refl _) (Nat.zero_le _) rfl)
      have hzV2 : W0.heap.size ≤ V1.heap.size ∧ V1.heap.size < V2.heap.size := ⟨HCV1.out.size, by rw [hV2]; simp⟩
      clear hV2
      have HCV2 := hid (HCV1.out.trans (bV2.mono HCV1.out.size))
      have hg := lt_of_block G.out
      replace G := hid (kept G.out bV2)
      clear bV2
      refine wpRest_step (fun K hK => ?_)
      refine step_append_row 22 3 i0 _ 8 Tryz.underlying22 hi hz0 hz1 hz2 rfl _ _ rfl rfl rfl ar row.length cr (row.map (Value.int .i64)) rfl (by simp) HN.out OW.out (fun ad had => row_news (HR.out.below (u_cat HB.out HCV2.out)) had) row_ones (by omega) (by omega) (by omega) ?_
      intro v' V3 o5 g5
      rw [Nat.zero_add, List.nil_append] at o5
      obtain ⟨a5, d5, rfl⟩ := owns_slice o5
      have HCV3 := hid (HCV2.out.trans ((grown_base g5 OW.out (by omega)).mono (by omega)))
      refine hK _ _ (class_of HCV3.out) ?_
      clear hK K
      have hzV3 : V2.heap.size ≤ V3.heap.size := g5.size
      have HIA := hid (owns_base o5 (show W0.heap.size ≤ V1.heap.size by omega))
      replace G := hid ((g5.block _ (lt_of_block G.out) (by intro h; have h2 : V1.heap.size = V0.heap.size := (Option.some.inj h).symm ▸ rfl; omega)).trans G.out)
      clear g5 OW o5
      refine wpRest_step (fun K hK => ?_)
      go_simp
      refine hK _ _ (class_of HCV3.out) ?_
      clear hK K
      refine wpRest_step (fun K hK => ?_)
      go_simp
      with_reducible refine (KL.out a5 d5 V3 (HA.out.below (u_cat HB.out HCV3.out)) (owns_at HIA.out)).mono ?_
      rintro _ V4 ⟨a', c', s, hs, rfl, -, ho, bV4⟩
      have HSS := hid hs
      have HOS := hid (ho W0.heap.size (by omega) HIA.out)
      have HCV4 := hid (HCV3.out.trans (bV4.mono HCV3.out.size))
      refine hK _ _ (class_of HCV4.out) ?_
      clear hK K hs HIA ho
      have hzV4 := bV4.size
      replace G := hid (kept G.out bV4)
      clear bV4
      have g0 := box_cell G.out 0 (v := .slice none 0 0) rfl
      have g1 := box_cell G.out 1 (v := .string ⟨#[]⟩) rfl
      have gz := box_frozen G.out
      have gl := lt_of_block G.out
      have S' := hid (set_block (set_block G.out 0 (.slice a' s.1.length c')) 1 (.string (strOfNums s.2)))
      have hgw : W0.heap.size ≤ V0.heap.size := by omega
      go_wp2_with fail
      refine .inl ?_
      go_simp
      go_wp2_with fail
      go_meet
      case rel => exact ⟨V0.heap.size, a', c', s, rfl, hgw, S'.out, HSS.out, own_set_kind (set_block G.out 0 _) (own_set_kind G.out HOS.out (by decide)) (by decide), u_set (u_set HCV4.out hgw _ _) hgw _ _⟩
  case rest =>
    obtain ⟨g, a', c', s, rfl, hg, F, hs, ho, bc⟩ := hcut
    have HSS := hid hs
    have HF := hid F
    have HOS := hid ho
    have HBC := hid bc
    have HN2 := hid (show s.1 = [] by rw [hs]; exact HNIL.out)
    clear y0 y1 y2 hs F ho bc
    have p0 := box_cell (kept HX0.out HBC.out) 0 (v := .int .i64 c) rfl
    have p1 := box_cell (kept HX0.out HBC.out) 1 (v := .int .i64 (n : Int)) rfl
    have p2 := box_cell (kept HX0.out HBC.out) 2 (v := .slice a es.length cap) rfl
    have hgl := lt_of_block HF.out
    have HB2 := hid (u_cat HB.out HBC.out)
    have HX02 := hid (kept HX0.out HBC.out)
    have HX12 := hid (kept HX1.out HBC.out)
    clear HX0 HX1 HB
    go_wp2_with fail
    refine (KC.out wc (HA.out.below HB2.out)).mono ?_
    rintro _ w3 ⟨a3, c3, fs, rfl, oe, hsam, hro, b3⟩
    clear p0 p1 p2
    repeat ((fail_if_success (with_reducible show Code.wp _ (Code.region 3 _ _) _ _ _)); (first | go_values | go_skip | go_guarded | go_step | go_upon | go_back | go_simp))
    obtain ⟨W4, hW4⟩ : ∃ W4, W4 = w3.alloc (.cells #[.int .i64 c, .int .i64 (n : Int), .slice a3 fs.length c3] 34) := ⟨_, rfl⟩
    have b4 : Below w3.heap.size w3 W4 := by rw [hW4]; exact u_b1 _ _
    have X9 := hid (show W4.heap[w3.heap.size]? = some (.cells #[.int .i64 c, .int .i64 (n : Int), .slice a3 fs.length c3] 34 (0, 0)) by rw [hW4]; exact laid w3 _ _)
    rw [← hW4]
    clear hW4
    have bb := u_cat b3 b4
    have HF4 := hid (kept HF.out bb)
    have X0 := hid (kept HX02.out bb)
    have X1 := hid (kept HX12.out bb)
    have HB4 := hid (u_cat HB2.out bb)
    have HSAM := hid hsam
    have HOE := hid (owns_base (owns_below oe b4) (show w.heap.size + 2 ≤ wc.heap.size + 3 by have := HBC.out.size; omega))
    have HRO := hid ((hro.below b4).mono (show w.heap.size + 2 ≤ wc.heap.size + 3 by have := HBC.out.size; omega))
    clear b3 b4 bb oe hsam hro HF HX02 HX12 HB2 HBC HOS
    have t1 : ((s.1.length : Int) == 0) = true := by simp [HN2.out]
    have f0 := box_cell HF4.out 0 (v := .slice a' s.1.length c') rfl
    go_wp2_with fail
    clear f0
    have y1 := cell_regrown (box_cell X0.out 1 (v := .int .i64 (n : Int)) rfl)
    have f1 := cell_regrown (box_cell HF4.out 1 (v := .string (strOfNums s.2)) rfl)
    have KZ := hid (rg (w := W4) (fun w' _ => l3Zero_any n w' (by omega)))
    rw [rep_zero] at KZ
    refine wp_region_quiet_below (by kernel_rfl) (by kernel_rfl) ?_
    repeat (first | go_big_quiet_step ((go_at_call 38; with_reducible exact KZ.out _ _)) | quiet_step ((go_at_call 38; with_reducible exact KZ.out _ _)))
    refine wpQuiet_nil ?_
    intro V hw'
    have hbq := of_class hw'
    clear hw' y1 f1 KZ
    have q0 := box_cell (kept X9.out hbq) 0 (v := .int .i64 c) rfl
    have q1 := box_cell (kept X9.out hbq) 1 (v := .int .i64 (n : Int)) rfl
    have q2 := box_cell (kept X9.out hbq) 2 (v := .slice a3 fs.length c3) rfl
    have X1b := hid (kept X1.out hbq)
    have r0 := box_cell X1b.out 0 (v := .int .i64 0) rfl
    have r1 := box_cell X1b.out 1 (v := .int .i64 0) rfl
    have r2 := box_cell X1b.out 2 (v := .slice none 0 0) rfl
    have z0 := box_frozen X1b.out
    have l0 := lt_of_block X1b.out
    have HSB : BytesL s.2 := by rw [HSS.out]; exact fold_bytes HDB.out
    by_cases heq : s.2 = List.replicate n 0
    · skip
      go_wp2_with fail
      any_goals (rename_i hq; rw [heq] at hq; simp at hq; done)
      have S5 := set_block (set_block (set_block X1b.out 0 (.int .i64 c)) 1 (.int .i64 (n : Int))) 2 (.slice a3 fs.length c3)
      have x0 := box_cell S5 0 (v := .int .i64 c) (by simp)
      have x1 := box_cell S5 1 (v := .int .i64 (n : Int)) (by simp)
      have x2 := box_cell S5 2 (v := .slice a3 fs.length c3) (by simp)
      refine bodyPost_ret (v := .tuple #[.agg #[.int .i64 c, .int .i64 (n : Int), .slice a3 fs.length c3], .int .i64 1]) ?_ rfl ⟨a3, c3, fs, by rw [codeK, ← HSS.out, if_pos heq], ?_, HSAM.out, ?_, ?_⟩
      · simp [results, Tryz.results16, go_sem, x0, x1, x2]
      · refine Touch.owns (Touch.setCell _ ⟨_, _, _⟩ _) (Touch.owns (Touch.setCell _ ⟨_, _, _⟩ _) (Touch.owns (Touch.setCell _ ⟨_, _, _⟩ _) (owns_below HOE.out hbq) ?_) ?_) ?_ <;> (simp only []; omega)
      · refine RowsOwn.set (RowsOwn.set (RowsOwn.set (HRO.out.below hbq) ?_ _ _) ?_ _ _) ?_ _ _ <;> omega
      · refine u_set (u_set (u_set (u_cat HB4.out hbq) ?_ _ _) ?_ _ _) ?_ _ _ <;> omega
    · skip
      go_wp2_with fail
      any_goals (rename_i hq; exact absurd (text_inj HSB zeros_bytes (eq_of_beq hq)) heq)
      have S5 := set_block (set_block (set_block X1b.out 0 (.int .i64 c)) 1 (.int .i64 (n : Int))) 2 (.slice a3 fs.length c3)
      have x0 := box_cell S5 0 (v := .int .i64 c) (by simp)
      have x1 := box_cell S5 1 (v := .int .i64 (n : Int)) (by simp)
      have x2 := box_cell S5 2 (v := .slice a3 fs.length c3) (by simp)
      refine bodyPost_ret (v := .tuple #[.agg #[.int .i64 c, .int .i64 (n : Int), .slice a3 fs.length c3], .int .i64 2]) ?_ rfl ⟨a3, c3, fs, by rw [codeK, ← HSS.out, if_neg heq], ?_, HSAM.out, ?_, ?_⟩
      · simp [results, Tryz.results16, go_sem, x0, x1, x2]
      · refine Touch.owns (Touch.setCell _ ⟨_, _, _⟩ _) (Touch.owns (Touch.setCell _ ⟨_, _, _⟩ _) (Touch.owns (Touch.setCell _ ⟨_, _, _⟩ _) (owns_below HOE.out hbq) ?_) ?_) ?_ <;> (simp only []; omega)
      · refine RowsOwn.set (RowsOwn.set (RowsOwn.set (HRO.out.below hbq) ?_ _ _) ?_ _ _) ?_ _ _ <;> omega
      · refine u_set (u_set (u_set (u_cat HB4.out hbq) ?_ _ _) ?_ _ _) ?_ _ _ <;> omega
end Go.Proofs.YtegldmdcdnnegaaGreatDoor
