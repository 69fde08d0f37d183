/- A solver out of the program's list. An equation learnt by the program. An equation learnt by the program. -/
import Derived.Test.YtbakicgdloakgaaGreatDoorG3
import Derived.Test.YtbakicgdloakgaaGreatDoorG21
import Derived.Test.YtbakicgdloakgaaGreatDoorG16
import Derived.Laws.BytesArg
import Derived.Test.YtbakicgdloakgaaGreatDoorG15
namespace Go.Proofs.YtbakicgdloakgaaGreatDoor
open Go.ChangeShapes Go.WideShapes Go.ChangeAt Go.RowKit Go.Sort Go.Shelf
attribute [local go_sem] Oper.semAt_some

set_option maxHeartbeats 8000000 in
set_option maxRecDepth 100000 in
theorem solver_at (sb so base : Nat) (cs : Option Addr → Array Value) (ct : TypeId) (c z : Int) (XC : Bx cs ct so c z) (ls : List Lk) (w : World)
    (hsb : w.heap[sb]? = some (.cells (cs (ptrOf ls)) ct (0, 0))) (hL : LksAt w base ls) (hR : ∀ l ∈ ls, ascB (-1) 24 l.r = true) (hll : ls.length ≤ 1000) (hdl : ∀ l ∈ ls, l.d.length ≤ 1000) (hT : Tab w) :
    Calls Tryz.prog 93 #[.pointer (some ⟨sb, so, none⟩)] w fun e w' => ∃ a' c' gs, e = .returned (.agg #[.int .i64 c, .int .i64 z, .slice a' gs.length c']) ∧ w'.ownsRow w.heap.size 124 2 (.slice a' gs.length c') gs.length (eqCells gs) ∧ valsE gs = valsL ls ∧ RowsOwn w' w.heap.size gs ∧ RowsAp gs ∧ Below w.heap.size w w' := by
  have HSB := hid hsb
  have HL := hid hL
  have HR := hid hR
  have HDL := hid hdl
  have HT := hid hT
  clear hsb hL hR hdl hT
  refine (callsIn_wide (n := 9)).1 ?_
  refine callsIn_of_wp_marks Tryz.func93 rfl trivial ?_ rfl
  simp only [Tryz.ntmps93, List.size_toArray, List.length_cons, List.length_nil, Nat.reduceAdd, Nat.reduceSub, Array.replicate_succ, Array.replicate_zero, List.push_toArray, List.append_toArray, List.nil_append, List.cons_append]
  obtain ⟨W0, hW0⟩ : ∃ W0, W0 = w.alloc (.cells #[.int .i64 0, .int .i64 0, .slice none 0 0] 36) := ⟨_, rfl⟩
  have bW : Below w.heap.size w W0 := by rw [hW0]; exact u_b1 _ _
  have XR := hid (show W0.heap[w.heap.size]? = some (.cells #[.int .i64 0, .int .i64 0, .slice none 0 0] 36 (0, 0)) by rw [hW0]; exact laid w _ _)
  have hs0 : W0.heap.size = w.heap.size + 1 := by rw [hW0]; simp
  have HB := hid bW
  have S0 := kept HSB.out bW
  have y0 := cell_regrown (box_cell S0 so (XC.e0 _))
  have y1 := cell_regrown (box_cell S0 (so + 1) (XC.e1 _))
  clear bW S0
  gi_wp2_with fail
  rw [← hW0]
  clear hW0
  refine wpIn_wide.2 ?_
  refine wp_floatn 10 9 _ [(0, 8)] [(8, 1)] [(10, 1)] (by kernel_rfl) rfl (by kernel_rfl) ?_
  simp only [cutOut, List.take_succ_cons, List.take_zero, List.drop_succ_cons, List.drop_zero, List.append_nil]
  repeat (first | go_big_quiet_step (fail) | quiet_step (fail))
  refine wpQuiet_nil ?_
  intro V0 hw'
  have HC0 := hid (of_class hw')
  clear hw' y0 y1
  refine wpRestF_step (fun K hK => ?x1) ?x2
  case' x1 =>
    go_simp
    refine hK _ _ (class_of HC0.out) ?_
    clear hK K
    refine wpRestF_nil ?_
    refine wpRest_step (fun K hK => ?_)
    go_simp
    refine hK _ _ (class_of (HC0.out.trans ((u_b1 _ _).mono HC0.out.size))) ?_
    clear hK K
  case' x2 =>
    simp only [List.cons_append, List.nil_append]
    refine wpRest_step (fun K hK => ?_)
    go_simp
    refine hK _ _ (class_of (HC0.out.trans ((u_b1 _ _).mono HC0.out.size))) ?_
    clear hK K
    refine wpRest_step (fun K hK => ?_)
    go_simp
    refine hK _ _ (class_of (HC0.out.trans ((u_b1 _ _).mono HC0.out.size))) ?_
    clear hK K
  all_goals
    obtain ⟨V1, hV1⟩ : ∃ V1, V1 = V0.alloc (.cells #[.int .i64 0, .int .i64 0, .slice none 0 0] 36) := ⟨_, rfl⟩
    have G1 := hid (show V1.heap[V0.heap.size]? = some (.cells #[.int .i64 0, .int .i64 0, .slice none 0 0] 36 (0, 0)) by rw [hV1]; exact laid V0 _ _)
    have HC1 := hid (show Below W0.heap.size W0 V1 by rw [hV1]; exact HC0.out.trans ((u_b1 _ _).mono HC0.out.size))
    have hs1 : V0.heap.size < V1.heap.size := lt_of_block G1.out
    have hs2 := HC0.out.size
    rw [← hV1]
    clear hV1
    have p0 := box_cell G1.out 0 (v := .int .i64 0) rfl
    have p1 := box_cell G1.out 1 (v := .int .i64 0) rfl
    have p2 := box_cell G1.out 2 (v := .slice none 0 0) rfl
    have z0 := box_frozen G1.out
    have G2 := hid (set_block (set_block (set_block G1.out 0 (.int .i64 c)) 1 (.int .i64 z)) 2 (.slice none 0 0))
    have HC2 := hid (u_set (u_set (u_set HC1.out hs2 0 (.int .i64 c)) hs2 1 (.int .i64 z)) hs2 2 (.slice none 0 0))
    show wpList _ _ _ _ _ _
    refine .inl ?_
    go_simp
    obtain ⟨V2, hV2⟩ : ∃ V2, V2 = ((V1.setCell ⟨V0.heap.size, 0, none⟩ (.int .i64 c)).setCell ⟨V0.heap.size, 1, none⟩ (.int .i64 z)).setCell ⟨V0.heap.size, 2, none⟩ (.slice none 0 0) := ⟨_, rfl⟩
    have hs5 : V1.heap.size ≤ V2.heap.size := by rw [hV2]; simp [World.setCell]
    rw [← hV2] at G2 HC2 ⊢
    clear hV2 p0 p1 p2 z0 HC1 G1
    go_wp2_with fail
    gi_wp2_with (refine ⟨trivial, ?_⟩; gi_at_call 103; refine (callsIn_wide.2 (links_in _ _)).mono ?_; rintro e w' ⟨rfl, rfl⟩)
    obtain ⟨W2, hW2⟩ : ∃ W2, W2 = V2.alloc (.cells #[.pointer (some ⟨sb, so, none⟩)] 142) := ⟨_, rfl⟩
    have b2 : Below V2.heap.size V2 W2 := by rw [hW2]; exact u_b1 _ _
    have X2 : W2.heap[V2.heap.size]? = some (.cells #[.pointer (some ⟨sb, so, none⟩)] 142 (0, 0)) := by rw [hW2]; exact laid V2 _ _
    have hs6 : V2.heap.size + 1 ≤ W2.heap.size := by rw [hW2]; simp
    rw [← hW2]
    clear hW2
    have hg2 := lt_of_block G2.out
    have B2 := hid (show Below w.heap.size w W2 from u_catn (HB.out.trans (HC2.out.mono (by omega))) (Nat.le_refl _) b2)
    have XR2 := hid (((HC2.out.trans (b2.mono (by omega))).block w.heap.size (by omega)).trans XR.out)
    have OU := hid (show OutIs W2 w.heap.size V0.heap.size c z [] none 0 from ⟨kept G2.out b2, ⟨rfl, .inl ⟨rfl, rfl⟩⟩, fun f hf => by simp at hf⟩)
    have L2 := hid (HL.out.below B2.out)
    have S2 := hid (kept HSB.out B2.out)
    have hLw := hid (fun k (hk : k < ls.length) => lt_of_block (HL.out k hk).2.2.1)
    obtain ⟨i1, hj, hj0, hj1, hj2⟩ := info_parts Tryz.info124
    clear b2 HB HC0 HC2 G2 XR
    refine wpIn_rangeFunc_ownG (α := {x : Lk // x ∈ ls}) rfl (by omega) (gf := 109) (lb := #[.pointer (some ⟨V2.heap.size, 0, none⟩)]) rfl trivial (enters_of Tryz.func109 (by kernel_rfl) rfl)
      (links_stops (9 - 1) _ sb ls (by omega) (by omega) (Below w.heap.size) (fun W W' h k j hj => (k.cell (p := ⟨ls[j].b, 2, none⟩) (hLw.out j hj)).trans (h j hj)) W2 (box_cell X2 0 rfl) (box_cell S2.out (so + 2) (XC.e2 _)) L2.out.leads)
      belowK_t (belowK_b (by omega)) (Below.refl _ _) (fun _ => rfl)
      (fun pre W => ∃ gs b d, valsE gs = pre.map (fun x => valL x.1) ∧ OutIs W w.heap.size V0.heap.size c z gs b d ∧ RowsAp gs ∧ W.heap[w.heap.size]? = some (.cells #[.int .i64 0, .int .i64 0, .slice none 0 0] 36 (0, 0)) ∧ Below w.heap.size w W)
      (fun _ _ _ => False)
      (fun s A B row hs hg hr => by
        obtain ⟨gs, b, d, h1, h2, h3, h4, h5⟩ := hs
        exact ⟨gs, b, d, h1, ⟨own_blk h2.blk hg hr, own_row h2.own hg hr, fun f hf => own_row (h2.rows f hf) hg hr⟩, h3, own_blk h4 hg hr, ownFrom_below (Nat.le_refl _) (by omega) s A B row h5 hg hr⟩)
      (fun _ _ _ _ _ hs _ _ => hs)
      ⟨[], none, 0, rfl, OU.out, List.Pairwise.nil, XR2.out, B2.out⟩
      (fun x => { tmps := #[.pointer (some ⟨sb, so, none⟩), undef, .pointer (some ⟨w.heap.size, 0, none⟩), .pointer (some ⟨V0.heap.size, 0, none⟩), .pointer (some ⟨x.1.b, 0, none⟩), .pointer (some ⟨sb, so, none⟩), .pointer (some ⟨sb, so, none⟩), .pointer (some ⟨sb, so, none⟩), .int .i64 c, .pointer (some ⟨sb, so, none⟩), .pointer (some ⟨sb, so, none⟩), .pointer (some ⟨sb, so + 1, none⟩), .int .i64 z, .agg #[.int .i64 c, .int .i64 z, .slice none 0 0], .pointer (some ⟨sb, so, none⟩), .func (.func 109) #[] #[.pointer (some ⟨V2.heap.size, 0, none⟩)], .pointer (some ⟨x.1.b, 0, none⟩), undef, undef, undef, undef, undef, undef, undef, undef, undef, undef, undef, undef, undef, undef, undef, undef, undef], defers := [] }) ?assign ?body ?done ?stop
    case assign =>
      intro l x W K hK
      gi_wp2
      exact hK
    case body =>
      rintro l pre x W ⟨gs, b, d, hv, ho, hap, hx, hb⟩ hlen
      obtain ⟨k, hk, hkx⟩ := List.getElem_of_mem x.2
      obtain ⟨g1, g2, g3, g4⟩ := (HL.out.below hb) k hk
      rw [hkx] at g1 g2 g3 g4
      have hgl : gs.length < ls.length := by have := congrArg List.length hv; simp [valsE] at this; omega
      obtain ⟨P, hP⟩ : ∃ P, P = ptrOf (ls.drop (k + 1)) := ⟨_, rfl⟩
      rw [← hP] at g3
      have hxl := HR.out _ x.2
      have hxd := HDL.out _ x.2
      have y0 := cell_regrown (box_cell g3 0 (v := .int .u32 (setI x.1.r : Nat)) rfl)
      have y1 := cell_regrown (box_cell g3 1 (v := .slice (some ⟨x.1.q, 0, none⟩) x.1.d.length x.1.c) rfl)
      have y2 := cell_regrown (box_cell ho.blk 2 (v := .slice b gs.length d) rfl)
      have hcv := byts_conv (c := x.1.c) g4
      have KN := hid (fun V (hV : Below W.heap.size W V) => numbers_any (setI x.1.r) V (setS_small hxl) ((HT.out.below hb).below hV))
      rw [bits_set hxl] at KN
      have HV := hid hv
      have HO := hid ho
      have HAP := hid hap
      have HX := hid hx
      have HBW := hid hb
      have h24 := asc_len24 hxl
      have hgW := ho.lt
      clear g1 g2 g3 g4 hP hv ho hap hx hb hkx hk
      gi_wp2
      refine inR_pick 14 3 [(0, 6), (7, 5)] [(6, 1), (12, 5)] (by kernel_rfl) (by kernel_rfl) (by kernel_rfl) (fun ⟨_, _, h⟩ => h) (fun _ _ d _ _ h => by cases d <;> exact h) ?_
      simp only [cutOut, List.take_succ_cons, List.take_zero, List.drop_succ_cons, List.drop_zero, List.nil_append, List.cons_append, List.append_nil]
      repeat (first | go_big_quiet_step (fail) | quiet_step (fail))
      refine wpQuiet_nil ?_
      intro V3 hw'
      have hbq := of_class hw'
      clear hw' y0 y1 y2 hcv
      refine wpRest_step (fun Kn hK => ?_)
      go_simp
      with_reducible refine (KN.out V3 hbq).mono ?_
      rintro _ w5 ⟨v, rfl, o5, b5⟩
      obtain ⟨a5, d5, rfl⟩ := owns_slice o5
      refine hK _ _ (class_of (u_cat hbq b5)) ?_
      clear hK Kn
      refine wpRest_step (fun Kn hK => ?_)
      go_simp
      refine hK _ _ (class_of (u_cat hbq b5)) ?_
      clear hK Kn
      refine wpRest_step (fun Kn hK => ?_)
      go_simp
      refine hK _ _ (class_of (u_cat (u_cat hbq b5) (u_b1 _ _))) ?_
      clear hK Kn
      have B5 := hid (u_cat hbq b5)
      have O5 := hid (HO.out.below B5.out)
      have hV3 : w.heap.size ≤ V3.heap.size := by have := hbq.size; have := HBW.out.size; omega
      have R5 := hid (owns_base o5 hV3)
      have AP5 := hid (rowsAp_snoc (e := ⟨a5, d5, x.1.r, strOfNums x.1.d⟩) HAP.out HO.out.rows o5 hbq.size)
      have h5s := O5.out.lt
      clear o5 b5 hbq
      refine append_many 34 124 i1 _ 2 40 Tryz.underlying34 hj hj0 hj1 hj2 rfl (by omega) #[.slice a5 x.1.r.length d5, .string (strOfNums x.1.d)] rfl _ _ rfl rfl rfl rfl rfl (by simp [Value.oneCell']) O5.out.own h5s (by omega) (by omega) ?_
      intro v' w8 o8 g8
      obtain ⟨a8, c8, rfl, hg8, ho8, hb8, hk8, -, -⟩ := O5.out.app ⟨a5, d5, x.1.r, strOfNums x.1.d⟩ R5.out o8 g8
      have q0 := box_cell hg8 2 (v := .slice b gs.length d) rfl
      have z0 := box_frozen hg8
      have l0 := lt_of_block hg8
      have HO8 := hid ho8
      have HB8 := hid hb8
      have HK8 := hid hk8
      have HX8 := hid ((hb8.block w.heap.size (by omega)).trans (kept HX.out B5.out))
      clear hg8 o8 g8 ho8 hb8 hk8
      go_wp2_with fail
      refine ⟨(((keeps_below B5.out).trans HK8.out).trans (KeepsOthers.setCell _ _ _)).from _, (B5.out.mono (by omega)).trans (HB8.out.mono (by omega)), _, _, _, ?_, HO8.out, AP5.out, HX8.out, (u_catn HBW.out (Nat.le_refl _) B5.out).trans (HB8.out.mono (by omega))⟩
      rw [show ∀ (x : EqV), valsE (gs ++ [x]) = valsE gs ++ [(x.r, x.d)] from fun x => by simp [valsE], HV.out, List.map_append]
      rfl
    case done =>
      rintro D ys W hD rfl ⟨gs, b, d, hv, ho, hap, hx, hb⟩ hK
      have q0 := box_cell ho.blk 0 (v := .int .i64 c) rfl
      have q1 := box_cell ho.blk 1 (v := .int .i64 z) rfl
      have q2 := box_cell ho.blk 2 (v := .slice b gs.length d) rfl
      have p0 := box_cell hx 0 (v := .int .i64 0) rfl
      have p1 := box_cell hx 1 (v := .int .i64 0) rfl
      have p2 := box_cell hx 2 (v := .slice none 0 0) rfl
      have z0 := box_frozen hx
      have l0 := lt_of_block hx
      have X5 := hid (set_block (set_block (set_block hx 0 (.int .i64 c)) 1 (.int .i64 z)) 2 (.slice b gs.length d))
      have HV := hid (show valsE gs = valsL ls by rw [hv]; show ls.attach.map (fun x => valL x.1) = ls.map valL; exact List.attach_map_val (f := valL))
      have HXX := hid hx
      have HO := hid ho
      have HAP := hid hap
      have HBW := hid hb
      clear hv ho hap hx hb
      gi_wp2
      have hK' := (((KeepsOthers.setCell W ⟨w.heap.size, 0, none⟩ (.int .i64 c)).trans (KeepsOthers.setCell _ ⟨w.heap.size, 1, none⟩ (.int .i64 z))).trans (KeepsOthers.setCell _ ⟨w.heap.size, 2, none⟩ (.slice b gs.length d))).same D _ hK rfl
      refine ⟨by simp, .inl ⟨_, _, rfl, run_takeDeferred hK', ?_⟩⟩
      have hc5 := cell_kept (box_cell X5.out 0 (v := .int .i64 c) (by simp)) (grownBy_putObj' _ D (.deferred none)) (fun r e => by cases e; exact ⟨_, hK', rfl⟩)
      have hc6 := cell_kept (box_cell X5.out 1 (v := .int .i64 z) (by simp)) (grownBy_putObj' _ D (.deferred none)) (fun r e => by cases e; exact ⟨_, hK', rfl⟩)
      have hc7 := cell_kept (box_cell X5.out 2 (v := .slice b gs.length d) (by simp)) (grownBy_putObj' _ D (.deferred none)) (fun r e => by cases e; exact ⟨_, hK', rfl⟩)
      refine ⟨.agg #[.int .i64 c, .int .i64 z, .slice b gs.length d], ?_, b, d, gs, rfl, ?_, HV.out, ?_, HAP.out, (u_set (u_set (u_set HBW.out (by omega) _ _) (by omega) _ _) (by omega) _ _).trans (belowK_b (w := w) (Nat.le_refl _) _ D _ _ (by omega) hK' rfl rfl)⟩
      · simp [results, Tryz.f93, go_sem, hc5, hc6, hc7]
      · refine ownsRow_putObj ?_ _ hK' rfl
        exact own_set_kind (set_block (set_block HXX.out 0 (.int .i64 c)) 1 (.int .i64 z)) (own_set_kind (set_block HXX.out 0 (.int .i64 c)) (own_set_kind HXX.out (owns_base HO.out.own (by omega)) (by decide)) (by decide)) (by decide)
      · intro f hf
        refine ownsRow_putObj ?_ _ hK' rfl
        exact own_set_kind (set_block (set_block HXX.out 0 (.int .i64 c)) 1 (.int .i64 z)) (own_set_kind (set_block HXX.out 0 (.int .i64 c)) (own_set_kind HXX.out (HO.out.rows f hf) (by decide)) (by decide)) (by decide)
    case stop =>
      rintro D c pre W _ _ h _
      exact h.elim
end Go.Proofs.YtbakicgdloakgaaGreatDoor
namespace Go.Proofs.YtbakicgdloakgaaGreatDoor
open Go.ChangeShapes Go.WideShapes Go.ChangeAt Go.RowKit Go.Sort Go.Shelf
attribute [local go_sem] Oper.semAt_some

theorem sameE_vals : ∀ {ls : List Lk} {es : List EqV}, SameE ls es → valsL ls = valsE es
  | [], [], _ => rfl
  | [], _ :: _, h => by have := congrArg List.length h.1; simp at this
  | _ :: _, [], h => by have := congrArg List.length h.1; simp at this
  | l :: ls, e :: es, h => by
    obtain ⟨h1, h2⟩ := h
    simp only [List.map_cons, List.cons.injEq] at h1 h2
    show (l.r, strOfNums l.d) :: valsL ls = (e.r, e.d) :: valsE es
    rw [sameE_vals ⟨h1.2, h2.2⟩, h1.1, h2.1, str_numsOf]
theorem sameE_bytes {ls : List Lk} {es : List EqV} (h : SameE ls es) : ∀ l ∈ ls, BytesL l.d := fun l hl => by
  have h1 : l.d ∈ ls.map Lk.d := List.mem_map_of_mem hl
  rw [h.2] at h1
  obtain ⟨e, -, he⟩ := List.mem_map.1 h1
  rw [← he]
  exact nums_bytes _
theorem okV_24 {c z : Int} {ks : List Vl} (h : okV c z ks) (hc : 0 ≤ c) (hc2 : c ≤ 24) : ks.length ≤ 24 := by
  have h1 : okE c z (ks.map (fun k => ⟨none, 0, k.1, k.2⟩ : Vl → EqV)) := ok_vals.2 (by
    have e : valsE (ks.map (fun k => ⟨none, 0, k.1, k.2⟩ : Vl → EqV)) = ks := by
      unfold valsE
      rw [List.map_map]
      exact List.map_id' ks
    rw [e]; exact h)
  have := okE_24 h1 hc hc2
  simpa using this
end Go.Proofs.YtbakicgdloakgaaGreatDoor
namespace Go.Proofs.YtbakicgdloakgaaGreatDoor
open Go.ChangeShapes Go.WideShapes Go.ChangeAt Go.RowKit Go.Sort Go.Shelf
attribute [local go_sem] Oper.semAt_some

/-- A list that the program holds is what is known. -/
structure ListAt (w : World) (sb so base : Nat) (cs : Option Addr → Array Value) (ct : TypeId) (c z : Int) (ls : List Lk) : Prop where
  box : w.heap[sb]? = some (.cells (cs (ptrOf ls)) ct (0, 0))
  at' : LksAt w 0 ls
  ok : okV c z (valsL ls)
  byt : ∀ l ∈ ls, BytesL l.d
  low : ∀ l ∈ ls, base ≤ l.b
  sb_ : base ≤ sb
/-- .. and handed out. -/
theorem out_at (sb so base : Nat) (cs : Option Addr → Array Value) (ct : TypeId) (c z : Int) (XC : Bx cs ct so c z) (ls : List Lk) (w : World) (hI : ListAt w sb so base cs ct c z ls) (hc : 0 ≤ c) (hc2 : c ≤ 24) (hz : z ≤ 16) (hT : Tab w) :
    Calls Tryz.prog 93 #[.pointer (some ⟨sb, so, none⟩)] w fun e w' => ∃ a' c' gs, e = .returned (.agg #[.int .i64 c, .int .i64 z, .slice a' gs.length c']) ∧ w'.ownsRow w.heap.size 124 2 (.slice a' gs.length c') gs.length (eqCells gs) ∧ valsE gs = valsL ls ∧ RowsOwn w' w.heap.size gs ∧ RowsAp gs ∧ Below w.heap.size w w' := by
  have hl : ls.length ≤ 24 := by have := okV_24 hI.ok hc hc2; simpa [valsL] using this
  exact solver_at sb so 0 cs ct c z XC ls w hI.box hI.at' (fun l hl => asc_up (hI.ok.1 (valL l) (List.mem_map_of_mem hl)).1 hc2) (by omega) (fun l hl => by
    have h := (hI.ok.1 (valL l) (List.mem_map_of_mem hl)).2.1
    have h2 : (strOfNums l.d).size = l.d.length := strOfNums_size _
    have h3 : ((strOfNums l.d).size : Int) = z := h
    omega) hT
end Go.Proofs.YtbakicgdloakgaaGreatDoor
