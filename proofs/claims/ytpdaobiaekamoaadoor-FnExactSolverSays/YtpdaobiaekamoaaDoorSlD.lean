/- What is known of a solver, by the program: whether it is ok, how much, how many of the first. -/
import Derived.Test.YtpdaobiaekamoaaDoorSlDa
namespace Go.Proofs.YtpdaobiaekamoaaDoor
open Go.ChangeShapes Go.WideShapes Go.ChangeAt Go.RowKit Go.Sort Go.Shelf
attribute [local go_sem] Oper.semAt_some

set_option maxHeartbeats 1000000 in
theorem implSolverOk_any (a : Option Addr) (cap : Nat) (es : List EqV) (c z : Int) (w : World) (ha : EqsAt w a es) (hsm : SmallE es) (hl : es.length ≤ 1048576) (hT : Tab w) :
    Calls Tryd.prog 13 #[.agg #[.int .i64 c, .int .i64 z, .slice a es.length cap]] w fun e w' => e = .returned (.bool (decide (solverP c z es))) ∧ Below w.heap.size w w' := by
  have HA := hid ha
  have HS := hid hsm
  have HT := hid hT
  clear ha hsm hT
  go_enter Tryd.func13, Tryd.ntmps13
  go_wp2_with fail
  refine (listOf_any a cap es c z _ (HA.out.below (u_b1 _ _)) HS.out hl (HT.out.below (u_b1 _ _))).mono ?_
  rintro e w1 ⟨b1, h⟩
  have B := hid (u_cat (u_b1 _ _) b1)
  clear b1
  rcases h with ⟨hp, ls, rfl, -, -⟩ | ⟨hp, rfl⟩
  · have HP := hid (decide_eq_true hp)
    clear hp
    go_wp2_with fail
    go_ret
    exact ⟨ret_bool HP.out.symm, u_cat B.out (u_b1 _ _)⟩
  · have HP := hid (decide_eq_false hp)
    clear hp
    go_wp2_with fail
    go_ret
    exact ⟨ret_bool HP.out.symm, u_cat B.out (u_b1 _ _)⟩

set_option maxHeartbeats 4000000 in
theorem implSolverRank_any (a : Option Addr) (cap : Nat) (es : List EqV) (c z : Int) (w : World) (ha : EqsAt w a es) (hsm : SmallE es) (hl : es.length ≤ 1048576) (hT : Tab w) :
    Calls Tryd.prog 25 #[.agg #[.int .i64 c, .int .i64 z, .slice a es.length cap]] w fun e w' => e = .returned (.int .i64 (eqsOf c z es).length) ∧ Below w.heap.size w w' := by
  have HA := hid ha
  have HS := hid hsm
  have HT := hid hT
  clear ha hsm hT
  refine (callsIn_wide (n := 9)).1 ?_
  refine callsIn_of_wp_marks Tryd.func25 rfl trivial ?_ rfl
  simp only [Tryd.ntmps25, List.size_toArray, List.length_cons, List.length_nil, Nat.reduceAdd, Nat.reduceSub, Array.replicate_succ, Array.replicate_zero, List.push_toArray, List.append_toArray, List.nil_append, List.cons_append]
  gi_wp2_with (refine ⟨trivial, ?_⟩; first
    | (gi_at_call 37; refine (callsIn_wide.2 (listOf_any a cap es c z _ (HA.out.below (u_b1 _ _)) HS.out hl (HT.out.below (u_b1 _ _)))).mono ?_; intro e w1 h1; obtain ⟨c', z', ls, rfl, hL, hSm, hR, hlen, hB⟩ := listO_any h1; clear h1)
    | (gi_at_call 47; refine (callsIn_wide.2 (links_in _ _)).mono ?_; rintro e w' ⟨rfl, rfl⟩))
  obtain ⟨W0, hW0⟩ : ∃ W0, W0 = ((w1.alloc (.cells #[.int .i64 c', .int .i64 z', .pointer (ptrOf ls)] 58)).alloc (.cells #[.int .i64 0] 3)).alloc (.cells #[.pointer (some ⟨w1.heap.size, 0, none⟩)] 91) := ⟨_, rfl⟩
  rw [← hW0]
  obtain ⟨X0, X1, X2, B1⟩ := u_box3 (w := w1) (c := #[.int .i64 c', .int .i64 z', .pointer (ptrOf ls)]) (t := 58) (d := #[.int .i64 0]) (s := 3) (f := #[.pointer (some ⟨w1.heap.size, 0, none⟩)]) (r := 91) (w1 := W0) (by rw [hW0]; exact Below.refl _ _)
  have Z0 : W0.heap.size = w1.heap.size + 3 := by rw [hW0]; simp
  clear hW0
  have L0 := hL.below B1
  have BW : Below w.heap.size w W0 := u_cat (u_cat (u_b1 _ _) hB) B1
  have hlw := BW.size
  have hs1 : w.heap.size + 1 ≤ w1.heap.size := by have := hB.size; simpa using this
  refine wpIn_rangeFunc_ownG (α := {x : Lk // x ∈ ls}) rfl (by omega) (gf := 71) (lb := #[.pointer (some ⟨w1.heap.size + 2, 0, none⟩)]) rfl trivial (enters_of Tryd.func71 (by kernel_rfl) rfl)
    (links_stops (9 - 1) _ w1.heap.size ls (by omega) (by omega) (Below w1.heap.size) (fun W W' h k j hj => (k.cell (p := ⟨ls[j].b, 2, none⟩) (lt_of_block (hL j hj).2.2.1)).trans (h j hj)) W0 (box_cell X2 0 rfl) (box_cell X0 2 rfl) L0.leads)
    belowK_t (belowK_b (by omega)) (Below.refl _ _) (fun _ => rfl)
    (fun pre W => W.heap[w1.heap.size + 1]? = some (.cells #[.int .i64 pre.length] 3 (0, 0)) ∧ Below w1.heap.size W0 W)
    (fun _ _ _ => False)
    (fun s A B row hs hg hr => ⟨own_blk hs.1 hg hr, ownFrom_below (by omega) (by omega) s A B row hs.2 hg hr⟩)
    (fun _ _ _ _ _ hs _ _ => hs)
    ⟨X1, Below.refl _ _⟩
    (fun x => { tmps := #[.agg #[.int .i64 c, .int .i64 z, .slice a es.length cap], .pointer (some ⟨w.heap.size, 0, none⟩), .int .i64 0, .pointer (some ⟨w1.heap.size, 0, none⟩), .bool (decide (solverP c z es)), .pointer (some ⟨w1.heap.size + 1, 0, none⟩), .tuple #[.agg #[.int .i64 c', .int .i64 z', .pointer (ptrOf ls)], .bool (decide (solverP c z es))], .agg #[.int .i64 c, .int .i64 z, .slice a es.length cap],
      .tuple #[.agg #[.int .i64 c', .int .i64 z', .pointer (ptrOf ls)], .bool (decide (solverP c z es))], .agg #[.int .i64 c', .int .i64 z', .pointer (ptrOf ls)], .bool (decide (solverP c z es)), .func (.func 71) #[] #[.pointer (some ⟨w1.heap.size + 2, 0, none⟩)], .pointer (some ⟨x.1.b, 0, none⟩), undef, undef, undef], defers := [] }) ?assign ?body ?done ?stop
  case assign =>
    intro l x W K hK
    gi_wp2
    simp only [List.zip_toArray, List.zip_cons_cons, List.zip_nil_right, List.foldl_toArray, List.foldl_cons, List.foldl_nil, List.setIfInBounds_toArray, List.set_cons_succ, List.set_cons_zero]
    exact hK
  case body =>
    rintro l pre x W ⟨Y1, B2⟩ hlen
    have hc := box_cell Y1 0 (v := .int .i64 pre.length) rfl
    have hz := box_frozen Y1 0
    gi_wp2
    refine ⟨(KeepsOthers.setCell _ _ _).from _, u_set (Below.refl _ _) (by omega) _ _, ?_, u_set B2 (by omega) _ _⟩
    have := set_block Y1 0 (.int .i64 ((pre.length : Int) + 1))
    rw [List.length_append]
    exact this
  case done =>
    rintro D ys W hD rfl ⟨Y1, B2⟩ hK
    have hLn := hid (show (ls.attach.length : Int) = (eqsOf c z es).length by
      have h1 := congrArg List.length hSm.1
      rw [List.length_map, List.length_map] at h1
      rw [List.length_attach, h1])
    rw [hLn.out] at Y1
    have hc := box_cell Y1 0 (v := .int .i64 (eqsOf c z es).length) rfl
    gi_wp2
    refine ⟨by simp, .inl ⟨_, _, rfl, run_takeDeferred hK, ?_⟩⟩
    refine ⟨.int .i64 (eqsOf c z es).length, ?_, rfl, (BW.trans (B2.mono (by omega))).trans (belowK_b (w := w) (Nat.le_refl _) W D _ _ (by omega) hK rfl rfl)⟩
    simp [results, Tryd.f25, go_sem]
  case stop =>
    rintro D c pre W hD hSp h hK
    exact h.elim
end Go.Proofs.YtpdaobiaekamoaaDoor
