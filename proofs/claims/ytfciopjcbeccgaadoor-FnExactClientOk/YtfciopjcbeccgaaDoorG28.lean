/- A list of a solver, ok or not; links of one block. How many of the first blocks are known, and a block that is known, by the program. -/
import Derived.Test.YtfciopjcbeccgaaDoorG17
import Derived.Test.YtfciopjcbeccgaaDoorG16
import Derived.Test.YtfciopjcbeccgaaDoorG25
namespace Go.Proofs.YtfciopjcbeccgaaDoor
open Go.ChangeShapes Go.WideShapes Go.ChangeAt Go.RowKit Go.Sort Go.Shelf
attribute [local go_sem] Oper.semAt_some

set_option maxRecDepth 100000 in
set_option maxHeartbeats 1000000 in
theorem isBlock_any (b : Nat) (r : List Int) (at' : Int) (w : World) (hb : w.cell? ⟨b, 0, none⟩ = some (.int .u32 (setI r : Nat))) (hr : ascB (-1) 24 r = true) (hne : r ≠ []) (hT : Tab w) :
    Calls Tryd.prog 91 #[.pointer (some ⟨b, 0, none⟩), .int .i64 at'] w fun e w' => e = .returned (.bool (decide (r = [at']))) ∧ Dr w w' := by
  have HT := hid hT
  have K1 := hid (sizeS hr)
  have K2 := hid (firstS hr hne)
  have HD := hid (show decide (r = [at']) = decide (r.length = 1 ∧ hd r = at') from by rw [decide_eq_decide]; exact (one_row r at').symm)
  by_cases h1 : r.length = 1
  · have e1 : ((r.length : Int) == 1) = true := by simp [h1]
    by_cases h2 : hd r = at'
    · have e2 : (hd r == at') = true := by simp [h2]
      have HF := hid (show decide (r = [at']) = true by rw [HD.out]; exact decide_eq_true ⟨h1, h2⟩)
      clear h1 h2 hr hne hT HD
      generalize hd r = F at K2 e2
      generalize r.length = L at K1 e1
      generalize setI r = s at K1 K2 hb
      go_enter Tryd.func91, Tryd.ntmps91
      go_wp2_with (go_at_call 92; refine (K1.out _).mono ?_; rintro e w1 ⟨rfl, d1⟩; have hb1 := (d1.cell _).trans hb; have D1 := hid d1; clear d1 hb)
      refine (K2.out _ (HT.out.below (D1.out.below _))).mono ?_
      rintro e w2 ⟨rfl, hw⟩; replace hw := hw.symm; subst hw
      go_wp2_with fail
      go_ret
      exact ⟨ret_bool HF.out.symm, D1.out⟩
    · have e2 : (hd r == at') = false := by simp [h2]
      have HF := hid (show decide (r = [at']) = false by rw [HD.out]; exact decide_eq_false (fun h => h2 h.2))
      clear h1 h2 hr hne hT HD
      generalize hd r = F at K2 e2
      generalize r.length = L at K1 e1
      generalize setI r = s at K1 K2 hb
      go_enter Tryd.func91, Tryd.ntmps91
      go_wp2_with (go_at_call 92; refine (K1.out _).mono ?_; rintro e w1 ⟨rfl, d1⟩; have hb1 := (d1.cell _).trans hb; have D1 := hid d1; clear d1 hb)
      refine (K2.out _ (HT.out.below (D1.out.below _))).mono ?_
      rintro e w2 ⟨rfl, hw⟩; replace hw := hw.symm; subst hw
      go_wp2_with fail
      go_ret
      exact ⟨ret_bool HF.out.symm, D1.out⟩
  · have e1 : ((r.length : Int) == 1) = false := by simp; omega
    have HF := hid (show decide (r = [at']) = false by rw [HD.out]; exact decide_eq_false (fun h => h1 h.1))
    clear h1 hr hne hT HD
    generalize hd r = F at K2
    generalize r.length = L at K1 e1
    generalize setI r = s at K1 K2 hb
    go_enter Tryd.func91, Tryd.ntmps91
    go_wp2_with (go_at_call 92; refine (K1.out _).mono ?_; rintro e w1 ⟨rfl, d1⟩; have hb1 := (d1.cell _).trans hb; have D1 := hid d1; clear d1 hb)
    go_ret
    exact ⟨ret_bool HF.out.symm, D1.out⟩
end Go.Proofs.YtfciopjcbeccgaaDoor
namespace Go.Proofs.YtfciopjcbeccgaaDoor
open Go.ChangeShapes Go.WideShapes Go.ChangeAt Go.RowKit Go.Sort Go.Shelf
attribute [local go_sem] Oper.semAt_some

set_option maxHeartbeats 4000000 in
theorem implSolverPrefix_any (a : Option Addr) (cap : Nat) (es : List EqV) (c z : Int) (w : World) (ha : EqsAt w a es) (hsm : SmallE es) (hl : es.length ≤ 1048576) (hT : Tab w) :
    Calls Tryd.prog 90 #[.agg #[.int .i64 c, .int .i64 z, .slice a es.length cap]] w fun e w' => e = .returned (.int .i64 (pfx 0 ((eqsOf c z es).map EqV.r))) ∧ Below w.heap.size w w' := by
  have HA := hid ha
  have HS := hid hsm
  have HT := hid hT
  clear ha hsm hT
  refine (callsIn_wide (n := 9)).1 ?_
  refine callsIn_of_wp_marks Tryd.func90 rfl trivial ?_ rfl
  simp only [Tryd.ntmps90, List.size_toArray, List.length_cons, List.length_nil, Nat.reduceAdd, Nat.reduceSub, Array.replicate_succ, Array.replicate_zero, List.push_toArray, List.append_toArray, List.nil_append, List.cons_append]
  gi_wp2_with (refine ⟨trivial, ?_⟩; first
    | (gi_at_call 43; refine (callsIn_wide.2 (listOf_any a cap es c z _ (HA.out.below (u_b1 _ _)) HS.out hl (HT.out.below (u_b1 _ _)))).mono ?_; intro e w1 h1; obtain ⟨c', z', ls, rfl, hL, hSm, hR, hlen, hB⟩ := listO_any h1; clear h1)
    | (gi_at_call 58; refine (callsIn_wide.2 (links_in _ _)).mono ?_; rintro e w' ⟨rfl, rfl⟩))
  obtain ⟨W0, hW0⟩ : ∃ W0, W0 = ((w1.alloc (.cells #[.int .i64 c', .int .i64 z', .pointer (ptrOf ls)] 80)).alloc (.cells #[.int .i64 0] 3)).alloc (.cells #[.pointer (some ⟨w1.heap.size, 0, none⟩)] 106) := ⟨_, rfl⟩
  rw [← hW0]
  obtain ⟨X0, X1, X2, B1⟩ := u_box3 (w := w1) (c := #[.int .i64 c', .int .i64 z', .pointer (ptrOf ls)]) (t := 80) (d := #[.int .i64 0]) (s := 3) (f := #[.pointer (some ⟨w1.heap.size, 0, none⟩)]) (r := 106) (w1 := W0) (by rw [hW0]; exact Below.refl _ _)
  have Z0 : W0.heap.size = w1.heap.size + 3 := by rw [hW0]; simp
  clear hW0
  have L0 := hL.below B1
  have T0 := HT.out.below (u_cat (u_cat (u_b1 _ _) hB) B1)
  have BW : Below w.heap.size w W0 := u_cat (u_cat (u_b1 _ _) hB) B1
  have hlw := BW.size
  have hs1 : w.heap.size + 1 ≤ w1.heap.size := by have := hB.size; simpa using this
  have HC := hid (show ∀ l ∈ ls, l.b < w1.heap.size ∧ w1.cell? ⟨l.b, 0, none⟩ = some (.int .u32 (setI l.r : Nat)) from fun l hl => by
    obtain ⟨k, hk, rfl⟩ := List.getElem_of_mem hl
    exact ⟨lt_of_block (hL k hk).2.2.1, box_cell (hL k hk).2.2.1 0 rfl⟩)
  refine wpIn_rangeFunc_ownG (α := {x : Lk // x ∈ ls}) rfl (by omega) (gf := 61) (lb := #[.pointer (some ⟨w1.heap.size + 2, 0, none⟩)]) rfl trivial (enters_of Tryd.func61 (by kernel_rfl) rfl)
    (links_stops (9 - 1) _ w1.heap.size ls (by omega) (by omega) (Below w1.heap.size) (fun W W' h k j hj => (k.cell (p := ⟨ls[j].b, 2, none⟩) (lt_of_block (hL j hj).2.2.1)).trans (h j hj)) W0 (box_cell X2 0 rfl) (box_cell X0 2 rfl) L0.leads)
    belowK_t (belowK_b (by omega)) (Below.refl _ _) (fun _ => rfl)
    (fun pre W => W.heap[w1.heap.size + 1]? = some (.cells #[.int .i64 pre.length] 3 (0, 0)) ∧ Places (rowsA pre) ∧ Below w1.heap.size w1 W)
    (fun k pre W => ∃ (p : List {x : Lk // x ∈ ls}) (x : {x : Lk // x ∈ ls}), k = .exit 0 ∧ pre = p ++ [x] ∧ Places (rowsA p) ∧ x.1.r ≠ [(p.length : Int)] ∧ W.heap[w1.heap.size + 1]? = some (.cells #[.int .i64 p.length] 3 (0, 0)) ∧ Below w1.heap.size w1 W)
    (fun s A B row hs hg hr => ⟨own_blk hs.1 hg hr, hs.2.1, ownFrom_below (Nat.le_refl _) (by omega) s A B row hs.2.2 hg hr⟩)
    (fun k s A B row hs hg hr => by
      obtain ⟨p, x, h1, h2, h3, h4, h5, h6⟩ := hs
      exact ⟨p, x, h1, h2, h3, h4, own_blk h5 hg hr, ownFrom_below (Nat.le_refl _) (by omega) s A B row h6 hg hr⟩)
    ⟨X1, fun i hi => by simp [rowsA] at hi, B1⟩
    (fun x => { tmps := #[.agg #[.int .i64 c, .int .i64 z, .slice a es.length cap], .pointer (some ⟨w.heap.size, 0, none⟩), .int .i64 0, .pointer (some ⟨w1.heap.size, 0, none⟩), .bool (decide (solverP c z es)), .pointer (some ⟨w1.heap.size + 1, 0, none⟩), .pointer (some ⟨x.1.b, 0, none⟩), .tuple #[.agg #[.int .i64 c', .int .i64 z', .pointer (ptrOf ls)], .bool (decide (solverP c z es))], .agg #[.int .i64 c, .int .i64 z, .slice a es.length cap],
      .tuple #[.agg #[.int .i64 c', .int .i64 z', .pointer (ptrOf ls)], .bool (decide (solverP c z es))], .agg #[.int .i64 c', .int .i64 z', .pointer (ptrOf ls)], .bool (decide (solverP c z es)), .func (.func 61) #[] #[.pointer (some ⟨w1.heap.size + 2, 0, none⟩)], .pointer (some ⟨x.1.b, 0, none⟩), undef, undef, undef, undef, undef, undef, undef], defers := [] }) ?assign ?body ?done ?stop
  case assign =>
    intro l x W K hK
    gi_wp2
    exact hK
  case body =>
    rintro l pre x W ⟨Y1, hP, B2⟩ hlen
    have hc := box_cell Y1 0 (v := .int .i64 pre.length) rfl
    have hx := HC.out x.1 x.2
    have hx0 := (B2.cell (p := ⟨x.1.b, 0, none⟩) hx.1).trans hx.2
    have hx1 := hR x.1 x.2
    have HP := hid hP
    have HY := hid Y1
    have TW := hid ((HT.out.below (u_cat (u_b1 _ _) hB)).below B2)
    clear hP hx
    have K := hid (isBlock_any x.1.b x.1.r pre.length W hx0 hx1.1 hx1.2 TW.out)
    by_cases hxr : x.1.r = [(pre.length : Int)]
    · rw [decide_eq_true hxr] at K
      have HX := hid hxr
      clear hxr hx0 hx1
      gi_wp2_with (refine ⟨trivial, ?_⟩; gi_at_call 91; refine (callsIn_wide.2 (K.out)).mono ?_; rintro e W2 ⟨rfl, d2⟩; have hbq : Below W.heap.size W W2 := d2.below _; have HY2 := hid (kept HY.out hbq); have hc2 := box_cell HY2.out 0 (v := .int .i64 pre.length) rfl; have hz2 := box_frozen HY2.out 0; have HQ := hid hbq; clear d2 hbq hc)
      refine ⟨((keeps_below HQ.out).trans (KeepsOthers.setCell _ _ _)).from _, u_set (HQ.out.mono B2.size) (by omega) _ _, ?_, ?_, u_set (u_catn B2 (Nat.le_refl _) HQ.out) (by omega) _ _⟩
      · have := set_block HY2.out 0 (.int .i64 ((pre.length : Int) + 1))
        rw [List.length_append]
        exact this
      · rw [rowsA_snoc]
        exact HP.out.snoc (by rw [rowsA_len]; exact HX.out)
    · rw [decide_eq_false hxr] at K
      have HX := hid hxr
      clear hxr hx0 hx1
      gi_wp2_with (refine ⟨trivial, ?_⟩; gi_at_call 91; refine (callsIn_wide.2 (K.out)).mono ?_; rintro e W2 ⟨rfl, d2⟩; have hbq : Below W.heap.size W W2 := d2.below _; have HY2 := hid (kept HY.out hbq); have hc2 := box_cell HY2.out 0 (v := .int .i64 pre.length) rfl; have hz2 := box_frozen HY2.out 0; have HQ := hid hbq; clear d2 hbq hc)
      exact ⟨(keeps_below HQ.out).from _, pre, x, rfl, rfl, HP.out, HX.out, HY2.out, u_catn B2 (Nat.le_refl _) HQ.out⟩
  case done =>
    rintro D ys W hD rfl ⟨Y1, hP, B2⟩ hK
    have hLn := hid (show (ls.attach.length : Int) = pfx 0 ((eqsOf c z es).map EqV.r) by
      rw [attach_rows, hSm.1] at hP
      rw [pfx_all hP, ← hSm.1, List.length_map, List.length_attach])
    rw [hLn.out] at Y1
    have hc := box_cell Y1 0 (v := .int .i64 (pfx 0 ((eqsOf c z es).map EqV.r))) rfl
    clear hP
    gi_wp2
    refine ⟨by simp, .inl ⟨_, _, rfl, run_takeDeferred hK, ?_⟩⟩
    refine ⟨.int .i64 (pfx 0 ((eqsOf c z es).map EqV.r)), ?_, rfl, ((u_cat (u_b1 _ _) hB).trans (B2.mono (by omega))).trans (belowK_b (w := w) (Nat.le_refl _) W D _ _ (by omega) hK rfl rfl)⟩
    simp [results, Tryd.f90, go_sem]
  case stop =>
    rintro D k pre W hD hSp ⟨p, x, rfl, rfl, hP, hx, Y1, B2⟩ hK
    have hLn := hid (show (p.length : Int) = pfx 0 ((eqsOf c z es).map EqV.r) by
      obtain ⟨t, ht⟩ := hSp
      have h1 := attach_rows ls
      rw [← ht, show rowsA (p ++ [x] ++ t) = rowsA p ++ x.1.r :: rowsA t by simp [rowsA], hSm.1] at h1
      rw [← h1, pfx_stop hP (by rw [rowsA_len]; exact hx), rowsA_len])
    rw [hLn.out] at Y1
    have hc := box_cell Y1 0 (v := .int .i64 (pfx 0 ((eqsOf c z es).map EqV.r))) rfl
    clear hP hx
    gi_wp2
    refine ⟨by simp, .inl ⟨_, _, rfl, run_takeDeferred hK, ?_⟩⟩
    refine ⟨.int .i64 (pfx 0 ((eqsOf c z es).map EqV.r)), ?_, rfl, ((u_cat (u_b1 _ _) hB).trans (B2.mono (by omega))).trans (belowK_b (w := w) (Nat.le_refl _) W D _ _ (by omega) hK rfl rfl)⟩
    simp [results, Tryd.f90, go_sem]
end Go.Proofs.YtfciopjcbeccgaaDoor
