/- How many of the first blocks are known, and a block that is known, by the program. A block that is known, by the program. What the model knows of equations. Solvers that come in: read, measured, compared. -/
import Derived.Test.YtbakicgdloakgaaGreatDoorG13
import Derived.Laws.BytesArg
import Derived.Test.YtbakicgdloakgaaGreatDoorG14
import Derived.Test.YtbakicgdloakgaaGreatDoorG12
import Derived.Test.YtbakicgdloakgaaGreatDoorG3
import Derived.Test.YtbakicgdloakgaaGreatDoorG0
namespace Go.Proofs.YtbakicgdloakgaaGreatDoor
open Go.ChangeShapes Go.WideShapes Go.ChangeAt Go.RowKit Go.Sort Go.Shelf
attribute [local go_sem] Oper.semAt_some

set_option maxHeartbeats 4000000 in
theorem implSolverPrefix_any (a : Option Addr) (cap : Nat) (es : List EqV) (c z : Int) (w : World) (ha : EqsAt w a es) (hsm : SmallE es) (hl : es.length ≤ 1048576) (hT : Tab w) :
    Calls Tryz.prog 135 #[.agg #[.int .i64 c, .int .i64 z, .slice a es.length cap]] w fun e w' => e = .returned (.int .i64 (pfx 0 ((eqsOf c z es).map EqV.r))) ∧ Below w.heap.size w w' := by
  have HA := hid ha
  have HS := hid hsm
  have HT := hid hT
  clear ha hsm hT
  refine (callsIn_wide (n := 9)).1 ?_
  refine callsIn_of_wp_marks Tryz.func135 rfl trivial ?_ rfl
  simp only [Tryz.ntmps135, List.size_toArray, List.length_cons, List.length_nil, Nat.reduceAdd, Nat.reduceSub, Array.replicate_succ, Array.replicate_zero, List.push_toArray, List.append_toArray, List.nil_append, List.cons_append]
  gi_wp2_with (refine ⟨trivial, ?_⟩; first
    | (gi_at_call 89; refine (callsIn_wide.2 (listOf_any a cap es c z _ (HA.out.below (u_b1 _ _)) HS.out hl (HT.out.below (u_b1 _ _)))).mono ?_; intro e w1 h1; obtain ⟨c', z', ls, rfl, hL, hSm, hR, hlen, hB⟩ := listO_any h1; clear h1)
    | (gi_at_call 103; refine (callsIn_wide.2 (links_in _ _)).mono ?_; rintro e w' ⟨rfl, rfl⟩))
  obtain ⟨W0, hW0⟩ : ∃ W0, W0 = ((w1.alloc (.cells #[.int .i64 c', .int .i64 z', .pointer (ptrOf ls)] 109)).alloc (.cells #[.int .i64 0] 3)).alloc (.cells #[.pointer (some ⟨w1.heap.size, 0, none⟩)] 142) := ⟨_, rfl⟩
  rw [← hW0]
  obtain ⟨X0, X1, X2, B1⟩ := u_box3 (w := w1) (c := #[.int .i64 c', .int .i64 z', .pointer (ptrOf ls)]) (t := 109) (d := #[.int .i64 0]) (s := 3) (f := #[.pointer (some ⟨w1.heap.size, 0, none⟩)]) (r := 142) (w1 := W0) (by rw [hW0]; exact Below.refl _ _)
  have Z0 : W0.heap.size = w1.heap.size + 3 := by rw [hW0]; simp
  clear hW0
  have L0 := hL.below B1
  have T0 := HT.out.below (u_cat (u_cat (u_b1 _ _) hB) B1)
  have BW : Below w.heap.size w W0 := u_cat (u_cat (u_b1 _ _) hB) B1
  have hlw := BW.size
  have hs1 : w.heap.size + 1 ≤ w1.heap.size := by have := hB.size; simpa using this
  have HC := hid (show ∀ l ∈ ls, l.b < w1.heap.size ∧ w1.cell? ⟨l.b, 0, none⟩ = some (.int .u32 (setI l.r : Nat)) from fun l hl => by
    obtain ⟨k, hk, rfl⟩ := List.getElem_of_mem hl
    exact ⟨lt_of_block (hL k hk).2.2.1, box_cell (hL k hk).2.2.1 0 rfl⟩)
  refine wpIn_rangeFunc_ownG (α := {x : Lk // x ∈ ls}) rfl (by omega) (gf := 109) (lb := #[.pointer (some ⟨w1.heap.size + 2, 0, none⟩)]) rfl trivial (enters_of Tryz.func109 (by kernel_rfl) rfl)
    (links_stops (9 - 1) _ w1.heap.size ls (by omega) (by omega) (Below w1.heap.size) (fun W W' h k j hj => (k.cell (p := ⟨ls[j].b, 2, none⟩) (lt_of_block (hL j hj).2.2.1)).trans (h j hj)) W0 (box_cell X2 0 rfl) (box_cell X0 2 rfl) L0.leads)
    belowK_t (belowK_b (by omega)) (Below.refl _ _) (fun _ => rfl)
    (fun pre W => W.heap[w1.heap.size + 1]? = some (.cells #[.int .i64 pre.length] 3 (0, 0)) ∧ Places (rowsA pre) ∧ Below w1.heap.size w1 W)
    (fun k pre W => ∃ (p : List {x : Lk // x ∈ ls}) (x : {x : Lk // x ∈ ls}), k = .exit 0 ∧ pre = p ++ [x] ∧ Places (rowsA p) ∧ x.1.r ≠ [(p.length : Int)] ∧ W.heap[w1.heap.size + 1]? = some (.cells #[.int .i64 p.length] 3 (0, 0)) ∧ Below w1.heap.size w1 W)
    (fun s A B row hs hg hr => ⟨own_blk hs.1 hg hr, hs.2.1, ownFrom_below (Nat.le_refl _) (by omega) s A B row hs.2.2 hg hr⟩)
    (fun k s A B row hs hg hr => by
      obtain ⟨p, x, h1, h2, h3, h4, h5, h6⟩ := hs
      exact ⟨p, x, h1, h2, h3, h4, own_blk h5 hg hr, ownFrom_below (Nat.le_refl _) (by omega) s A B row h6 hg hr⟩)
    ⟨X1, fun i hi => by simp [rowsA] at hi, B1⟩
    (fun x => { tmps := #[.agg #[.int .i64 c, .int .i64 z, .slice a es.length cap], .pointer (some ⟨w.heap.size, 0, none⟩), .int .i64 0, .pointer (some ⟨w1.heap.size, 0, none⟩), .bool (decide (solverP c z es)), .pointer (some ⟨w1.heap.size + 1, 0, none⟩), .pointer (some ⟨x.1.b, 0, none⟩), .tuple #[.agg #[.int .i64 c', .int .i64 z', .pointer (ptrOf ls)], .bool (decide (solverP c z es))], .agg #[.int .i64 c, .int .i64 z, .slice a es.length cap],
      .tuple #[.agg #[.int .i64 c', .int .i64 z', .pointer (ptrOf ls)], .bool (decide (solverP c z es))], .agg #[.int .i64 c', .int .i64 z', .pointer (ptrOf ls)], .bool (decide (solverP c z es)), .func (.func 109) #[] #[.pointer (some ⟨w1.heap.size + 2, 0, none⟩)], .pointer (some ⟨x.1.b, 0, none⟩), undef, undef, undef, undef, undef, undef, undef], defers := [] }) ?assign ?body ?done ?stop
  case assign =>
    intro l x W K hK
    gi_wp2
    exact hK
  case body =>
    rintro l pre x W ⟨Y1, hP, B2⟩ hlen
    have hc := box_cell Y1 0 (v := .int .i64 pre.length) rfl
    have hx := HC.out x.1 x.2
    have hx0 := (B2.cell (p := ⟨x.1.b, 0, none⟩) hx.1).trans hx.2
    have hx1 := hR x.1 x.2
    have HP := hid hP
    have HY := hid Y1
    have TW := hid ((HT.out.below (u_cat (u_b1 _ _) hB)).below B2)
    clear hP hx
    have K := hid (isBlock_any x.1.b x.1.r pre.length W hx0 hx1.1 hx1.2 TW.out)
    by_cases hxr : x.1.r = [(pre.length : Int)]
    · rw [decide_eq_true hxr] at K
      have HX := hid hxr
      clear hxr hx0 hx1
      gi_wp2_with (refine ⟨trivial, ?_⟩; gi_at_call 136; refine (callsIn_wide.2 (K.out)).mono ?_; rintro e W2 ⟨rfl, d2⟩; have hbq : Below W.heap.size W W2 := d2.below _; have HY2 := hid (kept HY.out hbq); have hc2 := box_cell HY2.out 0 (v := .int .i64 pre.length) rfl; have hz2 := box_frozen HY2.out 0; have HQ := hid hbq; clear d2 hbq hc)
      refine ⟨((keeps_below HQ.out).trans (KeepsOthers.setCell _ _ _)).from _, u_set (HQ.out.mono B2.size) (by omega) _ _, ?_, ?_, u_set (u_catn B2 (Nat.le_refl _) HQ.out) (by omega) _ _⟩
      · have := set_block HY2.out 0 (.int .i64 ((pre.length : Int) + 1))
        rw [List.length_append]
        exact this
      · rw [rowsA_snoc]
        exact HP.out.snoc (by rw [rowsA_len]; exact HX.out)
    · rw [decide_eq_false hxr] at K
      have HX := hid hxr
      clear hxr hx0 hx1
      gi_wp2_with (refine ⟨trivial, ?_⟩; gi_at_call 136; refine (callsIn_wide.2 (K.out)).mono ?_; rintro e W2 ⟨rfl, d2⟩; have hbq : Below W.heap.size W W2 := d2.below _; have HY2 := hid (kept HY.out hbq); have hc2 := box_cell HY2.out 0 (v := .int .i64 pre.length) rfl; have hz2 := box_frozen HY2.out 0; have HQ := hid hbq; clear d2 hbq hc)
      exact ⟨(keeps_below HQ.out).from _, pre, x, rfl, rfl, HP.out, HX.out, HY2.out, u_catn B2 (Nat.le_refl _) HQ.out⟩
  case done =>
    rintro D ys W hD rfl ⟨Y1, hP, B2⟩ hK
    have hLn := hid (show (ls.attach.length : Int) = pfx 0 ((eqsOf c z es).map EqV.r) by
      rw [attach_rows, hSm.1] at hP
      rw [pfx_all hP, ← hSm.1, List.length_map, List.length_attach])
    rw [hLn.out] at Y1
    have hc := box_cell Y1 0 (v := .int .i64 (pfx 0 ((eqsOf c z es).map EqV.r))) rfl
    clear hP
    gi_wp2
    refine ⟨by simp, .inl ⟨_, _, rfl, run_takeDeferred hK, ?_⟩⟩
    refine ⟨.int .i64 (pfx 0 ((eqsOf c z es).map EqV.r)), ?_, rfl, ((u_cat (u_b1 _ _) hB).trans (B2.mono (by omega))).trans (belowK_b (w := w) (Nat.le_refl _) W D _ _ (by omega) hK rfl rfl)⟩
    simp [results, Tryz.f135, go_sem]
  case stop =>
    rintro D k pre W hD hSp ⟨p, x, rfl, rfl, hP, hx, Y1, B2⟩ hK
    have hLn := hid (show (p.length : Int) = pfx 0 ((eqsOf c z es).map EqV.r) by
      obtain ⟨t, ht⟩ := hSp
      have h1 := attach_rows ls
      rw [← ht, show rowsA (p ++ [x] ++ t) = rowsA p ++ x.1.r :: rowsA t by simp [rowsA], hSm.1] at h1
      rw [← h1, pfx_stop hP (by rw [rowsA_len]; exact hx), rowsA_len])
    rw [hLn.out] at Y1
    have hc := box_cell Y1 0 (v := .int .i64 (pfx 0 ((eqsOf c z es).map EqV.r))) rfl
    clear hP hx
    gi_wp2
    refine ⟨by simp, .inl ⟨_, _, rfl, run_takeDeferred hK, ?_⟩⟩
    refine ⟨.int .i64 (pfx 0 ((eqsOf c z es).map EqV.r)), ?_, rfl, ((u_cat (u_b1 _ _) hB).trans (B2.mono (by omega))).trans (belowK_b (w := w) (Nat.le_refl _) W D _ _ (by omega) hK rfl rfl)⟩
    simp [results, Tryz.f135, go_sem]
end Go.Proofs.YtbakicgdloakgaaGreatDoor
namespace Go.Proofs.YtbakicgdloakgaaGreatDoor
open Go.ChangeShapes Go.WideShapes Go.ChangeAt Go.RowKit Go.Sort Go.Shelf
attribute [local go_sem] Oper.semAt_some

theorem str_numsOf (s : ByteArray) : strOfNums (numsOf s) = s := by
  show (⟨((s.data.toList.map (fun b => (b.toNat : Int))).map fun n => UInt8.ofNat n.toNat).toArray⟩ : ByteArray) = s
  rw [List.map_map]
  have : (fun n : Int => UInt8.ofNat n.toNat) ∘ (fun b : UInt8 => (b.toNat : Int)) = id := by
    funext b
    simp
  rw [this, List.map_id, Array.toArray_toList]
end Go.Proofs.YtbakicgdloakgaaGreatDoor
namespace Go.Proofs.YtbakicgdloakgaaGreatDoor
open Go.ChangeShapes Go.WideShapes Go.ChangeAt Go.RowKit Go.Sort Go.Shelf
attribute [local go_sem] Oper.semAt_some

theorem eqsOf_yes {c z : Int} {es : List EqV} (h : solverP c z es) : eqsOf c z es = es := if_pos h
theorem pfx_spec : ∀ (rs : List (List Int)) (n : Nat), n ≤ pfx n rs ∧ pfx n rs ≤ n + rs.length ∧ (∀ i, n + i < pfx n rs → rs[i]? = some [((n + i : Nat) : Int)]) ∧ rs[pfx n rs - n]? ≠ some [((pfx n rs : Nat) : Int)]
  | [], n => ⟨Nat.le_refl _, Nat.le_refl _, fun i hi => by simp only [pfx] at hi; omega, by simp⟩
  | r :: rs, n => by
    by_cases h : r = [(n : Int)]
    · have e : pfx n (r :: rs) = pfx (n + 1) rs := by show (if r = [(n : Int)] then pfx (n + 1) rs else n) = _; rw [if_pos h]
      obtain ⟨h1, h2, h3, h4⟩ := pfx_spec rs (n + 1)
      rw [e]
      refine ⟨by omega, by rw [List.length_cons]; omega, fun i hi => ?_, ?_⟩
      · cases i with
        | zero => simpa using h
        | succ i =>
          have := h3 i (by omega)
          rw [List.getElem?_cons_succ, this]
          congr 3
          omega
      · rw [show pfx (n + 1) rs - n = (pfx (n + 1) rs - (n + 1)) + 1 by omega, List.getElem?_cons_succ]
        exact h4
    · have e : pfx n (r :: rs) = n := by show (if r = [(n : Int)] then pfx (n + 1) rs else n) = _; rw [if_neg h]
      rw [e]
      refine ⟨Nat.le_refl _, by omega, fun i hi => by omega, ?_⟩
      rw [Nat.sub_self, List.getElem?_cons_zero]
      intro h2
      exact h (Option.some.inj h2)
theorem hd_ge {c z : Int} {es : List EqV} (h : okE c z es) : ∀ (i : Nat) (hi : i < es.length), (i : Int) ≤ hd es[i].r := by
  have h' := okE_iff.1 h
  intro i
  induction i with
  | zero =>
    intro hi
    have := asc_mem (h' 0 hi).1.1 (hd_mem (h' 0 hi).1.2.2)
    omega
  | succ i ih =>
    intro hi
    have h1 := ih (by omega)
    have h2 := ((h' i (by omega)).2 (i + 1) hi (by omega)).1
    omega
end Go.Proofs.YtbakicgdloakgaaGreatDoor
namespace Go.Proofs.YtbakicgdloakgaaGreatDoor
open Go.ChangeShapes Go.WideShapes Go.ChangeAt Go.RowKit Go.Sort Go.Shelf
attribute [local go_sem] Oper.semAt_some

/-- The same equations, wherever they lie. -/
def SamV (es fs : List EqV) : Prop := es.map EqV.r = fs.map EqV.r ∧ es.map EqV.d = fs.map EqV.d
theorem SamV.len {es fs : List EqV} (h : SamV es fs) : es.length = fs.length := by
  have := congrArg List.length h.1
  rwa [List.length_map, List.length_map] at this
theorem SamV.at {es fs : List EqV} (h : SamV es fs) {k : Nat} (h1 : k < es.length) (h2 : k < fs.length) : es[k].r = fs[k].r ∧ es[k].d = fs[k].d := by
  have e1 := congrArg (fun l => l[k]?) h.1
  have e2 := congrArg (fun l => l[k]?) h.2
  simp only [List.getElem?_map, List.getElem?_eq_getElem h1, List.getElem?_eq_getElem h2, Option.map_some, Option.some.injEq] at e1 e2
  exact ⟨e1, e2⟩
theorem SamV.symm {es fs : List EqV} (h : SamV es fs) : SamV fs es := ⟨h.1.symm, h.2.symm⟩
theorem SamV.trans {es fs gs : List EqV} (h : SamV es fs) (k : SamV fs gs) : SamV es gs := ⟨h.1.trans k.1, h.2.trans k.2⟩
theorem SamV.ok {c z : Int} : ∀ {es fs : List EqV}, SamV es fs → (okE c z es ↔ okE c z fs)
  | [], [], _ => Iff.rfl
  | [], f :: fs, h => by have := h.len; simp at this
  | e :: es, [], h => by have := h.len; simp at this
  | e :: es, f :: fs, h => by
    obtain ⟨h1, h2⟩ := h
    simp only [List.map_cons, List.cons.injEq] at h1 h2
    have ih := SamV.ok (c := c) (z := z) (es := es) (fs := fs) ⟨h1.2, h2.2⟩
    show (ascB (-1) c e.r = true ∧ (e.d.size : Int) = z ∧ fits e.r (es.map EqV.r)) ∧ okE c z es ↔ (ascB (-1) c f.r = true ∧ (f.d.size : Int) = z ∧ fits f.r (fs.map EqV.r)) ∧ okE c z fs
    rw [h1.1, h2.1, h1.2, ih]
theorem SamV.solver {c z : Int} {es fs : List EqV} (h : SamV es fs) : solverP c z es ↔ solverP c z fs := by
  unfold solverP
  rw [h.ok]
theorem SamV.small {es fs : List EqV} (h : SamV es fs) (hs : SmallE es) : SmallE fs := fun f hf => by
  obtain ⟨k, hk, rfl⟩ := List.getElem_of_mem hf
  have hk2 : k < es.length := by rw [h.len]; exact hk
  obtain ⟨e1, e2⟩ := h.at hk2 hk
  have := hs es[k] (List.getElem_mem hk2)
  rw [e1, e2] at this
  exact this

/-- What a measure says: too much, or what it has seen and what is left. -/
def szP (P : Prop) (left v : Int) : Prop := v < 0 ∨ P ∧ 0 ≤ v ∧ v ≤ left
set_option maxRecDepth 100000 in
theorem szIntS_ex (a : Option Addr) (n c : Nat) (left : Int) (w : World) (hn : n ≤ 9223372036854775807) (h0 : 0 ≤ left) (h1 : left ≤ 1048576) :
    Calls Tryz.prog 66 #[.slice a n c, .int .i64 left] w fun e w' => ∃ v : Int, e = .returned (.int .i64 v) ∧ szP ((n : Int) ≤ left) left v ∧ w' = w := by
  by_cases h : (n : Int) ≤ left
  · have h2 : ¬ (left - n < 0) := by omega
    have H := hid h
    clear h
    go_enter Tryz.func66, Tryz.ntmps66
    go_wp2
    go_ret
    exact ⟨_, rfl, .inr ⟨H.out, by omega, by omega⟩, rfl⟩
  · have h2 : left - n < 0 := by omega
    go_enter Tryz.func66, Tryz.ntmps66
    go_wp2
    go_ret
    exact ⟨_, rfl, .inl (by omega), rfl⟩

set_option maxRecDepth 100000 in
set_option maxHeartbeats 1000000 in
theorem szEq_ex (a : Option Addr) (n c : Nat) (d : ByteArray) (left : Int) (w : World) (hn : n ≤ 9223372036854775807) (hd : d.size ≤ 9223372036854775807) (h0 : 0 ≤ left) (h1 : left ≤ 1048576) :
    Calls Tryz.prog 85 #[.agg #[.slice a n c, .string d], .int .i64 left] w fun e w' => ∃ v : Int, e = .returned (.int .i64 v) ∧ szP ((n : Int) ≤ left ∧ (d.size : Int) ≤ left) left v ∧ Below w.heap.size w w' := by
  go_enter Tryz.func85, Tryz.ntmps85
  go_wp2_with fail
  refine (szIntS_ex a n c left _ hn h0 h1).mono ?_
  rintro e w1 ⟨v, rfl, hv, rfl⟩
  by_cases hv0 : v < 0
  · clear hv
    go_wp2_with fail
    go_ret
    exact ⟨_, rfl, .inl (by omega), u_b1 _ _⟩
  · obtain ⟨g1, g2, g3⟩ : (n : Int) ≤ left ∧ 0 ≤ v ∧ v ≤ left := hv.resolve_left hv0
    clear hv
    by_cases hs : (d.size : Int) ≤ v
    · have hs2 : ¬ (v - d.size < 0) := by omega
      go_wp2_with fail
      go_ret
      exact ⟨_, rfl, .inr ⟨⟨g1, by omega⟩, by omega, by omega⟩, u_b1 _ _⟩
    · have hs2 : v - d.size < 0 := by omega
      go_wp2_with fail
      go_ret
      exact ⟨_, rfl, .inl (by omega), u_b1 _ _⟩

/-- How long what comes in may be at all. -/
def LongE (es : List EqV) : Prop := ∀ e ∈ es, e.r.length ≤ 9223372036854775807 ∧ e.d.size ≤ 9223372036854775807

set_option maxRecDepth 100000 in
set_option maxHeartbeats 1000000 in
theorem eqEq_same (a b : Option Addr) (ca cb : Nat) (r : List Int) (d : ByteArray) (w : World) (ha : IntsAt w a r) (hb : IntsAt w b r) (hr : r.length ≤ 1048576) :
    Calls Tryz.prog 94 #[.agg #[.slice a r.length ca, .string d], .agg #[.slice b r.length cb, .string d]] w fun e w' => e = .returned (.bool true) ∧ Below w.heap.size w w' := by
  have HA := hid ha
  have HB := hid hb
  have B0 := u_b2 w (.cells #[.slice a r.length ca, .string d] 124) (.cells #[.slice b r.length cb, .string d] 124)
  have K := hid (eqIntS_any a b ca cb r r _ (HA.out.below B0) (HB.out.below B0) (by omega))
  rw [decide_eq_true rfl] at K
  clear ha hb
  go_enter Tryz.func94, Tryz.ntmps94
  go_wp2_with (go_at_call 79; refine K.out.mono ?_; rintro _ w1 ⟨rfl, n, rfl⟩)
  go_ret
  exact ⟨rfl, below_drewN B0 n⟩

set_option maxRecDepth 100000 in
set_option maxHeartbeats 2000000 in
theorem eqEqS_same (a b : Option Addr) (ca cb : Nat) (es fs : List EqV) (w : World) (ha : EqsAt w a es) (hb : EqsAt w b fs) (hs : SamV es fs) (hx : es.length ≤ 1048576) (hsm : SmallE es) :
    Calls Tryz.prog 80 #[.slice a es.length ca, .slice b fs.length cb] w fun e w' => e = .returned (.bool true) ∧ Below w.heap.size w w' := by
  have HA := hid ha
  have HB := hid hb
  have HM := hid hs
  have HS := hid hsm
  rw [← hs.len]
  clear ha hb hs hsm
  go_enter Tryz.func80, Tryz.ntmps80
  go_wp2
  go_loopw [5] (fun i wr => ∃ k : Nat, k ≤ es.length ∧ i = .int .i64 k ∧ Below w.heap.size w wr) (fun i _ => es.length - (intOf i).toNat)
  case atStart => exact ⟨0, Nat.zero_le _, rfl, Below.refl _ _⟩
  case round =>
    obtain ⟨k, hk, rfl, B⟩ := hrel
    by_cases hlt : k < es.length
    · have hlt2 : k < fs.length := by rw [← HM.out.len]; exact hlt
      obtain ⟨e, he⟩ : ∃ e, es[k] = e := ⟨_, rfl⟩
      obtain ⟨f, hf⟩ : ∃ f, fs[k] = f := ⟨_, rfl⟩
      obtain ⟨b1, o1, rfl, h1⟩ := (HA.out.below B) (by intro h; simp [h] at hlt)
      obtain ⟨b2, o2, rfl, h2⟩ := (HB.out.below B) (by intro h; simp [h] at hlt2)
      obtain ⟨c0, c1, crow⟩ := h1 k e (by rw [List.getElem?_eq_getElem hlt, he])
      obtain ⟨d0, d1, drow⟩ := h2 k f (by rw [List.getElem?_eq_getElem hlt2, hf])
      have hef := HM.out.at hlt hlt2
      rw [he, hf] at hef
      obtain ⟨hr, hd⟩ := hef
      rw [← hr] at d0 drow
      rw [← hd] at d1
      have hrl := (HS.out e (by rw [← he]; exact List.getElem_mem hlt)).1
      have k1 := hid (rg (w := wr) (fun w' hb => eqEq_same e.a f.a e.c f.c e.r e.d w' (crow.below hb) (drow.below hb) hrl))
      have r0 := cell_regrown c0
      have r1 := cell_regrown c1
      have s0 := cell_regrown d0
      have s1 := cell_regrown d1
      have HBB := hid B
      have n2 : (k : Int) < es.length := by omega
      clear c0 c1 d0 d1 h1 h2 he hf hr hd crow drow B
      go_wp2
      refine wp_region_quiet_below (by kernel_rfl) (by kernel_rfl) ?_
      repeat (first | go_big_quiet_step ((go_at_call 94; with_reducible exact k1.out _ _)) | quiet_step ((go_at_call 94; with_reducible exact k1.out _ _)))
      refine wpQuiet_nil ?_
      intro V2 hw'
      obtain ⟨⟨dq, osq⟩, hw''⟩ := hw'
      have hbq := below_regrown wr dq osq
      rw [← hw''] at hbq
      clear hw'' dq osq r0 r1 s0 s1
      go_wp2
      go_roundw
      case rel => exact ⟨k + 1, by omega, by go_num, u_cat HBB.out hbq⟩
      case measure => simp [intOf]; omega
    · go_wp2
      go_ret
      exact ⟨rfl, B⟩

set_option maxRecDepth 100000 in
set_option maxHeartbeats 1000000 in
theorem eqSolver_same (a b : Option Addr) (ca cb : Nat) (es fs : List EqV) (c z : Int) (w : World) (ha : EqsAt w a es) (hb : EqsAt w b fs) (hs : SamV es fs) (hx : es.length ≤ 1048576) (hsm : SmallE es) :
    Calls Tryz.prog 60 #[.agg #[.int .i64 c, .int .i64 z, .slice a es.length ca], .agg #[.int .i64 c, .int .i64 z, .slice b fs.length cb]] w fun e w' => e = .returned (.bool true) ∧ Below w.heap.size w w' := by
  have HA := hid ha
  have HB := hid hb
  clear ha hb
  have B0 := u_b2 w (.cells #[.int .i64 c, .int .i64 z, .slice a es.length ca] 36) (.cells #[.int .i64 c, .int .i64 z, .slice b fs.length cb] 36)
  have K := hid (eqEqS_same a b ca cb es fs _ (HA.out.below B0) (HB.out.below B0) hs hx hsm)
  go_enter Tryz.func60, Tryz.ntmps60
  go_wp2_with (go_at_call 80; refine K.out.mono ?_; rintro _ w1 ⟨rfl, b1⟩)
  go_ret
  exact ⟨rfl, u_cat B0 b1⟩
end Go.Proofs.YtbakicgdloakgaaGreatDoor
