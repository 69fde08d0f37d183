/- What is known is the same, wherever equations lie. What is known of a thing is the same, wherever it lies. A block that is known, by the program. -/
import Derived.Test.YtfciopjcbeccgaaGreatDoorG20
import Derived.Test.YtfciopjcbeccgaaGreatDoorG32
import Derived.Test.YtfciopjcbeccgaaGreatDoorG17
import Derived.Test.YtfciopjcbeccgaaGreatDoorG23
import Derived.Laws.BytesArg
namespace Go.Proofs.YtfciopjcbeccgaaGreatDoor
open Go.ChangeShapes Go.WideShapes Go.ChangeAt Go.RowKit Go.Sort Go.Shelf

theorem SamV.eqs {c z : Int} {es fs : List EqV} (h : SamV fs es) : SamV (eqsOf c z fs) (eqsOf c z es) := by
  unfold eqsOf
  by_cases hp : solverP c z es
  · rw [if_pos hp, if_pos (h.solver.2 hp)]; exact h
  · rw [if_neg hp, if_neg (fun h1 => hp (h.solver.1 h1))]; exact ⟨rfl, rfl⟩
theorem SamV.rank {c z : Int} {es fs : List EqV} (h : SamV fs es) : (eqsOf c z fs).length = (eqsOf c z es).length := h.eqs.len
theorem SamV.pfx {c z : Int} {es fs : List EqV} (h : SamV fs es) : (eqsOf c z fs).map EqV.r = (eqsOf c z es).map EqV.r := h.eqs.1
theorem SamV.find {at' : Int} : ∀ {es fs : List EqV}, SamV fs es → gotS (getE fs at') = gotS (getE es at') ∧ (getE fs at').isSome = (getE es at').isSome
  | [], [], _ => ⟨rfl, rfl⟩
  | [], f :: fs, h => by have := h.len; simp at this
  | e :: es, [], h => by have := h.len; simp at this
  | e :: es, f :: fs, h => by
    obtain ⟨h1, h2⟩ := h
    simp only [List.map_cons, List.cons.injEq] at h1 h2
    have ih := SamV.find (at' := at') (es := es) (fs := fs) ⟨h1.2, h2.2⟩
    unfold getE at ih ⊢
    by_cases hp : e.r = [at']
    · rw [List.find?_cons_of_pos (a := f) (by rw [h1.1]; simpa using hp), List.find?_cons_of_pos (a := e) (by simpa using hp)]
      exact ⟨h2.1, rfl⟩
    · rw [List.find?_cons_of_neg (a := f) (by rw [h1.1]; simpa using hp), List.find?_cons_of_neg (a := e) (by simpa using hp)]
      exact ih
theorem SamV.got {c z : Int} {es fs : List EqV} (h : SamV fs es) (at' : Int) : gotS (getE (eqsOf c z fs) at') = gotS (getE (eqsOf c z es) at') ∧ (getE (eqsOf c z fs) at').isSome = (getE (eqsOf c z es) at').isSome := h.eqs.find
end Go.Proofs.YtfciopjcbeccgaaGreatDoor
namespace Go.Proofs.YtfciopjcbeccgaaGreatDoor
open Go.ChangeShapes Go.WideShapes Go.ChangeAt Go.RowKit Go.Sort Go.Shelf

theorem SamV.getP {L S : Int} {ws gs : List Int} {C Z : Int} {es fs : List EqV} (h : SamV fs es) : getP L S ws gs C Z fs ↔ getP L S ws gs C Z es := by
  unfold Go.Proofs.YtfciopjcbeccgaaGreatDoor.getP
  rw [h.solver]
theorem SamV.getOk {L S : Int} {ws gs : List Int} {C Z : Int} {es fs : List EqV} (h : SamV fs es) : decide (Go.Proofs.YtfciopjcbeccgaaGreatDoor.getP L S ws gs C Z fs) = decide (Go.Proofs.YtfciopjcbeccgaaGreatDoor.getP L S ws gs C Z es) := by
  rw [decide_eq_decide]; exact h.getP
theorem SamV.getDone {L S : Int} {ws gs : List Int} {C Z : Int} {es fs : List EqV} (h : SamV fs es) : decide (Go.Proofs.YtfciopjcbeccgaaGreatDoor.getP L S ws gs C Z fs ∧ (fs.length : Int) = C) = decide (Go.Proofs.YtfciopjcbeccgaaGreatDoor.getP L S ws gs C Z es ∧ (es.length : Int) = C) := by
  rw [decide_eq_decide, h.getP, h.len]
end Go.Proofs.YtfciopjcbeccgaaGreatDoor
namespace Go.Proofs.YtfciopjcbeccgaaGreatDoor
open Go.ChangeShapes Go.WideShapes Go.ChangeAt Go.RowKit Go.Sort Go.Shelf
attribute [local go_sem] Oper.semAt_some

set_option maxHeartbeats 4000000 in
theorem implSolverGet_any (a : Option Addr) (cap : Nat) (es : List EqV) (c z at' : Int) (w : World) (ha : EqsAt w a es) (hsm : SmallE es) (hl : es.length ≤ 1048576) (hT : Tab w) :
    Calls Tryz.prog 33 #[.agg #[.int .i64 c, .int .i64 z, .slice a es.length cap], .int .i64 at'] w fun e w' => e = .returned (.tuple #[.string (gotS (getE (eqsOf c z es) at')), .bool (getE (eqsOf c z es) at').isSome]) ∧ Below w.heap.size w w' := by
  have HA := hid ha
  have HS := hid hsm
  have HT := hid hT
  clear ha hsm hT
  refine (callsIn_wide (n := 9)).1 ?_
  refine callsIn_of_wp_marks Tryz.func33 rfl trivial ?_ rfl
  simp only [Tryz.ntmps33, List.size_toArray, List.length_cons, List.length_nil, Nat.reduceAdd, Nat.reduceSub, Array.replicate_succ, Array.replicate_zero, List.push_toArray, List.append_toArray, List.nil_append, List.cons_append]
  have B4 : Below w.heap.size w ((((w.alloc (.cells #[.int .i64 c, .int .i64 z, .slice a es.length cap] 37)).alloc (.cells #[.int .i64 at'] 3)).alloc (.cells #[.string ⟨#[]⟩] 9)).alloc (.cells #[.bool false] 4)) := ((((Below.refl _ _).alloc (Nat.le_refl _) _).alloc (by simp) _).alloc (by simp; omega) _).alloc (by simp; omega) _
  obtain ⟨W4, hW4⟩ : ∃ W4, W4 = ((((w.alloc (.cells #[.int .i64 c, .int .i64 z, .slice a es.length cap] 37)).alloc (.cells #[.int .i64 at'] 3)).alloc (.cells #[.string ⟨#[]⟩] 9)).alloc (.cells #[.bool false] 4)) := ⟨_, rfl⟩
  have Q1 : W4.heap[w.heap.size + 1]? = some (.cells #[.int .i64 at'] 3 (0, 0)) := by
    rw [hW4, Below.heap_alloc _ _ _ (by simp), Below.heap_alloc _ _ _ (by simp)]
    exact u_laid _ _ _ (by simp)
  have Q2 : W4.heap[w.heap.size + 2]? = some (.cells #[.string ⟨#[]⟩] 9 (0, 0)) := by
    rw [hW4, Below.heap_alloc _ _ _ (by simp)]
    exact u_laid _ _ _ (by simp)
  have Q3 : W4.heap[w.heap.size + 3]? = some (.cells #[.bool false] 4 (0, 0)) := by
    rw [hW4]
    exact u_laid _ _ _ (by simp)
  rw [← hW4] at B4
  gi_wp2_with (refine ⟨trivial, ?_⟩; first
    | (gi_at_call 48; rw [← hW4]; refine (callsIn_wide.2 (listOf_any a cap es c z W4 (HA.out.below B4) HS.out hl (HT.out.below B4))).mono ?_; intro e w1 h1; obtain ⟨c', z', ls, rfl, hL, hSm, hR, hlen, hB⟩ := listO_any h1; clear h1)
    | (gi_at_call 52; refine (callsIn_wide.2 (links_in _ _)).mono ?_; rintro e w' ⟨rfl, rfl⟩))
  clear hW4
  obtain ⟨W0, hW0⟩ : ∃ W0, W0 = (w1.alloc (.cells #[.int .i64 c', .int .i64 z', .pointer (ptrOf ls)] 67)).alloc (.cells #[.pointer (some ⟨w1.heap.size, 0, none⟩)] 121) := ⟨_, rfl⟩
  rw [← hW0]
  obtain ⟨X0, X2, B1⟩ := u_box2 (w := w1) (c := #[.int .i64 c', .int .i64 z', .pointer (ptrOf ls)]) (t := 67) (d := #[.pointer (some ⟨w1.heap.size, 0, none⟩)]) (s := 121) (w1 := W0) (by rw [hW0]; exact Below.refl _ _)
  have Z0 : W0.heap.size = w1.heap.size + 2 := by rw [hW0]; simp
  clear hW0
  have L0 := hL.below B1
  have BW1 : Below w.heap.size w w1 := u_cat B4 hB
  have Q1 := kept Q1 hB
  have Q2 := kept Q2 hB
  have Q3 := kept Q3 hB
  have hs1 := lt_of_block Q3
  have HL1 := hid hL
  have HC := hid (show ∀ l ∈ ls, l.b < w1.heap.size ∧ w1.cell? ⟨l.b, 0, none⟩ = some (.int .u32 (setI l.r : Nat)) ∧ w1.cell? ⟨l.b, 1, none⟩ = some (.slice (some ⟨l.q, 0, none⟩) l.d.length l.c) ∧ W4.heap.size ≤ l.b ∧ W4.heap.size ≤ l.q ∧ BytsAt w1 l.q l.d from fun l hl => by
    obtain ⟨k, hk, rfl⟩ := List.getElem_of_mem hl
    exact ⟨lt_of_block (hL k hk).2.2.1, box_cell (hL k hk).2.2.1 0 rfl, box_cell (hL k hk).2.2.1 1 rfl, (hL k hk).1, (hL k hk).2.1, (hL k hk).2.2.2⟩)
  refine wpIn_rangeFunc_ownG (α := {x : Lk // x ∈ ls}) rfl (by omega) (gf := 69) (lb := #[.pointer (some ⟨w1.heap.size + 1, 0, none⟩)]) rfl trivial (enters_of Tryz.func69 (by kernel_rfl) rfl)
    (links_stops (9 - 1) _ w1.heap.size ls (by omega) (by omega) (Below w1.heap.size) (fun W W' h k j hj => (k.cell (p := ⟨ls[j].b, 2, none⟩) (lt_of_block (hL j hj).2.2.1)).trans (h j hj)) W0 (box_cell X2 0 rfl) (box_cell X0 2 rfl) L0.leads)
    belowK_t (belowK_b (by omega)) (Below.refl _ _) (fun _ => rfl)
    (fun pre W => (∀ r ∈ rowsA pre, r ≠ [at']) ∧ Below w1.heap.size w1 W)
    (fun k pre W => ∃ (p : List {x : Lk // x ∈ ls}) (x : {x : Lk // x ∈ ls}), k = .ret ∧ pre = p ++ [x] ∧ (∀ r ∈ rowsA p, r ≠ [at']) ∧ x.1.r = [at'] ∧ W.heap[w.heap.size + 2]? = some (.cells #[.string (strOfNums x.1.d)] 9 (0, 0)) ∧ W.heap[w.heap.size + 3]? = some (.cells #[.bool true] 4 (0, 0)) ∧ Below w.heap.size w W)
    (fun s A B row hs hg hr => ⟨hs.1, ownFrom_below (Nat.le_refl _) (by omega) s A B row hs.2 hg hr⟩)
    (fun k s A B row hs hg hr => by
      obtain ⟨p, x, h1, h2, h3, h4, h5, h6, h7⟩ := hs
      exact ⟨p, x, h1, h2, h3, h4, own_blk h5 hg hr, own_blk h6 hg hr, ownFrom_below (Nat.le_refl _) (by omega) s A B row h7 hg hr⟩)
    ⟨fun i hi => by simp [rowsA] at hi, B1⟩
    (fun x => { tmps := #[.agg #[.int .i64 c, .int .i64 z, .slice a es.length cap], .int .i64 at', .pointer (some ⟨w.heap.size, 0, none⟩), .pointer (some ⟨w.heap.size + 1, 0, none⟩), .pointer (some ⟨w.heap.size + 1 + 1, 0, none⟩), .pointer (some ⟨w.heap.size + 1 + 1 + 1, 0, none⟩), .pointer (some ⟨w1.heap.size, 0, none⟩), .bool (decide (solverP c z es)), .pointer (some ⟨x.1.b, 0, none⟩), .tuple #[.agg #[.int .i64 c', .int .i64 z', .pointer (ptrOf ls)], .bool (decide (solverP c z es))], .agg #[.int .i64 c, .int .i64 z, .slice a es.length cap],
      .tuple #[.agg #[.int .i64 c', .int .i64 z', .pointer (ptrOf ls)], .bool (decide (solverP c z es))], .agg #[.int .i64 c', .int .i64 z', .pointer (ptrOf ls)], .bool (decide (solverP c z es)), .func (.func 69) #[] #[.pointer (some ⟨w1.heap.size + 1, 0, none⟩)], .pointer (some ⟨x.1.b, 0, none⟩), undef, undef, undef, undef, undef, undef, undef, undef], defers := [] }) ?assign ?body ?done ?stop
  case assign =>
    intro l x W K hK
    gi_wp2
    exact hK
  case body =>
    rintro l pre x W ⟨hP, B2⟩ hlen
    obtain ⟨lx, e0, e1, e2, e3, e4⟩ := HC.out x.1 x.2
    have hx0 := (B2.cell (p := ⟨x.1.b, 0, none⟩) lx).trans e0
    have hx1 := hR x.1 x.2
    have HP := hid hP
    have TW := hid ((HT.out.below BW1).below B2)
    have K := hid (isBlock_any x.1.b x.1.r at' W hx0 hx1.1 hx1.2 TW.out)
    have hq1 := box_cell (kept Q1 B2) 0 (v := .int .i64 at') rfl
    clear hP
    by_cases hxr : x.1.r = [at']
    · rw [decide_eq_true hxr] at K
      have HX := hid hxr
      clear hxr hx0 hx1
      gi_wp2_with (refine ⟨trivial, ?_⟩; gi_at_call 53; refine (callsIn_wide.2 (K.out)).mono ?_; rintro e W2 ⟨rfl, d2⟩; have hbq : Below w1.heap.size w1 W2 := u_catn B2 (Nat.le_refl _) (d2.below _); have hd1 := (hbq.cell (p := ⟨x.1.b, 1, none⟩) lx).trans e1; have BA := e4.below hbq; have hcv := run_convert_bytes_arg (P := Tryz.prog) W2 73 5 Tryz.underlying73 Tryz.underlying5 x.1.q 0 x.1.d.length x.1.c x.1.d rfl (fun i hi => by rw [Nat.zero_add]; exact BA.2 i hi) 9 Tryz.underlying9; have Y2 := kept Q2 hbq; have Y3 := kept Q3 hbq; have g2 := box_cell Y2 0 (v := .string ⟨#[]⟩) rfl; have g3 := box_cell Y3 0 (v := .bool false) rfl; have f2 := box_frozen Y2 0; have f3 := box_frozen Y3 0; have HQ := hid hbq; have HW := hid (d2.below W.heap.size); have n1 : ¬ w.heap.size + 1 + 1 = w.heap.size + 1 + 1 + 1 := (by omega); have n2 : ¬ w.heap.size + 1 + 1 + 1 = w.heap.size + 1 + 1 := (by omega); have HY2 := hid Y2; have HY3 := hid Y3; clear d2 hbq hq1 Y2 Y3 BA)
      refine ⟨(((keeps_below HW.out).trans (KeepsOthers.setCell _ _ _)).trans (KeepsOthers.setCell _ _ _)).from _, pre, x, rfl, rfl, HP.out, HX.out, set_other (set_block HY2.out 0 _) (by omega) _ _, set_block (set_other HY3.out (by omega) _ _) 0 _, u_set (u_set (BW1.trans (HQ.out.mono BW1.size)) (by omega) _ _) (by omega) _ _⟩
    · rw [decide_eq_false hxr] at K
      have HX := hid hxr
      clear hxr hx0 hx1
      gi_wp2_with (refine ⟨trivial, ?_⟩; gi_at_call 53; refine (callsIn_wide.2 (K.out)).mono ?_; rintro e W2 ⟨rfl, d2⟩; have HW := hid (d2.below W.heap.size); clear d2 hq1)
      refine ⟨(keeps_below HW.out).from _, HW.out.mono B2.size, ?_, u_catn B2 (Nat.le_refl _) HW.out⟩
      intro r hr
      rw [rowsA_snoc] at hr
      rcases List.mem_append.1 hr with h | h
      · exact HP.out r h
      · simp only [List.mem_singleton] at h; subst h; exact HX.out
  case done =>
    rintro D ys W hD rfl ⟨hP, B2⟩ hK
    have HG := hid (show getE (eqsOf c z es) at' = none by
      rw [attach_rows, hSm.1] at hP
      exact getE_none hP)
    have Y2 := kept Q2 B2
    have Y3 := kept Q3 B2
    have g2 := box_cell Y2 0 (v := .string ⟨#[]⟩) rfl
    have g3 := box_cell Y3 0 (v := .bool false) rfl
    have f2 := box_frozen Y2 0
    have f3 := box_frozen Y3 0
    have n1 : ¬ w.heap.size + 1 + 1 = w.heap.size + 1 + 1 + 1 := by omega
    have n2 : ¬ w.heap.size + 1 + 1 + 1 = w.heap.size + 1 + 1 := by omega
    have Z2 := hid (set_other (set_block Y2 0 (.string ⟨#[]⟩)) (g := w.heap.size + 1 + 1 + 1) (by omega) 0 (.bool false))
    have Z3 := hid (set_block (set_other Y3 (g := w.heap.size + 1 + 1) (by omega) 0 (.string ⟨#[]⟩)) 0 (.bool false))
    clear hP
    gi_wp2
    have hK' := (KeepsOthers.setCell (W.setCell ⟨w.heap.size + 1 + 1, 0, none⟩ (.string ⟨#[]⟩)) ⟨w.heap.size + 1 + 1 + 1, 0, none⟩ (.bool false)).same D _ ((KeepsOthers.setCell W ⟨w.heap.size + 1 + 1, 0, none⟩ (.string ⟨#[]⟩)).same D _ hK rfl) rfl
    refine ⟨by simp, .inl ⟨_, _, rfl, run_takeDeferred hK', ?_⟩⟩
    have hc5 := cell_kept (box_cell Z2.out 0 (v := .string ⟨#[]⟩) rfl) (grownBy_putObj' _ D (.deferred none)) (fun r e => by cases e; exact ⟨_, hK', rfl⟩)
    have hc6 := cell_kept (box_cell Z3.out 0 (v := .bool false) rfl) (grownBy_putObj' _ D (.deferred none)) (fun r e => by cases e; exact ⟨_, hK', rfl⟩)
    refine ⟨.tuple #[.string ⟨#[]⟩, .bool false], ?_, by rw [HG.out]; rfl, (u_set (u_set (BW1.trans (B2.mono BW1.size)) (by omega) _ _) (by omega) _ _).trans (belowK_b (w := w) (Nat.le_refl _) _ D _ _ (by omega) hK' rfl rfl)⟩
    simp [results, Tryz.f33, go_sem, hc5, hc6]
  case stop =>
    rintro D k pre W hD hSp ⟨p, x, rfl, rfl, hP, hx, Y2, Y3, B2⟩ hK
    obtain ⟨t, ht⟩ := hSp
    have hpl : p.length < ls.length := by
      have := congrArg List.length ht
      rw [List.length_attach] at this
      simp at this
      omega
    have hxp : ls[p.length] = x.1 := by
      have h1 : ls.attach[p.length]? = some x := by rw [← ht, List.append_assoc, List.getElem?_append_right (Nat.le_refl _)]; simp
      rw [List.getElem?_eq_getElem (by rw [List.length_attach]; exact hpl), List.getElem_attach] at h1
      exact congrArg Subtype.val (Option.some.inj h1)
    have hel : p.length < (eqsOf c z es).length := by
      have h1 := congrArg List.length hSm.1
      rw [List.length_map, List.length_map] at h1
      omega
    have hr : ∀ j (hj : j < (eqsOf c z es).length) (hj2 : j < ls.length), (eqsOf c z es)[j].r = ls[j].r := fun j hj hj2 => by
      have h1 := congrArg (fun l => l[j]?) hSm.1
      simp only [List.getElem?_map, List.getElem?_eq_getElem hj, List.getElem?_eq_getElem hj2, Option.map_some, Option.some.injEq] at h1
      exact h1.symm
    have hdd : numsOf (eqsOf c z es)[p.length].d = x.1.d := by
      have h1 := congrArg (fun l => l[p.length]?) hSm.2
      simp only [List.getElem?_map, List.getElem?_eq_getElem hel, List.getElem?_eq_getElem hpl, Option.map_some, Option.some.injEq] at h1
      rw [← h1, hxp]
    have HG := hid (show getE (eqsOf c z es) at' = some (eqsOf c z es)[p.length] by
      refine getE_at hel (by rw [hr _ hel hpl, hxp]; exact hx) (fun j hj => ?_)
      have hj2 : j < ls.length := by omega
      rw [hr j (by omega) hj2]
      refine hP _ ?_
      have h1 : ls.attach[j]? = p[j]? := by rw [← ht, List.append_assoc, List.getElem?_append_left hj]
      rw [List.getElem?_eq_getElem (by rw [List.length_attach]; exact hj2), List.getElem_attach, List.getElem?_eq_getElem hj] at h1
      have h2 := congrArg Subtype.val (Option.some.inj h1)
      simp only at h2
      rw [h2]
      exact List.mem_map.2 ⟨p[j], List.getElem_mem hj, rfl⟩)
    have HS2 := hid (show strOfNums x.1.d = gotS (some (eqsOf c z es)[p.length]) by rw [← hdd, str_numsOf]; rfl)
    clear hP hx hdd hr hxp ht
    gi_wp2
    refine ⟨by simp, .inl ⟨_, _, rfl, run_takeDeferred hK, ?_⟩⟩
    have hc5 := cell_kept (box_cell Y2 0 (v := .string (strOfNums x.1.d)) rfl) (grownBy_putObj' _ D (.deferred none)) (fun r e => by cases e; exact ⟨_, hK, rfl⟩)
    have hc6 := cell_kept (box_cell Y3 0 (v := .bool true) rfl) (grownBy_putObj' _ D (.deferred none)) (fun r e => by cases e; exact ⟨_, hK, rfl⟩)
    refine ⟨.tuple #[.string (strOfNums x.1.d), .bool true], ?_, by rw [HG.out, HS2.out]; rfl, B2.trans (belowK_b (w := w) (Nat.le_refl _) W D _ _ (by omega) hK rfl rfl)⟩
    simp [results, Tryz.f33, go_sem, hc5, hc6]
end Go.Proofs.YtfciopjcbeccgaaGreatDoor
