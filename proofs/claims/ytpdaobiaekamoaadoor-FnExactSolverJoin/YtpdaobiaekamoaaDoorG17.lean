/- What is left of an equation in the end, by the program. Equations that are ok, pair by pair. What all that is known says of a row, by the program. -/
import Derived.Test.YtpdaobiaekamoaaDoorG16
import Derived.Test.YtpdaobiaekamoaaDoorG8
import Derived.Laws.BytesArg
import Derived.Deep.RegionHeld3
namespace Go.Proofs.YtpdaobiaekamoaaDoor
open Go.ChangeShapes Go.WideShapes Go.ChangeAt Go.RowKit Go.Sort Go.Shelf
attribute [local go_sem] Oper.semAt_some

theorem left_in (p : Option Addr) (R : Int) (a : Option Addr) (n c : Nat) (w : World) :
    Calls Tryd.prog 74 #[.pointer p, .int .u32 R, .slice a n c] w fun e w' => e = .returned (.func (.func 79) #[] #[.pointer (some ⟨w.heap.size + 1, 0, none⟩), .pointer (some ⟨w.heap.size + 1 + 1, 0, none⟩), .pointer (some ⟨w.heap.size, 0, none⟩)]) ∧
      w' = ((w.alloc (.cells #[.pointer p] 91)).alloc (.cells #[.int .u32 R] 64)).alloc (.cells #[.slice a n c] 69) := by
  go_enter Tryd.func74, Tryd.ntmps74
  go_wp2
  go_ret
  exact ⟨rfl, rfl⟩

set_option maxHeartbeats 4000000 in
theorem last_any (sb base : Nat) (c z : Int) (ls : List Lk) (r d : List Int) (q cc : Nat) (w : World)
    (hsb : w.heap[sb]? = some (.cells #[.int .i64 c, .int .i64 z, .pointer (ptrOf ls)] 58 (0, 0))) (hL : LksAt w base ls) (hR : RowsL ls) (hll : ls.length ≤ 24) (hr : ascB (-1) 24 r = true) (hq : BytsAt w q d) (hd1 : d.length ≤ 1048576) (hdl : ∀ l ∈ ls, l.d.length = d.length) (hT : Tab w) :
    Calls Tryd.prog 52 #[.pointer (some ⟨sb, 0, none⟩), .int .u32 (setI r : Nat), .slice (some ⟨q, 0, none⟩) d.length cc] w fun e w' => ∃ x : El, (x.r, x.d) = ls.foldl stepL (r, d) ∧ e = .returned (.tuple #[.int .u32 (setI x.r : Nat), .slice (some ⟨x.q, 0, none⟩) x.d.length x.c]) ∧ BytsAt w' x.q x.d ∧ Below w.heap.size w w' := by
  refine (callsIn_wide (n := 9)).1 ?_
  refine callsIn_of_wp_marks Tryd.func52 rfl trivial ?_ rfl
  simp only [Tryd.ntmps52, List.size_toArray, List.length_cons, List.length_nil, Nat.reduceAdd, Nat.reduceSub, Array.replicate_succ, Array.replicate_zero, List.push_toArray, List.append_toArray, List.nil_append, List.cons_append]
  gi_wp2_with (refine ⟨trivial, ?_⟩; gi_at_call 74; refine (callsIn_wide.2 (left_in _ _ _ _ _ _)).mono ?_; rintro e w' ⟨rfl, rfl⟩)
  obtain ⟨W0, hW0⟩ : ∃ W0, W0 = ((((w.alloc (.cells #[.int .u32 (setI r : Nat)] 64)).alloc (.cells #[.slice (some ⟨q, 0, none⟩) d.length cc] 69)).alloc (.cells #[.pointer (some ⟨sb, 0, none⟩)] 91)).alloc (.cells #[.int .u32 (setI r : Nat)] 64)).alloc (.cells #[.slice (some ⟨q, 0, none⟩) d.length cc] 69) := ⟨_, rfl⟩
  obtain ⟨X0, X1, X2, B1⟩ := u_box3 (w := w) (c := #[.int .u32 (setI r : Nat)]) (t := 64) (d := #[.slice (some ⟨q, 0, none⟩) d.length cc]) (s := 69) (f := #[.pointer (some ⟨sb, 0, none⟩)]) (r := 91) (w1 := W0) (by rw [hW0]; exact u_b2 _ _ _)
  have X3 : W0.heap[w.heap.size + 3]? = some (.cells #[.int .u32 (setI r : Nat)] 64 (0, 0)) := by
    rw [hW0, Below.heap_alloc _ _ _ (by simp)]
    exact u_laid _ _ _ (by simp)
  have X4 : W0.heap[w.heap.size + 4]? = some (.cells #[.slice (some ⟨q, 0, none⟩) d.length cc] 69 (0, 0)) := by
    rw [hW0]
    exact u_laid _ _ _ (by simp)
  have Z0 : W0.heap.size = w.heap.size + 5 := by rw [hW0]; simp
  rw [← hW0]
  clear hW0
  have HL := hid hL
  have HR := hid hR
  have HQ := hid hq
  have HT := hid hT
  have HS := hid hsb
  have HDL := hid hdl
  clear hL hR hq hT hsb hdl
  refine wpIn_rangeFunc_old (F := Fence.wide) (n := 9) rfl (by omega) (gf := 79) (lb := #[.pointer (some ⟨w.heap.size + 1 + 1 + 1, 0, none⟩), .pointer (some ⟨w.heap.size + 1 + 1 + 1 + 1, 0, none⟩), .pointer (some ⟨w.heap.size + 1 + 1, 0, none⟩)]) rfl trivial (enters_of Tryd.func79 (by kernel_rfl) rfl)
    (encs := fun x : El => #[.int .u32 (setI x.r : Nat), .slice (some ⟨x.q, 0, none⟩) x.d.length x.c]) (fun _ => rfl)
    (fun x W => BytsAt W x.q x.d)
    (fun x W => (x.r, x.d) = ls.foldl stepL (r, d) ∧ BytsAt W x.q x.d ∧ Below w.heap.size w W)
    (fun o W => W.heap[w.heap.size]? = some (.cells #[.int .u32 (setI (o.getD ⟨r, q, cc, d⟩).r : Nat)] 64 (0, 0)) ∧ W.heap[w.heap.size + 1]? = some (.cells #[.slice (some ⟨(o.getD ⟨r, q, cc, d⟩).q, 0, none⟩) (o.getD ⟨r, q, cc, d⟩).d.length (o.getD ⟨r, q, cc, d⟩).c] 69 (0, 0)))
    (fun j => j = w.heap.size ∨ j = w.heap.size + 1)
    (fun s A B h hb => ⟨(hb.block _ (by omega)).trans h.1, (hb.block _ (by omega)).trans h.2⟩)
    (fun j hj => by omega)
    ⟨X0, X1⟩
    (fun x W o lo h hl => ⟨h.1, h.2.1.own (grownBy_putObj' _ _ _) (fun r e => by cases e; exact ⟨_, hl, rfl⟩), h.2.2.trans (below_putObj W (by omega) _)⟩)
    (fun J W hb hs hJ hY h0 => (left1_in (9 - 1 - 1) (W0.heap.size + 1) w W (w.heap.size + 2) (w.heap.size + 3) (w.heap.size + 4) sb base c z ls r d q cc (fun j => (j = w.heap.size ∨ j = w.heap.size + 1) ∨ j = W0.heap.size + 1) J
      (u_catn B1 (Nat.le_refl _) hb) (fun j hj => by omega) (kept X2 hb) (kept X3 hb) (kept X4 hb) HS.out HL.out HR.out hll hr HQ.out hd1 HDL.out HT.out hJ h0 hY).mono (fun e W' ⟨hv, x, h1, h2, h3, h4⟩ => ⟨hv, x, ⟨h1, h2, h3⟩, h4⟩))
    (fun x => { tmps := #[.pointer (some ⟨sb, 0, none⟩), .int .u32 (setI r : Nat), .slice (some ⟨q, 0, none⟩) d.length cc, undef, .pointer (some ⟨w.heap.size, 0, none⟩), .pointer (some ⟨w.heap.size + 1, 0, none⟩), .int .u32 0, .slice none 0 0, .int .u32 (setI x.r : Nat), .slice (some ⟨x.q, 0, none⟩) x.d.length x.c, .pointer (some ⟨sb, 0, none⟩), .int .u32 (setI r : Nat), .slice (some ⟨q, 0, none⟩) d.length cc,
      .func (.func 79) #[] #[.pointer (some ⟨w.heap.size + 1 + 1 + 1, 0, none⟩), .pointer (some ⟨w.heap.size + 1 + 1 + 1 + 1, 0, none⟩), .pointer (some ⟨w.heap.size + 1 + 1, 0, none⟩)], .int .u32 (setI x.r : Nat), .slice (some ⟨x.q, 0, none⟩) x.d.length x.c, undef, undef, undef, undef], defers := [] }) ?assign ?body ?done
  case assign =>
    intro l x W K hK
    gi_wp2
    exact hK
  case body =>
    rintro l s x W ⟨i0, i1⟩
    have y0 := box_cell i0 0 (v := .int .u32 (setI (s.getD ⟨r, q, cc, d⟩).r : Nat)) rfl
    have y1 := box_cell i1 0 (v := .slice (some ⟨(s.getD ⟨r, q, cc, d⟩).q, 0, none⟩) (s.getD ⟨r, q, cc, d⟩).d.length (s.getD ⟨r, q, cc, d⟩).c) rfl
    have z0 := box_frozen i0 0
    have z1 := box_frozen i1 0
    have I0 := hid i0
    have I1 := hid i1
    clear i0 i1
    gi_wp2
    refine ⟨(Spare.setCell _ (.inl rfl) _ _).trans (Spare.setCell _ (.inr rfl) _ _), ?_, ?_⟩
    · exact set_other (set_block I0.out 0 _) (by omega) _ _
    · exact set_block (set_other I1.out (by omega) _ _) 0 _
  case done =>
    rintro x W ⟨h1, h2, h3⟩ ⟨i0, i1⟩ hK
    have H1 := hid h1
    have H2 := hid h2
    have H3 := hid h3
    have y0 := cell_regrown (box_cell i0 0 (v := .int .u32 (setI x.r : Nat)) rfl)
    have y1 := cell_regrown (box_cell i1 0 (v := .slice (some ⟨x.q, 0, none⟩) x.d.length x.c) rfl)
    clear h1 h2 h3 i0 i1
    gi_wp2
    refine wpIn_wide.2 ?_
    refine wp_region_quiet_below (by kernel_rfl) (by kernel_rfl) ?_
    repeat (first | go_big_quiet_step (fail) | quiet_step (fail))
    refine wpQuiet_nil ?_
    intro V hw'
    have hbq := of_class hw'
    clear hw' y0 y1
    have hK2 := kept hK hbq
    gi_wp2
    refine ⟨by simp, .inl ⟨_, _, rfl, run_takeDeferred hK2, ?_⟩⟩
    refine ⟨.tuple #[.int .u32 (setI x.r : Nat), .slice (some ⟨x.q, 0, none⟩) x.d.length x.c], ?_, x, H1.out, rfl, (H2.out.below hbq).own (grownBy_putObj' _ _ _) (fun r e => by cases e; exact ⟨_, hK2, rfl⟩), (u_catn H3.out (Nat.le_refl _) hbq).trans (below_putObj V (by omega) _)⟩
    simp [results, Tryd.f52, go_sem]
end Go.Proofs.YtpdaobiaekamoaaDoor
namespace Go.Proofs.YtpdaobiaekamoaaDoor
open Go.ChangeShapes Go.WideShapes Go.ChangeAt Go.RowKit Go.Sort Go.Shelf
attribute [local go_sem] Oper.semAt_some

/-- Equations that are ok, pair by pair. -/
theorem okE_iff {c z : Int} : ∀ {es : List EqV}, okE c z es ↔ ∀ i (hi : i < es.length), (ascB (-1) c es[i].r = true ∧ (es[i].d.size : Int) = z ∧ es[i].r ≠ []) ∧ ∀ j (hj : j < es.length), i < j → fit1 es[i].r es[j].r
  | [] => ⟨fun _ i hi => by simp at hi, fun _ => trivial⟩
  | e :: es => by
    constructor
    · rintro ⟨⟨h1, h2, h3⟩, h4⟩ i hi
      have ih := okE_iff.1 h4
      cases i with
      | zero => exact ⟨⟨h1, h2, h3.1⟩, fun j hj hlt => by
          cases j with
          | zero => omega
          | succ j => exact h3.2 _ (List.mem_map_of_mem (List.getElem_mem (by simpa using hj)))⟩
      | succ i =>
        have := ih i (by simpa using hi)
        exact ⟨this.1, fun j hj hlt => by
          cases j with
          | zero => omega
          | succ j => exact this.2 j (by simpa using hj) (by omega)⟩
    · intro h
      refine ⟨⟨(h 0 (by simp)).1.1, (h 0 (by simp)).1.2.1, (h 0 (by simp)).1.2.2, fun r hr => ?_⟩, okE_iff.2 fun i hi => ⟨(h (i + 1) (by simpa using hi)).1, fun j hj hlt => (h (i + 1) (by simpa using hi)).2 (j + 1) (by simpa using hj) (by omega)⟩⟩
      obtain ⟨f, hf, rfl⟩ := List.mem_map.1 hr
      obtain ⟨j, hj, rfl⟩ := List.getElem_of_mem hf
      exact (h 0 (by simp)).2 (j + 1) (by simpa using hj) (by omega)
/-- What the model looks at first. -/
def p1At (c z : Int) (es : List EqV) (i : Nat) : Prop := ∃ hi : i < es.length, (ascB (-1) c es[i].r = true ∧ es[i].r ≠ [] ∧ (es[i].d.size : Int) = z) ∧ (0 < i → ∃ hj : i - 1 < es.length, hd es[i - 1].r < hd es[i].r)
/-- .. and then. -/
def p2At (es : List EqV) (i k : Nat) : Prop := ∀ (hi : i < es.length) (hk : k < es.length), k ≠ i → hd es[i].r ∉ es[k].r
theorem p1_asc {c z : Int} {es : List EqV} (h : ∀ i, i < es.length → p1At c z es i) : ∀ (d i : Nat) (hi : i < es.length) (hj : i + d + 1 < es.length), hd es[i].r < hd es[i + d + 1].r := by
  intro d
  induction d with
  | zero =>
    intro i hi hj
    obtain ⟨_, _, h2⟩ := h (i + 1) hj
    obtain ⟨_, h3⟩ := h2 (by omega)
    exact h3
  | succ d ih =>
    intro i hi hj
    have h1 := ih i hi (by omega)
    obtain ⟨_, _, h2⟩ := h (i + (d + 1) + 1) hj
    obtain ⟨_, h3⟩ := h2 (by omega)
    have e : hd (es[i + (d + 1) + 1 - 1]'(by omega)).r = hd (es[i + d + 1]'(by omega)).r := rfl
    omega
theorem okE_p {c z : Int} {es : List EqV} : okE c z es ↔ (∀ i, i < es.length → p1At c z es i) ∧ ∀ i k, p2At es i k := by
  constructor
  · intro h
    have h' := okE_iff.1 h
    refine ⟨fun i hi => ⟨hi, ⟨(h' i hi).1.1, (h' i hi).1.2.2, (h' i hi).1.2.1⟩, fun h0 => ⟨by omega, ((h' (i - 1) (by omega)).2 i hi (by omega)).1⟩⟩, fun i k hi hk hne => ?_⟩
    rcases Nat.lt_or_ge k i with hlt | hge
    · exact ((h' k hk).2 i hi hlt).2
    · have := ((h' i hi).2 k hk (by omega)).1
      intro hm
      have := hd_le (h' k hk).1.1 hm
      omega
  · rintro ⟨h1, h2⟩
    refine okE_iff.2 fun i hi => ?_
    obtain ⟨_, ⟨a1, a2, a3⟩, _⟩ := h1 i hi
    refine ⟨⟨a1, a3, a2⟩, fun j hj hlt => ⟨?_, h2 j i hj hi (by omega)⟩⟩
    obtain ⟨d, rfl⟩ : ∃ d, j = i + d + 1 := ⟨j - i - 1, by omega⟩
    exact p1_asc h1 d i hi hj
end Go.Proofs.YtpdaobiaekamoaaDoor
namespace Go.Proofs.YtpdaobiaekamoaaDoor
open Go.ChangeShapes Go.WideShapes Go.ChangeAt Go.RowKit Go.Sort Go.Shelf
attribute [local go_sem] Oper.semAt_some

/-- One equation more is taken out. -/
def stepE (s : List Int × List Int) (e : EqV) : List Int × List Int := if hd e.r ∈ s.1 then (xorM s.1 e.r, xorL s.2 (numsOf e.d)) else s
theorem fold_same : ∀ {ls : List Lk} {es : List EqV}, SameE ls es → ∀ s, ls.foldl stepL s = es.foldl stepE s
  | [], [], _, _ => rfl
  | [], _ :: _, h, _ => by have := congrArg List.length h.1; simp at this
  | _ :: _, [], h, _ => by have := congrArg List.length h.1; simp at this
  | l :: ls, e :: es, h, s => by
    obtain ⟨h1, h2⟩ := h
    simp only [List.map_cons, List.cons.injEq] at h1 h2
    have e1 : stepL s l = stepE s e := by unfold stepL stepE; rw [h1.1, h2.1]
    show ls.foldl stepL (stepL s l) = es.foldl stepE (stepE s e)
    rw [e1]
    exact fold_same ⟨h1.2, h2.2⟩ _
/-- What is said of a row: so many noughts, and what is taken out. -/
def saysS (es : List EqV) (z : Int) (row : List Int) : List Int × List Int := es.foldl stepE (row, List.replicate z.toNat 0)
def saysP (c z : Int) (es : List EqV) (row : List Int) : Prop := solverP c z es ∧ ascB (-1) c row = true ∧ (saysS es z row).1 = []
instance (c z : Int) (es : List EqV) (row : List Int) : Decidable (saysP c z es row) := by unfold saysP; infer_instance
def saysT (c z : Int) (es : List EqV) (row : List Int) : ByteArray := if saysP c z es row then strOfNums (saysS es z row).2 else ⟨#[]⟩

theorem foldL_asc : ∀ {ls : List Lk} {s : List Int × List Int}, RowsL ls → ascB (-1) 24 s.1 = true → ascB (-1) 24 (ls.foldl stepL s).1 = true
  | [], _, _, h => h
  | l :: ls, s, hR, h => foldL_asc (ls := ls) (s := stepL s l) (fun x hx => hR x (List.mem_cons_of_mem _ hx)) (stepL_asc h (hR l (List.mem_cons_self ..)).1)
theorem foldL_len : ∀ {ls : List Lk} {s : List Int × List Int}, (∀ l ∈ ls, l.d.length = s.2.length) → (ls.foldl stepL s).2.length = s.2.length
  | [], _, _ => rfl
  | l :: ls, s, h => by
    have e := stepL_len (s := s) (h l (List.mem_cons_self ..))
    have := foldL_len (ls := ls) (s := stepL s l) (fun x hx => by rw [e]; exact h x (List.mem_cons_of_mem _ hx))
    exact this.trans e
theorem SameE.lens {c z : Int} {ls : List Lk} {es : List EqV} (h : SameE ls es) (ho : okE c z es) : ∀ l ∈ ls, (l.d.length : Int) = z := fun l hl => by
  obtain ⟨k, hk, rfl⟩ := List.getElem_of_mem hl
  have hl2 : k < es.length := by
    have := congrArg List.length h.1
    rw [List.length_map, List.length_map] at this
    omega
  have e1 := congrArg (fun l => l[k]?) h.2
  simp only [List.getElem?_map, List.getElem?_eq_getElem hk, List.getElem?_eq_getElem hl2, Option.map_some, Option.some.injEq] at e1
  rw [e1, numsOf_len]
  exact ((okE_iff.1 ho) k hl2).1.2.1

set_option maxHeartbeats 4000000 in
theorem implSolverSays_any (a : Option Addr) (cap : Nat) (es : List EqV) (c z : Int) (ar : Option Addr) (cr : Nat) (row : List Int) (w : World) (ha : EqsAt w a es) (hsm : SmallE es) (hl : es.length ≤ 1048576) (hrow : IntsAt w ar row) (hrl : row.length ≤ 1048576) (hT : Tab w) :
    Calls Tryd.prog 29 #[.agg #[.int .i64 c, .int .i64 z, .slice a es.length cap], .slice ar row.length cr] w fun e w' => e = .returned (.tuple #[.string (saysT c z es row), .bool (decide (saysP c z es row))]) ∧ Below w.heap.size w w' := by
  have HA := hid ha
  have HS := hid hsm
  have HT := hid hT
  have HR := hid hrow
  have B0 := hid (u_b1 w (.cells #[.int .i64 c, .int .i64 z, .slice a es.length cap] 29))
  obtain ⟨i0, hi, hz0, hz1, hz2⟩ := info_parts Tryd.info5
  clear ha hsm hT hrow
  go_enter Tryd.func29, Tryd.ntmps29
  go_wp2_with fail
  refine (listOf_any a cap es c z _ (HA.out.below B0.out) HS.out hl (HT.out.below B0.out)).mono ?_
  rintro e w1 ⟨bb, h⟩
  have B := hid (u_cat B0.out bb)
  have B0S : w.heap.size ≤ (w.alloc (.cells #[.int .i64 c, .int .i64 z, .slice a es.length cap] 29)).heap.size := by simp
  clear bb B0
  rcases h with ⟨hp, ls, rfl, hL, hSm⟩ | ⟨hp, rfl⟩
  · have HP := hid hp
    have c1 := hp.1.1.1
    have c2 := hp.1.1.2
    have z1 := hp.1.2.1
    have z2 := hp.1.2.2
    have HM := hid hSm
    have HL := hid hL
    clear hp hL hSm
    repeat ((fail_if_success (with_reducible show Code.wp _ (Code.region 4 _ _) _ _ _)); (first | go_values | go_skip | go_guarded | go_step | go_upon | go_back | go_simp))
    obtain ⟨V, hV⟩ : ∃ V, V = w1.alloc (.cells #[.int .i64 c, .int .i64 z, .pointer (ptrOf ls)] 58) := ⟨_, rfl⟩
    have bv : Below w1.heap.size w1 V := by rw [hV]; exact u_b1 _ _
    have X := hid (show V.heap[w1.heap.size]? = some (.cells #[.int .i64 c, .int .i64 z, .pointer (ptrOf ls)] 58 (0, 0)) by rw [hV]; exact laid _ _ _)
    rw [← hV]
    clear hV
    replace B := hid (u_cat B.out bv)
    replace HL := hid (HL.out.below bv)
    clear bv
    have q0 := box_cell X.out 0 (v := .int .i64 c) rfl
    go_wp2_with fail
    refine (rowSetOf_in ar cr row c _ (HR.out.below B.out) (by omega) (by omega) c2).mono ?_
    rintro e w' ⟨rfl, hw'⟩
    replace hw' := hw'.symm
    subst hw'
    by_cases hasc : ascB (-1) c row = true
    · rw [hasc, rowBits_yes hasc]
      have HASC := hid hasc
      have H24 := hid (asc_24 hasc c2)
      have HRL := hid (HM.out.rows c2 HP.out.2)
      have HLN := hid (HM.out.lens HP.out.2)
      have hll : ls.length ≤ 24 := by
        have h1 := congrArg List.length HM.out.1
        rw [List.length_map, List.length_map] at h1
        have := okE_24 HP.out.2 (by omega) c2
        omega
      obtain ⟨Zn, rfl⟩ := Int.eq_ofNat_of_zero_le (show 0 ≤ z by omega)
      have q1 := box_cell X.out 1 (v := .int .i64 Zn) rfl
      clear hasc
      go_wp2_with (at_make; refine wpList_make_full _ rfl _ _ 69 rfl V.heap.size 5 i0 (.int .u8 0) 1 Tryd.underlying69 hi hz0 hz1 _ _ _ _ Zn rfl rfl rfl rfl (by rw [hz2]; omega) (by unfold maxLen; omega) (Nat.le_refl _) ?_; intro w2 hown hgr; have BM := hid (show Below V.heap.size V w2 from (Below.refl _ _).grown hgr (Nat.le_refl _) (fun k hk => by simp at hk)); rw [made_byts] at hown; have BA := hid (byts_own (d := List.replicate Zn 0) hown (by simp)); clear hown hgr)
      replace X := hid (kept X.out BM.out)
      replace B := hid (u_cat B.out BM.out)
      replace HL := hid (HL.out.below BM.out)
      have K := last_any w1.heap.size w.heap.size c Zn ls row (List.replicate Zn 0) V.heap.size Zn w2 X.out (HL.out.mono (by have := B0S; omega)) HRL.out hll H24.out BA.out (by simp; omega) (fun l hl => by have := HLN.out l hl; simp; omega) (HT.out.below B.out)
      rw [List.length_replicate] at K
      have K := hid K
      clear BM q0 q1
      refine K.out.mono ?_
      rintro e w3 ⟨x, hx, rfl, ba, bb⟩
      have HX := hid (show (x.r, x.d) = saysS es Zn row by rw [hx, fold_same HM.out]; unfold saysS; rw [Int.toNat_natCast])
      have HXA := hid (show ascB (-1) 24 x.r = true by have := foldL_asc (s := (row, List.replicate Zn 0)) HRL.out H24.out; rw [← hx] at this; exact this)
      have hxl : x.d.length ≤ 16 := by
        have := foldL_len (ls := ls) (s := (row, List.replicate Zn 0)) (fun l hl => by have := HLN.out l hl; simp; omega)
        rw [← hx] at this
        simp at this
        omega
      have BX := hid ba
      replace B := hid (u_cat B.out bb)
      clear hx ba bb K
      by_cases hem : x.r = []
      · have HS2 := hid (show saysP c Zn es row from ⟨HP.out, HASC.out, by rw [← HX.out]; exact hem⟩)
        have H1 := hid (show saysT c Zn es row = strOfNums x.d by unfold saysT; rw [if_pos HS2.out, ← HX.out])
        have H2 := hid (decide_eq_true HS2.out)
        have K := hid (emptyS HXA.out)
        rw [decide_eq_true hem] at K
        clear hem
        go_wp2_with (go_at_call 53; refine (K.out _).mono ?_; rintro e w' ⟨rfl, hw'⟩; replace hw' := hw'.symm; subst hw'; have hcv := run_convert_bytes_arg (P := Tryd.prog) w3 69 5 Tryd.underlying69 Tryd.underlying5 x.q 0 x.d.length x.c x.d rfl (fun i hi => by rw [Nat.zero_add]; exact BX.out.2 i hi) 9 Tryd.underlying9)
        go_ret2
        exact ⟨by rw [H1.out, H2.out]; rfl, B.out⟩
      · have HN := hid (show ¬ saysP c Zn es row from fun h => hem (by have := h.2.2; rw [← HX.out] at this; exact this))
        have H1 := hid (show saysT c Zn es row = ⟨#[]⟩ from if_neg HN.out)
        have H2 := hid (decide_eq_false HN.out)
        have K := hid (emptyS HXA.out)
        rw [decide_eq_false hem] at K
        clear hem
        go_wp2_with (go_at_call 53; refine (K.out _).mono ?_; rintro e w' ⟨rfl, hw'⟩; replace hw' := hw'.symm; subst hw')
        go_ret2
        exact ⟨by rw [H1.out, H2.out]; rfl, B.out⟩
    · have hasc2 : ascB (-1) c row = false := by simpa using hasc
      have HN := hid (show ¬ saysP c z es row from fun h => hasc h.2.1)
      have H1 := hid (show saysT c z es row = ⟨#[]⟩ from if_neg HN.out)
      have H2 := hid (decide_eq_false HN.out)
      rw [hasc2, rowBits_no hasc2]
      clear hasc hasc2
      go_wp2_with fail
      go_ret2
      exact ⟨by rw [H1.out, H2.out]; rfl, B.out⟩
  · have HN := hid (show ¬ saysP c z es row from fun h => hp h.1)
    have H1 := hid (show saysT c z es row = ⟨#[]⟩ from if_neg HN.out)
    have H2 := hid (decide_eq_false HN.out)
    clear hp
    go_wp2_with fail
    go_ret2
    exact ⟨by rw [H1.out, H2.out]; rfl, u_cat B.out (u_b1 _ _)⟩
end Go.Proofs.YtpdaobiaekamoaaDoor
