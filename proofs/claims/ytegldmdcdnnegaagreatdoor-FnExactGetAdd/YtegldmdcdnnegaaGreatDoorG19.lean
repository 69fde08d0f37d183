/- What is left of an equation in the end, by the program. An equation learnt by the program: where nothing of its row is left. -/
import Derived.Test.YtegldmdcdnnegaaGreatDoorG17
import Derived.Test.YtegldmdcdnnegaaGreatDoorG18
import Derived.Test.YtegldmdcdnnegaaGreatDoorG14
import Derived.Test.YtegldmdcdnnegaaGreatDoorG8
namespace Go.Proofs.YtegldmdcdnnegaaGreatDoor
open Go.ChangeShapes Go.WideShapes Go.ChangeAt Go.RowKit Go.Sort Go.Shelf
attribute [local go_sem] Oper.semAt_some

set_option maxHeartbeats 4000000 in
theorem last_at (sb so base : Nat) (cs : Option Addr → Array Value) (ct : TypeId) (c z : Int) (XC : Bx cs ct so c z) (ls : List Lk) (r d : List Int) (q cc : Nat) (w : World)
    (hsb : w.heap[sb]? = some (.cells (cs (ptrOf ls)) ct (0, 0))) (hL : LksAt w base ls) (hR : RowsL ls) (hll : ls.length ≤ 24) (hr : ascB (-1) 24 r = true) (hq : BytsAt w q d) (hd1 : d.length ≤ 1048576) (hdl : ∀ l ∈ ls, l.d.length = d.length) (hT : Tab w) :
    Calls Tryz.prog 86 #[.pointer (some ⟨sb, so, none⟩), .int .u32 (setI r : Nat), .slice (some ⟨q, 0, none⟩) d.length cc] w fun e w' => ∃ x : El, (x.r, x.d) = ls.foldl stepL (r, d) ∧ e = .returned (.tuple #[.int .u32 (setI x.r : Nat), .slice (some ⟨x.q, 0, none⟩) x.d.length x.c]) ∧ BytsAt w' x.q x.d ∧ Below w.heap.size w w' := by
  refine (callsIn_wide (n := 9)).1 ?_
  refine callsIn_of_wp_marks Tryz.func86 rfl trivial ?_ rfl
  simp only [Tryz.ntmps86, List.size_toArray, List.length_cons, List.length_nil, Nat.reduceAdd, Nat.reduceSub, Array.replicate_succ, Array.replicate_zero, List.push_toArray, List.append_toArray, List.nil_append, List.cons_append]
  gi_wp2_with (refine ⟨trivial, ?_⟩; gi_at_call 110; refine (callsIn_wide.2 (left_in _ _ _ _ _ _)).mono ?_; rintro e w' ⟨rfl, rfl⟩)
  obtain ⟨W0, hW0⟩ : ∃ W0, W0 = ((((w.alloc (.cells #[.int .u32 (setI r : Nat)] 97)).alloc (.cells #[.slice (some ⟨q, 0, none⟩) d.length cc] 102)).alloc (.cells #[.pointer (some ⟨sb, so, none⟩)] 133)).alloc (.cells #[.int .u32 (setI r : Nat)] 97)).alloc (.cells #[.slice (some ⟨q, 0, none⟩) d.length cc] 102) := ⟨_, rfl⟩
  obtain ⟨X0, X1, X2, B1⟩ := u_box3 (w := w) (c := #[.int .u32 (setI r : Nat)]) (t := 97) (d := #[.slice (some ⟨q, 0, none⟩) d.length cc]) (s := 102) (f := #[.pointer (some ⟨sb, so, none⟩)]) (r := 133) (w1 := W0) (by rw [hW0]; exact u_b2 _ _ _)
  have X3 : W0.heap[w.heap.size + 3]? = some (.cells #[.int .u32 (setI r : Nat)] 97 (0, 0)) := by
    rw [hW0, Below.heap_alloc _ _ _ (by simp)]
    exact u_laid _ _ _ (by simp)
  have X4 : W0.heap[w.heap.size + 4]? = some (.cells #[.slice (some ⟨q, 0, none⟩) d.length cc] 102 (0, 0)) := by
    rw [hW0]
    exact u_laid _ _ _ (by simp)
  have Z0 : W0.heap.size = w.heap.size + 5 := by rw [hW0]; simp
  rw [← hW0]
  clear hW0
  have HL := hid hL
  have HR := hid hR
  have HQ := hid hq
  have HT := hid hT
  have HS := hid hsb
  have HDL := hid hdl
  clear hL hR hq hT hsb hdl
  refine wpIn_rangeFunc_old (F := Fence.wide) (n := 9) rfl (by omega) (gf := 115) (lb := #[.pointer (some ⟨w.heap.size + 1 + 1 + 1, 0, none⟩), .pointer (some ⟨w.heap.size + 1 + 1 + 1 + 1, 0, none⟩), .pointer (some ⟨w.heap.size + 1 + 1, 0, none⟩)]) rfl trivial (enters_of Tryz.func115 (by kernel_rfl) rfl)
    (encs := fun x : El => #[.int .u32 (setI x.r : Nat), .slice (some ⟨x.q, 0, none⟩) x.d.length x.c]) (fun _ => rfl)
    (fun x W => BytsAt W x.q x.d)
    (fun x W => (x.r, x.d) = ls.foldl stepL (r, d) ∧ BytsAt W x.q x.d ∧ Below w.heap.size w W)
    (fun o W => W.heap[w.heap.size]? = some (.cells #[.int .u32 (setI (o.getD ⟨r, q, cc, d⟩).r : Nat)] 97 (0, 0)) ∧ W.heap[w.heap.size + 1]? = some (.cells #[.slice (some ⟨(o.getD ⟨r, q, cc, d⟩).q, 0, none⟩) (o.getD ⟨r, q, cc, d⟩).d.length (o.getD ⟨r, q, cc, d⟩).c] 102 (0, 0)))
    (fun j => j = w.heap.size ∨ j = w.heap.size + 1)
    (fun s A B h hb => ⟨(hb.block _ (by omega)).trans h.1, (hb.block _ (by omega)).trans h.2⟩)
    (fun j hj => by omega)
    ⟨X0, X1⟩
    (fun x W o lo h hl => ⟨h.1, h.2.1.own (grownBy_putObj' _ _ _) (fun r e => by cases e; exact ⟨_, hl, rfl⟩), h.2.2.trans (below_putObj W (by omega) _)⟩)
    (fun J W hb hs hJ hY h0 => (left1_at (9 - 1 - 1) (W0.heap.size + 1) w W (w.heap.size + 2) (w.heap.size + 3) (w.heap.size + 4) sb so base cs ct c z XC ls r d q cc (fun j => (j = w.heap.size ∨ j = w.heap.size + 1) ∨ j = W0.heap.size + 1) J
      (u_catn B1 (Nat.le_refl _) hb) (fun j hj => by omega) (kept X2 hb) (kept X3 hb) (kept X4 hb) HS.out HL.out HR.out hll hr HQ.out hd1 HDL.out HT.out hJ h0 hY).mono (fun e W' ⟨hv, x, h1, h2, h3, h4⟩ => ⟨hv, x, ⟨h1, h2, h3⟩, h4⟩))
    (fun x => { tmps := #[.pointer (some ⟨sb, so, none⟩), .int .u32 (setI r : Nat), .slice (some ⟨q, 0, none⟩) d.length cc, undef, .pointer (some ⟨w.heap.size, 0, none⟩), .pointer (some ⟨w.heap.size + 1, 0, none⟩), .int .u32 0, .slice none 0 0, .int .u32 (setI x.r : Nat), .slice (some ⟨x.q, 0, none⟩) x.d.length x.c, .pointer (some ⟨sb, so, none⟩), .int .u32 (setI r : Nat), .slice (some ⟨q, 0, none⟩) d.length cc,
      .func (.func 115) #[] #[.pointer (some ⟨w.heap.size + 1 + 1 + 1, 0, none⟩), .pointer (some ⟨w.heap.size + 1 + 1 + 1 + 1, 0, none⟩), .pointer (some ⟨w.heap.size + 1 + 1, 0, none⟩)], .int .u32 (setI x.r : Nat), .slice (some ⟨x.q, 0, none⟩) x.d.length x.c, undef, undef, undef, undef], defers := [] }) ?assign ?body ?done
  case assign =>
    intro l x W K hK
    gi_wp2
    exact hK
  case body =>
    rintro l s x W ⟨i0, i1⟩
    have y0 := box_cell i0 0 (v := .int .u32 (setI (s.getD ⟨r, q, cc, d⟩).r : Nat)) rfl
    have y1 := box_cell i1 0 (v := .slice (some ⟨(s.getD ⟨r, q, cc, d⟩).q, 0, none⟩) (s.getD ⟨r, q, cc, d⟩).d.length (s.getD ⟨r, q, cc, d⟩).c) rfl
    have z0 := box_frozen i0 0
    have z1 := box_frozen i1 0
    have I0 := hid i0
    have I1 := hid i1
    clear i0 i1
    gi_wp2
    refine ⟨(Spare.setCell _ (.inl rfl) _ _).trans (Spare.setCell _ (.inr rfl) _ _), ?_, ?_⟩
    · exact set_other (set_block I0.out 0 _) (by omega) _ _
    · exact set_block (set_other I1.out (by omega) _ _) 0 _
  case done =>
    rintro x W ⟨h1, h2, h3⟩ ⟨i0, i1⟩ hK
    have H1 := hid h1
    have H2 := hid h2
    have H3 := hid h3
    have y0 := cell_regrown (box_cell i0 0 (v := .int .u32 (setI x.r : Nat)) rfl)
    have y1 := cell_regrown (box_cell i1 0 (v := .slice (some ⟨x.q, 0, none⟩) x.d.length x.c) rfl)
    clear h1 h2 h3 i0 i1
    gi_wp2
    refine wpIn_wide.2 ?_
    refine wp_region_quiet_below (by kernel_rfl) (by kernel_rfl) ?_
    repeat (first | go_big_quiet_step (fail) | quiet_step (fail))
    refine wpQuiet_nil ?_
    intro V hw'
    have hbq := of_class hw'
    clear hw' y0 y1
    have hK2 := kept hK hbq
    gi_wp2
    refine ⟨by simp, .inl ⟨_, _, rfl, run_takeDeferred hK2, ?_⟩⟩
    refine ⟨.tuple #[.int .u32 (setI x.r : Nat), .slice (some ⟨x.q, 0, none⟩) x.d.length x.c], ?_, x, H1.out, rfl, (H2.out.below hbq).own (grownBy_putObj' _ _ _) (fun r e => by cases e; exact ⟨_, hK2, rfl⟩), (u_catn H3.out (Nat.le_refl _) hbq).trans (below_putObj V (by omega) _)⟩
    simp [results, Tryz.f86, go_sem]
end Go.Proofs.YtegldmdcdnnegaaGreatDoor
namespace Go.Proofs.YtegldmdcdnnegaaGreatDoor
open Go.ChangeShapes Go.WideShapes Go.ChangeAt Go.RowKit Go.Sort Go.Shelf
attribute [local go_sem] Oper.semAt_some

set_option maxRecDepth 100000 in
set_option maxHeartbeats 4000000 in
theorem learn_known_at (sb so base : Nat) (cs : Option Addr → Array Value) (ct : TypeId) (c z : Int) (XC : Bx cs ct so c z) (ls : List Lk) (r d : List Int) (q cc : Nat) (w : World)
    (hsb : w.heap[sb]? = some (.cells (cs (ptrOf ls)) ct (0, 0))) (hL : LksAt w base ls) (hR : RowsL ls) (hll : ls.length ≤ 24) (hr : ascB (-1) 24 r = true) (hq : BytsAt w q d) (hd1 : d.length ≤ 1048576) (hdl : ∀ l ∈ ls, l.d.length = d.length) (hT : Tab w)
    (hnil : (ls.foldl stepL (r, d)).1 = []) :
    Calls Tryz.prog 53 #[.pointer (some ⟨sb, so, none⟩), .int .u32 (setI r : Nat), .slice (some ⟨q, 0, none⟩) d.length cc] w fun e w' => e = .returned (.int .i64 (codeK (ls.foldl stepL (r, d)).2 d.length)) ∧ Below w.heap.size w w' := by
  have K := hid (fun V (b : Below w.heap.size w V) => last_at sb so base cs ct c z XC ls r d q cc V (kept hsb b) (hL.below b) hR hll hr (hq.below b) hd1 hdl (hT.below b))
  have HLN := hid (foldL_len (s := (r, d)) (fun l hl => hdl l hl))
  have HNIL := hid hnil
  have HAS := hid (foldL_asc (s := (r, d)) hR hr)
  clear hsb hL hR hll hr hq hdl hT hnil
  obtain ⟨W0, hW0⟩ : ∃ W0, W0 = (w.alloc (.cells #[.int .u32 (setI r : Nat)] 97)).alloc (.cells #[.slice (some ⟨q, 0, none⟩) d.length cc] 102) := ⟨_, rfl⟩
  obtain ⟨X0, X1, B0⟩ := u_box2 (w := w) (c := #[.int .u32 (setI r : Nat)]) (t := 97) (d := #[.slice (some ⟨q, 0, none⟩) d.length cc]) (s := 102) (w1 := W0) (by rw [hW0]; exact Below.refl _ _)
  have hs0 : W0.heap.size = w.heap.size + 2 := by rw [hW0]; simp
  have q0 := box_cell X0 0 (v := .int .u32 (setI r : Nat)) rfl
  have q1 := box_cell X1 0 (v := .slice (some ⟨q, 0, none⟩) d.length cc) rfl
  have HX0 := hid X0
  have HX1 := hid X1
  have HB := hid B0
  clear X0 X1 B0
  go_enter Tryz.func53, Tryz.ntmps53
  repeat ((fail_if_success (with_reducible show Code.wp _ (Code.region 1 _ _) _ _ _)); (first | go_values | go_skip | go_guarded | go_step | go_upon | go_back | go_simp))
  rw [← hW0]
  clear hW0
  go_wp2_with fail
  refine (K.out W0 HB.out).mono ?_
  rintro e w1 ⟨x, hx, rfl, hbx, b1⟩
  have HX := hid hx
  have hxr : x.r = [] := by have := congrArg Prod.fst HX.out; exact this.trans HNIL.out
  have HXR := hid hxr
  have HBX := hid hbx
  have Y0 := kept HX0.out b1
  have Y1 := kept HX1.out b1
  have p0 := box_cell Y0 0 (v := .int .u32 (setI r : Nat)) rfl
  have p1 := box_cell Y1 0 (v := .slice (some ⟨q, 0, none⟩) d.length cc) rfl
  have z0 := box_frozen Y0 0
  have z1 := box_frozen Y1 0
  have l0 := lt_of_block Y0
  have l1 := lt_of_block Y1
  have HB1 := hid (u_cat HB.out b1)
  obtain ⟨V, hV⟩ : ∃ V, V = (w1.setCell ⟨w.heap.size, 0, none⟩ (.int .u32 (setI x.r : Nat))).setCell ⟨w.heap.size + 1, 0, none⟩ (.slice (some ⟨x.q, 0, none⟩) x.d.length x.c) := ⟨_, rfl⟩
  have bV : Below w.heap.size w V := by rw [hV]; exact u_set (u_set HB1.out (Nat.le_refl _) _ _) (by omega) _ _
  have Y1' : (w1.setCell ⟨w.heap.size, 0, none⟩ (.int .u32 (setI x.r : Nat))).heap[w.heap.size + 1]? = some (.cells #[.slice (some ⟨q, 0, none⟩) d.length cc] 102 (0, 0)) := set_other Y1 (by omega) _ _
  have hbV : BytsAt V x.q x.d := by
    rw [hV]
    refine (HBX.out.set_any p0 (fun _ => by simp) _ _).set_any (box_cell Y1' 0 (v := .slice (some ⟨q, 0, none⟩) d.length cc) rfl) (fun _ => by simp) _ _
  have V1 : V.heap[w.heap.size + 1]? = some (.cells #[.slice (some ⟨x.q, 0, none⟩) x.d.length x.c] 102 (0, 0)) := by rw [hV]; exact set_block Y1' 0 _
  have HV1 := hid V1
  have HBV := hid hbV
  have HBB := hid bV
  have KE := hid (fun w => emptyS (show ascB (-1) 24 x.r = true by rw [HXR.out]; rfl) w)
  rw [decide_eq_true HXR.out] at KE
  have hdx : x.d.length = d.length := by have := congrArg (fun s => s.2.length) HX.out; exact this.trans HLN.out
  have KC := hid (emptyCode_any x.q x.c x.d V HBV.out (by omega))
  have HE := hid (show codeK x.d x.d.length = codeK (ls.foldl stepL (r, d)).2 d.length by
    have h2 : x.d = (ls.foldl stepL (r, d)).2 := congrArg Prod.snd HX.out
    rw [hdx, ← h2])
  clear b1 hx hxr hbx q0 q1 Y0 Y1 Y1' hbV V1 bV hdx
  go_wp2_with fail
  rw [← hV]
  clear hV p0 p1 z0 z1 l0 l1
  refine (KE.out V).mono ?_
  rintro e w2 ⟨rfl, e2⟩
  rw [e2]
  clear e2 w2
  have q1 := box_cell HV1.out 0 (v := .slice (some ⟨x.q, 0, none⟩) x.d.length x.c) rfl
  go_wp2_with fail
  refine KC.out.mono ?_
  rintro e w3 ⟨rfl, e3⟩
  rw [e3]
  clear e3 w3
  go_wp2_with fail
  go_ret
  exact ⟨ret_int HE.out, HBB.out⟩
end Go.Proofs.YtegldmdcdnnegaaGreatDoor
