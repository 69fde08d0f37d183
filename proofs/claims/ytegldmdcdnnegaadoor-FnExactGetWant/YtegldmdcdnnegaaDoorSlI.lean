/- What is left of an equation in the end, by the program. -/
import Derived.Test.YtegldmdcdnnegaaDoorSlH
namespace Go.Proofs.YtegldmdcdnnegaaDoor
open Go.ChangeShapes Go.WideShapes Go.ChangeAt Go.RowKit Go.Sort Go.Shelf
attribute [local go_sem] Oper.semAt_some

theorem left_in (p : Option Addr) (R : Int) (a : Option Addr) (n c : Nat) (w : World) :
    Calls Tryd.prog 94 #[.pointer p, .int .u32 R, .slice a n c] w fun e w' => e = .returned (.func (.func 107) #[] #[.pointer (some ⟨w.heap.size + 1, 0, none⟩), .pointer (some ⟨w.heap.size + 1 + 1, 0, none⟩), .pointer (some ⟨w.heap.size, 0, none⟩)]) ∧
      w' = ((w.alloc (.cells #[.pointer p] 120)).alloc (.cells #[.int .u32 R] 97)).alloc (.cells #[.slice a n c] 63) := by
  go_enter Tryd.func94, Tryd.ntmps94
  go_wp2
  go_ret
  exact ⟨rfl, rfl⟩

set_option maxHeartbeats 4000000 in
theorem last_any (sb base : Nat) (c z : Int) (ls : List Lk) (r d : List Int) (q cc : Nat) (w : World)
    (hsb : w.heap[sb]? = some (.cells #[.int .i64 c, .int .i64 z, .pointer (ptrOf ls)] 54 (0, 0))) (hL : LksAt w base ls) (hR : RowsL ls) (hll : ls.length ≤ 24) (hr : ascB (-1) 24 r = true) (hq : BytsAt w q d) (hd1 : d.length ≤ 1048576) (hdl : ∀ l ∈ ls, l.d.length = d.length) (hT : Tab w) :
    Calls Tryd.prog 69 #[.pointer (some ⟨sb, 0, none⟩), .int .u32 (setI r : Nat), .slice (some ⟨q, 0, none⟩) d.length cc] w fun e w' => ∃ x : El, (x.r, x.d) = ls.foldl stepL (r, d) ∧ e = .returned (.tuple #[.int .u32 (setI x.r : Nat), .slice (some ⟨x.q, 0, none⟩) x.d.length x.c]) ∧ BytsAt w' x.q x.d ∧ Below w.heap.size w w' := by
  refine (callsIn_wide (n := 9)).1 ?_
  refine callsIn_of_wp_marks Tryd.func69 rfl trivial ?_ rfl
  simp only [Tryd.ntmps69, List.size_toArray, List.length_cons, List.length_nil, Nat.reduceAdd, Nat.reduceSub, Array.replicate_succ, Array.replicate_zero, List.push_toArray, List.append_toArray, List.nil_append, List.cons_append]
  gi_wp2_with (refine ⟨trivial, ?_⟩; gi_at_call 94; refine (callsIn_wide.2 (left_in _ _ _ _ _ _)).mono ?_; rintro e w' ⟨rfl, rfl⟩)
  obtain ⟨W0, hW0⟩ : ∃ W0, W0 = ((((w.alloc (.cells #[.int .u32 (setI r : Nat)] 97)).alloc (.cells #[.slice (some ⟨q, 0, none⟩) d.length cc] 63)).alloc (.cells #[.pointer (some ⟨sb, 0, none⟩)] 120)).alloc (.cells #[.int .u32 (setI r : Nat)] 97)).alloc (.cells #[.slice (some ⟨q, 0, none⟩) d.length cc] 63) := ⟨_, rfl⟩
  obtain ⟨X0, X1, X2, B1⟩ := u_box3 (w := w) (c := #[.int .u32 (setI r : Nat)]) (t := 97) (d := #[.slice (some ⟨q, 0, none⟩) d.length cc]) (s := 63) (f := #[.pointer (some ⟨sb, 0, none⟩)]) (r := 120) (w1 := W0) (by rw [hW0]; exact u_b2 _ _ _)
  have X3 : W0.heap[w.heap.size + 3]? = some (.cells #[.int .u32 (setI r : Nat)] 97 (0, 0)) := by
    rw [hW0, Below.heap_alloc _ _ _ (by simp)]
    exact u_laid _ _ _ (by simp)
  have X4 : W0.heap[w.heap.size + 4]? = some (.cells #[.slice (some ⟨q, 0, none⟩) d.length cc] 63 (0, 0)) := by
    rw [hW0]
    exact u_laid _ _ _ (by simp)
  have Z0 : W0.heap.size = w.heap.size + 5 := by rw [hW0]; simp
  rw [← hW0]
  clear hW0
  have HL := hid hL
  have HR := hid hR
  have HQ := hid hq
  have HT := hid hT
  have HS := hid hsb
  have HDL := hid hdl
  clear hL hR hq hT hsb hdl
  refine wpIn_rangeFunc_old (F := Fence.wide) (n := 9) rfl (by omega) (gf := 107) (lb := #[.pointer (some ⟨w.heap.size + 1 + 1 + 1, 0, none⟩), .pointer (some ⟨w.heap.size + 1 + 1 + 1 + 1, 0, none⟩), .pointer (some ⟨w.heap.size + 1 + 1, 0, none⟩)]) rfl trivial (enters_of Tryd.func107 (by kernel_rfl) rfl)
    (encs := fun x : El => #[.int .u32 (setI x.r : Nat), .slice (some ⟨x.q, 0, none⟩) x.d.length x.c]) (fun _ => rfl)
    (fun x W => BytsAt W x.q x.d)
    (fun x W => (x.r, x.d) = ls.foldl stepL (r, d) ∧ BytsAt W x.q x.d ∧ Below w.heap.size w W)
    (fun o W => W.heap[w.heap.size]? = some (.cells #[.int .u32 (setI (o.getD ⟨r, q, cc, d⟩).r : Nat)] 97 (0, 0)) ∧ W.heap[w.heap.size + 1]? = some (.cells #[.slice (some ⟨(o.getD ⟨r, q, cc, d⟩).q, 0, none⟩) (o.getD ⟨r, q, cc, d⟩).d.length (o.getD ⟨r, q, cc, d⟩).c] 63 (0, 0)))
    (fun j => j = w.heap.size ∨ j = w.heap.size + 1)
    (fun s A B h hb => ⟨(hb.block _ (by omega)).trans h.1, (hb.block _ (by omega)).trans h.2⟩)
    (fun j hj => by omega)
    ⟨X0, X1⟩
    (fun x W o lo h hl => ⟨h.1, h.2.1.own (grownBy_putObj' _ _ _) (fun r e => by cases e; exact ⟨_, hl, rfl⟩), h.2.2.trans (below_putObj W (by omega) _)⟩)
    (fun J W hb hs hJ hY h0 => (left1_in (9 - 1 - 1) (W0.heap.size + 1) w W (w.heap.size + 2) (w.heap.size + 3) (w.heap.size + 4) sb base c z ls r d q cc (fun j => (j = w.heap.size ∨ j = w.heap.size + 1) ∨ j = W0.heap.size + 1) J
      (u_catn B1 (Nat.le_refl _) hb) (fun j hj => by omega) (kept X2 hb) (kept X3 hb) (kept X4 hb) HS.out HL.out HR.out hll hr HQ.out hd1 HDL.out HT.out hJ h0 hY).mono (fun e W' ⟨hv, x, h1, h2, h3, h4⟩ => ⟨hv, x, ⟨h1, h2, h3⟩, h4⟩))
    (fun x => { tmps := #[.pointer (some ⟨sb, 0, none⟩), .int .u32 (setI r : Nat), .slice (some ⟨q, 0, none⟩) d.length cc, undef, .pointer (some ⟨w.heap.size, 0, none⟩), .pointer (some ⟨w.heap.size + 1, 0, none⟩), .int .u32 0, .slice none 0 0, .int .u32 (setI x.r : Nat), .slice (some ⟨x.q, 0, none⟩) x.d.length x.c, .pointer (some ⟨sb, 0, none⟩), .int .u32 (setI r : Nat), .slice (some ⟨q, 0, none⟩) d.length cc,
      .func (.func 107) #[] #[.pointer (some ⟨w.heap.size + 1 + 1 + 1, 0, none⟩), .pointer (some ⟨w.heap.size + 1 + 1 + 1 + 1, 0, none⟩), .pointer (some ⟨w.heap.size + 1 + 1, 0, none⟩)], .int .u32 (setI x.r : Nat), .slice (some ⟨x.q, 0, none⟩) x.d.length x.c, undef, undef, undef, undef], defers := [] }) ?assign ?body ?done
  case assign =>
    intro l x W K hK
    gi_wp2
    exact hK
  case body =>
    rintro l s x W ⟨i0, i1⟩
    have y0 := box_cell i0 0 (v := .int .u32 (setI (s.getD ⟨r, q, cc, d⟩).r : Nat)) rfl
    have y1 := box_cell i1 0 (v := .slice (some ⟨(s.getD ⟨r, q, cc, d⟩).q, 0, none⟩) (s.getD ⟨r, q, cc, d⟩).d.length (s.getD ⟨r, q, cc, d⟩).c) rfl
    have z0 := box_frozen i0 0
    have z1 := box_frozen i1 0
    have I0 := hid i0
    have I1 := hid i1
    clear i0 i1
    gi_wp2
    refine ⟨(Spare.setCell _ (.inl rfl) _ _).trans (Spare.setCell _ (.inr rfl) _ _), ?_, ?_⟩
    · exact set_other (set_block I0.out 0 _) (by omega) _ _
    · exact set_block (set_other I1.out (by omega) _ _) 0 _
  case done =>
    rintro x W ⟨h1, h2, h3⟩ ⟨i0, i1⟩ hK
    have H1 := hid h1
    have H2 := hid h2
    have H3 := hid h3
    have y0 := cell_regrown (box_cell i0 0 (v := .int .u32 (setI x.r : Nat)) rfl)
    have y1 := cell_regrown (box_cell i1 0 (v := .slice (some ⟨x.q, 0, none⟩) x.d.length x.c) rfl)
    clear h1 h2 h3 i0 i1
    gi_wp2
    refine wpIn_wide.2 ?_
    refine wp_region_quiet_below (by kernel_rfl) (by kernel_rfl) ?_
    repeat (first | go_big_quiet_step (fail) | quiet_step (fail))
    refine wpQuiet_nil ?_
    intro V hw'
    have hbq := of_class hw'
    clear hw' y0 y1
    have hK2 := kept hK hbq
    gi_wp2
    refine ⟨by simp, .inl ⟨_, _, rfl, run_takeDeferred hK2, ?_⟩⟩
    refine ⟨.tuple #[.int .u32 (setI x.r : Nat), .slice (some ⟨x.q, 0, none⟩) x.d.length x.c], ?_, x, H1.out, rfl, (H2.out.below hbq).own (grownBy_putObj' _ _ _) (fun r e => by cases e; exact ⟨_, hK2, rfl⟩), (u_catn H3.out (Nat.le_refl _) hbq).trans (below_putObj V (by omega) _)⟩
    simp [results, Tryd.f69, go_sem]
end Go.Proofs.YtegldmdcdnnegaaDoor
