/- How many frames a house has, by the program. -/
import Derived.Test.YtnfjplmpaeiagaaNdR
import Derived.Test.YtnfjplmpaeiagaaFrmI
namespace Go.Proofs.Ytnfjplmpaeiagaa
open Go.ChangeShapes Go.WideShapes Go.ChangeAt Go.RowKit Go.Sort Go.Shelf
attribute [local go_sem] Oper.semAt_some

/-- A frame of a house. -/
def isOf (h : Int) (f : Fr) : Bool := !decide (f.e = 0) && decide (f.h = h)
def frOf (fs : List Fr) (h : Int) : Nat := (fs.filter (isOf h)).length
/-- The frame of a node. -/
def nth (fs : List Fr) (x : Fin 8) : Fr := fs.getD x.val Fr.no
theorem nth_at {fs : List Fr} (h8 : fs.length = 8) (x : Fin 8) : fs[x.val]? = some (nth fs x) := by
  have : x.val < fs.length := by have := x.isLt; omega
  simp [nth, List.getD, this]
theorem way_all {fs : List Fr} (h8 : fs.length = 8) : (way 0 8).map (nth fs) = fs := by
  match fs, h8 with
  | [_, _, _, _, _, _, _, _], _ => rfl
def cntOf (fs : List Fr) (h : Int) (pre : List (Fin 8)) : Nat := (pre.filter (fun x => isOf h (nth fs x))).length
theorem cntOf_all {fs : List Fr} (h8 : fs.length = 8) (h : Int) : cntOf fs h (way 0 8) = frOf fs h := by
  have e := way_all h8
  unfold frOf
  rw [← e, List.filter_map, List.length_map, e]
  rfl
theorem cntOf_snoc (fs : List Fr) (h : Int) (pre : List (Fin 8)) (x : Fin 8) : cntOf fs h (pre ++ [x]) = cntOf fs h pre + if isOf h (nth fs x) = true then 1 else 0 := by
  unfold cntOf
  rw [List.filter_append, List.length_append]
  by_cases hx : isOf h (nth fs x) = true
  · simp [hx]
  · simp [hx]
theorem cntOf_le (fs : List Fr) (h : Int) (pre : List (Fin 8)) : cntOf fs h pre ≤ pre.length := List.length_filter_le _ _

theorem Leads.below {W W' : World} {g n : Nat} (h : Leads W g) (hg : g < n) (hb : Below n W W') : Leads W' g := fun k hk => (hb.cell (p := ⟨g, k * 7 + 6, none⟩) hg).trans (h k hk)

set_option maxHeartbeats 4000000 in
theorem of_any (g base : Nat) (hp : Option Addr) (fs : List Fr) (house : Int) (w : World) (hN : NdsAt w base g (ring g fs)) :
    Calls Try.prog 40 #[.agg #[.pointer (some ⟨g, 0, none⟩), .pointer hp], .int .i64 house] w fun e w' => e = .returned (.int .i64 (frOf fs house)) ∧ Below w.heap.size w w' := by
  have h8 : fs.length = 8 := by have := hN.len; rwa [ring_len] at this
  have hgw := hN.lt.2
  refine (callsIn_wide (n := 9)).1 ?_
  refine callsIn_of_wp_marks Try.func40 rfl trivial ?_ rfl
  simp only [Try.ntmps40, List.size_toArray, List.length_cons, List.length_nil, Nat.reduceAdd, Nat.reduceSub, Array.replicate_succ, Array.replicate_zero, List.push_toArray, List.append_toArray, List.nil_append, List.cons_append]
  gi_wp2_with (refine ⟨trivial, ?_⟩; gi_at_call 39; refine (callsIn_wide.2 (round_in _ _ _)).mono ?_; rintro e w' ⟨rfl, rfl⟩)
  obtain ⟨W0, hW0⟩ : ∃ W0, W0 = ((((w.alloc (.cells #[.pointer (some ⟨g, 0, none⟩), .pointer hp] 49)).alloc (.cells #[.int .i64 house] 3)).alloc (.cells #[.int .i64 0] 3)).alloc (.cells #[.pointer (some ⟨g, 0, none⟩)] 47)).alloc (.cells #[.int .i64 8] 3) := ⟨_, rfl⟩
  rw [← hW0]
  have B0 : Below w.heap.size w W0 := by
    rw [hW0]; exact ((((((Below.refl _ _).alloc (Nat.le_refl _) _).alloc (by simp) _).alloc (by simp; omega) _).alloc (by simp; omega) _).alloc (by simp; omega) _)
  have Z0 : W0.heap.size = w.heap.size + 5 := by rw [hW0]; simp
  have X1 : W0.heap[w.heap.size + 1]? = some (.cells #[.int .i64 house] 3 (0, 0)) := by
    rw [hW0, Below.heap_alloc _ _ _ (by simp), Below.heap_alloc _ _ _ (by simp), Below.heap_alloc _ _ _ (by simp)]
    exact u_laid _ _ _ (by simp)
  have X2 : W0.heap[w.heap.size + 1 + 1]? = some (.cells #[.int .i64 0] 3 (0, 0)) := by
    rw [hW0, Below.heap_alloc _ _ _ (by simp), Below.heap_alloc _ _ _ (by simp)]
    exact u_laid _ _ _ (by simp)
  have X3 : W0.heap[w.heap.size + 1 + 1 + 1]? = some (.cells #[.pointer (some ⟨g, 0, none⟩)] 47 (0, 0)) := by
    rw [hW0, Below.heap_alloc _ _ _ (by simp)]
    exact u_laid _ _ _ (by simp)
  have X4 : W0.heap[w.heap.size + 1 + 1 + 1 + 1]? = some (.cells #[.int .i64 8] 3 (0, 0)) := by
    rw [hW0]
    exact u_laid _ _ _ (by simp)
  clear hW0
  have N0 := hN.below B0 hgw
  have HN := hid hN
  clear hN
  refine wpIn_rangeFunc_ownG (α := Fin 8) rfl (by omega) (gf := 53) (lb := #[.pointer (some ⟨w.heap.size + 1 + 1 + 1, 0, none⟩), .pointer (some ⟨w.heap.size + 1 + 1 + 1 + 1, 0, none⟩)]) rfl trivial (enters_of Try.func53 (by kernel_rfl) rfl)
    (round_stops (9 - 1) g 0 8 _ _ (by omega) (by omega) (Below w.heap.size) (fun W W' h k => h.below hgw k) W0 (box_cell X3 0 rfl) (box_cell X4 0 rfl) N0.leads)
    belowK_t (belowK_b (by omega)) (Below.refl _ _) (fun _ => rfl)
    (fun pre W => W.heap[w.heap.size + 1]? = some (.cells #[.int .i64 house] 3 (0, 0)) ∧ W.heap[w.heap.size + 1 + 1]? = some (.cells #[.int .i64 (cntOf fs house pre)] 3 (0, 0)) ∧ NdsAt W base g (ring g fs) ∧ Below w.heap.size w W)
    (fun _ _ _ => False)
    (fun s A B row hs hg hr => ⟨own_blk hs.1 hg hr, own_blk hs.2.1 hg hr, own_row hs.2.2.1 hg hr, ownFrom_below (Nat.le_refl _) (by omega) s A B row hs.2.2.2 hg hr⟩)
    (fun _ _ _ _ _ hs _ _ => hs)
    ⟨X1, X2, N0, B0⟩
    (fun x => { tmps := #[.agg #[.pointer (some ⟨g, 0, none⟩), .pointer hp], .int .i64 house, .pointer (some ⟨w.heap.size, 0, none⟩), .pointer (some ⟨w.heap.size + 1, 0, none⟩), .int .i64 0, .pointer (some ⟨w.heap.size + 1 + 1, 0, none⟩), .pointer (some ⟨g, x.val * 7, none⟩), .pointer (some ⟨w.heap.size, 0, none⟩), .pointer (some ⟨g, 0, none⟩),
      .func (.func 53) #[] #[.pointer (some ⟨w.heap.size + 1 + 1 + 1, 0, none⟩), .pointer (some ⟨w.heap.size + 1 + 1 + 1 + 1, 0, none⟩)], .pointer (some ⟨g, x.val * 7, none⟩), undef, undef, undef, undef, undef, undef, undef, undef, undef, undef, undef, undef, undef, undef, undef, undef, undef, undef], defers := [] }) ?assign ?body ?done ?stop
  case assign =>
    intro l x W K hK
    gi_wp2
    exact hK
  case body =>
    rintro l pre x W ⟨Y1, Y2, N1, B1⟩ hlen
    have hlen8 : pre.length < 8 := hlen
    obtain ⟨c0, c1, c2, c3, c4, -, -⟩ := N1.cells x.val _ (ring_at g fs x.val (nth fs x) (nth_at h8 x))
    have hsn := hid (cntOf_snoc fs house pre x)
    have hcl := cntOf_le fs house pre
    obtain ⟨f, hf⟩ : ∃ f, f = nth fs x := ⟨_, rfl⟩
    have HI := hid (show isOf house f = (!decide (f.e = 0) && decide (f.h = house)) from rfl)
    rw [← hf] at hsn c0 c1 c2 c3 c4
    dsimp only at c0 c1 c2 c3 c4
    clear hf
    have y1 := cell_regrown (box_cell Y1 0 (v := .int .i64 house) rfl)
    have r0 := cell_regrown c0
    have r1 := cell_regrown c1
    have r2 := cell_regrown c2
    have r3 := cell_regrown c3
    have r4 := cell_regrown c4
    have k1 := hid (rg (w := W) (fun w' _ => empty_any f w'))
    clear c0 c1 c2 c3 c4
    gi_wp2
    by_cases he : f.e = 0
    · have he1 := hid (decide_eq_true he)
      have hi0 := hid (show isOf house f = false by rw [HI.out, he1.out]; rfl)
      rw [he1.out] at k1
      clear he
      refine inR_below (by kernel_rfl) (by kernel_rfl) (by kernel_rfl) (fun ⟨_, _, h⟩ => h) ?_
      repeat (first
        | go_big_quiet_step ((go_at_call 54; exact k1.out _ _))
        | quiet_step ((go_at_call 54; exact k1.out _ _)))
      refine wpQuiet_nil ?_
      intro _ hw'
      obtain ⟨⟨dq, osq⟩, hw''⟩ := hw'
      have hbq := below_regrown W dq osq
      rw [← hw''] at hbq
      clear hw'' y1 r0 r1 r2 r3 r4
      gi_wp2
      refine ⟨(keeps_below hbq).from _, hbq.mono B1.size, kept Y1 hbq, ?_, N1.below hbq N1.lt.2, u_catn B1 (Nat.le_refl _) hbq⟩
      rw [hsn.out, hi0.out]
      exact kept Y2 hbq
    · have he1 := hid (decide_eq_false he)
      rw [he1.out] at k1
      clear he
      by_cases hh : f.h = house
      · have hd := decide_eq_true hh
        have hi0 := hid (show isOf house f = true by rw [HI.out, he1.out, hd]; rfl)
        have hq : (f.h == house) = true := beq_iff_eq.2 hh
        clear hh hd
        refine inR_below (by kernel_rfl) (by kernel_rfl) (by kernel_rfl) (fun ⟨_, _, h⟩ => h) ?_
        repeat (first
          | go_big_quiet_step ((go_at_call 54; exact k1.out _ _))
          | quiet_step ((go_at_call 54; exact k1.out _ _)))
        refine wpQuiet_nil ?_
        intro _ hw'
        obtain ⟨⟨dq, osq⟩, hw''⟩ := hw'
        have hbq := below_regrown W dq osq
        rw [← hw''] at hbq
        clear hw'' y1 r0 r1 r2 r3 r4
        have hc := box_cell (kept Y2 hbq) 0 (v := .int .i64 (cntOf fs house pre)) rfl
        have hz := box_frozen (kept Y2 hbq) 0
        gi_wp2
        refine ⟨((keeps_below hbq).trans (KeepsOthers.setCell _ _ _)).from _, u_set (hbq.mono B1.size) (by omega) _ _, set_other (kept Y1 hbq) (by omega) _ _, ?_, ?_, u_set (u_catn B1 (Nat.le_refl _) hbq) (by omega) _ _⟩
        · rw [hsn.out, hi0.out]
          exact set_block (kept Y2 hbq) 0 (.int .i64 ((cntOf fs house pre + 1 : Nat) : Int))
        · exact (N1.below hbq N1.lt.2).below (u_set (Below.refl w.heap.size _) (by omega) _ _) hgw
      · have hd := decide_eq_false hh
        have hi0 := hid (show isOf house f = false by rw [HI.out, he1.out, hd]; rfl)
        have hq : (f.h == house) = false := beq_eq_false_iff_ne.2 hh
        clear hh hd
        refine inR_below (by kernel_rfl) (by kernel_rfl) (by kernel_rfl) (fun ⟨_, _, h⟩ => h) ?_
        repeat (first
          | go_big_quiet_step ((go_at_call 54; exact k1.out _ _))
          | quiet_step ((go_at_call 54; exact k1.out _ _)))
        refine wpQuiet_nil ?_
        intro _ hw'
        obtain ⟨⟨dq, osq⟩, hw''⟩ := hw'
        have hbq := below_regrown W dq osq
        rw [← hw''] at hbq
        clear hw'' y1 r0 r1 r2 r3 r4
        gi_wp2
        refine ⟨(keeps_below hbq).from _, hbq.mono B1.size, kept Y1 hbq, ?_, N1.below hbq N1.lt.2, u_catn B1 (Nat.le_refl _) hbq⟩
        rw [hsn.out, hi0.out]
        exact kept Y2 hbq
  case done =>
    rintro D ys W hD rfl ⟨Y1, Y2, N1, B1⟩ hK
    have hc := box_cell Y2 0 (v := .int .i64 (cntOf fs house (way 0 8))) rfl
    gi_wp2
    refine ⟨by simp, .inl ⟨_, _, rfl, run_takeDeferred hK, ?_⟩⟩
    refine ⟨_, results_tmp rfl _ _ _, ?_, B1.trans (belowK_b (w := w) (Nat.le_refl _) W D _ _ (by omega) hK rfl rfl)⟩
    exact ret_int (by rw [cntOf_all h8])
  case stop =>
    rintro D c pre W _ _ h _
    exact h.elim
end Go.Proofs.Ytnfjplmpaeiagaa
