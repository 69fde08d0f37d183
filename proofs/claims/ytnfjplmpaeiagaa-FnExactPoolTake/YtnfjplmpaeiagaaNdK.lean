/- Pools that are ok, by the program. -/
import Derived.Test.YtnfjplmpaeiagaaNdF
namespace Go.Proofs.Ytnfjplmpaeiagaa
open Go.ChangeShapes Go.WideShapes Go.ChangeAt Go.RowKit Go.Sort Go.Shelf
attribute [local go_sem] Oper.semAt_some

/-- The frame of a node is ok, and none ahead of it has the same. -/
def okN (fs : List Fr) (x : Fin 8) : Prop := frP (nth fs x) ∧ ((nth fs x).e = 0 ∨ fnd fs (nth fs x).e (nth fs x).b = some x.val)
instance (fs : List Fr) (x : Fin 8) : Decidable (okN fs x) := by unfold okN; infer_instance
def framesP (fs : List Fr) : Prop := ∀ x : Fin 8, okN fs x
instance (fs : List Fr) : Decidable (framesP fs) := by unfold framesP; infer_instance
theorem way_mem (x : Fin 8) : x ∈ way 0 8 := by revert x; decide
theorem fnd_self {fs : List Fr} (h8 : fs.length = 8) (x : Fin 8) : ∃ k, fnd fs (nth fs x).e (nth fs x).b = some k := by
  unfold fnd
  cases h : fs.findIdx? (isAt (nth fs x).e (nth fs x).b) with
  | some k => exact ⟨k, rfl⟩
  | none =>
    rw [List.findIdx?_eq_none_iff] at h
    have := h _ (List.mem_of_getElem? (nth_at h8 x))
    simp [isAt] at this

theorem run_neq_ptr (g k x : Nat) (h : k ≠ x) (w : World) : (binOp .neq 47 (.pointer (some ⟨g, k * 7, none⟩)) (.pointer (some ⟨g, x * 7, none⟩))).run Try.prog w = .ok (.bool true) w := by
  obtain ⟨i0, hi, hz0, hz1, hz2⟩ := info_parts Try.info65
  have hne : ¬ k * 7 = x * 7 := by omega
  have h : ∀ d : Nat, (Op.equalIn (d + 1) 47 (.pointer (some ⟨g, k * 7, none⟩)) (.pointer (some ⟨g, x * 7, none⟩))).run Try.prog w = .ok false w := fun d => by
    simp [Op.equalIn, run_underlying Try.underlying47, sizeOf, typeInfo, hi, hz1, sameAddr]
  simp only [binOp]
  simp [Op.equal, Op.maxDepth, h 9999]
theorem run_neq_ptr0 (g x : Nat) (w : World) : (binOp .neq 47 (.pointer (some ⟨g, x * 7, none⟩)) (.pointer (some ⟨g, x * 7, none⟩))).run Try.prog w = .ok (.bool false) w := by
  obtain ⟨i0, hi, hz0, hz1, hz2⟩ := info_parts Try.info65
  have h : ∀ d : Nat, (Op.equalIn (d + 1) 47 (.pointer (some ⟨g, x * 7, none⟩)) (.pointer (some ⟨g, x * 7, none⟩))).run Try.prog w = .ok true w := fun d => by
    simp [Op.equalIn, run_underlying Try.underlying47, sizeOf, typeInfo, hi, sameAddr]
  simp only [binOp]
  simp [Op.equal, Op.maxDepth, h 9999]

set_option maxHeartbeats 4000000 in
theorem framesOk_any (g base : Nat) (hp : Option Addr) (fs : List Fr) (w : World) (hN : NdsAt w base g (ring g fs)) :
    Calls Try.prog 43 #[.agg #[.pointer (some ⟨g, 0, none⟩), .pointer hp]] w fun e w' => e = .returned (.bool (decide (framesP fs))) ∧ Below w.heap.size w w' := by
  have h8 : fs.length = 8 := by have := hN.len; rwa [ring_len] at this
  have hgw := hN.lt.2
  refine (callsIn_wide (n := 9)).1 ?_
  refine callsIn_of_wp_marks Try.func43 rfl trivial ?_ rfl
  simp only [Try.ntmps43, List.size_toArray, List.length_cons, List.length_nil, Nat.reduceAdd, Nat.reduceSub, Array.replicate_succ, Array.replicate_zero, List.push_toArray, List.append_toArray, List.nil_append, List.cons_append]
  gi_wp2_with (refine ⟨trivial, ?_⟩; gi_at_call 39; refine (callsIn_wide.2 (round_in _ _ _)).mono ?_; rintro e w' ⟨rfl, rfl⟩)
  obtain ⟨W0, hW0⟩ : ∃ W0, W0 = (((w.alloc (.cells #[.pointer (some ⟨g, 0, none⟩), .pointer hp] 49)).alloc (.cells #[.bool false] 4)).alloc (.cells #[.pointer (some ⟨g, 0, none⟩)] 47)).alloc (.cells #[.int .i64 8] 3) := ⟨_, rfl⟩
  rw [← hW0]
  have B0 : Below w.heap.size w W0 := by
    rw [hW0]; exact (((((Below.refl _ _).alloc (Nat.le_refl _) _).alloc (by simp) _).alloc (by simp; omega) _).alloc (by simp; omega) _)
  have Z0 : W0.heap.size = w.heap.size + 4 := by rw [hW0]; simp
  have X0 : W0.heap[w.heap.size]? = some (.cells #[.pointer (some ⟨g, 0, none⟩), .pointer hp] 49 (0, 0)) := by
    rw [hW0, Below.heap_alloc _ _ _ (by simp; omega), Below.heap_alloc _ _ _ (by simp; omega), Below.heap_alloc _ _ _ (by simp)]
    exact u_laid _ _ _ (by simp)
  have X1 : W0.heap[w.heap.size + 1]? = some (.cells #[.bool false] 4 (0, 0)) := by
    rw [hW0, Below.heap_alloc _ _ _ (by simp), Below.heap_alloc _ _ _ (by simp)]
    exact u_laid _ _ _ (by simp)
  have X3 : W0.heap[w.heap.size + 1 + 1]? = some (.cells #[.pointer (some ⟨g, 0, none⟩)] 47 (0, 0)) := by
    rw [hW0, Below.heap_alloc _ _ _ (by simp)]
    exact u_laid _ _ _ (by simp)
  have X4 : W0.heap[w.heap.size + 1 + 1 + 1]? = some (.cells #[.int .i64 8] 3 (0, 0)) := by
    rw [hW0]
    exact u_laid _ _ _ (by simp)
  clear hW0
  have N0 := hN.below B0 hgw
  have HN := hid hN
  clear hN
  refine wpIn_rangeFunc_ownG (α := Fin 8) rfl (by omega) (gf := 53) (lb := #[.pointer (some ⟨w.heap.size + 1 + 1, 0, none⟩), .pointer (some ⟨w.heap.size + 1 + 1 + 1, 0, none⟩)]) rfl trivial (enters_of Try.func53 (by kernel_rfl) rfl)
    (round_stops (9 - 1) g 0 8 _ _ (by omega) (by omega) (Below w.heap.size) (fun W W' h k => h.below hgw k) W0 (box_cell X3 0 rfl) (box_cell X4 0 rfl) N0.leads)
    belowK_t (belowK_b (by omega)) (Below.refl _ _) (fun _ => rfl)
    (fun pre W => W.heap[w.heap.size]? = some (.cells #[.pointer (some ⟨g, 0, none⟩), .pointer hp] 49 (0, 0)) ∧ W.heap[w.heap.size + 1]? = some (.cells #[.bool false] 4 (0, 0)) ∧ NdsAt W base g (ring g fs) ∧ (∀ y ∈ pre, okN fs y) ∧ Below w.heap.size w W)
    (fun c pre W => ∃ x : Fin 8, c = .ret ∧ ¬ okN fs x ∧ W.heap[w.heap.size + 1]? = some (.cells #[.bool false] 4 (0, 0)) ∧ Below w.heap.size w W)
    (fun s A B row hs hg hr => ⟨own_blk hs.1 hg hr, own_blk hs.2.1 hg hr, own_row hs.2.2.1 hg hr, hs.2.2.2.1, ownFrom_below (Nat.le_refl _) (by omega) s A B row hs.2.2.2.2 hg hr⟩)
    (fun c s A B row hs hg hr => by
      obtain ⟨x, h1, h2, h5, h6⟩ := hs
      exact ⟨x, h1, h2, own_blk h5 hg hr, ownFrom_below (Nat.le_refl _) (by omega) s A B row h6 hg hr⟩)
    ⟨X0, X1, N0, fun y hy => (by simp at hy), B0⟩
    (fun x => { tmps := #[.agg #[.pointer (some ⟨g, 0, none⟩), .pointer hp], .pointer (some ⟨w.heap.size, 0, none⟩), .pointer (some ⟨w.heap.size + 1, 0, none⟩), .pointer (some ⟨g, x.val * 7, none⟩), .pointer (some ⟨w.heap.size, 0, none⟩), .pointer (some ⟨g, 0, none⟩),
      .func (.func 53) #[] #[.pointer (some ⟨w.heap.size + 1 + 1, 0, none⟩), .pointer (some ⟨w.heap.size + 1 + 1 + 1, 0, none⟩)], .pointer (some ⟨g, x.val * 7, none⟩), undef, undef, undef, undef, undef, undef, undef, undef, undef, undef, undef, undef, undef, undef, undef, undef, undef, undef, undef, undef, undef, undef, undef, undef], defers := [] }) ?assign ?body ?done ?stop
  case assign =>
    intro l x W K hK
    gi_wp2
    exact hK
  case body =>
    rintro l pre x W ⟨Y0, Y1, N1, hall, B1⟩ hlen
    obtain ⟨c0, c1, c2, c3, c4, -, -⟩ := N1.cells x.val _ (ring_at g fs x.val (nth fs x) (nth_at h8 x))
    obtain ⟨kx, hkx⟩ := fnd_self h8 x
    obtain ⟨f, hf⟩ : ∃ f, f = nth fs x := ⟨_, rfl⟩
    have HI := hid (show okN fs x ↔ frP f ∧ (f.e = 0 ∨ fnd fs f.e f.b = some x.val) by rw [hf]; exact Iff.rfl)
    rw [← hf] at c0 c1 c2 c3 c4 hkx
    have HA := hid hall
    have HK := hid hkx
    dsimp only at c0 c1 c2 c3 c4
    clear hf hall hkx
    have y0 := cell_regrown (box_cell Y0 0 (v := .pointer (some ⟨g, 0, none⟩)) rfl)
    have y1 := cell_regrown (box_cell Y0 1 (v := .pointer hp) rfl)
    have r0 := cell_regrown c0
    have r1 := cell_regrown c1
    have r2 := cell_regrown c2
    have r3 := cell_regrown c3
    have r4 := cell_regrown c4
    have k1 := hid (rg (w := W) (fun w' _ => frameOk_any f w'))
    have k2 := hid (rg (w := W) (fun w' _ => empty_any f w'))
    have k3 := hid (rg (w := W) (fun w' hb => find_any g base hp fs f w' (N1.below hb N1.lt.2)))
    rw [HK.out, Option.map_some] at k3
    clear c0 c1 c2 c3 c4
    gi_wp2
    by_cases hP : frP f
    · rw [decide_eq_true hP] at k1
      by_cases he : f.e = 0
      · rw [decide_eq_true he] at k2
        have ho := hid (HI.out.2 ⟨hP, .inl he⟩)
        clear hP he
        refine inR_below (by kernel_rfl) (by kernel_rfl) (by kernel_rfl) (fun ⟨_, _, h⟩ => h) ?_
        repeat (first
          | go_big_quiet_step (first | (go_at_call 55; exact k1.out _ _) | (go_at_call 54; exact k2.out _ _))
          | quiet_step (first | (go_at_call 55; exact k1.out _ _) | (go_at_call 54; exact k2.out _ _)))
        refine wpQuiet_nil ?_
        intro _ hw'
        obtain ⟨⟨dq, osq⟩, hw''⟩ := hw'
        have hbq := below_regrown W dq osq
        rw [← hw''] at hbq
        clear hw'' y0 y1 r0 r1 r2 r3 r4
        gi_wp2
        refine ⟨(keeps_below hbq).from _, hbq.mono B1.size, kept Y0 hbq, kept Y1 hbq, N1.below hbq N1.lt.2, ?_, u_catn B1 (Nat.le_refl _) hbq⟩
        intro y hy
        rcases List.mem_append.1 hy with h | h
        · exact HA.out y h
        · simp only [List.mem_singleton] at h; subst h; exact ho.out
      · rw [decide_eq_false he] at k2
        by_cases hkx : kx = x.val
        · have ho := hid (HI.out.2 ⟨hP, .inr (by rw [HK.out, hkx])⟩)
          rw [hkx] at k3
          have hq := run_neq_ptr0 g x.val
          clear hP he hkx
          refine inR_below (by kernel_rfl) (by kernel_rfl) (by kernel_rfl) (fun ⟨_, _, h⟩ => h) ?_
          repeat (first
            | go_big_quiet_step (first | (go_at_call 55; exact k1.out _ _) | (go_at_call 54; exact k2.out _ _) | (go_at_call 50; exact k3.out _ _))
            | quiet_step (first | (go_at_call 55; exact k1.out _ _) | (go_at_call 54; exact k2.out _ _) | (go_at_call 50; exact k3.out _ _)))
          refine wpQuiet_nil ?_
          intro _ hw'
          obtain ⟨⟨dq, osq⟩, hw''⟩ := hw'
          have hbq := below_regrown W dq osq
          rw [← hw''] at hbq
          clear hw'' y0 y1 r0 r1 r2 r3 r4
          gi_wp2
          refine ⟨(keeps_below hbq).from _, hbq.mono B1.size, kept Y0 hbq, kept Y1 hbq, N1.below hbq N1.lt.2, ?_, u_catn B1 (Nat.le_refl _) hbq⟩
          intro y hy
          rcases List.mem_append.1 hy with h | h
          · exact HA.out y h
          · simp only [List.mem_singleton] at h; subst h; exact ho.out
        · have ho := hid (show ¬ okN fs x from fun h => by
            rcases (HI.out.1 h).2 with h | h
            · exact he h
            · rw [HK.out] at h; exact hkx (Option.some.inj h))
          have hq := run_neq_ptr g kx x.val hkx
          clear hP he
          refine inR_below (by kernel_rfl) (by kernel_rfl) (by kernel_rfl) (fun ⟨_, _, h⟩ => h) ?_
          repeat (first
            | go_big_quiet_step (first | (go_at_call 55; exact k1.out _ _) | (go_at_call 54; exact k2.out _ _) | (go_at_call 50; exact k3.out _ _))
            | quiet_step (first | (go_at_call 55; exact k1.out _ _) | (go_at_call 54; exact k2.out _ _) | (go_at_call 50; exact k3.out _ _)))
          refine wpQuiet_nil ?_
          intro _ hw'
          obtain ⟨⟨dq, osq⟩, hw''⟩ := hw'
          have hbq := below_regrown W dq osq
          rw [← hw''] at hbq
          clear hw'' y0 y1 r0 r1 r2 r3 r4
          have hc := box_cell (kept Y1 hbq) 0 (v := .bool false) rfl
          have hz := box_frozen (kept Y1 hbq) 0
          gi_wp2
          exact ⟨((keeps_below hbq).trans (KeepsOthers.setCell _ _ _)).from _, x, rfl, ho.out, set_block (kept Y1 hbq) 0 _, u_set (u_catn B1 (Nat.le_refl _) hbq) (by omega) _ _⟩
    · rw [decide_eq_false hP] at k1
      have ho := hid (show ¬ okN fs x from fun h => hP (HI.out.1 h).1)
      clear hP
      refine inR_below (by kernel_rfl) (by kernel_rfl) (by kernel_rfl) (fun ⟨_, _, h⟩ => h) ?_
      repeat (first
        | go_big_quiet_step (first | (go_at_call 55; exact k1.out _ _) | (go_at_call 54; exact k2.out _ _) | (go_at_call 50; exact k3.out _ _))
        | quiet_step (first | (go_at_call 55; exact k1.out _ _) | (go_at_call 54; exact k2.out _ _) | (go_at_call 50; exact k3.out _ _)))
      refine wpQuiet_nil ?_
      intro _ hw'
      obtain ⟨⟨dq, osq⟩, hw''⟩ := hw'
      have hbq := below_regrown W dq osq
      rw [← hw''] at hbq
      clear hw'' y0 y1 r0 r1 r2 r3 r4
      have hc := box_cell (kept Y1 hbq) 0 (v := .bool false) rfl
      have hz := box_frozen (kept Y1 hbq) 0
      gi_wp2
      exact ⟨((keeps_below hbq).trans (KeepsOthers.setCell _ _ _)).from _, x, rfl, ho.out, set_block (kept Y1 hbq) 0 _, u_set (u_catn B1 (Nat.le_refl _) hbq) (by omega) _ _⟩
  case done =>
    rintro D ys W hD rfl ⟨Y0, Y1, N1, hall, B1⟩ hK
    have hc := box_cell Y1 0 (v := .bool false) rfl
    have hz := box_frozen Y1 0
    have hF := hid (show decide (framesP fs) = true from decide_eq_true (fun x => hall x (way_mem x)))
    have X5 := hid (set_block Y1 0 (.bool true))
    clear hall
    gi_wp2
    have hK' := (KeepsOthers.setCell W ⟨w.heap.size + 1, 0, none⟩ (.bool true)).same D _ hK rfl
    refine ⟨by simp, .inl ⟨_, _, rfl, run_takeDeferred hK', ?_⟩⟩
    have hc5 := cell_kept (box_cell X5.out 0 (v := .bool true) rfl) (grownBy_putObj' _ D (.deferred none)) (fun r e => by cases e; exact ⟨_, hK', rfl⟩)
    refine ⟨.bool true, ?_, by rw [hF.out], (u_set B1 (by omega) _ _).trans (belowK_b (w := w) (Nat.le_refl _) _ D _ _ (by omega) hK' rfl rfl)⟩
    simp [results, Try.f43, go_sem, hc5]
  case stop =>
    rintro D c pre W hD hSp ⟨x, rfl, hx, Y1, B1⟩ hK
    have hF := hid (show decide (framesP fs) = false from decide_eq_false (fun h => hx (h x)))
    clear hx
    gi_wp2
    refine ⟨by simp, .inl ⟨_, _, rfl, run_takeDeferred hK, ?_⟩⟩
    have hc5 := cell_kept (box_cell Y1 0 (v := .bool false) rfl) (grownBy_putObj' _ D (.deferred none)) (fun r e => by cases e; exact ⟨_, hK, rfl⟩)
    refine ⟨.bool false, ?_, by rw [hF.out], B1.trans (belowK_b (w := w) (Nat.le_refl _) W D _ _ (by omega) hK rfl rfl)⟩
    simp [results, Try.f43, go_sem, hc5]
end Go.Proofs.Ytnfjplmpaeiagaa
