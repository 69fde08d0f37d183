/- The frame of a block, found in the ring by the program. -/
import Derived.Test.YtnfjplmpaeiagaaNdO
namespace Go.Proofs.Ytnfjplmpaeiagaa
open Go.ChangeShapes Go.WideShapes Go.ChangeAt Go.RowKit Go.Sort Go.Shelf
attribute [local go_sem] Oper.semAt_some

/-- A frame of an edition and a block. -/
def isAt (e b : Int) (f : Fr) : Bool := (f.e == e) && (f.b == b)
def fnd (fs : List Fr) (e b : Int) : Option Nat := fs.findIdx? (isAt e b)
theorem fnd_none {fs : List Fr} (h8 : fs.length = 8) {e b : Int} (h : ∀ y ∈ way 0 8, isAt e b (nth fs y) = false) : fnd fs e b = none := by
  unfold fnd
  rw [List.findIdx?_eq_none_iff]
  intro x hx
  rw [← way_all h8] at hx
  obtain ⟨y, hy, rfl⟩ := List.mem_map.1 hx
  exact h y hy
theorem fnd_some {fs : List Fr} (h8 : fs.length = 8) {e b : Int} {pre : List (Fin 8)} {x : Fin 8} (hp : pre ++ [x] <+: way 0 8) (hx : isAt e b (nth fs x) = true) (h : ∀ y ∈ pre, isAt e b (nth fs y) = false) : fnd fs e b = some x.val ∧ pre.length = x.val := by
  obtain ⟨t, ht⟩ := hp
  have hl : pre.length < 8 := by have := congrArg List.length ht; simp [way_len] at this; omega
  have hxv : x = ⟨pre.length, hl⟩ := by
    have h1 : (way 0 8)[pre.length]? = some x := by rw [← ht, List.append_assoc, List.getElem?_append_right (Nat.le_refl _)]; simp
    have h2 : (way 0 8)[pre.length]? = some ⟨pre.length, hl⟩ := by
      simp [way, hl]
    rw [h1] at h2
    exact Option.some.inj h2
  refine ⟨?_, by rw [hxv]⟩
  unfold fnd
  rw [List.findIdx?_eq_some_iff_getElem]
  have hlt : x.val < fs.length := by omega
  refine ⟨hlt, ?_, fun j hj => ?_⟩
  · have := nth_at h8 x
    rw [List.getElem?_eq_getElem hlt] at this
    rw [Option.some.inj this]; exact hx
  · have hjp : j < pre.length := by rw [hxv] at hj; exact hj
    have hj8 : j < 8 := by omega
    have h3 : pre[j]? = some ⟨j, hj8⟩ := by
      have h1 : (way 0 8)[j]? = pre[j]? := by rw [← ht, List.append_assoc, List.getElem?_append_left hjp]
      rw [← h1]
      simp [way, hj8]
    have := h ⟨j, hj8⟩ (List.mem_of_getElem? h3)
    have h4 := nth_at h8 ⟨j, hj8⟩
    rw [List.getElem?_eq_getElem (by omega)] at h4
    rw [Option.some.inj h4, this]; simp

set_option maxHeartbeats 4000000 in
theorem find_any (g base : Nat) (hp : Option Addr) (fs : List Fr) (q : Fr) (w : World) (hN : NdsAt w base g (ring g fs)) :
    Calls Try.prog 50 #[.agg #[.pointer (some ⟨g, 0, none⟩), .pointer hp], .agg #[.int .i64 q.h, .int .i64 q.e, .int .i64 q.b, .int .i64 q.d, .bool q.u]] w fun e w' => e = .returned (.pointer ((fnd fs q.e q.b).map (fun k => ⟨g, k * 7, none⟩))) ∧ Below w.heap.size w w' := by
  have h8 : fs.length = 8 := by have := hN.len; rwa [ring_len] at this
  have hgw := hN.lt.2
  refine (callsIn_wide (n := 9)).1 ?_
  refine callsIn_of_wp_marks Try.func50 rfl trivial ?_ rfl
  simp only [Try.ntmps50, List.size_toArray, List.length_cons, List.length_nil, Nat.reduceAdd, Nat.reduceSub, Array.replicate_succ, Array.replicate_zero, List.push_toArray, List.append_toArray, List.nil_append, List.cons_append]
  gi_wp2_with (refine ⟨trivial, ?_⟩; gi_at_call 39; refine (callsIn_wide.2 (round_in _ _ _)).mono ?_; rintro e w' ⟨rfl, rfl⟩)
  obtain ⟨W0, hW0⟩ : ∃ W0, W0 = ((((w.alloc (.cells #[.pointer (some ⟨g, 0, none⟩), .pointer hp] 49)).alloc (.cells #[.int .i64 q.h, .int .i64 q.e, .int .i64 q.b, .int .i64 q.d, .bool q.u] 45)).alloc (.cells #[.pointer none] 47)).alloc (.cells #[.pointer (some ⟨g, 0, none⟩)] 47)).alloc (.cells #[.int .i64 8] 3) := ⟨_, rfl⟩
  rw [← hW0]
  have B0 : Below w.heap.size w W0 := by
    rw [hW0]; exact ((((((Below.refl _ _).alloc (Nat.le_refl _) _).alloc (by simp) _).alloc (by simp; omega) _).alloc (by simp; omega) _).alloc (by simp; omega) _)
  have Z0 : W0.heap.size = w.heap.size + 5 := by rw [hW0]; simp
  have X1 : W0.heap[w.heap.size + 1]? = some (.cells #[.int .i64 q.h, .int .i64 q.e, .int .i64 q.b, .int .i64 q.d, .bool q.u] 45 (0, 0)) := by
    rw [hW0, Below.heap_alloc _ _ _ (by simp), Below.heap_alloc _ _ _ (by simp), Below.heap_alloc _ _ _ (by simp)]
    exact u_laid _ _ _ (by simp)
  have X2 : W0.heap[w.heap.size + 1 + 1]? = some (.cells #[.pointer none] 47 (0, 0)) := by
    rw [hW0, Below.heap_alloc _ _ _ (by simp), Below.heap_alloc _ _ _ (by simp)]
    exact u_laid _ _ _ (by simp)
  have X3 : W0.heap[w.heap.size + 1 + 1 + 1]? = some (.cells #[.pointer (some ⟨g, 0, none⟩)] 47 (0, 0)) := by
    rw [hW0, Below.heap_alloc _ _ _ (by simp)]
    exact u_laid _ _ _ (by simp)
  have X4 : W0.heap[w.heap.size + 1 + 1 + 1 + 1]? = some (.cells #[.int .i64 8] 3 (0, 0)) := by
    rw [hW0]
    exact u_laid _ _ _ (by simp)
  clear hW0
  have N0 := hN.below B0 hgw
  have HN := hid hN
  clear hN
  refine wpIn_rangeFunc_ownG (α := Fin 8) rfl (by omega) (gf := 53) (lb := #[.pointer (some ⟨w.heap.size + 1 + 1 + 1, 0, none⟩), .pointer (some ⟨w.heap.size + 1 + 1 + 1 + 1, 0, none⟩)]) rfl trivial (enters_of Try.func53 (by kernel_rfl) rfl)
    (round_stops (9 - 1) g 0 8 _ _ (by omega) (by omega) (Below w.heap.size) (fun W W' h k => h.below hgw k) W0 (box_cell X3 0 rfl) (box_cell X4 0 rfl) N0.leads)
    belowK_t (belowK_b (by omega)) (Below.refl _ _) (fun _ => rfl)
    (fun pre W => W.heap[w.heap.size + 1]? = some (.cells #[.int .i64 q.h, .int .i64 q.e, .int .i64 q.b, .int .i64 q.d, .bool q.u] 45 (0, 0)) ∧ W.heap[w.heap.size + 1 + 1]? = some (.cells #[.pointer none] 47 (0, 0)) ∧ NdsAt W base g (ring g fs) ∧ (∀ y ∈ pre, isAt q.e q.b (nth fs y) = false) ∧ Below w.heap.size w W)
    (fun c pre W => ∃ (p : List (Fin 8)) (x : Fin 8), c = .ret ∧ pre = p ++ [x] ∧ isAt q.e q.b (nth fs x) = true ∧ (∀ y ∈ p, isAt q.e q.b (nth fs y) = false) ∧ W.heap[w.heap.size + 1 + 1]? = some (.cells #[.pointer (some ⟨g, x.val * 7, none⟩)] 47 (0, 0)) ∧ Below w.heap.size w W)
    (fun s A B row hs hg hr => ⟨own_blk hs.1 hg hr, own_blk hs.2.1 hg hr, own_row hs.2.2.1 hg hr, hs.2.2.2.1, ownFrom_below (Nat.le_refl _) (by omega) s A B row hs.2.2.2.2 hg hr⟩)
    (fun c s A B row hs hg hr => by
      obtain ⟨p, x, h1, h2, h3, h4, h5, h6⟩ := hs
      exact ⟨p, x, h1, h2, h3, h4, own_blk h5 hg hr, ownFrom_below (Nat.le_refl _) (by omega) s A B row h6 hg hr⟩)
    ⟨X1, X2, N0, fun y hy => (by simp at hy), B0⟩
    (fun x => { tmps := #[.agg #[.pointer (some ⟨g, 0, none⟩), .pointer hp], .agg #[.int .i64 q.h, .int .i64 q.e, .int .i64 q.b, .int .i64 q.d, .bool q.u], .pointer (some ⟨w.heap.size, 0, none⟩), .pointer (some ⟨w.heap.size + 1, 0, none⟩), .pointer (some ⟨w.heap.size + 1 + 1, 0, none⟩), .pointer (some ⟨g, x.val * 7, none⟩), .pointer (some ⟨w.heap.size, 0, none⟩), .pointer (some ⟨g, 0, none⟩),
      .func (.func 53) #[] #[.pointer (some ⟨w.heap.size + 1 + 1 + 1, 0, none⟩), .pointer (some ⟨w.heap.size + 1 + 1 + 1 + 1, 0, none⟩)], .pointer (some ⟨g, x.val * 7, none⟩), undef, undef, undef, undef, undef, undef, undef, undef, undef, undef, undef, undef, undef, undef, undef, undef, undef, undef, undef], defers := [] }) ?assign ?body ?done ?stop
  case assign =>
    intro l x W K hK
    gi_wp2
    exact hK
  case body =>
    rintro l pre x W ⟨Y1, Y2, N1, hall, B1⟩ hlen
    obtain ⟨c0, c1, c2, -, -, -, -⟩ := N1.cells x.val _ (ring_at g fs x.val (nth fs x) (nth_at h8 x))
    obtain ⟨f, hf⟩ : ∃ f, f = nth fs x := ⟨_, rfl⟩
    have HI := hid (show isAt q.e q.b f = ((f.e == q.e) && (f.b == q.b)) from rfl)
    rw [← hf] at c0 c1 c2
    have HF := hid hf
    have HA := hid hall
    dsimp only at c0 c1 c2
    clear hf hall
    have y1 := cell_regrown (box_cell Y1 1 (v := .int .i64 q.e) rfl)
    have y2 := cell_regrown (box_cell Y1 2 (v := .int .i64 q.b) rfl)
    have r1 := cell_regrown c1
    have r2 := cell_regrown c2
    clear c0 c1 c2
    gi_wp2
    obtain ⟨t1, ht1⟩ : ∃ t1, (f.e == q.e) = t1 := ⟨_, rfl⟩
    obtain ⟨t2, ht2⟩ : ∃ t2, (f.b == q.b) = t2 := ⟨_, rfl⟩
    rw [ht1, ht2] at HI
    cases t1
    all_goals cases t2
    all_goals
      refine inR_below (by kernel_rfl) (by kernel_rfl) (by kernel_rfl) (fun ⟨_, _, h⟩ => h) ?_
      repeat (first
        | go_big_quiet_step (fail)
        | quiet_step (fail))
      refine wpQuiet_nil ?_
      intro _ hw'
      obtain ⟨⟨dq, osq⟩, hw''⟩ := hw'
      have hbq := below_regrown W dq osq
      rw [← hw''] at hbq
      clear hw'' y1 y2 r1 r2
      have hc := box_cell (kept Y2 hbq) 0 (v := .pointer none) rfl
      have hz := box_frozen (kept Y2 hbq) 0
      gi_wp2
    iterate 3 (· refine ⟨(keeps_below hbq).from _, hbq.mono B1.size, kept Y1 hbq, kept Y2 hbq, N1.below hbq N1.lt.2, ?_, u_catn B1 (Nat.le_refl _) hbq⟩
                 intro y hy
                 rcases List.mem_append.1 hy with h | h
                 · exact HA.out y h
                 · simp only [List.mem_singleton] at h; subst h; rw [← HF.out]; exact HI.out)
    · refine ⟨((keeps_below hbq).trans (KeepsOthers.setCell _ _ _)).from _, pre, x, rfl, rfl, by rw [← HF.out]; exact HI.out, HA.out, set_block (kept Y2 hbq) 0 _, u_set (u_catn B1 (Nat.le_refl _) hbq) (by omega) _ _⟩
  case done =>
    rintro D ys W hD rfl ⟨Y1, Y2, N1, hall, B1⟩ hK
    have hc := box_cell Y2 0 (v := .pointer none) rfl
    have hz := box_frozen Y2 0
    have hF := hid (fnd_none h8 hall)
    have X5 := hid (set_block Y2 0 (.pointer none))
    clear hall
    gi_wp2
    have hK' := (KeepsOthers.setCell W ⟨w.heap.size + 1 + 1, 0, none⟩ (.pointer none)).same D _ hK rfl
    refine ⟨by simp, .inl ⟨_, _, rfl, run_takeDeferred hK', ?_⟩⟩
    have hc5 := cell_kept (box_cell X5.out 0 (v := .pointer none) rfl) (grownBy_putObj' _ D (.deferred none)) (fun r e => by cases e; exact ⟨_, hK', rfl⟩)
    refine ⟨.pointer none, ?_, by rw [hF.out]; rfl, (u_set B1 (by omega) _ _).trans (belowK_b (w := w) (Nat.le_refl _) _ D _ _ (by omega) hK' rfl rfl)⟩
    simp [results, Try.f50, go_sem, hc5]
  case stop =>
    rintro D c pre W hD hSp ⟨p, x, rfl, rfl, hx, hall, Y2, B1⟩ hK
    have hF := hid (fnd_some h8 hSp hx hall).1
    clear hx hall
    gi_wp2
    refine ⟨by simp, .inl ⟨_, _, rfl, run_takeDeferred hK, ?_⟩⟩
    have hc5 := cell_kept (box_cell Y2 0 (v := .pointer (some ⟨g, x.val * 7, none⟩)) rfl) (grownBy_putObj' _ D (.deferred none)) (fun r e => by cases e; exact ⟨_, hK, rfl⟩)
    refine ⟨.pointer (some ⟨g, x.val * 7, none⟩), ?_, by rw [hF.out]; rfl, B1.trans (belowK_b (w := w) (Nat.le_refl _) W D _ _ (by omega) hK rfl rfl)⟩
    simp [results, Try.f50, go_sem, hc5]
end Go.Proofs.Ytnfjplmpaeiagaa
