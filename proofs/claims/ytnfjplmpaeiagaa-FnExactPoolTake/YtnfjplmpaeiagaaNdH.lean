/- A frame that is held, found in the ring, and let go, by the program. -/
import Derived.Test.YtnfjplmpaeiagaaNdS
import Derived.Test.YtnfjplmpaeiagaaInrL
import Derived.Laws.EntriesVeiled
namespace Go.Proofs.Ytnfjplmpaeiagaa
open Go.ChangeShapes Go.WideShapes Go.ChangeAt Go.RowKit Go.Sort Go.Shelf
attribute [local go_sem] Oper.semAt_some

/-- What lets the frame of a node go. -/
def lets (g k : Nat) : Value := .func (.func 52) #[.pointer (some ⟨g, k * 7, none⟩)] #[]
set_option maxHeartbeats 1000000 in
theorem letGo_any (g base k : Nat) (fs : List Fr) (f : Fr) (w : World) (hN : NdsAt w base g (ring g fs)) (hf : fs[k]? = some f) (hd : 1 ≤ f.d ∧ f.d ≤ 99999) :
    Calls Try.prog 52 #[.pointer (some ⟨g, k * 7, none⟩)] w fun e w' => (∃ v, e = .returned v) ∧ w' = w.setCell ⟨g, k * 7 + 3, none⟩ (.int .i64 (f.d - 1)) := by
  obtain ⟨-, -, -, c3, -, -, -⟩ := hN.cells k _ (ring_at g fs k f hf)
  have hz := hN.frozen
  dsimp only at c3
  clear hN
  go_enter Try.func52, Try.ntmps52
  go_wp2
  go_end0
  exact ⟨⟨_, rfl⟩, rfl⟩

set_option maxHeartbeats 4000000 in
theorem held_any (g base : Nat) (hp : Option Addr) (fs : List Fr) (place : Int) (w : World) (hN : NdsAt w base g (ring g fs)) :
    Calls Try.prog 37 #[.agg #[.pointer (some ⟨g, 0, none⟩), .pointer hp], .int .i64 place] w fun e w' => ((∃ k : Nat, place = k ∧ k < 8 ∧ (∃ f, fs[k]? = some f ∧ 0 < f.d) ∧ e = .returned (.tuple #[lets g k, .bool true])) ∨ ((∀ k f, place = (k : Nat) → fs[k]? = some f → f.d ≤ 0) ∧ e = .returned (.tuple #[.nilFunc, .bool false]))) ∧ Below w.heap.size w w' := by
  have h8 : fs.length = 8 := by have := hN.len; rwa [ring_len] at this
  have hgw := hN.lt.2
  refine (callsIn_wide (n := 9)).1 ?_
  refine callsIn_of_wp_marks Try.func37 rfl trivial ?_ rfl
  simp only [Try.ntmps37, List.size_toArray, List.length_cons, List.length_nil, Nat.reduceAdd, Nat.reduceSub, Array.replicate_succ, Array.replicate_zero, List.push_toArray, List.append_toArray, List.nil_append, List.cons_append]
  gi_wp2_with (refine ⟨trivial, ?_⟩; gi_at_call 39; refine (callsIn_wide.2 (round_in _ _ _)).mono ?_; rintro e w' ⟨rfl, rfl⟩)
  obtain ⟨W0, hW0⟩ : ∃ W0, W0 = (((((w.alloc (.cells #[.pointer (some ⟨g, 0, none⟩), .pointer hp] 49)).alloc (.cells #[.int .i64 place] 3)).alloc (.cells #[.nilFunc] 1)).alloc (.cells #[.bool false] 4)).alloc (.cells #[.pointer (some ⟨g, 0, none⟩)] 47)).alloc (.cells #[.int .i64 8] 3) := ⟨_, rfl⟩
  rw [← hW0]
  have B0 : Below w.heap.size w W0 := by
    rw [hW0]; exact (((((((Below.refl _ _).alloc (Nat.le_refl _) _).alloc (by simp) _).alloc (by simp; omega) _).alloc (by simp; omega) _).alloc (by simp; omega) _).alloc (by simp; omega) _)
  have Z0 : W0.heap.size = w.heap.size + 6 := by rw [hW0]; simp
  have X1 : W0.heap[w.heap.size + 1]? = some (.cells #[.int .i64 place] 3 (0, 0)) := by
    rw [hW0, Below.heap_alloc _ _ _ (by simp), Below.heap_alloc _ _ _ (by simp), Below.heap_alloc _ _ _ (by simp), Below.heap_alloc _ _ _ (by simp)]
    exact u_laid _ _ _ (by simp)
  have X2 : W0.heap[w.heap.size + 1 + 1]? = some (.cells #[.nilFunc] 1 (0, 0)) := by
    rw [hW0, Below.heap_alloc _ _ _ (by simp), Below.heap_alloc _ _ _ (by simp), Below.heap_alloc _ _ _ (by simp)]
    exact u_laid _ _ _ (by simp)
  have X3 : W0.heap[w.heap.size + 1 + 1 + 1]? = some (.cells #[.bool false] 4 (0, 0)) := by
    rw [hW0, Below.heap_alloc _ _ _ (by simp), Below.heap_alloc _ _ _ (by simp)]
    exact u_laid _ _ _ (by simp)
  have X4 : W0.heap[w.heap.size + 1 + 1 + 1 + 1]? = some (.cells #[.pointer (some ⟨g, 0, none⟩)] 47 (0, 0)) := by
    rw [hW0, Below.heap_alloc _ _ _ (by simp)]
    exact u_laid _ _ _ (by simp)
  have X5 : W0.heap[w.heap.size + 1 + 1 + 1 + 1 + 1]? = some (.cells #[.int .i64 8] 3 (0, 0)) := by
    rw [hW0]
    exact u_laid _ _ _ (by simp)
  clear hW0
  have N0 := hN.below B0 hgw
  clear hN
  refine wpIn_rangeFunc_ownG (α := Fin 8) rfl (by omega) (gf := 53) (lb := #[.pointer (some ⟨w.heap.size + 1 + 1 + 1 + 1, 0, none⟩), .pointer (some ⟨w.heap.size + 1 + 1 + 1 + 1 + 1, 0, none⟩)]) rfl trivial (enters_of Try.func53 (by kernel_rfl) rfl)
    (round_stops (9 - 1) g 0 8 _ _ (by omega) (by omega) (Below w.heap.size) (fun W W' h k => h.below hgw k) W0 (box_cell X4 0 rfl) (box_cell X5 0 rfl) N0.leads)
    belowK_t (belowK_b (by omega)) (Below.refl _ _) (fun _ => rfl)
    (fun pre W => W.heap[w.heap.size + 1]? = some (.cells #[.int .i64 place] 3 (0, 0)) ∧ W.heap[w.heap.size + 1 + 1]? = some (.cells #[.nilFunc] 1 (0, 0)) ∧ W.heap[w.heap.size + 1 + 1 + 1]? = some (.cells #[.bool false] 4 (0, 0)) ∧ NdsAt W base g (ring g fs) ∧ (∀ y ∈ pre, ¬ ((y.val : Int) = place ∧ 0 < (nth fs y).d)) ∧ Below w.heap.size w W)
    (fun c pre W => ∃ x : Fin 8, c = .ret ∧ (x.val : Int) = place ∧ 0 < (nth fs x).d ∧ W.heap[w.heap.size + 1 + 1]? = some (.cells #[lets g x.val] 1 (0, 0)) ∧ W.heap[w.heap.size + 1 + 1 + 1]? = some (.cells #[.bool true] 4 (0, 0)) ∧ Below w.heap.size w W)
    (fun s A B row hs hg hr => ⟨own_blk hs.1 hg hr, own_blk hs.2.1 hg hr, own_blk hs.2.2.1 hg hr, own_row hs.2.2.2.1 hg hr, hs.2.2.2.2.1, ownFrom_below (Nat.le_refl _) (by omega) s A B row hs.2.2.2.2.2 hg hr⟩)
    (fun c s A B row hs hg hr => by
      obtain ⟨x, h1, h2, h3, h4, h5, h6⟩ := hs
      exact ⟨x, h1, h2, h3, own_blk h4 hg hr, own_blk h5 hg hr, ownFrom_below (Nat.le_refl _) (by omega) s A B row h6 hg hr⟩)
    ⟨X1, X2, X3, N0, fun y hy => (by simp at hy), B0⟩
    (fun x => { tmps := #[.agg #[.pointer (some ⟨g, 0, none⟩), .pointer hp], .int .i64 place, .pointer (some ⟨w.heap.size, 0, none⟩), .pointer (some ⟨w.heap.size + 1, 0, none⟩), .pointer (some ⟨w.heap.size + 1 + 1, 0, none⟩), .pointer (some ⟨w.heap.size + 1 + 1 + 1, 0, none⟩), .pointer (some ⟨g, x.val * 7, none⟩), .pointer (some ⟨w.heap.size, 0, none⟩), .pointer (some ⟨g, 0, none⟩),
      .func (.func 53) #[] #[.pointer (some ⟨w.heap.size + 1 + 1 + 1 + 1, 0, none⟩), .pointer (some ⟨w.heap.size + 1 + 1 + 1 + 1 + 1, 0, none⟩)], .pointer (some ⟨g, x.val * 7, none⟩), undef, undef, undef, undef, undef, undef, undef, undef, undef, undef, undef, undef, undef, undef, undef, undef], defers := [] }) ?assign ?body ?done ?stop
  case assign =>
    intro l x W K hK
    gi_wp2
    exact hK
  case body =>
    rintro l pre x W ⟨Y1, Y2, Y3, N1, hall, B1⟩ hlen
    obtain ⟨-, -, -, c3, -, c5, -⟩ := N1.cells x.val _ (ring_at g fs x.val (nth fs x) (nth_at h8 x))
    obtain ⟨f, hf⟩ : ∃ f, f = nth fs x := ⟨_, rfl⟩
    rw [← hf] at c3
    have HF := hid hf
    have HA := hid hall
    dsimp only at c3 c5
    clear hf hall
    have y1 := cell_regrown (box_cell Y1 0 (v := .int .i64 place) rfl)
    have r3 := cell_regrown c3
    have r5 := cell_regrown c5
    clear c3 c5
    gi_wp2
    have HNO : ∀ (_ : ¬ ((x.val : Int) = place ∧ 0 < f.d)), ∀ y ∈ pre ++ [x], ¬ ((y.val : Int) = place ∧ 0 < (nth fs y).d) := fun h y hy => by
      rcases List.mem_append.1 hy with h' | h'
      · exact HA.out y h'
      · simp only [List.mem_singleton] at h'; subst h'; rw [← HF.out]; exact h
    have HNO := hid HNO
    refine inR_below (by kernel_rfl) (by kernel_rfl) (by kernel_rfl) (fun ⟨_, _, h⟩ => h) ?_
    by_cases hpl : (x.val : Int) = place
    · have hq : ((x.val : Int) == place) = true := beq_iff_eq.2 hpl
      have HPL := hid hpl
      clear hpl
      by_cases hd : 0 < f.d
      · repeat (first
          | go_big_quiet_step (fail)
          | quiet_step (fail))
        refine wpQuiet_nil ?_
        intro w4 hw'
        have hbq := of_class hw'
        have K2 := hid (kept Y2 hbq)
        have K3 := hid (kept Y3 hbq)
        have q2 := box_cell K2.out 0 (v := .nilFunc) rfl
        have q3 := box_cell K3.out 0 (v := .bool false) rfl
        have z2 := box_frozen K2.out
        have z3 := box_frozen K3.out
        clear hw' y1 r3 r5
        gi_wp2
        exact ⟨(((keeps_below hbq).trans (KeepsOthers.setCell _ _ _)).trans (KeepsOthers.setCell _ _ _)).from _, x, rfl, HPL.out, by rw [← HF.out]; exact hd, set_other (set_block K2.out 0 _) (by omega) _ _, set_block (set_other K3.out (by omega) _ _) 0 _, u_set (u_set (u_catn B1 (Nat.le_refl _) hbq) (by omega) _ _) (by omega) _ _⟩
      · have hdd : decide (0 < f.d) = false := decide_eq_false hd
        have HN := hid (HNO.out (fun h => hd h.2))
        clear hd
        repeat (first
          | go_big_quiet_step (fail)
          | quiet_step (fail))
        refine wpQuiet_nil ?_
        intro w4 hw'
        have hbq := of_class hw'
        clear hw' y1 r3 r5
        gi_wp2
        exact ⟨(keeps_below hbq).from _, hbq.mono B1.size, kept Y1 hbq, kept Y2 hbq, kept Y3 hbq, N1.below hbq N1.lt.2, HN.out, u_catn B1 (Nat.le_refl _) hbq⟩
    · have hq : ((x.val : Int) == place) = false := beq_eq_false_iff_ne.2 hpl
      have HN := hid (HNO.out (fun h => hpl h.1))
      clear hpl
      repeat (first
        | go_big_quiet_step (fail)
        | quiet_step (fail))
      refine wpQuiet_nil ?_
      intro w4 hw'
      have hbq := of_class hw'
      clear hw' y1 r3 r5
      gi_wp2
      exact ⟨(keeps_below hbq).from _, hbq.mono B1.size, kept Y1 hbq, kept Y2 hbq, kept Y3 hbq, N1.below hbq N1.lt.2, HN.out, u_catn B1 (Nat.le_refl _) hbq⟩
  case done =>
    rintro D ys W hD rfl ⟨Y1, Y2, Y3, N1, hall, B1⟩ hK
    have q2 := box_cell Y2 0 (v := .nilFunc) rfl
    have q3 := box_cell Y3 0 (v := .bool false) rfl
    have z2 := box_frozen Y2
    have z3 := box_frozen Y3
    have X2' := hid (set_other (set_block Y2 0 .nilFunc) (k := w.heap.size + 1 + 1) (g := w.heap.size + 1 + 1 + 1) (by omega) 0 (.bool false))
    have X3' := hid (set_block (set_other Y3 (k := w.heap.size + 1 + 1 + 1) (g := w.heap.size + 1 + 1) (by omega) 0 .nilFunc) 0 (.bool false))
    have HA := hid hall
    clear hall
    gi_wp2
    have hK' := ((KeepsOthers.setCell W ⟨w.heap.size + 1 + 1, 0, none⟩ .nilFunc).trans (KeepsOthers.setCell _ ⟨w.heap.size + 1 + 1 + 1, 0, none⟩ (.bool false))).same D _ hK rfl
    refine ⟨by simp, .inl ⟨_, _, rfl, run_takeDeferred hK', ?_⟩⟩
    have hc5 := cell_kept (box_cell X2'.out 0 (v := .nilFunc) rfl) (grownBy_putObj' _ D (.deferred none)) (fun r e => by cases e; exact ⟨_, hK', rfl⟩)
    have hc6 := cell_kept (box_cell X3'.out 0 (v := .bool false) rfl) (grownBy_putObj' _ D (.deferred none)) (fun r e => by cases e; exact ⟨_, hK', rfl⟩)
    refine ⟨.tuple #[.nilFunc, .bool false], ?_, .inr ⟨fun k f hk hf => Int.not_lt.1 (fun hd => ?_), rfl⟩, (u_set (u_set B1 (by omega) _ _) (by omega) _ _).trans (belowK_b (w := w) (Nat.le_refl _) _ D _ _ (by omega) hK' rfl rfl)⟩
    · simp [results, Try.f37, go_sem, hc5, hc6]
    · have hkl : k < 8 := by have := (List.getElem?_eq_some_iff.1 hf).1; omega
      have h1 := nth_at h8 ⟨k, hkl⟩
      rw [hf] at h1
      have h2 : f = nth fs ⟨k, hkl⟩ := Option.some.inj h1
      exact HA.out ⟨k, hkl⟩ (way_mem _) ⟨hk.symm, by rw [← h2]; exact hd⟩
  case stop =>
    rintro D c pre W hD hSp ⟨x, rfl, hx, hdx, Y2, Y3, B1⟩ hK
    gi_wp2
    refine ⟨by simp, .inl ⟨_, _, rfl, run_takeDeferred hK, ?_⟩⟩
    have hc5 := cell_kept (box_cell Y2 0 (v := lets g x.val) rfl) (grownBy_putObj' _ D (.deferred none)) (fun r e => by cases e; exact ⟨_, hK, rfl⟩)
    have hc6 := cell_kept (box_cell Y3 0 (v := .bool true) rfl) (grownBy_putObj' _ D (.deferred none)) (fun r e => by cases e; exact ⟨_, hK, rfl⟩)
    refine ⟨.tuple #[lets g x.val, .bool true], ?_, .inl ⟨x.val, hx.symm, x.isLt, ⟨_, nth_at h8 x, hdx⟩, rfl⟩, B1.trans (belowK_b (w := w) (Nat.le_refl _) W D _ _ (by omega) hK rfl rfl)⟩
    simp [results, Try.f37, go_sem, hc5, hc6]
end Go.Proofs.Ytnfjplmpaeiagaa
