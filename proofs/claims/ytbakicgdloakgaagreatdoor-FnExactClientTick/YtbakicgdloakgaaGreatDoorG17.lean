/- Whether a row may stand ahead of all links, by the program. The program's list of equations gone through by places. -/
import Derived.Test.YtbakicgdloakgaaGreatDoorG16
namespace Go.Proofs.YtbakicgdloakgaaGreatDoor
open Go.ChangeShapes Go.WideShapes Go.ChangeAt Go.RowKit Go.Sort Go.Shelf
attribute [local go_sem] Oper.semAt_some

/-- A row that may stand ahead of others. -/
def fit1 (xs : List Int) (r : List Int) : Prop := hd xs < hd r ∧ hd r ∉ xs
instance (xs r : List Int) : Decidable (fit1 xs r) := by unfold fit1; infer_instance
def fits (xs : List Int) (rs : List (List Int)) : Prop := xs ≠ [] ∧ ∀ r ∈ rs, fit1 xs r
instance (xs : List Int) (rs : List (List Int)) : Decidable (fits xs rs) := by unfold fits; infer_instance
/-- Rows of at most 24 that have a number. -/
def RowsL (ls : List Lk) : Prop := ∀ l ∈ ls, ascB (-1) 24 l.r = true ∧ l.r ≠ []

theorem same_below {P : Program} {f : FuncId} {args : Array Value} {w : World} {v : Value} (h : Calls P f args w fun e w' => e = .returned v ∧ w' = w) : Calls P f args w fun e w' => e = .returned v ∧ Below w.heap.size w w' :=
  h.mono fun _ _ ⟨a, b⟩ => ⟨a, by rw [b]; exact Below.refl _ _⟩
theorem dr_below {P : Program} {f : FuncId} {args : Array Value} {w : World} {v : Value} (h : Calls P f args w fun e w' => e = .returned v ∧ Dr w w') : Calls P f args w fun e w' => e = .returned v ∧ Below w.heap.size w w' :=
  h.mono fun _ _ ⟨a, b⟩ => ⟨a, b.below _⟩

set_option maxHeartbeats 1000000 in
theorem fits_empty (p : Option Addr) (w : World) :
    Calls Tryz.prog 97 #[.pointer p, .int .u32 0] w fun e w' => e = .returned (.bool false) ∧ Below w.heap.size w w' := by
  have h1 := emptyS (xs := []) rfl
  rw [show ((setI [] : Nat) : Int) = 0 from rfl] at h1
  have H1 := hid h1
  clear h1
  refine (callsIn_wide (n := 9)).1 ?_
  refine callsIn_of_wp_marks Tryz.func97 rfl trivial ?_ rfl
  simp only [Tryz.ntmps97, List.size_toArray, List.length_cons, List.length_nil, Nat.reduceAdd, Nat.reduceSub, Array.replicate_succ, Array.replicate_zero, List.push_toArray, List.append_toArray, List.nil_append, List.cons_append]
  gi_wp2_with (refine ⟨trivial, ?_⟩; gi_at_call 106; refine (callsIn_wide.2 (H1.out _)).mono ?_; rintro e w' ⟨rfl, rfl⟩)
  refine ⟨.bool false, ?_, rfl, u_b2 _ _ _⟩
  simp [results, Tryz.f97, go_sem]

set_option maxHeartbeats 4000000 in
theorem fits_any (sb base : Nat) (cnt sz : Int) (xs : List Int) (ls : List Lk) (w : World) (hsb : w.heap[sb]? = some (.cells #[.int .i64 cnt, .int .i64 sz, .pointer (ptrOf ls)] 109 (0, 0))) (hL : LksAt w base ls) (hl : ls.length ≤ 1000) (hx : ascB (-1) 24 xs = true) (hne : xs ≠ []) (hls : RowsL ls) (hT : Tab w) :
    Calls Tryz.prog 97 #[.pointer (some ⟨sb, 0, none⟩), .int .u32 (setI xs : Nat)] w fun e w' => e = .returned (.bool (decide (fits xs (ls.map Lk.r)))) ∧ Below w.heap.size w w' := by
  have hsw := lt_of_block hsb
  have H1 := hid (emptyS hx)
  rw [decide_eq_false hne] at H1
  refine (callsIn_wide (n := 9)).1 ?_
  refine callsIn_of_wp_marks Tryz.func97 rfl trivial ?_ rfl
  simp only [Tryz.ntmps97, List.size_toArray, List.length_cons, List.length_nil, Nat.reduceAdd, Nat.reduceSub, Array.replicate_succ, Array.replicate_zero, List.push_toArray, List.append_toArray, List.nil_append, List.cons_append]
  gi_wp2_with (refine ⟨trivial, ?_⟩; first | (gi_at_call 106; refine (callsIn_wide.2 (H1.out _)).mono ?_; rintro e w' ⟨rfl, hq⟩; replace hq := hq.symm; subst hq) | (gi_at_call 103; refine (callsIn_wide.2 (links_in _ _)).mono ?_; rintro e w' ⟨rfl, rfl⟩))
  obtain ⟨W0, hW0⟩ : ∃ W0, W0 = ((w.alloc (.cells #[.int .u32 (setI xs : Nat)] 135)).alloc (.cells #[.bool false] 4)).alloc (.cells #[.pointer (some ⟨sb, 0, none⟩)] 142) := ⟨_, rfl⟩
  rw [← hW0]
  obtain ⟨X0, X1, X2, B0⟩ := u_box3 (w := w) (c := #[.int .u32 (setI xs : Nat)]) (t := 135) (d := #[.bool false]) (s := 4) (f := #[.pointer (some ⟨sb, 0, none⟩)]) (r := 142) (w1 := W0) (by rw [hW0]; exact Below.refl _ _)
  have Z0 : W0.heap.size = w.heap.size + 3 := by rw [hW0]; simp
  clear hW0
  have L0 := hL.below B0
  have S0 := kept hsb B0
  have T0 := hT.below B0
  have HC := hid (show ∀ l ∈ ls, W0.cell? ⟨l.b, 0, none⟩ = some (.int .u32 (setI l.r : Nat)) from fun l hl => by
    obtain ⟨k, hk, rfl⟩ := List.getElem_of_mem hl
    exact box_cell (L0 k hk).2.2.1 0 rfl)
  refine wpIn_rangeFunc_ownG (α := {x : Lk // x ∈ ls}) rfl (by omega) (gf := 109) (lb := #[.pointer (some ⟨w.heap.size + 2, 0, none⟩)]) rfl trivial (enters_of Tryz.func109 (by kernel_rfl) rfl)
    (links_stops (9 - 1) _ sb ls (by omega) hl (Below W0.heap.size) (fun W W' h k j hj => (k.cell (p := ⟨ls[j].b, 2, none⟩) (lt_of_block (L0 j hj).2.2.1)).trans (h j hj)) W0 (box_cell X2 0 rfl) (box_cell S0 2 rfl) L0.leads)
    belowK_t (belowK_b (Nat.le_refl _)) (Below.refl _ _) (fun _ => rfl)
    (fun pre W => Below W0.heap.size W0 W ∧ ∀ l ∈ pre, fit1 xs l.1.r)
    (fun c pre W => ∃ l : {x : Lk // x ∈ ls}, c = .ret ∧ ¬ fit1 xs l.1.r ∧ W.heap[w.heap.size + 1]? = some (.cells #[.bool false] 4 (0, 0)) ∧ Below w.heap.size w W)
    (fun s A B row hs hg hr => ⟨ownFrom_below (Nat.le_refl _) (Nat.le_refl _) s A B row hs.1 hg hr, hs.2⟩)
    (fun c s A B row hs hg hr => by
      obtain ⟨x, h1, h2, h5, h6⟩ := hs
      exact ⟨x, h1, h2, own_blk h5 hg hr, ownFrom_below (Nat.le_refl _) (by omega) s A B row h6 hg hr⟩)
    ⟨Below.refl _ _, fun y hy => (by simp at hy)⟩
    (fun x => { tmps := #[.pointer (some ⟨sb, 0, none⟩), .int .u32 (setI xs : Nat), undef, .pointer (some ⟨w.heap.size, 0, none⟩), .pointer (some ⟨w.heap.size + 1, 0, none⟩), .pointer (some ⟨x.1.b, 0, none⟩), .int .u32 (setI xs : Nat), .bool false, .pointer (some ⟨sb, 0, none⟩),
      .func (.func 109) #[] #[.pointer (some ⟨w.heap.size + 2, 0, none⟩)], .pointer (some ⟨x.1.b, 0, none⟩), undef, undef, undef, undef, undef, undef, undef, undef, undef, undef, undef, undef, undef, undef, undef, undef, undef], defers := [] }) ?assign ?body ?done ?stop
  case assign =>
    intro l x W K hK
    gi_wp2
    exact hK
  case body =>
    rintro l pre x W ⟨B1, hall⟩ hlen
    have hx1 := (hls x.1 x.2).1
    have hx2 := (hls x.1 x.2).2
    have hh := asc_mem hx1 (hd_mem hx2)
    have HA := hid hall
    have y0 := cell_regrown (box_cell (kept X0 B1) 0 (v := .int .u32 (setI xs : Nat)) rfl)
    have r0 := cell_regrown ((B1.cell (p := ⟨x.1.b, 0, none⟩) (block_lt_of_cell (HC.out x.1 x.2))).trans (HC.out x.1 x.2))
    have k1 := hid (rg (w := W) (fun w' hb => same_below (firstS hx hne w' ((T0.below B1).below hb))))
    have k2 := hid (rg (w := W) (fun w' hb => same_below (firstS hx1 hx2 w' ((T0.below B1).below hb))))
    have k3 := hid (rg (w := W) (fun w' _ => same_below (hasS hx (hd x.1.r) w' (by omega) (by omega))))
    have X1w := hid (kept X1 B1)
    clear hall
    gi_wp2
    obtain ⟨F1, hF1⟩ : ∃ F1, F1 = hd xs := ⟨_, rfl⟩
    obtain ⟨F2, hF2⟩ : ∃ F2, F2 = hd x.1.r := ⟨_, rfl⟩
    rw [← hF1] at k1
    rw [← hF2] at k2 k3 hh
    have HF1 := hid hF1
    have HF2 := hid hF2
    clear hF1 hF2
    by_cases hlt : F1 < F2
    · have hd1 : decide (F2 ≤ F1) = false := decide_eq_false (by omega)
      by_cases hin : F2 ∈ xs
      · rw [decide_eq_true hin] at k3
        have HN := hid (show ¬ fit1 xs x.1.r from fun h => h.2 (by rw [← HF2.out]; exact hin))
        clear hin hlt
        refine inR_below (by kernel_rfl) (by kernel_rfl) (by kernel_rfl) (fun ⟨_, _, h⟩ => h) ?_
        repeat (first
          | go_big_quiet_step (first | (go_at_call 107; with_reducible exact k1.out _ _) | (go_at_call 107; with_reducible exact k2.out _ _) | (go_at_call 108; with_reducible exact k3.out _ _))
          | quiet_step (first | (go_at_call 107; with_reducible exact k1.out _ _) | (go_at_call 107; with_reducible exact k2.out _ _) | (go_at_call 108; with_reducible exact k3.out _ _)))
        refine wpQuiet_nil ?_
        intro _ hw'
        obtain ⟨⟨dq, osq⟩, hw''⟩ := hw'
        have hbq := below_regrown W dq osq
        rw [← hw''] at hbq
        clear hw'' y0 r0
        have hc := box_cell (kept X1w.out hbq) 0 (v := .bool false) rfl
        have hz := box_frozen (kept X1w.out hbq) 0
        have BB := hid (u_catn B1 (Nat.le_refl _) hbq)
        gi_wp2
        refine ⟨((keeps_below hbq).trans (KeepsOthers.setCell _ _ _)).from _, x, rfl, HN.out, set_block (kept X1w.out hbq) 0 _, u_set (B0.trans (BB.out.mono (by omega))) (by omega) _ _⟩
      · rw [decide_eq_false hin] at k3
        have HN := hid (show fit1 xs x.1.r from ⟨by rw [← HF1.out, ← HF2.out]; exact hlt, by rw [← HF2.out]; exact hin⟩)
        clear hin hlt
        refine inR_below (by kernel_rfl) (by kernel_rfl) (by kernel_rfl) (fun ⟨_, _, h⟩ => h) ?_
        repeat (first
          | go_big_quiet_step (first | (go_at_call 107; with_reducible exact k1.out _ _) | (go_at_call 107; with_reducible exact k2.out _ _) | (go_at_call 108; with_reducible exact k3.out _ _))
          | quiet_step (first | (go_at_call 107; with_reducible exact k1.out _ _) | (go_at_call 107; with_reducible exact k2.out _ _) | (go_at_call 108; with_reducible exact k3.out _ _)))
        refine wpQuiet_nil ?_
        intro _ hw'
        obtain ⟨⟨dq, osq⟩, hw''⟩ := hw'
        have hbq := below_regrown W dq osq
        rw [← hw''] at hbq
        clear hw'' y0 r0
        have BB := hid (u_catn B1 (Nat.le_refl _) hbq)
        gi_wp2
        refine ⟨(keeps_below hbq).from _, hbq.mono B1.size, BB.out, ?_⟩
        intro y hy
        rcases List.mem_append.1 hy with h | h
        · exact HA.out y h
        · simp only [List.mem_singleton] at h; subst h; exact HN.out
    · have hd1 : decide (F2 ≤ F1) = true := decide_eq_true (by omega)
      have HN := hid (show ¬ fit1 xs x.1.r from fun h => hlt (by rw [HF1.out, HF2.out]; exact h.1))
      clear hlt
      refine inR_below (by kernel_rfl) (by kernel_rfl) (by kernel_rfl) (fun ⟨_, _, h⟩ => h) ?_
      repeat (first
        | go_big_quiet_step (first | (go_at_call 107; with_reducible exact k1.out _ _) | (go_at_call 107; with_reducible exact k2.out _ _) | (go_at_call 108; with_reducible exact k3.out _ _))
        | quiet_step (first | (go_at_call 107; with_reducible exact k1.out _ _) | (go_at_call 107; with_reducible exact k2.out _ _) | (go_at_call 108; with_reducible exact k3.out _ _)))
      refine wpQuiet_nil ?_
      intro _ hw'
      obtain ⟨⟨dq, osq⟩, hw''⟩ := hw'
      have hbq := below_regrown W dq osq
      rw [← hw''] at hbq
      clear hw'' y0 r0
      have hc := box_cell (kept X1w.out hbq) 0 (v := .bool false) rfl
      have hz := box_frozen (kept X1w.out hbq) 0
      have BB := hid (u_catn B1 (Nat.le_refl _) hbq)
      gi_wp2
      refine ⟨((keeps_below hbq).trans (KeepsOthers.setCell _ _ _)).from _, x, rfl, HN.out, set_block (kept X1w.out hbq) 0 _, u_set (B0.trans (BB.out.mono (by omega))) (by omega) _ _⟩
  case done =>
    rintro D ys W hD rfl ⟨B1, hall⟩ hK
    have HD := hid (show decide (fits xs (ls.map Lk.r)) = true from decide_eq_true ⟨hne, fun r hr => by
      obtain ⟨l, hl, rfl⟩ := List.mem_map.1 hr
      exact hall ⟨l, hl⟩ (List.mem_attach _ _)⟩)
    have X1w := hid (kept X1 B1)
    have hc := box_cell X1w.out 0 (v := .bool false) rfl
    have hz := box_frozen X1w.out 0
    have X5 := hid (set_block X1w.out 0 (.bool true))
    clear hall
    gi_wp2
    have hK' := (KeepsOthers.setCell W ⟨w.heap.size + 1, 0, none⟩ (.bool true)).same D _ hK rfl
    refine ⟨by simp, .inl ⟨_, _, rfl, run_takeDeferred hK', ?_⟩⟩
    have hc5 := cell_kept (box_cell X5.out 0 (v := .bool true) rfl) (grownBy_putObj' _ D (.deferred none)) (fun r e => by cases e; exact ⟨_, hK', rfl⟩)
    refine ⟨.bool true, ?_, by rw [HD.out], (u_set (B0.trans (B1.mono (by omega))) (by omega) _ _).trans (belowK_b (w := w) (Nat.le_refl _) _ D _ _ (by omega) hK' rfl rfl)⟩
    simp [results, Tryz.f97, go_sem, hc5]
  case stop =>
    rintro D c pre W hD hSp ⟨x, rfl, hx, Y2, B1⟩ hK
    have HD := hid (show decide (fits xs (ls.map Lk.r)) = false from decide_eq_false (fun h => hx (h.2 _ (List.mem_map_of_mem x.2))))
    clear hx
    gi_wp2
    refine ⟨by simp, .inl ⟨_, _, rfl, run_takeDeferred hK, ?_⟩⟩
    have hc5 := cell_kept (box_cell Y2 0 (v := .bool false) rfl) (grownBy_putObj' _ D (.deferred none)) (fun r e => by cases e; exact ⟨_, hK, rfl⟩)
    refine ⟨.bool false, ?_, by rw [HD.out], B1.trans (belowK_b (w := w) (Nat.le_refl _) W D _ _ (by omega) hK rfl rfl)⟩
    simp [results, Tryz.f97, go_sem, hc5]
end Go.Proofs.YtbakicgdloakgaaGreatDoor
namespace Go.Proofs.YtbakicgdloakgaaGreatDoor
open Go.ChangeShapes Go.WideShapes Go.ChangeAt Go.RowKit Go.Sort Go.Shelf
attribute [local go_sem] Oper.semAt_some

/-- Each place is met once: what is done at each is done to all. -/
def atEach {α : Type} {n : Nat} (f : α → α) (xs : List α) (pre : List (Fin n)) : List α := pre.foldl (fun ys i => ys.modify i.val f) xs
theorem atEach_snoc {α : Type} {n : Nat} (f : α → α) (xs : List α) (pre : List (Fin n)) (x : Fin n) : atEach f xs (pre ++ [x]) = (atEach f xs pre).modify x.val f := by
  unfold atEach; rw [List.foldl_append]; rfl
end Go.Proofs.YtbakicgdloakgaaGreatDoor
