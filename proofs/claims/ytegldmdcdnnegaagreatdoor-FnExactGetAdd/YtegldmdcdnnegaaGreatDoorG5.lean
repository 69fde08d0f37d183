/- Whether a row may stand ahead of all links, by the program. Sizes that may be, by the program. A region that draws its order: reads of what stays as it is, then what lays memory, then stores: walked once. -/
import Derived.Test.YtegldmdcdnnegaaGreatDoorG4
import Derived.Test.YtegldmdcdnnegaaGreatDoorG1
import Derived.Test.YtegldmdcdnnegaaGreatDoorG3
import Derived.OrdersHeld
namespace Go.Proofs.YtegldmdcdnnegaaGreatDoor
open Go.ChangeShapes Go.WideShapes Go.ChangeAt Go.RowKit Go.Sort Go.Shelf
attribute [local go_sem] Oper.semAt_some

/-- A row that may stand ahead of others. -/
def fit1 (xs : List Int) (r : List Int) : Prop := hd xs < hd r ∧ hd r ∉ xs
instance (xs r : List Int) : Decidable (fit1 xs r) := by unfold fit1; infer_instance
def fits (xs : List Int) (rs : List (List Int)) : Prop := xs ≠ [] ∧ ∀ r ∈ rs, fit1 xs r
instance (xs : List Int) (rs : List (List Int)) : Decidable (fits xs rs) := by unfold fits; infer_instance
/-- Rows of at most 24 that have a number. -/
def RowsL (ls : List Lk) : Prop := ∀ l ∈ ls, ascB (-1) 24 l.r = true ∧ l.r ≠ []

theorem same_below {P : Program} {f : FuncId} {args : Array Value} {w : World} {v : Value} (h : Calls P f args w fun e w' => e = .returned v ∧ w' = w) : Calls P f args w fun e w' => e = .returned v ∧ Below w.heap.size w w' :=
  h.mono fun _ _ ⟨a, b⟩ => ⟨a, by rw [b]; exact Below.refl _ _⟩
theorem dr_below {P : Program} {f : FuncId} {args : Array Value} {w : World} {v : Value} (h : Calls P f args w fun e w' => e = .returned v ∧ Dr w w') : Calls P f args w fun e w' => e = .returned v ∧ Below w.heap.size w w' :=
  h.mono fun _ _ ⟨a, b⟩ => ⟨a, b.below _⟩

set_option maxHeartbeats 1000000 in
theorem fits_empty (p : Option Addr) (w : World) :
    Calls Tryz.prog 74 #[.pointer p, .int .u32 0] w fun e w' => e = .returned (.bool false) ∧ Below w.heap.size w w' := by
  have h1 := emptyS (xs := []) rfl
  rw [show ((setI [] : Nat) : Int) = 0 from rfl] at h1
  have H1 := hid h1
  clear h1
  refine (callsIn_wide (n := 9)).1 ?_
  refine callsIn_of_wp_marks Tryz.func74 rfl trivial ?_ rfl
  simp only [Tryz.ntmps74, List.size_toArray, List.length_cons, List.length_nil, Nat.reduceAdd, Nat.reduceSub, Array.replicate_succ, Array.replicate_zero, List.push_toArray, List.append_toArray, List.nil_append, List.cons_append]
  gi_wp2_with (refine ⟨trivial, ?_⟩; gi_at_call 87; refine (callsIn_wide.2 (H1.out _)).mono ?_; rintro e w' ⟨rfl, rfl⟩)
  refine ⟨.bool false, ?_, rfl, u_b2 _ _ _⟩
  simp [results, Tryz.f74, go_sem]

set_option maxHeartbeats 4000000 in
theorem fits_any (sb base : Nat) (cnt sz : Int) (xs : List Int) (ls : List Lk) (w : World) (hsb : w.heap[sb]? = some (.cells #[.int .i64 cnt, .int .i64 sz, .pointer (ptrOf ls)] 55 (0, 0))) (hL : LksAt w base ls) (hl : ls.length ≤ 1000) (hx : ascB (-1) 24 xs = true) (hne : xs ≠ []) (hls : RowsL ls) (hT : Tab w) :
    Calls Tryz.prog 74 #[.pointer (some ⟨sb, 0, none⟩), .int .u32 (setI xs : Nat)] w fun e w' => e = .returned (.bool (decide (fits xs (ls.map Lk.r)))) ∧ Below w.heap.size w w' := by
  have hsw := lt_of_block hsb
  have H1 := hid (emptyS hx)
  rw [decide_eq_false hne] at H1
  refine (callsIn_wide (n := 9)).1 ?_
  refine callsIn_of_wp_marks Tryz.func74 rfl trivial ?_ rfl
  simp only [Tryz.ntmps74, List.size_toArray, List.length_cons, List.length_nil, Nat.reduceAdd, Nat.reduceSub, Array.replicate_succ, Array.replicate_zero, List.push_toArray, List.append_toArray, List.nil_append, List.cons_append]
  gi_wp2_with (refine ⟨trivial, ?_⟩; first | (gi_at_call 87; refine (callsIn_wide.2 (H1.out _)).mono ?_; rintro e w' ⟨rfl, hq⟩; replace hq := hq.symm; subst hq) | (gi_at_call 89; refine (callsIn_wide.2 (links_in _ _)).mono ?_; rintro e w' ⟨rfl, rfl⟩))
  obtain ⟨W0, hW0⟩ : ∃ W0, W0 = ((w.alloc (.cells #[.int .u32 (setI xs : Nat)] 97)).alloc (.cells #[.bool false] 4)).alloc (.cells #[.pointer (some ⟨sb, 0, none⟩)] 133) := ⟨_, rfl⟩
  rw [← hW0]
  obtain ⟨X0, X1, X2, B0⟩ := u_box3 (w := w) (c := #[.int .u32 (setI xs : Nat)]) (t := 97) (d := #[.bool false]) (s := 4) (f := #[.pointer (some ⟨sb, 0, none⟩)]) (r := 133) (w1 := W0) (by rw [hW0]; exact Below.refl _ _)
  have Z0 : W0.heap.size = w.heap.size + 3 := by rw [hW0]; simp
  clear hW0
  have L0 := hL.below B0
  have S0 := kept hsb B0
  have T0 := hT.below B0
  have HC := hid (show ∀ l ∈ ls, W0.cell? ⟨l.b, 0, none⟩ = some (.int .u32 (setI l.r : Nat)) from fun l hl => by
    obtain ⟨k, hk, rfl⟩ := List.getElem_of_mem hl
    exact box_cell (L0 k hk).2.2.1 0 rfl)
  refine wpIn_rangeFunc_ownG (α := {x : Lk // x ∈ ls}) rfl (by omega) (gf := 111) (lb := #[.pointer (some ⟨w.heap.size + 2, 0, none⟩)]) rfl trivial (enters_of Tryz.func111 (by kernel_rfl) rfl)
    (links_stops (9 - 1) _ sb ls (by omega) hl (Below W0.heap.size) (fun W W' h k j hj => (k.cell (p := ⟨ls[j].b, 2, none⟩) (lt_of_block (L0 j hj).2.2.1)).trans (h j hj)) W0 (box_cell X2 0 rfl) (box_cell S0 2 rfl) L0.leads)
    belowK_t (belowK_b (Nat.le_refl _)) (Below.refl _ _) (fun _ => rfl)
    (fun pre W => Below W0.heap.size W0 W ∧ ∀ l ∈ pre, fit1 xs l.1.r)
    (fun c pre W => ∃ l : {x : Lk // x ∈ ls}, c = .ret ∧ ¬ fit1 xs l.1.r ∧ W.heap[w.heap.size + 1]? = some (.cells #[.bool false] 4 (0, 0)) ∧ Below w.heap.size w W)
    (fun s A B row hs hg hr => ⟨ownFrom_below (Nat.le_refl _) (Nat.le_refl _) s A B row hs.1 hg hr, hs.2⟩)
    (fun c s A B row hs hg hr => by
      obtain ⟨x, h1, h2, h5, h6⟩ := hs
      exact ⟨x, h1, h2, own_blk h5 hg hr, ownFrom_below (Nat.le_refl _) (by omega) s A B row h6 hg hr⟩)
    ⟨Below.refl _ _, fun y hy => (by simp at hy)⟩
    (fun x => { tmps := #[.pointer (some ⟨sb, 0, none⟩), .int .u32 (setI xs : Nat), undef, .pointer (some ⟨w.heap.size, 0, none⟩), .pointer (some ⟨w.heap.size + 1, 0, none⟩), .pointer (some ⟨x.1.b, 0, none⟩), .int .u32 (setI xs : Nat), .bool false, .pointer (some ⟨sb, 0, none⟩),
      .func (.func 111) #[] #[.pointer (some ⟨w.heap.size + 2, 0, none⟩)], .pointer (some ⟨x.1.b, 0, none⟩), undef, undef, undef, undef, undef, undef, undef, undef, undef, undef, undef, undef, undef, undef, undef, undef, undef], defers := [] }) ?assign ?body ?done ?stop
  case assign =>
    intro l x W K hK
    gi_wp2
    exact hK
  case body =>
    rintro l pre x W ⟨B1, hall⟩ hlen
    have hx1 := (hls x.1 x.2).1
    have hx2 := (hls x.1 x.2).2
    have hh := asc_mem hx1 (hd_mem hx2)
    have HA := hid hall
    have y0 := cell_regrown (box_cell (kept X0 B1) 0 (v := .int .u32 (setI xs : Nat)) rfl)
    have r0 := cell_regrown ((B1.cell (p := ⟨x.1.b, 0, none⟩) (block_lt_of_cell (HC.out x.1 x.2))).trans (HC.out x.1 x.2))
    have k1 := hid (rg (w := W) (fun w' hb => same_below (firstS hx hne w' ((T0.below B1).below hb))))
    have k2 := hid (rg (w := W) (fun w' hb => same_below (firstS hx1 hx2 w' ((T0.below B1).below hb))))
    have k3 := hid (rg (w := W) (fun w' _ => same_below (hasS hx (hd x.1.r) w' (by omega) (by omega))))
    have X1w := hid (kept X1 B1)
    clear hall
    gi_wp2
    obtain ⟨F1, hF1⟩ : ∃ F1, F1 = hd xs := ⟨_, rfl⟩
    obtain ⟨F2, hF2⟩ : ∃ F2, F2 = hd x.1.r := ⟨_, rfl⟩
    rw [← hF1] at k1
    rw [← hF2] at k2 k3 hh
    have HF1 := hid hF1
    have HF2 := hid hF2
    clear hF1 hF2
    by_cases hlt : F1 < F2
    · have hd1 : decide (F2 ≤ F1) = false := decide_eq_false (by omega)
      by_cases hin : F2 ∈ xs
      · rw [decide_eq_true hin] at k3
        have HN := hid (show ¬ fit1 xs x.1.r from fun h => h.2 (by rw [← HF2.out]; exact hin))
        clear hin hlt
        refine inR_below (by kernel_rfl) (by kernel_rfl) (by kernel_rfl) (fun ⟨_, _, h⟩ => h) ?_
        repeat (first
          | go_big_quiet_step (first | (go_at_call 91; with_reducible exact k1.out _ _) | (go_at_call 91; with_reducible exact k2.out _ _) | (go_at_call 90; with_reducible exact k3.out _ _))
          | quiet_step (first | (go_at_call 91; with_reducible exact k1.out _ _) | (go_at_call 91; with_reducible exact k2.out _ _) | (go_at_call 90; with_reducible exact k3.out _ _)))
        refine wpQuiet_nil ?_
        intro _ hw'
        obtain ⟨⟨dq, osq⟩, hw''⟩ := hw'
        have hbq := below_regrown W dq osq
        rw [← hw''] at hbq
        clear hw'' y0 r0
        have hc := box_cell (kept X1w.out hbq) 0 (v := .bool false) rfl
        have hz := box_frozen (kept X1w.out hbq) 0
        have BB := hid (u_catn B1 (Nat.le_refl _) hbq)
        gi_wp2
        refine ⟨((keeps_below hbq).trans (KeepsOthers.setCell _ _ _)).from _, x, rfl, HN.out, set_block (kept X1w.out hbq) 0 _, u_set (B0.trans (BB.out.mono (by omega))) (by omega) _ _⟩
      · rw [decide_eq_false hin] at k3
        have HN := hid (show fit1 xs x.1.r from ⟨by rw [← HF1.out, ← HF2.out]; exact hlt, by rw [← HF2.out]; exact hin⟩)
        clear hin hlt
        refine inR_below (by kernel_rfl) (by kernel_rfl) (by kernel_rfl) (fun ⟨_, _, h⟩ => h) ?_
        repeat (first
          | go_big_quiet_step (first | (go_at_call 91; with_reducible exact k1.out _ _) | (go_at_call 91; with_reducible exact k2.out _ _) | (go_at_call 90; with_reducible exact k3.out _ _))
          | quiet_step (first | (go_at_call 91; with_reducible exact k1.out _ _) | (go_at_call 91; with_reducible exact k2.out _ _) | (go_at_call 90; with_reducible exact k3.out _ _)))
        refine wpQuiet_nil ?_
        intro _ hw'
        obtain ⟨⟨dq, osq⟩, hw''⟩ := hw'
        have hbq := below_regrown W dq osq
        rw [← hw''] at hbq
        clear hw'' y0 r0
        have BB := hid (u_catn B1 (Nat.le_refl _) hbq)
        gi_wp2
        refine ⟨(keeps_below hbq).from _, hbq.mono B1.size, BB.out, ?_⟩
        intro y hy
        rcases List.mem_append.1 hy with h | h
        · exact HA.out y h
        · simp only [List.mem_singleton] at h; subst h; exact HN.out
    · have hd1 : decide (F2 ≤ F1) = true := decide_eq_true (by omega)
      have HN := hid (show ¬ fit1 xs x.1.r from fun h => hlt (by rw [HF1.out, HF2.out]; exact h.1))
      clear hlt
      refine inR_below (by kernel_rfl) (by kernel_rfl) (by kernel_rfl) (fun ⟨_, _, h⟩ => h) ?_
      repeat (first
        | go_big_quiet_step (first | (go_at_call 91; with_reducible exact k1.out _ _) | (go_at_call 91; with_reducible exact k2.out _ _) | (go_at_call 90; with_reducible exact k3.out _ _))
        | quiet_step (first | (go_at_call 91; with_reducible exact k1.out _ _) | (go_at_call 91; with_reducible exact k2.out _ _) | (go_at_call 90; with_reducible exact k3.out _ _)))
      refine wpQuiet_nil ?_
      intro _ hw'
      obtain ⟨⟨dq, osq⟩, hw''⟩ := hw'
      have hbq := below_regrown W dq osq
      rw [← hw''] at hbq
      clear hw'' y0 r0
      have hc := box_cell (kept X1w.out hbq) 0 (v := .bool false) rfl
      have hz := box_frozen (kept X1w.out hbq) 0
      have BB := hid (u_catn B1 (Nat.le_refl _) hbq)
      gi_wp2
      refine ⟨((keeps_below hbq).trans (KeepsOthers.setCell _ _ _)).from _, x, rfl, HN.out, set_block (kept X1w.out hbq) 0 _, u_set (B0.trans (BB.out.mono (by omega))) (by omega) _ _⟩
  case done =>
    rintro D ys W hD rfl ⟨B1, hall⟩ hK
    have HD := hid (show decide (fits xs (ls.map Lk.r)) = true from decide_eq_true ⟨hne, fun r hr => by
      obtain ⟨l, hl, rfl⟩ := List.mem_map.1 hr
      exact hall ⟨l, hl⟩ (List.mem_attach _ _)⟩)
    have X1w := hid (kept X1 B1)
    have hc := box_cell X1w.out 0 (v := .bool false) rfl
    have hz := box_frozen X1w.out 0
    have X5 := hid (set_block X1w.out 0 (.bool true))
    clear hall
    gi_wp2
    have hK' := (KeepsOthers.setCell W ⟨w.heap.size + 1, 0, none⟩ (.bool true)).same D _ hK rfl
    refine ⟨by simp, .inl ⟨_, _, rfl, run_takeDeferred hK', ?_⟩⟩
    have hc5 := cell_kept (box_cell X5.out 0 (v := .bool true) rfl) (grownBy_putObj' _ D (.deferred none)) (fun r e => by cases e; exact ⟨_, hK', rfl⟩)
    refine ⟨.bool true, ?_, by rw [HD.out], (u_set (B0.trans (B1.mono (by omega))) (by omega) _ _).trans (belowK_b (w := w) (Nat.le_refl _) _ D _ _ (by omega) hK' rfl rfl)⟩
    simp [results, Tryz.f74, go_sem, hc5]
  case stop =>
    rintro D c pre W hD hSp ⟨x, rfl, hx, Y2, B1⟩ hK
    have HD := hid (show decide (fits xs (ls.map Lk.r)) = false from decide_eq_false (fun h => hx (h.2 _ (List.mem_map_of_mem x.2))))
    clear hx
    gi_wp2
    refine ⟨by simp, .inl ⟨_, _, rfl, run_takeDeferred hK, ?_⟩⟩
    have hc5 := cell_kept (box_cell Y2 0 (v := .bool false) rfl) (grownBy_putObj' _ D (.deferred none)) (fun r e => by cases e; exact ⟨_, hK, rfl⟩)
    refine ⟨.bool false, ?_, by rw [HD.out], B1.trans (belowK_b (w := w) (Nat.le_refl _) W D _ _ (by omega) hK rfl rfl)⟩
    simp [results, Tryz.f74, go_sem, hc5]
end Go.Proofs.YtegldmdcdnnegaaGreatDoor
namespace Go.Proofs.YtegldmdcdnnegaaGreatDoor
open Go.ChangeShapes Go.WideShapes Go.ChangeAt Go.RowKit

set_option maxRecDepth 100000 in
theorem sizesOk_yes (c s : Int) (w : World) (h1 : 1 ≤ c ∧ c ≤ 24) (h2 : 1 ≤ s ∧ s ≤ 16) :
    Calls Tryz.prog 73 #[.int .i64 c, .int .i64 s] w fun e w' => e = .returned (.bool true) ∧ w' = w := by
  obtain ⟨h3, h4⟩ := h1
  obtain ⟨h5, h6⟩ := h2
  go_enter Tryz.func73, Tryz.ntmps73
  go_wp2
  go_ret
  exact ⟨rfl, rfl⟩

set_option maxRecDepth 100000 in
theorem sizesOk_no (c s : Int) (w : World) (h : ¬ ((1 ≤ c ∧ c ≤ 24) ∧ 1 ≤ s ∧ s ≤ 16)) :
    Calls Tryz.prog 73 #[.int .i64 c, .int .i64 s] w fun e w' => e = .returned (.bool false) ∧ w' = w := by
  by_cases h1 : 1 ≤ c
  · by_cases h2 : c ≤ 24
    · by_cases h3 : 1 ≤ s
      · have h4 : decide (s ≤ 16) = false := by simp; omega
        clear h
        go_enter Tryz.func73, Tryz.ntmps73
        go_wp2
        go_ret
        exact ⟨rfl, rfl⟩
      · have h4 : decide (1 ≤ s) = false := by simp; omega
        clear h h3
        go_enter Tryz.func73, Tryz.ntmps73
        go_wp2
        go_ret
        exact ⟨rfl, rfl⟩
    · have h4 : decide (c ≤ 24) = false := by simp; omega
      clear h h2
      go_enter Tryz.func73, Tryz.ntmps73
      go_wp2
      go_ret
      exact ⟨rfl, rfl⟩
  · have h4 : decide (1 ≤ c) = false := by simp; omega
    clear h h1
    go_enter Tryz.func73, Tryz.ntmps73
    go_wp2
    go_ret
    exact ⟨rfl, rfl⟩
end Go.Proofs.YtegldmdcdnnegaaGreatDoor
namespace Go.Proofs.YtegldmdcdnnegaaGreatDoor
open Go.ChangeShapes Go.WideShapes Go.ChangeAt Go.RowKit Go.Sort

section
variable {P : Program} {ops : Array Oper} {md : Region.Mode} {Q : Exit → Act → World → Prop} {C : World → Prop} {c : Nat}

/-- Whatever order comes; behind those ahead of c the class is kept. -/
def wpMid (P : Program) (md : Region.Mode) (ops : Array Oper) (Q : Exit → Act → World → Prop) (C : World → Prop) (c : Nat) : Nat → Array Bool → Act → World → Prop
  | 0, listed, a, w => Region.ready md ops listed = [] ∧ Q .normal a w
  | fuel + 1, listed, a, w => (Region.ready md ops listed = [] → Q .normal a w) ∧
      ∀ i ∈ Region.ready md ops listed, wpOp P ops Q i (fun a' w' => (i < c → C w') ∧ wpMid P md ops Q C c fuel (listed.setIfInBounds i true) a' w') a w
theorem wpAny_of_wpMid : ∀ (fuel : Nat) (listed : Array Bool) (a : Act) (w : World), wpMid P md ops Q C c fuel listed a w → wpAny P md ops Q fuel listed a w
  | 0, _, _, _, h => h
  | fuel + 1, _, _, _, h => ⟨h.1, fun i hi => wpOp_mono (fun a' w' h' => wpAny_of_wpMid fuel _ a' w' h'.2) (h.2 i hi)⟩

theorem wpMid_first {i : Nat} {oi : Oper} {v : Value} (hi : ops[i]? = some oi) (hs : Region.noSelect ops = true) (hQ : ∀ c a d v w, Q (.panic c) (a.put d v) w → Q (.panic c) a w)
    (hpost : ∀ j, c ≤ j → j < ops.size → behind md ops i ops.size j = true) (hic : i < c) :
    ∀ (fuel : Nat) (listed : Array Bool) (a : Act) (w : World), Shut md ops listed →
      (∀ j oj, ops[j]? = some oj → j ≠ i → listed.getD j true = false → (∀ e ∈ oj.after, Region.binds md e = true → e.on ≠ i) → oi.apart ops oj = true) →
      i ∈ Region.ready md ops listed → YieldsIf P ops C oi v a → C w →
      wpMid P md ops Q C c fuel (listed.setIfInBounds i true) (a.put oi.dst v) w → wpMid P md ops Q C c (fuel + 1) listed a w
  | 0, listed, a, w, _, _, hr, hy, hC, H => by
    refine ⟨fun h => (by rw [h] at hr; cases hr), fun j hj => ?_⟩
    by_cases hji : j = i
    · subst hji; exact hy.wpOp hi hC ⟨fun _ => hC, H⟩
    · have := ready_mono hj hji
      rw [H.1] at this
      cases this
  | fuel + 1, listed, a, w, hsh, hfree, hr, hy, hC, H => by
    refine ⟨fun h => (by rw [h] at hr; cases hr), fun j hj => ?_⟩
    by_cases hji : j = i
    · subst hji; exact hy.wpOp hi hC ⟨fun _ => hC, H⟩
    · obtain ⟨hjun, oj, hoj, hall⟩ := mem_ready.1 hj
      have hjc : j < c := by
        rcases Nat.lt_or_ge j c with h1 | h1
        · exact h1
        · exact absurd (behind_listed hsh _ j (hpost j h1 (Array.getElem?_eq_some_iff.1 hoj).1) (fun o' ho' e he hb => by rw [hoj] at ho'; cases ho'; exact hall e he hb)) (not_ready hr)
      have h1 := H.2 j (ready_mono hj hji)
      have h2 := wpOp_putIf hoj (hfree j oj hoj hji hjun (unready hr hj hoj)) (fun cs b => Region.noSelect_spec hs i oi cs b hi) (fun cs b => Region.noSelect_spec hs j oj cs b hoj) (fun c a w h => hQ c a _ _ w h) hy h1
      refine wpOp_mono (fun a' w' h3 => ⟨h3.2.1, wpMid_first hi hs hQ hpost hic fuel (listed.setIfInBounds j true) a' w' (hsh.set hj) ?_ (ready_mono hr (Ne.symm hji)) h3.1 (h3.2.1 hjc) ?_⟩) h2
      · intro k ok hk hki hun hno
        refine hfree k ok hk hki ?_ hno
        by_cases hjk : j = k
        · subst hjk; exact hjun
        · rwa [getD_set_ne true hjk] at hun
      · rw [Array.setIfInBounds_comm _ _ hji]
        exact h3.2.2

/-- An operation that only reads. -/
def readOp (o : Oper) : Bool := match o.op with | .move _ | .assign _ | .pick _ _ _ | .load _ _ | .fieldAddr _ _ _ | .nilCheck _ | .indexAddr _ _ _ | .extract _ _ | .unOp _ _ _ | .convert _ _ _ => true | _ => false
/-- What ends well ends with a value. -/
def IsVal (s : Sem Next) : Prop := ∀ (P : Program) (w : World) (x : Next) (w' : World), s.run P w = .ok x w' → ∃ u, x = .value u
theorem IsVal.pure (u : Value) : IsVal (Pure.pure (Next.value u)) := fun P w x w' h => by
  have h1 : (Pure.pure (Next.value u) : Sem Next).run P w = .ok (.value u) w := rfl
  rw [h1] at h
  cases h
  exact ⟨u, rfl⟩
theorem IsVal.bind {α : Type} (s : Sem α) (f : α → Sem Next) (h : ∀ x, IsVal (f x)) : IsVal (s >>= f) := fun P w x w' hr => by
  rw [Sem.run_bind] at hr
  cases hs : s.run P w with
  | ok y w1 => rw [hs] at hr; exact h y P w1 x w' hr
  | halt y w1 => rw [hs] at hr; cases hr
theorem IsVal.ite {p : Prop} [Decidable p] {s t : Sem Next} (h : IsVal s) (k : IsVal t) : IsVal (if p then s else t) := by split <;> assumption
theorem IsVal.run {s : Sem Next} (h : IsVal s) {P : Program} {w : World} {C : World → Prop} {v : Value} (hq : Oper.quietUpon P C w v (s.run P w)) : s.run P w = .ok (.value v) w := by
  cases hr : s.run P w with
  | ok x w' =>
    obtain ⟨u, rfl⟩ := h _ _ _ _ hr
    rw [hr] at hq
    obtain ⟨h1, h2⟩ := hq
    subst h1 h2
    rfl
  | halt x w' => rw [hr] at hq; exact hq.elim
theorem readOp_run {P : Program} {o : Oper} (h : readOp o = true) (ρ : Operand → Value) (w : World) {C : World → Prop} {v : Value} (hq : Oper.quietUpon P C w v ((execOp ρ o).run P w)) : (execOp ρ o).run P w = .ok (.value v) w := by
  obtain ⟨dst, op, type, pos, after, guard⟩ := o
  cases op <;> simp only [readOp] at h <;> try cases h
  case move x => exact pureOp_run (o := ⟨dst, .move x, type, pos, after, guard⟩) rfl ρ w w hq
  case assign x => exact pureOp_run (o := ⟨dst, .assign x, type, pos, after, guard⟩) rfl ρ w w hq
  case pick x y z => exact pureOp_run (o := ⟨dst, .pick x y z, type, pos, after, guard⟩) rfl ρ w w hq
  case nilCheck x =>
    simp only [execOp] at hq ⊢
    split at hq
    · exact hq.elim
    · exact hq.elim
    · exact hq.elim
    · split at hq
      · exact hq.elim
      · exact IsVal.run (IsVal.bind _ _ (fun _ => IsVal.bind _ _ (fun _ => IsVal.ite (IsVal.bind _ _ (fun _ => IsVal.pure _)) (IsVal.pure _)))) hq
      · exact IsVal.run (IsVal.pure _) hq
    · exact IsVal.run (IsVal.pure _) hq
  all_goals exact IsVal.run (IsVal.bind _ _ (fun _ => IsVal.pure _)) hq

/-- Reads first. -/
theorem wpMid_lex {m : Nat} (hs : Region.noSelect ops = true) (hQ : ∀ c a d v w, Q (.panic c) (a.put d v) w → Q (.panic c) a w) (hpost : ∀ i, i < m → ∀ j, c ≤ j → j < ops.size → behind md ops i ops.size j = true) (hmc : m ≤ c)
    {L1 : Array Bool} {b : Nat} {K : Act → Prop} (hK : ∀ a w, C w → K a → wpMid P md ops Q C c b L1 a w) :
    ∀ (l : List Oper) (k : Nat) (listed : Array Bool) (a : Act) (w : World), Shut md ops listed → C w → l.all readOp = true → k + l.length = m → (∀ j, j < l.length → l[j]? = ops[k + j]?) →
      frontFrom md ops L1 l.length k listed = true → wpQuiet P ops C K l a → wpMid P md ops Q C c (l.length + b) listed a w
  | [], _, listed, a, w, _, hw, _, _, _, hB, h => by
    have e : listed = L1 := by simpa [frontFrom] using hB
    rw [e, List.length_nil, Nat.zero_add]
    exact hK a w hw h
  | o :: l, k, listed, a, w, hsh, hw, hp, hk, hl, hB, h => by
    have h0 : ops[k]? = some o := by simpa using (hl 0 (by simp)).symm
    simp only [List.length_cons, frontFrom, Bool.and_eq_true] at hB
    obtain ⟨⟨hr, hf⟩, hB'⟩ := hB
    simp only [List.all_cons, Bool.and_eq_true] at hp
    rw [List.length_cons] at hk
    have hst : qOp P ops C k (wpQuiet P ops C K l) a := by unfold qOp; simp only [h0]; exact h
    obtain ⟨v, hy, hK'⟩ := yieldsIn_of_qOp h0 hst
    have hY : YieldsIf P ops C o v a := by
      rcases hy with ⟨h1, h2⟩ | h1
      · exact .inl ⟨h1, fun w' hw' => readOp_run hp.1 _ w' (h2 w' hw')⟩
      · exact .inr h1
    have hr' : k ∈ Region.ready md ops listed := by simpa using hr
    rw [show (o :: l).length + b = (l.length + b) + 1 by simp; omega]
    exact wpMid_first h0 hs hQ (hpost k (by omega)) (by omega) _ listed a w hsh (Region.free_spec h0 hf) hr' hY hw
      (wpMid_lex hs hQ hpost hmc hK l (k + 1) _ _ w (hsh.set hr') hw hp.2 (by omega) (fun j hj => by have := hl (j + 1) (by simp; omega); simpa [Nat.add_assoc, Nat.add_comm 1 j] using this) hB' hK')

/-- The rest in order; behind the first n the class is kept. -/
def wpRest (P : Program) (ops : Array Oper) (Q : Exit → Act → World → Prop) (C : World → Prop) : Nat → List Oper → Act → World → Prop
  | 0, l, a, w => wpList P ops Q l a w
  | _ + 1, [], a, w => Q .normal a w
  | n + 1, o :: rest, a, w => if Region.wanted o (yielded ops a.tmps) then o.wp P a w (fun a' w' => C w' ∧ wpRest P ops Q C n rest a' w') Q else C w ∧ wpRest P ops Q C n rest (a.put o.dst undef) w
theorem wpRest_step {n : Nat} {o : Oper} {rest : List Oper} {a : Act} {w : World} (h : ∀ K : Act → World → Prop, (∀ a' w', C w' → wpRest P ops Q C n rest a' w' → K a' w') → if Region.wanted o (yielded ops a.tmps) then o.wp P a w K Q else C w ∧ K (a.put o.dst undef) w) :
    wpRest P ops Q C (n + 1) (o :: rest) a w := by
  have h1 := h (fun a' w' => C w' ∧ wpRest P ops Q C n rest a' w') (fun _ _ k1 k2 => ⟨k1, k2⟩)
  unfold wpRest
  split
  · rename_i hw; simpa only [hw, if_true] using h1
  · rename_i hw
    simp only [hw] at h1
    exact h1.2

theorem wpMid_back : ∀ (l : List Oper) (k : Nat) (listed : Array Bool) (a : Act) (w : World), (∀ j, l[j]? = ops[k + j]?) →
    backFrom md ops l.length k listed = true → wpRest P ops Q C (c - k) l a w → wpMid P md ops Q C c l.length listed a w
  | [], k, listed, a, w, _, hB, h => by
    refine ⟨by simpa [backFrom] using hB, ?_⟩
    cases hn : c - k with
    | zero => rw [hn] at h; exact h
    | succ n => rw [hn] at h; exact h
  | o :: l, k, listed, a, w, hl, hB, h => by
    have h0 : ops[k]? = some o := by simpa using (hl 0).symm
    simp only [List.length_cons, backFrom, Bool.and_eq_true, beq_iff_eq] at hB
    have hl' : ∀ j, l[j]? = ops[k + 1 + j]? := fun j => by have := hl (j + 1); simpa [Nat.add_assoc, Nat.add_comm 1 j] using this
    refine ⟨fun he => (by rw [hB.1] at he; cases he), fun i hi => ?_⟩
    rw [hB.1] at hi
    obtain rfl : i = k := by simpa using hi
    unfold wpOp
    simp only [h0]
    cases hn : c - i with
    | zero =>
      rw [hn] at h
      have h' : wpList P ops Q (o :: l) a w := h
      have go : ∀ a' w', wpList P ops Q l a' w' → (i < c → C w') ∧ wpMid P md ops Q C c l.length (listed.setIfInBounds i true) a' w' := fun a' w' h2 =>
        ⟨fun hc => by omega, wpMid_back l (i + 1) _ a' w' hl' hB.2 (by rw [show c - (i + 1) = 0 by omega]; exact h2)⟩
      unfold wpList at h'
      by_cases hw : Region.wanted o (yielded ops a.tmps) = true
      · simp only [hw, if_true] at h' ⊢
        exact h'.imp (Oper.wp_mono go) id
      · simp only [hw] at h' ⊢
        exact go _ _ h'
    | succ n =>
      rw [hn] at h
      have go : ∀ a' w', (C w' ∧ wpRest P ops Q C n l a' w') → (i < c → C w') ∧ wpMid P md ops Q C c l.length (listed.setIfInBounds i true) a' w' := fun a' w' h2 =>
        ⟨fun _ => h2.1, wpMid_back l (i + 1) _ a' w' hl' hB.2 (by rw [show c - (i + 1) = n by omega]; exact h2.2)⟩
      unfold wpRest at h
      by_cases hw : Region.wanted o (yielded ops a.tmps) = true
      · simp only [hw, if_true] at h ⊢
        exact .inl (Oper.wp_mono go h)
      · simp only [hw] at h ⊢
        exact go _ _ h
end

def lineB (l : List Oper) (m n : Nat) : Bool :=
  decide (m + n ≤ l.length) && Region.noSelect l.toArray && frontFrom .any l.toArray (listedTo m l.length) m 0 (Array.replicate l.length false) && (l.take m).all readOp &&
    (List.range' (m + n) (l.length - (m + n))).all (fun j => (List.range m).all (fun i => behind .any l.toArray i l.length j)) && backFrom .any l.toArray (l.length - m) m (listedTo m l.length)

theorem any_line {P : Program} {C : World → Prop} {Q : Exit → Act → World → Prop} {a : Act} {w : World} {l : List Oper} (m n : Nat) (hB : lineB l m n = true) (hQ : ∀ c a d v w, Q (.panic c) (a.put d v) w → Q (.panic c) a w) (hC : C w)
    (h : wpQuiet P l.toArray C (fun a' => ∀ w', C w' → wpRest P l.toArray Q C n (l.drop m) a' w') (l.take m) a) : wpAny P .any l.toArray Q l.toArray.size (Array.replicate l.toArray.size false) a w := by
  simp only [lineB, Bool.and_eq_true, decide_eq_true_eq] at hB
  obtain ⟨⟨⟨⟨⟨hm, hs⟩, hf⟩, hrd⟩, hp⟩, hb⟩ := hB
  have hlt : (l.take m).length = m := by rw [List.length_take]; omega
  have hpost : ∀ i, i < m → ∀ j, m + n ≤ j → j < l.toArray.size → behind .any l.toArray i l.toArray.size j = true := fun i hi j hj hjl => by
    have hjl' : j < l.length := by simpa using hjl
    have h2 := List.all_eq_true.1 (List.all_eq_true.1 hp j (List.mem_range'_1.2 ⟨hj, by omega⟩)) i (List.mem_range.2 hi)
    simpa using h2
  have h1 := wpMid_lex (P := P) (Q := Q) (C := C) (md := .any) (c := m + n) (m := m) (b := (l.drop m).length) hs hQ hpost (by omega) (K := fun a' => ∀ w', C w' → wpRest P l.toArray Q C n (l.drop m) a' w')
    (fun a' w' hw' hK => wpMid_back (l.drop m) m _ a' w' (fun j => by rw [List.getElem?_drop]; simp) (by rw [List.length_drop]; exact hb) (by rw [show m + n - m = n by omega]; exact hK w' hw'))
    (l.take m) 0 (Array.replicate l.length false) a w (fun k o _ hk => by simp [Array.getElem?_replicate] at hk; split at hk <;> simp_all) hC hrd (by omega) (fun j hj => by rw [List.getElem?_take_of_lt (by omega)]; simp) (by rw [hlt]; exact hf) h
  have e : (l.take m).length + (l.drop m).length = l.length := by rw [hlt, List.length_drop]; omega
  rw [e] at h1
  have h2 := wpAny_of_wpMid _ _ _ _ h1
  simpa using h2
theorem wp_line {P : Program} {id : Nat} {Q : Exit → Act → World → Prop} {a : Act} {w : World} {l : List Oper} (m n : Nat) (hm : P.follows .mixedOrders = true) (hB : lineB l m n = true) (hQ : ∀ c a d v w, Q (.panic c) (a.put d v) w → Q (.panic c) a w)
    (h : wpQuiet P l.toArray (fun w' => ∃ p : Regrown, w' = grow (redrawn w p.d) p.os) (fun a' => ∀ w', (∃ p : Regrown, w' = grow (redrawn w p.d) p.os) → wpRest P l.toArray Q (fun w' => ∃ p : Regrown, w' = grow (redrawn w p.d) p.os) n (l.drop m) a' w') (l.take m) a) : (Code.region id l.toArray true).wp P Q a w :=
  wp_region_any hm (any_line (C := fun w' => ∃ p : Regrown, w' = grow (redrawn w p.d) p.os) m n hB hQ ⟨⟨w.drawn + 1, #[]⟩, by rw [grow_empty]; rfl⟩ h)
end Go.Proofs.YtegldmdcdnnegaaGreatDoor
