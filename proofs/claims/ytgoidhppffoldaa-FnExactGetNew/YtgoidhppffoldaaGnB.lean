/- What is known of a file at first: by the model and by the program. -/
import Derived.Test.YtgoidhppffoldaaGnA
import Derived.Test.YtgoidhppffoldaaSolN
import Derived.Test.YtgoidhppffoldaaPlanSB
namespace Go.Proofs.Ytgoidhppffoldaa
open Go.ChangeShapes Go.WideShapes Go.ChangeAt Go.RowKit Go.Sort

/-- What is known, without equations, in rows of its own. -/
def GetO (w : World) (base : Nat) (L S : Int) (ws gs : List Int) (C S' : Int) (v : Value) : Prop :=
  ∃ a1 c1 a2 c2, v = .agg #[.int .i64 L, .int .i64 S, .slice a1 ws.length c1, .slice a2 gs.length c2, .int .i64 C, .int .i64 S', .slice none 0 0] ∧
    w.ownsRow base 3 1 (.slice a1 ws.length c1) ws.length (ws.map (Value.int .i64)) ∧ w.ownsRow base 3 1 (.slice a2 gs.length c2) gs.length (gs.map (Value.int .i64)) ∧ Apart (.slice a1 ws.length c1) (.slice a2 gs.length c2)

theorem planO_below {w w' : World} {base : Nat} {long size : Int} {ws gs : List Int} {v : Value} (h : PlanO w base long size ws gs v) (hb : Below w.heap.size w w') : PlanO w' base long size ws gs v := by
  obtain ⟨v1, v2, rfl, o1, o2, ap⟩ := h
  exact ⟨v1, v2, rfl, owns_below o1 hb, owns_below o2 hb, ap⟩

set_option maxHeartbeats 8000000 in
set_option maxRecDepth 100000 in
theorem specGetNew_in (long size : Int) (b1 o1 b2 o2 c1 c2 : Nat) (ws gs : List Int) (w : World) (h1 : ∀ i, i < ws.length → w.cell? ⟨b1, o1 + i, none⟩ = some (.int .i64 (ws.getD i 0))) (h2 : ∀ i, i < gs.length → w.cell? ⟨b2, o2 + i, none⟩ = some (.int .i64 (gs.getD i 0)))
    (n1 : ws.length ≤ 1000) (n2 : gs.length ≤ 1000) (p1 : 1 ≤ ws.length) (p2 : 1 ≤ gs.length) (hp : planP long size ws gs) :
    Calls Try.prog 14 #[.agg #[.int .i64 long, .int .i64 size, .slice (some ⟨b1, o1, none⟩) ws.length c1, .slice (some ⟨b2, o2, none⟩) gs.length c2]] w fun e w' => ∃ v, e = .returned v ∧ GetO w' w.heap.size long size ws gs (cntI long size) size v ∧ Below w.heap.size w w' := by
  have l1 := block_lt_of_cell (h1 0 (by omega))
  have l2 := block_lt_of_cell (h2 0 (by omega))
  have s1 := hp.1.1
  have s2 := hp.1.2.1
  have s3 := hp.1.2.2.1
  have s4 := hp.1.2.2.2.1
  have HN := hid (show 1 ≤ cntI long size ∧ cntI long size ≤ 24 from ⟨cnt_pos long size s1 s3, hp.1.2.2.2.2⟩)
  have HOK := hid (fun w h1 h2 => specPlanOk long size (some ⟨b1, o1, none⟩) (some ⟨b2, o2, none⟩) c1 c2 ws gs w h1 h2 (by omega) (by omega))
  rw [decide_eq_true hp] at HOK
  have HC := hid (fun w g1 g2 => l6Plan_any long size b1 o1 b2 o2 c1 c2 ws gs w g1 g2 n1 n2 p1 p2)
  have HM := hid (fun w => specCount long size (some ⟨b1, o1, none⟩) (some ⟨b2, o2, none⟩) ws.length c1 gs.length c2 w s1 s2 s3 s4)
  have HS := hid (fun w => specSolverNew_in (cntI long size) size w HN.out ⟨s3, s4⟩)
  obtain ⟨V, hV⟩ : ∃ V, V = (w.alloc (.cells #[.int .i64 long, .int .i64 size, .slice (some ⟨b1, o1, none⟩) ws.length c1, .slice (some ⟨b2, o2, none⟩) gs.length c2] 28)).alloc (.cells #[.int .i64 0, .int .i64 0, .slice none 0 0, .slice none 0 0, .int .i64 0, .int .i64 0, .slice none 0 0] 39) := ⟨_, rfl⟩
  have X0 : V.heap[w.heap.size]? = some (.cells #[.int .i64 long, .int .i64 size, .slice (some ⟨b1, o1, none⟩) ws.length c1, .slice (some ⟨b2, o2, none⟩) gs.length c2] 28 (0, 0)) := by
    rw [hV]; exact kept (laid w _ _) (below_alloc' _ _)
  have R0 : V.heap[w.heap.size + 1]? = some (.cells #[.int .i64 0, .int .i64 0, .slice none 0 0, .slice none 0 0, .int .i64 0, .int .i64 0, .slice none 0 0] 39 (0, 0)) := by
    rw [hV]
    have := laid (w.alloc (.cells #[.int .i64 long, .int .i64 size, .slice (some ⟨b1, o1, none⟩) ws.length c1, .slice (some ⟨b2, o2, none⟩) gs.length c2] 28)) #[.int .i64 0, .int .i64 0, .slice none 0 0, .slice none 0 0, .int .i64 0, .int .i64 0, .slice none 0 0] 39
    rw [World.size_alloc'] at this
    exact this
  have B0 : Below w.heap.size w V := by rw [hV]; exact below2' w _ _
  have X := hid X0
  have R := hid R0
  have B := hid B0
  have H1 := hid h1
  have H2 := hid h2
  have q0 := box_cell X0 0 (v := .int .i64 long) rfl
  have q1 := box_cell X0 1 (v := .int .i64 size) rfl
  have q2 := box_cell X0 2 (v := .slice (some ⟨b1, o1, none⟩) ws.length c1) rfl
  have q3 := box_cell X0 3 (v := .slice (some ⟨b2, o2, none⟩) gs.length c2) rfl
  clear X0 R0 B0 h1 h2 n1 n2 p1 p2 hp s1 s2 s3 s4
  go_enter Try.func14, Try.ntmps14
  go_wp2_with fail
  rw [← hV]
  clear hV
  go_wp2_with fail
  refine (HOK.out V (fun _ => ⟨b1, o1, rfl, fun i hi => (B.out.cell (p := ⟨b1, o1 + i, none⟩) l1).trans (H1.out i hi)⟩) (fun _ => ⟨b2, o2, rfl, fun i hi => (B.out.cell (p := ⟨b2, o2 + i, none⟩) l2).trans (H2.out i hi)⟩)).mono ?_
  rintro e w1 ⟨rfl, bw⟩
  have X := hid (kept X.out bw)
  have R := hid (kept R.out bw)
  have B := hid (below_cat' B.out bw)
  clear q0 q1 q2 q3 bw
  have q0 := box_cell X.out 0 (v := .int .i64 long) rfl
  have q1 := box_cell X.out 1 (v := .int .i64 size) rfl
  have q2 := box_cell X.out 2 (v := .slice (some ⟨b1, o1, none⟩) ws.length c1) rfl
  have q3 := box_cell X.out 3 (v := .slice (some ⟨b2, o2, none⟩) gs.length c2) rfl
  go_wp2_with fail
  have X : Hid (w1.drew.heap[w.heap.size]? = some (.cells #[.int .i64 long, .int .i64 size, .slice (some ⟨b1, o1, none⟩) ws.length c1, .slice (some ⟨b2, o2, none⟩) gs.length c2] 28 (0, 0))) := hid X.out
  have R : Hid (w1.drew.heap[w.heap.size + 1]? = some (.cells #[.int .i64 0, .int .i64 0, .slice none 0 0, .slice none 0 0, .int .i64 0, .int .i64 0, .slice none 0 0] 39 (0, 0))) := hid R.out
  have B : Hid (Below w.heap.size w w1.drew) := hid B.out.drew
  clear q0 q1 q2 q3
  have q0 : w1.drew.cell? ⟨w.heap.size, 0, none⟩ = some (.int .i64 long) := box_cell X.out 0 (v := .int .i64 long) rfl
  have q1 : w1.drew.cell? ⟨w.heap.size, 1, none⟩ = some (.int .i64 size) := box_cell X.out 1 (v := .int .i64 size) rfl
  have q2 : w1.drew.cell? ⟨w.heap.size, 2, none⟩ = some (.slice (some ⟨b1, o1, none⟩) ws.length c1) := box_cell X.out 2 (v := .slice (some ⟨b1, o1, none⟩) ws.length c1) rfl
  have q3 : w1.drew.cell? ⟨w.heap.size, 3, none⟩ = some (.slice (some ⟨b2, o2, none⟩) gs.length c2) := box_cell X.out 3 (v := .slice (some ⟨b2, o2, none⟩) gs.length c2) rfl
  go_region_held3 (fun w' => w'.cell? ⟨w.heap.size, 0, none⟩ = some (.int .i64 long) ∧ w'.cell? ⟨w.heap.size, 1, none⟩ = some (.int .i64 size) ∧ w'.cell? ⟨w.heap.size, 2, none⟩ = some (.slice (some ⟨b1, o1, none⟩) ws.length c1) ∧ w'.cell? ⟨w.heap.size, 3, none⟩ = some (.slice (some ⟨b2, o2, none⟩) gs.length c2)) (first | (with_reducible exact ⟨q0, q1, q2, q3⟩) | go_keep) (first
    | (go_at_call 29
       refine (HC.out _ (fun i hi => (B.out.cell (p := ⟨b1, o1 + i, none⟩) l1).trans (H1.out i hi)) (fun i hi => (B.out.cell (p := ⟨b2, o2 + i, none⟩) l2).trans (H2.out i hi))).mono ?_
       rintro e wc ⟨v, rfl, ho, bw⟩
       obtain ⟨a1, d1, a2, d2, rfl, ow1, ow2, ap⟩ := planO_slices ho
       have hsz := lt_of_block R.out
       have O1 := hid (owns_base (base' := w.heap.size + 2) ow1 hsz)
       have O2 := hid (owns_base (base' := w.heap.size + 2) ow2 hsz)
       clear hsz
       have AP := hid ap
       clear ho ow1 ow2 ap
       have X := hid (kept X.out bw); have R := hid (kept R.out bw); have B := hid (below_cat' B.out bw); clear q0 q1 q2 q3; have q0 := box_cell X.out 0 (v := .int .i64 long) rfl; have q1 := box_cell X.out 1 (v := .int .i64 size) rfl; have q2 := box_cell X.out 2 (v := .slice (some ⟨b1, o1, none⟩) ws.length c1) rfl; have q3 := box_cell X.out 3 (v := .slice (some ⟨b2, o2, none⟩) gs.length c2) rfl; clear bw; try (have _t := SD; have r0 := box_cell R.out 0 (v := .int .i64 0) rfl; have r1 := box_cell R.out 1 (v := .int .i64 0) rfl; have r2 := box_cell R.out 2 (v := .slice none 0 0) rfl; have r3 := box_cell R.out 3 (v := .slice none 0 0) rfl; have r4 := box_cell R.out 4 (v := .int .i64 0) rfl; have r5 := box_cell R.out 5 (v := .int .i64 0) rfl; have r6 := box_cell R.out 6 (v := .slice none 0 0) rfl; have z0 := box_frozen R.out 0; have z1 := box_frozen R.out 1; have z2 := box_frozen R.out 2; have z3 := box_frozen R.out 3; have z4 := box_frozen R.out 4; have z5 := box_frozen R.out 5; have z6 := box_frozen R.out 6; have lr := lt_of_block R.out))
    | (go_at_call 31
       refine (HM.out _).mono ?_
       rintro e wm ⟨rfl, bw⟩
       try (have O1 := hid (owns_below O1.out bw); have O2 := hid (owns_below O2.out bw))
       have X := hid (kept X.out bw); have R := hid (kept R.out bw); have B := hid (below_cat' B.out bw); clear q0 q1 q2 q3; have q0 := box_cell X.out 0 (v := .int .i64 long) rfl; have q1 := box_cell X.out 1 (v := .int .i64 size) rfl; have q2 := box_cell X.out 2 (v := .slice (some ⟨b1, o1, none⟩) ws.length c1) rfl; have q3 := box_cell X.out 3 (v := .slice (some ⟨b2, o2, none⟩) gs.length c2) rfl; clear bw)
    | (go_at_call 30
       refine (HS.out _).mono ?_
       rintro e ws' ⟨rfl, bw⟩
       try (have O1 := hid (owns_below O1.out bw); have O2 := hid (owns_below O2.out bw))
       have X := hid (kept X.out bw); have R := hid (kept R.out bw); have B := hid (below_cat' B.out bw); clear q0 q1 q2 q3; have q0 := box_cell X.out 0 (v := .int .i64 long) rfl; have q1 := box_cell X.out 1 (v := .int .i64 size) rfl; have q2 := box_cell X.out 2 (v := .slice (some ⟨b1, o1, none⟩) ws.length c1) rfl; have q3 := box_cell X.out 3 (v := .slice (some ⟨b2, o2, none⟩) gs.length c2) rfl; clear bw; have SD := hid True.intro; try (have _t := O1; have r0 := box_cell R.out 0 (v := .int .i64 0) rfl; have r1 := box_cell R.out 1 (v := .int .i64 0) rfl; have r2 := box_cell R.out 2 (v := .slice none 0 0) rfl; have r3 := box_cell R.out 3 (v := .slice none 0 0) rfl; have r4 := box_cell R.out 4 (v := .int .i64 0) rfl; have r5 := box_cell R.out 5 (v := .int .i64 0) rfl; have r6 := box_cell R.out 6 (v := .slice none 0 0) rfl; have z0 := box_frozen R.out 0; have z1 := box_frozen R.out 1; have z2 := box_frozen R.out 2; have z3 := box_frozen R.out 3; have z4 := box_frozen R.out 4; have z5 := box_frozen R.out 5; have z6 := box_frozen R.out 6; have lr := lt_of_block R.out)))
  all_goals (rename_i hh; clear hh r0 r1 r2 r3 r4 r5 r6 z0 z1 z2 z3 z4 z5 z6 q0 q1 q2 q3 lr)
  all_goals go_wp2_with fail
  all_goals
    (have Y := set_block (set_block (set_block (set_block (set_block (set_block (set_block R.out 0 (.int .i64 long)) 1 (.int .i64 size)) 2 (.slice a1 ws.length d1)) 3 (.slice a2 gs.length d2)) 4 (.int .i64 (cntI long size))) 5 (.int .i64 size)) 6 (.slice none 0 0)
     have y0 := box_cell Y 0 (v := .int .i64 long) (by simp)
     have y1 := box_cell Y 1 (v := .int .i64 size) (by simp)
     have y2 := box_cell Y 2 (v := .slice a1 ws.length d1) (by simp)
     have y3 := box_cell Y 3 (v := .slice a2 gs.length d2) (by simp)
     have y4 := box_cell Y 4 (v := .int .i64 (cntI long size)) (by simp)
     have y5 := box_cell Y 5 (v := .int .i64 size) (by simp)
     have y6 := box_cell Y 6 (v := .slice none 0 0) (by simp)
     refine bodyPost_ret (v := .agg #[.int .i64 long, .int .i64 size, .slice a1 ws.length d1, .slice a2 gs.length d2, .int .i64 (cntI long size), .int .i64 size, .slice none 0 0]) ?_ rfl ⟨_, rfl, ⟨a1, d1, a2, d2, rfl, ?_, ?_, AP.out⟩, ?_⟩
     · unfold results; rw [Try.results14]; simp [go_sem, y0, y1, y2, y3, y4, y5, y6]
     · exact owns_base (owns_set (owns_set (owns_set (owns_set (owns_set (owns_set (owns_set O1.out (by simp) _) (by simp) _) (by simp) _) (by simp) _) (by simp) _) (by simp) _) (by simp) _) (by omega)
     · exact owns_base (owns_set (owns_set (owns_set (owns_set (owns_set (owns_set (owns_set O2.out (by simp) _) (by simp) _) (by simp) _) (by simp) _) (by simp) _) (by simp) _) (by simp) _) (by omega)
     · exact below_set' (below_set' (below_set' (below_set' (below_set' (below_set' (below_set' B.out (by simp) _) (by simp) _) (by simp) _) (by simp) _) (by simp) _) (by simp) _) (by simp) _)

theorem specGetNew_out (long size : Int) (a1 a2 : Option Addr) (c1 c2 : Nat) (ws gs : List Int) (w : World) (ha1 : IntsAt w a1 ws) (ha2 : IntsAt w a2 gs) (hx : ws.length ≤ 1152921504606846976) (hy : gs.length ≤ 1152921504606846976) (hp : ¬ planP long size ws gs) :
    Calls Try.prog 14 #[.agg #[.int .i64 long, .int .i64 size, .slice a1 ws.length c1, .slice a2 gs.length c2]] w fun e w' => ∃ v, e = .returned v ∧ GetO w' w.heap.size 0 0 [] [] 0 0 v ∧ Below w.heap.size w w' := by
  have B0 := below2' w (.cells #[.int .i64 long, .int .i64 size, .slice a1 ws.length c1, .slice a2 gs.length c2] 28) (.cells #[.int .i64 0, .int .i64 0, .slice none 0 0, .slice none 0 0, .int .i64 0, .int .i64 0, .slice none 0 0] 39)
  have R0 := laid (w.alloc (.cells #[.int .i64 long, .int .i64 size, .slice a1 ws.length c1, .slice a2 gs.length c2] 28)) #[.int .i64 0, .int .i64 0, .slice none 0 0, .slice none 0 0, .int .i64 0, .int .i64 0, .slice none 0 0] 39
  rw [World.size_alloc'] at R0
  have R := hid R0
  have HOK := hid (specPlanOk long size a1 a2 c1 c2 ws gs _ (ha1.below B0) (ha2.below B0) hx hy)
  rw [decide_eq_false hp] at HOK
  have B := hid B0
  clear B0 R0 ha1 ha2 hp
  go_enter Try.func14, Try.ntmps14
  go_wp2_with fail
  refine (HOK.out).mono ?_
  rintro e w1 ⟨rfl, bw⟩
  have R := hid (kept R.out bw)
  have B := hid (below_cat' B.out bw)
  have lr := lt_of_block R.out
  have r0 := box_cell R.out 0 (v := .int .i64 0) rfl
  have r1 := box_cell R.out 1 (v := .int .i64 0) rfl
  have r2 := box_cell R.out 2 (v := .slice none 0 0) rfl
  have r3 := box_cell R.out 3 (v := .slice none 0 0) rfl
  have r4 := box_cell R.out 4 (v := .int .i64 0) rfl
  have r5 := box_cell R.out 5 (v := .int .i64 0) rfl
  have r6 := box_cell R.out 6 (v := .slice none 0 0) rfl
  have z0 := box_frozen R.out 0
  have z1 := box_frozen R.out 1
  have z2 := box_frozen R.out 2
  have z3 := box_frozen R.out 3
  have z4 := box_frozen R.out 4
  have z5 := box_frozen R.out 5
  have z6 := box_frozen R.out 6
  clear bw
  go_wp2_with fail
  have Y := set_block (set_block (set_block (set_block (set_block (set_block (set_block R.out 0 (.int .i64 0)) 1 (.int .i64 0)) 2 (.slice none 0 0)) 3 (.slice none 0 0)) 4 (.int .i64 0)) 5 (.int .i64 0)) 6 (.slice none 0 0)
  have q0 := box_cell Y 0 (v := .int .i64 0) rfl
  have q1 := box_cell Y 1 (v := .int .i64 0) rfl
  have q2 := box_cell Y 2 (v := .slice none 0 0) rfl
  have q3 := box_cell Y 3 (v := .slice none 0 0) rfl
  have q4 := box_cell Y 4 (v := .int .i64 0) rfl
  have q5 := box_cell Y 5 (v := .int .i64 0) rfl
  have q6 := box_cell Y 6 (v := .slice none 0 0) rfl
  refine bodyPost_ret (v := .agg #[.int .i64 0, .int .i64 0, .slice none 0 0, .slice none 0 0, .int .i64 0, .int .i64 0, .slice none 0 0]) ?_ rfl ⟨_, rfl, ⟨none, 0, none, 0, rfl, ?_, ?_, ?_⟩, ?_⟩
  · unfold results; rw [Try.results14]; simp [go_sem, q0, q1, q2, q3, q4, q5, q6]
  · exact World.ownsRow_nil _ _ _ _
  · exact World.ownsRow_nil _ _ _ _
  · exact ⟨fun k a => by simp [Value.ownBlock] at a, fun k a => by simp [Value.ownBlock] at a⟩
  · exact below_set' (below_set' (below_set' (below_set' (below_set' (below_set' (below_set' B.out (by simp) _) (by simp) _) (by simp) _) (by simp) _) (by simp) _) (by simp) _) (by simp) _

set_option maxHeartbeats 8000000 in
set_option maxRecDepth 100000 in
theorem implGetNew_in (long size : Int) (b1 o1 b2 o2 c1 c2 : Nat) (ws gs : List Int) (w : World) (h1 : ∀ i, i < ws.length → w.cell? ⟨b1, o1 + i, none⟩ = some (.int .i64 (ws.getD i 0))) (h2 : ∀ i, i < gs.length → w.cell? ⟨b2, o2 + i, none⟩ = some (.int .i64 (gs.getD i 0)))
    (n1 : ws.length ≤ 1000) (n2 : gs.length ≤ 1000) (p1 : 1 ≤ ws.length) (p2 : 1 ≤ gs.length) (hp : planP long size ws gs) :
    Calls Try.prog 15 #[.agg #[.int .i64 long, .int .i64 size, .slice (some ⟨b1, o1, none⟩) ws.length c1, .slice (some ⟨b2, o2, none⟩) gs.length c2]] w fun e w' => ∃ v, e = .returned v ∧ GetO w' w.heap.size long size ws gs (cntI long size) size v ∧ Below w.heap.size w w' := by
  have l1 := block_lt_of_cell (h1 0 (by omega))
  have l2 := block_lt_of_cell (h2 0 (by omega))
  have s1 := hp.1.1
  have s2 := hp.1.2.1
  have s3 := hp.1.2.2.1
  have s4 := hp.1.2.2.2.1
  have HN := hid (show 1 ≤ cntI long size ∧ cntI long size ≤ 24 from ⟨cnt_pos long size s1 s3, hp.1.2.2.2.2⟩)
  have HOK := hid (fun w h1 h2 => implPlanOk long size (some ⟨b1, o1, none⟩) (some ⟨b2, o2, none⟩) c1 c2 ws gs w h1 h2 (by omega) (by omega))
  rw [decide_eq_true hp] at HOK
  have HC := hid (fun w g1 g2 => copied_any long size b1 o1 b2 o2 c1 c2 ws gs w g1 g2 n1 n2 p1 p2)
  have HM := hid (fun w => implCount long size (some ⟨b1, o1, none⟩) (some ⟨b2, o2, none⟩) ws.length c1 gs.length c2 w s1 s2 s3 s4)
  have HS := hid (fun w => implSolverNew_in (cntI long size) size w HN.out ⟨s3, s4⟩)
  obtain ⟨V, hV⟩ : ∃ V, V = (w.alloc (.cells #[.int .i64 long, .int .i64 size, .slice (some ⟨b1, o1, none⟩) ws.length c1, .slice (some ⟨b2, o2, none⟩) gs.length c2] 28)).alloc (.cells #[.int .i64 0, .int .i64 0, .slice none 0 0, .slice none 0 0, .int .i64 0, .int .i64 0, .slice none 0 0] 39) := ⟨_, rfl⟩
  have X0 : V.heap[w.heap.size]? = some (.cells #[.int .i64 long, .int .i64 size, .slice (some ⟨b1, o1, none⟩) ws.length c1, .slice (some ⟨b2, o2, none⟩) gs.length c2] 28 (0, 0)) := by
    rw [hV]; exact kept (laid w _ _) (below_alloc' _ _)
  have R0 : V.heap[w.heap.size + 1]? = some (.cells #[.int .i64 0, .int .i64 0, .slice none 0 0, .slice none 0 0, .int .i64 0, .int .i64 0, .slice none 0 0] 39 (0, 0)) := by
    rw [hV]
    have := laid (w.alloc (.cells #[.int .i64 long, .int .i64 size, .slice (some ⟨b1, o1, none⟩) ws.length c1, .slice (some ⟨b2, o2, none⟩) gs.length c2] 28)) #[.int .i64 0, .int .i64 0, .slice none 0 0, .slice none 0 0, .int .i64 0, .int .i64 0, .slice none 0 0] 39
    rw [World.size_alloc'] at this
    exact this
  have B0 : Below w.heap.size w V := by rw [hV]; exact below2' w _ _
  have X := hid X0
  have R := hid R0
  have B := hid B0
  have H1 := hid h1
  have H2 := hid h2
  have q0 := box_cell X0 0 (v := .int .i64 long) rfl
  have q1 := box_cell X0 1 (v := .int .i64 size) rfl
  have q2 := box_cell X0 2 (v := .slice (some ⟨b1, o1, none⟩) ws.length c1) rfl
  have q3 := box_cell X0 3 (v := .slice (some ⟨b2, o2, none⟩) gs.length c2) rfl
  clear X0 R0 B0 h1 h2 n1 n2 p1 p2 hp s1 s2 s3 s4
  go_enter Try.func15, Try.ntmps15
  go_wp2_with fail
  rw [← hV]
  clear hV
  go_wp2_with fail
  refine (HOK.out V (fun _ => ⟨b1, o1, rfl, fun i hi => (B.out.cell (p := ⟨b1, o1 + i, none⟩) l1).trans (H1.out i hi)⟩) (fun _ => ⟨b2, o2, rfl, fun i hi => (B.out.cell (p := ⟨b2, o2 + i, none⟩) l2).trans (H2.out i hi)⟩)).mono ?_
  rintro e w1 ⟨rfl, bw⟩
  have X := hid (kept X.out bw)
  have R := hid (kept R.out bw)
  have B := hid (below_cat' B.out bw)
  clear q0 q1 q2 q3 bw
  have q0 := box_cell X.out 0 (v := .int .i64 long) rfl
  have q1 := box_cell X.out 1 (v := .int .i64 size) rfl
  have q2 := box_cell X.out 2 (v := .slice (some ⟨b1, o1, none⟩) ws.length c1) rfl
  have q3 := box_cell X.out 3 (v := .slice (some ⟨b2, o2, none⟩) gs.length c2) rfl
  go_wp2_with fail
  have X : Hid (w1.drew.heap[w.heap.size]? = some (.cells #[.int .i64 long, .int .i64 size, .slice (some ⟨b1, o1, none⟩) ws.length c1, .slice (some ⟨b2, o2, none⟩) gs.length c2] 28 (0, 0))) := hid X.out
  have R : Hid (w1.drew.heap[w.heap.size + 1]? = some (.cells #[.int .i64 0, .int .i64 0, .slice none 0 0, .slice none 0 0, .int .i64 0, .int .i64 0, .slice none 0 0] 39 (0, 0))) := hid R.out
  have B : Hid (Below w.heap.size w w1.drew) := hid B.out.drew
  clear q0 q1 q2 q3
  have q0 : w1.drew.cell? ⟨w.heap.size, 0, none⟩ = some (.int .i64 long) := box_cell X.out 0 (v := .int .i64 long) rfl
  have q1 : w1.drew.cell? ⟨w.heap.size, 1, none⟩ = some (.int .i64 size) := box_cell X.out 1 (v := .int .i64 size) rfl
  have q2 : w1.drew.cell? ⟨w.heap.size, 2, none⟩ = some (.slice (some ⟨b1, o1, none⟩) ws.length c1) := box_cell X.out 2 (v := .slice (some ⟨b1, o1, none⟩) ws.length c1) rfl
  have q3 : w1.drew.cell? ⟨w.heap.size, 3, none⟩ = some (.slice (some ⟨b2, o2, none⟩) gs.length c2) := box_cell X.out 3 (v := .slice (some ⟨b2, o2, none⟩) gs.length c2) rfl
  go_region_held3 (fun w' => w'.cell? ⟨w.heap.size, 0, none⟩ = some (.int .i64 long) ∧ w'.cell? ⟨w.heap.size, 1, none⟩ = some (.int .i64 size) ∧ w'.cell? ⟨w.heap.size, 2, none⟩ = some (.slice (some ⟨b1, o1, none⟩) ws.length c1) ∧ w'.cell? ⟨w.heap.size, 3, none⟩ = some (.slice (some ⟨b2, o2, none⟩) gs.length c2)) (first | (with_reducible exact ⟨q0, q1, q2, q3⟩) | go_keep) (first
    | (go_at_call 32
       refine (HC.out _ (fun i hi => (B.out.cell (p := ⟨b1, o1 + i, none⟩) l1).trans (H1.out i hi)) (fun i hi => (B.out.cell (p := ⟨b2, o2 + i, none⟩) l2).trans (H2.out i hi))).mono ?_
       rintro e wc ⟨v, rfl, ho, bw⟩
       obtain ⟨a1, d1, a2, d2, rfl, ow1, ow2, ap⟩ := planO_slices ho
       have hsz := lt_of_block R.out
       have O1 := hid (owns_base (base' := w.heap.size + 2) ow1 hsz)
       have O2 := hid (owns_base (base' := w.heap.size + 2) ow2 hsz)
       clear hsz
       have AP := hid ap
       clear ho ow1 ow2 ap
       have X := hid (kept X.out bw); have R := hid (kept R.out bw); have B := hid (below_cat' B.out bw); clear q0 q1 q2 q3; have q0 := box_cell X.out 0 (v := .int .i64 long) rfl; have q1 := box_cell X.out 1 (v := .int .i64 size) rfl; have q2 := box_cell X.out 2 (v := .slice (some ⟨b1, o1, none⟩) ws.length c1) rfl; have q3 := box_cell X.out 3 (v := .slice (some ⟨b2, o2, none⟩) gs.length c2) rfl; clear bw; try (have _t := SD; have r0 := box_cell R.out 0 (v := .int .i64 0) rfl; have r1 := box_cell R.out 1 (v := .int .i64 0) rfl; have r2 := box_cell R.out 2 (v := .slice none 0 0) rfl; have r3 := box_cell R.out 3 (v := .slice none 0 0) rfl; have r4 := box_cell R.out 4 (v := .int .i64 0) rfl; have r5 := box_cell R.out 5 (v := .int .i64 0) rfl; have r6 := box_cell R.out 6 (v := .slice none 0 0) rfl; have z0 := box_frozen R.out 0; have z1 := box_frozen R.out 1; have z2 := box_frozen R.out 2; have z3 := box_frozen R.out 3; have z4 := box_frozen R.out 4; have z5 := box_frozen R.out 5; have z6 := box_frozen R.out 6; have lr := lt_of_block R.out))
    | (go_at_call 34
       refine (HM.out _).mono ?_
       rintro e wm ⟨rfl, bw⟩
       try (have O1 := hid (owns_below O1.out bw); have O2 := hid (owns_below O2.out bw))
       have X := hid (kept X.out bw); have R := hid (kept R.out bw); have B := hid (below_cat' B.out bw); clear q0 q1 q2 q3; have q0 := box_cell X.out 0 (v := .int .i64 long) rfl; have q1 := box_cell X.out 1 (v := .int .i64 size) rfl; have q2 := box_cell X.out 2 (v := .slice (some ⟨b1, o1, none⟩) ws.length c1) rfl; have q3 := box_cell X.out 3 (v := .slice (some ⟨b2, o2, none⟩) gs.length c2) rfl; clear bw)
    | (go_at_call 33
       refine (HS.out _).mono ?_
       rintro e ws' ⟨rfl, bw⟩
       try (have O1 := hid (owns_below O1.out bw); have O2 := hid (owns_below O2.out bw))
       have X := hid (kept X.out bw); have R := hid (kept R.out bw); have B := hid (below_cat' B.out bw); clear q0 q1 q2 q3; have q0 := box_cell X.out 0 (v := .int .i64 long) rfl; have q1 := box_cell X.out 1 (v := .int .i64 size) rfl; have q2 := box_cell X.out 2 (v := .slice (some ⟨b1, o1, none⟩) ws.length c1) rfl; have q3 := box_cell X.out 3 (v := .slice (some ⟨b2, o2, none⟩) gs.length c2) rfl; clear bw; have SD := hid True.intro; try (have _t := O1; have r0 := box_cell R.out 0 (v := .int .i64 0) rfl; have r1 := box_cell R.out 1 (v := .int .i64 0) rfl; have r2 := box_cell R.out 2 (v := .slice none 0 0) rfl; have r3 := box_cell R.out 3 (v := .slice none 0 0) rfl; have r4 := box_cell R.out 4 (v := .int .i64 0) rfl; have r5 := box_cell R.out 5 (v := .int .i64 0) rfl; have r6 := box_cell R.out 6 (v := .slice none 0 0) rfl; have z0 := box_frozen R.out 0; have z1 := box_frozen R.out 1; have z2 := box_frozen R.out 2; have z3 := box_frozen R.out 3; have z4 := box_frozen R.out 4; have z5 := box_frozen R.out 5; have z6 := box_frozen R.out 6; have lr := lt_of_block R.out)))
  all_goals (rename_i hh; clear hh r0 r1 r2 r3 r4 r5 r6 z0 z1 z2 z3 z4 z5 z6 q0 q1 q2 q3 lr)
  all_goals go_wp2_with fail
  all_goals
    (have Y := set_block (set_block (set_block (set_block (set_block (set_block (set_block R.out 0 (.int .i64 long)) 1 (.int .i64 size)) 2 (.slice a1 ws.length d1)) 3 (.slice a2 gs.length d2)) 4 (.int .i64 (cntI long size))) 5 (.int .i64 size)) 6 (.slice none 0 0)
     have y0 := box_cell Y 0 (v := .int .i64 long) (by simp)
     have y1 := box_cell Y 1 (v := .int .i64 size) (by simp)
     have y2 := box_cell Y 2 (v := .slice a1 ws.length d1) (by simp)
     have y3 := box_cell Y 3 (v := .slice a2 gs.length d2) (by simp)
     have y4 := box_cell Y 4 (v := .int .i64 (cntI long size)) (by simp)
     have y5 := box_cell Y 5 (v := .int .i64 size) (by simp)
     have y6 := box_cell Y 6 (v := .slice none 0 0) (by simp)
     refine bodyPost_ret (v := .agg #[.int .i64 long, .int .i64 size, .slice a1 ws.length d1, .slice a2 gs.length d2, .int .i64 (cntI long size), .int .i64 size, .slice none 0 0]) ?_ rfl ⟨_, rfl, ⟨a1, d1, a2, d2, rfl, ?_, ?_, AP.out⟩, ?_⟩
     · unfold results; rw [Try.results15]; simp [go_sem, y0, y1, y2, y3, y4, y5, y6]
     · exact owns_base (owns_set (owns_set (owns_set (owns_set (owns_set (owns_set (owns_set O1.out (by simp) _) (by simp) _) (by simp) _) (by simp) _) (by simp) _) (by simp) _) (by simp) _) (by omega)
     · exact owns_base (owns_set (owns_set (owns_set (owns_set (owns_set (owns_set (owns_set O2.out (by simp) _) (by simp) _) (by simp) _) (by simp) _) (by simp) _) (by simp) _) (by simp) _) (by omega)
     · exact below_set' (below_set' (below_set' (below_set' (below_set' (below_set' (below_set' B.out (by simp) _) (by simp) _) (by simp) _) (by simp) _) (by simp) _) (by simp) _) (by simp) _)

theorem implGetNew_out (long size : Int) (a1 a2 : Option Addr) (c1 c2 : Nat) (ws gs : List Int) (w : World) (ha1 : IntsAt w a1 ws) (ha2 : IntsAt w a2 gs) (hx : ws.length ≤ 1152921504606846976) (hy : gs.length ≤ 1152921504606846976) (hp : ¬ planP long size ws gs) :
    Calls Try.prog 15 #[.agg #[.int .i64 long, .int .i64 size, .slice a1 ws.length c1, .slice a2 gs.length c2]] w fun e w' => ∃ v, e = .returned v ∧ GetO w' w.heap.size 0 0 [] [] 0 0 v ∧ Below w.heap.size w w' := by
  have B0 := below2' w (.cells #[.int .i64 long, .int .i64 size, .slice a1 ws.length c1, .slice a2 gs.length c2] 28) (.cells #[.int .i64 0, .int .i64 0, .slice none 0 0, .slice none 0 0, .int .i64 0, .int .i64 0, .slice none 0 0] 39)
  have R0 := laid (w.alloc (.cells #[.int .i64 long, .int .i64 size, .slice a1 ws.length c1, .slice a2 gs.length c2] 28)) #[.int .i64 0, .int .i64 0, .slice none 0 0, .slice none 0 0, .int .i64 0, .int .i64 0, .slice none 0 0] 39
  rw [World.size_alloc'] at R0
  have R := hid R0
  have HOK := hid (implPlanOk long size a1 a2 c1 c2 ws gs _ (ha1.below B0) (ha2.below B0) hx hy)
  rw [decide_eq_false hp] at HOK
  have B := hid B0
  clear B0 R0 ha1 ha2 hp
  go_enter Try.func15, Try.ntmps15
  go_wp2_with fail
  refine (HOK.out).mono ?_
  rintro e w1 ⟨rfl, bw⟩
  have R := hid (kept R.out bw)
  have B := hid (below_cat' B.out bw)
  have lr := lt_of_block R.out
  have r0 := box_cell R.out 0 (v := .int .i64 0) rfl
  have r1 := box_cell R.out 1 (v := .int .i64 0) rfl
  have r2 := box_cell R.out 2 (v := .slice none 0 0) rfl
  have r3 := box_cell R.out 3 (v := .slice none 0 0) rfl
  have r4 := box_cell R.out 4 (v := .int .i64 0) rfl
  have r5 := box_cell R.out 5 (v := .int .i64 0) rfl
  have r6 := box_cell R.out 6 (v := .slice none 0 0) rfl
  have z0 := box_frozen R.out 0
  have z1 := box_frozen R.out 1
  have z2 := box_frozen R.out 2
  have z3 := box_frozen R.out 3
  have z4 := box_frozen R.out 4
  have z5 := box_frozen R.out 5
  have z6 := box_frozen R.out 6
  clear bw
  go_wp2_with fail
  have Y := set_block (set_block (set_block (set_block (set_block (set_block (set_block R.out 0 (.int .i64 0)) 1 (.int .i64 0)) 2 (.slice none 0 0)) 3 (.slice none 0 0)) 4 (.int .i64 0)) 5 (.int .i64 0)) 6 (.slice none 0 0)
  have q0 := box_cell Y 0 (v := .int .i64 0) rfl
  have q1 := box_cell Y 1 (v := .int .i64 0) rfl
  have q2 := box_cell Y 2 (v := .slice none 0 0) rfl
  have q3 := box_cell Y 3 (v := .slice none 0 0) rfl
  have q4 := box_cell Y 4 (v := .int .i64 0) rfl
  have q5 := box_cell Y 5 (v := .int .i64 0) rfl
  have q6 := box_cell Y 6 (v := .slice none 0 0) rfl
  refine bodyPost_ret (v := .agg #[.int .i64 0, .int .i64 0, .slice none 0 0, .slice none 0 0, .int .i64 0, .int .i64 0, .slice none 0 0]) ?_ rfl ⟨_, rfl, ⟨none, 0, none, 0, rfl, ?_, ?_, ?_⟩, ?_⟩
  · unfold results; rw [Try.results15]; simp [go_sem, q0, q1, q2, q3, q4, q5, q6]
  · exact World.ownsRow_nil _ _ _ _
  · exact World.ownsRow_nil _ _ _ _
  · exact ⟨fun k a => by simp [Value.ownBlock] at a, fun k a => by simp [Value.ownBlock] at a⟩
  · exact below_set' (below_set' (below_set' (below_set' (below_set' (below_set' (below_set' B.out (by simp) _) (by simp) _) (by simp) _) (by simp) _) (by simp) _) (by simp) _) (by simp) _

end Go.Proofs.Ytgoidhppffoldaa
