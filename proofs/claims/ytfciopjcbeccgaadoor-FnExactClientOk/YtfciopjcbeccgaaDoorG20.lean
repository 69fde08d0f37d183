/- A plan copied by the program: rows of its own. -/
import Derived.Test.YtfciopjcbeccgaaDoorG19
import Derived.Deep.RegionWith
namespace Go.Proofs.YtfciopjcbeccgaaDoor
open Go.ChangeShapes Go.WideShapes Go.ChangeAt Go.RowKit Go.Sort

theorem clone_ints (b o c : Nat) (xs : List Int) (w : World) (h : ∀ i, i < xs.length → w.cell? ⟨b, o + i, none⟩ = some (.int .i64 (xs.getD i 0))) (hn : xs.length ≤ 1000) :
    Calls Tryd.prog 55 #[.slice (some ⟨b, o, none⟩) xs.length c] w fun e w' => ∃ a d, e = .returned (.slice a xs.length d) ∧ w'.ownsRow w.heap.size 3 1 (.slice a xs.length d) xs.length (xs.map (Value.int .i64)) ∧ Below w.heap.size w w' := by
  refine (Tryd.slices_Clone_int b o xs.length c xs w (Nat.le_refl _) (by omega) h).mono ?_
  rintro e w' ⟨v, rfl, h1, _, h2⟩
  rw [List.take_length] at h1
  obtain ⟨a, d, rfl⟩ := owns_slice h1
  exact ⟨a, d, rfl, h1, h2⟩

set_option maxHeartbeats 4000000 in
set_option maxRecDepth 100000 in
theorem copied_any (long size : Int) (b1 o1 b2 o2 c1 c2 : Nat) (ws gs : List Int) (w : World) (h1 : ∀ i, i < ws.length → w.cell? ⟨b1, o1 + i, none⟩ = some (.int .i64 (ws.getD i 0))) (h2 : ∀ i, i < gs.length → w.cell? ⟨b2, o2 + i, none⟩ = some (.int .i64 (gs.getD i 0)))
    (n1 : ws.length ≤ 1000) (n2 : gs.length ≤ 1000) (p1 : 1 ≤ ws.length) (p2 : 1 ≤ gs.length) :
    Calls Tryd.prog 46 #[.agg #[.int .i64 long, .int .i64 size, .slice (some ⟨b1, o1, none⟩) ws.length c1, .slice (some ⟨b2, o2, none⟩) gs.length c2]] w fun e w' => ∃ v, e = .returned v ∧ PlanO w' w.heap.size long size ws gs v ∧ Below w.heap.size w w' := by
  have l1 := block_lt_of_cell (h1 0 (by omega))
  have l2 := block_lt_of_cell (h2 0 (by omega))
  have H1 := hid h1
  have H2 := hid h2
  have N1 := hid n1
  have N2 := hid n2
  obtain ⟨V, hV⟩ : ∃ V, V = (w.alloc (.cells #[.int .i64 long, .int .i64 size, .slice (some ⟨b1, o1, none⟩) ws.length c1, .slice (some ⟨b2, o2, none⟩) gs.length c2] 34)).alloc (.cells #[.int .i64 0, .int .i64 0, .slice none 0 0, .slice none 0 0] 34) := ⟨_, rfl⟩
  have X0 : V.heap[w.heap.size]? = some (.cells #[.int .i64 long, .int .i64 size, .slice (some ⟨b1, o1, none⟩) ws.length c1, .slice (some ⟨b2, o2, none⟩) gs.length c2] 34 (0, 0)) := by
    rw [hV]; exact kept (laid w _ _) (below_alloc' _ _)
  have R0 : V.heap[w.heap.size + 1]? = some (.cells #[.int .i64 0, .int .i64 0, .slice none 0 0, .slice none 0 0] 34 (0, 0)) := by
    rw [hV]
    have := laid (w.alloc (.cells #[.int .i64 long, .int .i64 size, .slice (some ⟨b1, o1, none⟩) ws.length c1, .slice (some ⟨b2, o2, none⟩) gs.length c2] 34)) #[.int .i64 0, .int .i64 0, .slice none 0 0, .slice none 0 0] 34
    rw [World.size_alloc'] at this
    exact this
  have B0 : Below w.heap.size w V := by rw [hV]; exact below2' w _ _
  have hVs : V.heap.size = w.heap.size + 2 := by rw [hV]; simp
  have XH : Hid (V.drew.heap[w.heap.size]? = some (.cells #[.int .i64 long, .int .i64 size, .slice (some ⟨b1, o1, none⟩) ws.length c1, .slice (some ⟨b2, o2, none⟩) gs.length c2] 34 (0, 0))) := hid X0
  have RH : Hid (V.drew.heap[w.heap.size + 1]? = some (.cells #[.int .i64 0, .int .i64 0, .slice none 0 0, .slice none 0 0] 34 (0, 0))) := hid R0
  have BH : Hid (Below w.heap.size w V.drew) := hid B0.drew
  have q2 := box_cell X0 2 (v := .slice (some ⟨b1, o1, none⟩) ws.length c1) rfl
  have q3 := box_cell X0 3 (v := .slice (some ⟨b2, o2, none⟩) gs.length c2) rfl
  have VS := hid hVs
  clear h1 h2 n1 n2 p1 p2 X0 R0 B0 hVs
  go_enter Tryd.func46, Tryd.ntmps46
  go_wp2_with fail
  rw [← hV]
  clear hV
  go_region_with (first
    | (go_at_call_of 55 (Value.slice (some ⟨b1, o1, none⟩) ws.length c1)
       refine (clone_ints b1 o1 c1 ws V.drew (fun i hi => (BH.out.cell (p := ⟨b1, o1 + i, none⟩) l1).trans (H1.out i hi)) N1.out).mono ?_
       rintro e w1 ⟨a1, d1, rfl, ow1, bw1⟩
       have O1 := hid ow1
       have X1 := hid (kept XH.out bw1)
       have R1 := hid (kept RH.out bw1)
       have B1 := hid (below_cat' BH.out bw1)
       have S1 := hid bw1.size
       clear ow1 bw1 q2
       have q3' := box_cell X1.out 3 (v := .slice (some ⟨b2, o2, none⟩) gs.length c2) rfl)
    | (go_at_call_of 55 (Value.slice (some ⟨b2, o2, none⟩) gs.length c2)
       refine (clone_ints b2 o2 c2 gs w1 (fun i hi => (B1.out.cell (p := ⟨b2, o2 + i, none⟩) l2).trans (H2.out i hi)) N2.out).mono ?_
       rintro e w2 ⟨a2, d2, rfl, ow2, bw2⟩
       have O2 := hid (owns_below O1.out bw2)
       have O3 := hid ow2
       have AP := hid (owns_apart O1.out ow2 (Nat.le_refl _))
       have X2 := hid (kept X1.out bw2)
       have R2 := hid (kept R1.out bw2)
       have B2 := hid (below_cat' B1.out bw2)
       clear ow2 bw2
       have x0 := box_cell X2.out 0 (v := .int .i64 long) rfl
       have x1 := box_cell X2.out 1 (v := .int .i64 size) rfl
       have x2 := box_cell X2.out 2 (v := .slice (some ⟨b1, o1, none⟩) ws.length c1) rfl
       have x3 := box_cell X2.out 3 (v := .slice (some ⟨b2, o2, none⟩) gs.length c2) rfl
       have y2 := box_frozen X2.out 2
       have y3 := box_frozen X2.out 3
       have r0 := box_cell R2.out 0 (v := .int .i64 0) rfl
       have r1 := box_cell R2.out 1 (v := .int .i64 0) rfl
       have r2 := box_cell R2.out 2 (v := .slice none 0 0) rfl
       have r3 := box_cell R2.out 3 (v := .slice none 0 0) rfl
       have z0 := box_frozen R2.out 0
       have z1 := box_frozen R2.out 1
       have z2 := box_frozen R2.out 2
       have z3 := box_frozen R2.out 3
       have lx := lt_of_block X2.out
       have lr := lt_of_block R2.out))
  all_goals go_wp2_with fail
  all_goals
    (have Y := set_block (set_block (set_block (set_block (set_other (g := w.heap.size) (set_other (g := w.heap.size) R2.out (by omega) 2 (.slice a1 ws.length d1)) (by omega) 3 (.slice a2 gs.length d2)) 0 (.int .i64 long)) 1 (.int .i64 size)) 2 (.slice a1 ws.length d1)) 3 (.slice a2 gs.length d2)
     have q0 := box_cell Y 0 (v := .int .i64 long) rfl
     have q1 := box_cell Y 1 (v := .int .i64 size) rfl
     have q2 := box_cell Y 2 (v := .slice a1 ws.length d1) rfl
     have q3 := box_cell Y 3 (v := .slice a2 gs.length d2) rfl
     have hs1 : w.heap.size + 2 ≤ w1.heap.size := by have h1 := S1.out; have h2 := VS.out; have h3 : V.drew.heap.size = V.heap.size := rfl; omega
     have hd : V.drew.heap.size = w.heap.size + 2 := VS.out
     refine bodyPost_ret (v := .agg #[.int .i64 long, .int .i64 size, .slice a1 ws.length d1, .slice a2 gs.length d2]) ?_ rfl ⟨_, rfl, ⟨_, _, rfl, ?_, ?_, AP.out⟩, ?_⟩
     · unfold results; rw [Tryd.results46]; simp [go_sem, q0, q1, q2, q3]
     · exact owns_base (owns_set (owns_set (owns_set (owns_set (owns_set (owns_set O2.out (by rw [hd]; simp) _) (by rw [hd]; simp) _) (by rw [hd]; simp) _) (by rw [hd]; simp) _) (by rw [hd]; simp) _) (by rw [hd]; simp) _) (by rw [hd]; simp)
     · exact owns_base (owns_set (owns_set (owns_set (owns_set (owns_set (owns_set O3.out (by simp; omega) _) (by simp; omega) _) (by simp; omega) _) (by simp; omega) _) (by simp; omega) _) (by simp; omega) _) (by omega)
     · exact below_set' (below_set' (below_set' (below_set' (below_set' (below_set' B2.out (by simp) _) (by simp) _) (by simp) _) (by simp) _) (by simp) _) (by simp) _)
end Go.Proofs.YtfciopjcbeccgaaDoor
