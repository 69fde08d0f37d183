/- The walk of the law on plans for a length. -/
import Derived.Test.YtljonapbkbnjiaaPlanM
namespace Go.Proofs.Ytljonapbkbnjiaa
open Go.ChangeShapes Go.WideShapes Go.ChangeAt Go.RowKit Go.Sort

/-- A row that lies below what was written stays. -/
theorem owns_sub {w w' W : World} {base B : Nat} {e : TypeId} {size : Nat} {v : Value} {n : Nat} {xs : List Value} (h : w.ownsRow base e size v n xs) (hb : Below B W w') (hw : Below B W w) (hl : ∀ k, v.ownBlock = some k → k < B) : w'.ownsRow base e size v n xs := by
  obtain ⟨h1, h2⟩ := h
  refine ⟨h1, ?_⟩
  rcases h2 with h2 | ⟨g, cap, cur, hv, hg, hh, r⟩
  · exact Or.inl h2
  · have hlt : g < B := hl g (by rw [hv]; rfl)
    exact Or.inr ⟨g, cap, cur, hv, hg, by rw [hb.block g hlt, ← hw.block g hlt]; exact hh, r⟩

set_option maxHeartbeats 2000000 in
theorem planFor_law (a0 L S : Int) (ws gs : List Int) (hx : ws.length ≤ 1000) (hy : gs.length ≤ 1000) (w : World)
    (hs : ∀ w : World, Calls Try.prog 13 #[.int .i64 a0] w fun e w' => ∃ v, e = .returned v ∧ PlanO w' w.heap.size L S ws gs v ∧ Below w.heap.size w w')
    (hi : ∀ w : World, Calls Try.prog 14 #[.int .i64 a0] w fun e w' => ∃ v, e = .returned v ∧ PlanO w' w.heap.size L S ws gs v ∧ Below w.heap.size w w') :
    Calls Try.prog 4 #[.int .i64 a0] w fun e w' => e = .returned (.bool true) ∧ Below w.heap.size w w' := by
  have HS := hid hs
  have HI := hid hi
  clear hs hi
  go_enter Try.func4, Try.ntmps4
  go_wp2_with fail
  refine (HS.out _).mono ?_
  rintro e w1 ⟨v, rfl, ho, b1⟩
  obtain ⟨a1, c1, a2, c2, rfl, o1, o2, ap⟩ := planO_slices ho
  have b1' := below_cat' b1 (below_alloc' w1 (.cells #[.int .i64 L, .int .i64 S, .slice a1 ws.length c1, .slice a2 gs.length c2] 27))
  have O1 := hid (owns_below o1 (below_alloc' w1 (.cells #[.int .i64 L, .int .i64 S, .slice a1 ws.length c1, .slice a2 gs.length c2] 27)))
  have O2 := hid (owns_below o2 (below_alloc' w1 (.cells #[.int .i64 L, .int .i64 S, .slice a1 ws.length c1, .slice a2 gs.length c2] 27)))
  have X3 := hid (laid w1 #[.int .i64 L, .int .i64 S, .slice a1 ws.length c1, .slice a2 gs.length c2] 27)
  have B1 := hid b1'
  have U3 := hid (fun k h => (o1.lt k h).2)
  have U4 := hid (fun k h => (o2.lt k h).2)
  clear ho o1 o2 ap b1 b1'
  go_wp2_with fail
  refine (HI.out _).mono ?_
  rintro e w2 ⟨v, rfl, ho, b2⟩
  obtain ⟨b1, d1, b2', d2, rfl, q1, q2, ap⟩ := planO_slices ho
  have x4 := laid w2 #[.int .i64 L, .int .i64 S, .slice b1 ws.length d1, .slice b2' gs.length d2] 27
  have bA := below_alloc' w2 (.cells #[.int .i64 L, .int .i64 S, .slice b1 ws.length d1, .slice b2' gs.length d2] 27)
  have X4 := hid x4
  have U1 := hid (fun k h => (q1.lt k h).2)
  have U2 := hid (fun k h => (q2.lt k h).2)
  have Q1 := hid (owns_below q1 bA)
  have Q2 := hid (owns_below q2 bA)
  have AP := hid ap
  have X3' := hid (kept (kept X3.out b2) bA)
  have O1' := hid (owns_below (owns_below O1.out b2) bA)
  have O2' := hid (owns_below (owns_below O2.out b2) bA)
  have B2 := hid (below_cat' b2 bA)
  have hlt : w1.heap.size + 1 ≤ w2.heap.size := by have := b2.size; simpa using this
  clear ho q1 q2 ap b2 bA x4 X3 O1 O2
  have p0 := box_cell X3'.out 0 (v := .int .i64 L) rfl
  have p1 := box_cell X3'.out 1 (v := .int .i64 S) rfl
  have p2 := box_cell X3'.out 2 (v := .slice a1 ws.length c1) rfl
  have p3 := box_cell X3'.out 3 (v := .slice a2 gs.length c2) rfl
  have s0 := box_cell X4.out 0 (v := .int .i64 L) rfl
  have s1 := box_cell X4.out 1 (v := .int .i64 S) rfl
  have s2 := box_cell X4.out 2 (v := .slice b1 ws.length d1) rfl
  have s3 := box_cell X4.out 3 (v := .slice b2' gs.length d2) rfl
  go_wp2_with fail
  refine (eqPlan_same L S b1 b2' a1 a2 d1 d2 c1 c2 ws gs _ (by exact owns_at Q1.out) (by exact owns_at Q2.out) (by exact owns_at O1'.out) (by exact owns_at O2'.out) (by omega) (by omega)).mono ?_
  rintro e w3 ⟨rfl, b3⟩
  have X3 := hid (kept X3'.out b3)
  have Y4 := hid (kept X4.out b3)
  have R1 := hid (owns_below Q1.out b3)
  have R2 := hid (owns_below Q2.out b3)
  have O1 := hid (owns_below O1'.out b3)
  have O2 := hid (owns_below O2'.out b3)
  have B3 := hid (below_cat' B2.out b3)
  clear b3 X3' X4 Q1 Q2 O1' O2' B2 p0 p1 p2 p3 s0 s1 s2 s3
  have s0 := box_cell Y4.out 0 (v := .int .i64 L) rfl
  have s1 := box_cell Y4.out 1 (v := .int .i64 S) rfl
  have s2 := box_cell Y4.out 2 (v := .slice b1 ws.length d1) rfl
  have s3 := box_cell Y4.out 3 (v := .slice b2' gs.length d2) rfl
  go_wp2_with fail
  refine (markPlan_any (w1.alloc (.cells #[.int .i64 L, .int .i64 S, .slice a1 ws.length c1, .slice a2 gs.length c2] 27)).heap.size L S b1 b2' d1 d2 ws gs 1 _ (by exact R1.out) (by exact R2.out) AP.out (by exact B3.out.size) (by omega) (by omega) (by omega) (by omega)).mono ?_
  rintro e w4 ⟨rfl, m1, m2, b4, k4⟩
  have M1 := hid m1
  have M2 := hid m2
  have B4 := hid (B3.out.trans b4)
  have hz4 := B4.out.size
  have hzX : w1.heap.size < w3.heap.size := lt_of_block X3.out
  have X3' := hid ((B4.out.block w1.heap.size (by simp)).trans (laid w1 #[.int .i64 L, .int .i64 S, .slice a1 ws.length c1, .slice a2 gs.length c2] 27))
  have X4 := hid ((k4 w2.heap.size (lt_of_block Y4.out) (fun h => by have := U1.out _ h; omega) (fun h => by have := U2.out _ h; omega)).trans Y4.out)
  have O1' := hid (owns_sub O1.out B4.out B3.out (fun k h => by have := U3.out k h; simp; omega))
  have O2' := hid (owns_sub O2.out B4.out B3.out (fun k h => by have := U4.out k h; simp; omega))
  clear m1 m2 b4 k4 X3 Y4 R1 R2 O1 O2 B3 s0 s1 s2 s3
  have s0 := box_cell X4.out 0 (v := .int .i64 L) rfl
  have s1 := box_cell X4.out 1 (v := .int .i64 S) rfl
  have s2 := box_cell X4.out 2 (v := .slice b1 ws.length d1) rfl
  have s3 := box_cell X4.out 3 (v := .slice b2' gs.length d2) rfl
  go_wp2_with fail
  refine (heldPlan_any L S b1 b2' ws.length gs.length d1 d2 1 _ (by exact owns_at M1.out) (by exact owns_at M2.out) (by omega) (by omega) (by omega) (by omega)).mono ?_
  rintro e w5 ⟨rfl, b5⟩
  have X3 := hid (kept X3'.out b5)
  have Y4 := hid (kept X4.out b5)
  have R1 := hid (owns_below M1.out b5)
  have R2 := hid (owns_below M2.out b5)
  have O1 := hid (owns_below O1'.out b5)
  have O2 := hid (owns_below O2'.out b5)
  have B5 := hid (B4.out.trans (b5.mono hz4))
  clear b5 X3' X4 M1 M2 O1' O2' B4 s0 s1 s2 s3
  go_wp2_with fail
  refine (HI.out _).mono ?_
  rintro e w6 ⟨v, rfl, ho, b6⟩
  obtain ⟨f1, h1, f2, h2, rfl, q1, q2, ap⟩ := planO_slices ho
  have x7 := laid w6 #[.int .i64 L, .int .i64 S, .slice f1 ws.length h1, .slice f2 gs.length h2] 27
  have bA := below_alloc' w6 (.cells #[.int .i64 L, .int .i64 S, .slice f1 ws.length h1, .slice f2 gs.length h2] 27)
  have X7 := hid x7
  have F1 := hid (owns_below q1 bA)
  have F2 := hid (owns_below q2 bA)
  have X3' := hid (kept (kept X3.out b6) bA)
  have X4 := hid (kept (kept Y4.out b6) bA)
  have M1 := hid (owns_below (owns_below R1.out b6) bA)
  have M2 := hid (owns_below (owns_below R2.out b6) bA)
  have O1' := hid (owns_below (owns_below O1.out b6) bA)
  have O2' := hid (owns_below (owns_below O2.out b6) bA)
  have hz5 := B5.out.size
  have B6 := hid (B5.out.trans ((below_cat' b6 bA).mono hz5))
  clear ho q1 q2 ap b6 bA x7 X3 Y4 R1 R2 O1 O2 B5
  have p0 := box_cell X3'.out 0 (v := .int .i64 L) rfl
  have p1 := box_cell X3'.out 1 (v := .int .i64 S) rfl
  have p2 := box_cell X3'.out 2 (v := .slice a1 ws.length c1) rfl
  have p3 := box_cell X3'.out 3 (v := .slice a2 gs.length c2) rfl
  have s0 := box_cell X7.out 0 (v := .int .i64 L) rfl
  have s1 := box_cell X7.out 1 (v := .int .i64 S) rfl
  have s2 := box_cell X7.out 2 (v := .slice f1 ws.length h1) rfl
  have s3 := box_cell X7.out 3 (v := .slice f2 gs.length h2) rfl
  go_wp2_with fail
  refine (eqPlan_same L S f1 f2 a1 a2 h1 h2 c1 c2 ws gs _ (by exact owns_at F1.out) (by exact owns_at F2.out) (by exact owns_at O1'.out) (by exact owns_at O2'.out) (by omega) (by omega)).mono ?_
  rintro e w7 ⟨rfl, b7⟩
  have Y4 := hid (kept X4.out b7)
  have R1 := hid (owns_below M1.out b7)
  have R2 := hid (owns_below M2.out b7)
  have hz6 := B6.out.size
  have B7 := hid (B6.out.trans (b7.mono hz6))
  clear b7 X3' X4 M1 M2 O1' O2' B6 s0 s1 s2 s3 p0 p1 p2 p3
  have s0 := box_cell Y4.out 0 (v := .int .i64 L) rfl
  have s1 := box_cell Y4.out 1 (v := .int .i64 S) rfl
  have s2 := box_cell Y4.out 2 (v := .slice b1 ws.length d1) rfl
  have s3 := box_cell Y4.out 3 (v := .slice b2' gs.length d2) rfl
  go_wp2_with fail
  refine (heldPlan_any L S b1 b2' ws.length gs.length d1 d2 1 _ (by exact owns_at R1.out) (by exact owns_at R2.out) (by omega) (by omega) (by omega) (by omega)).mono ?_
  rintro e w8 ⟨rfl, b8⟩
  have hz7 := B7.out.size
  have B8 := hid (B7.out.trans (b8.mono hz7))
  clear b8 s0 s1 s2 s3
  go_wp2_with fail
  go_ret
  exact ⟨rfl, below_cat' B1.out B8.out⟩

theorem walk_FnExactPlanFor (a0 : Int) (w : World) (_w0 : (Lit.int .i64 a0).wf = true) :
    Calls Try.prog 4 #[.int .i64 a0] w fun e w' => e = .returned (.bool true) ∧ Below w.heap.size w w' := by
  by_cases h : 1 ≤ a0 ∧ a0 ≤ 300
  · refine planFor_law a0 a0 (forS a0) (forW a0) (forG a0) ?_ ?_ w (fun w => specPlanFor_in a0 w h.1 h.2) (fun w => implPlanFor_in a0 w h.1 h.2)
    · unfold forW; split <;> simp
    · unfold forG; split <;> simp
  · exact planFor_law a0 0 0 [] [] (by simp) (by simp) w (fun w => specPlanFor_out a0 w h) (fun w => implPlanFor_out a0 w h)
end Go.Proofs.Ytljonapbkbnjiaa
