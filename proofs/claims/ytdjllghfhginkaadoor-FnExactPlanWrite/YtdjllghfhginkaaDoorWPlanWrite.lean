/- The walk of the law on plans as text. -/
import Derived.Test.YtdjllghfhginkaaDoorPlanE
import Derived.Test.YtdjllghfhginkaaDoorPwA
import Derived.Test.YtdjllghfhginkaaDoorPlanA
import Derived.Deep.RegionHeld3
namespace Go.Proofs.YtdjllghfhginkaaDoor
open Go.ChangeShapes Go.WideShapes Go.ChangeAt Go.RowKit Go.Sort

/-- Both answer alike. -/
theorem write_both (long size : Int) (ws gs : List Int) (hx : ws.length ≤ 1048576) (hy : gs.length ≤ 1048576) : ∃ X : ByteArray,
    (∀ a1 a2 c1 c2 w, IntsAt w a1 ws → IntsAt w a2 gs → Calls Tryd.prog 5 #[.agg #[.int .i64 long, .int .i64 size, .slice a1 ws.length c1, .slice a2 gs.length c2]] w fun r w' => r = .returned (.string X) ∧ Below w.heap.size w w') ∧
    (∀ a1 a2 c1 c2 w, IntsAt w a1 ws → IntsAt w a2 gs → Pow w → Calls Tryd.prog 7 #[.agg #[.int .i64 long, .int .i64 size, .slice a1 ws.length c1, .slice a2 gs.length c2]] w fun r w' => r = .returned (.string X) ∧ Below w.heap.size w w') := by
  by_cases h : planP long size ws gs
  · have hb := pln_bounds h
    obtain ⟨l, rfl⟩ : ∃ l : Nat, long = l := ⟨long.toNat, by omega⟩
    obtain ⟨z, rfl⟩ : ∃ z : Nat, size = z := ⟨size.toNat, by omega⟩
    exact ⟨plnS l z ws gs, fun a1 a2 c1 c2 w h1 h2 => specPlanWrite_yes l z a1 a2 c1 c2 ws gs w h1 h2 h, fun a1 a2 c1 c2 w h1 h2 hp => implPlanWrite_yes l z a1 a2 c1 c2 ws gs w h1 h2 h hp⟩
  · exact ⟨⟨#[]⟩, fun a1 a2 c1 c2 w h1 h2 => specPlanWrite_no long size a1 a2 c1 c2 ws gs w h1 h2 hx hy h, fun a1 a2 c1 c2 w h1 h2 _ => implPlanWrite_no long size a1 a2 c1 c2 ws gs w h1 h2 hx hy h⟩

set_option maxHeartbeats 2000000 in
theorem planWrite_small (long size : Int) (a1 a2 : Option Addr) (c1 c2 : Nat) (ws gs : List Int) (w : World) (ha1 : IntsAt w a1 ws) (ha2 : IntsAt w a2 gs) (hs : ws.length + gs.length ≤ 1048576) (hp : Pow w) :
    Calls Tryd.prog 3 #[.agg #[.int .i64 long, .int .i64 size, .slice a1 ws.length c1, .slice a2 gs.length c2]] w fun e w' => e = .returned (.bool true) ∧ Below w.heap.size w w' := by
  have e1 := hid (show szI 1048576 (ws.length + gs.length) = 1048576 - ((ws.length + gs.length : Nat) : Int) by unfold szI; rw [if_neg (by omega)])
  obtain ⟨X, hS, hI⟩ := write_both long size ws gs (by omega) (by omega)
  have HS := hid hS
  have HI := hid hI
  have HP := hid hp
  clear hS hI hp
  go_enter Tryd.func3, Tryd.ntmps3
  go_wp2_with fail
  refine (szPlan_any long size a1 a2 _ c1 _ c2 1048576 _ (by omega) (by omega) (by omega) (by omega)).mono ?_
  rintro e w1 ⟨rfl, b1⟩
  rw [e1.out]
  have x1 := hid (kept (laid w #[.int .i64 long, .int .i64 size, .slice a1 ws.length c1, .slice a2 gs.length c2] 24) b1)
  have B1 := hid (below_cat' (below_alloc' _ _) b1)
  clear b1
  have p0 := box_cell x1.out 0 (v := .int .i64 long) rfl
  have p1 := box_cell x1.out 1 (v := .int .i64 size) rfl
  have p2 := box_cell x1.out 2 (v := .slice a1 ws.length c1) rfl
  have p3 := box_cell x1.out 3 (v := .slice a2 gs.length c2) rfl
  go_wp2_with fail
  refine (toPlan_any long size a1 a2 c1 c2 ws gs _ (by exact ha1.below B1.out) (by exact ha2.below B1.out) (by omega) (by omega)).mono ?_
  rintro e w2 ⟨r1, f1, r2, f2, rfl, i1, i2, b2⟩
  have x2 := hid (kept x1.out b2)
  have B2 := hid (below_cat' B1.out b2)
  clear b2 p0 p1 p2 p3 x1
  go_wp2_with fail
  refine (HS.out r1 r2 f1 f2 _ i1 i2).mono ?_
  rintro e w3 ⟨rfl, b3⟩
  have x3 := hid (kept x2.out b3)
  have B3 := hid (below_cat' B2.out b3)
  clear b3 i1 i2 x2
  have p0 := box_cell x3.out 0 (v := .int .i64 long) rfl
  have p1 := box_cell x3.out 1 (v := .int .i64 size) rfl
  have p2 := box_cell x3.out 2 (v := .slice a1 ws.length c1) rfl
  have p3 := box_cell x3.out 3 (v := .slice a2 gs.length c2) rfl
  go_wp2_with fail
  refine (toPlan_any long size a1 a2 c1 c2 ws gs _ (by exact ha1.below B3.out) (by exact ha2.below B3.out) (by omega) (by omega)).mono ?_
  rintro e w4 ⟨q1, g1, q2, g2, rfl, j1, j2, b4⟩
  have x4 := hid (kept (kept x3.out b4) (below_alloc' w4 (.cells #[.int .i64 long, .int .i64 size, .slice q1 ws.length g1, .slice q2 gs.length g2] 27)))
  have B4 := hid (below_cat' B3.out b4)
  have y4 := hid (laid w4 #[.int .i64 long, .int .i64 size, .slice q1 ws.length g1, .slice q2 gs.length g2] 27)
  clear b4 p0 p1 p2 p3 x3
  have J1 := hid (j1.below (below_alloc' w4 (.cells #[.int .i64 long, .int .i64 size, .slice q1 ws.length g1, .slice q2 gs.length g2] 27)))
  have J2 := hid (j2.below (below_alloc' w4 (.cells #[.int .i64 long, .int .i64 size, .slice q1 ws.length g1, .slice q2 gs.length g2] 27)))
  clear j1 j2
  go_wp2_with fail
  refine (HI.out q1 q2 g1 g2 _ J1.out J2.out (HP.out.below (below_cat' B4.out (below_alloc' _ _)))).mono ?_
  rintro e w5 ⟨rfl, b5⟩
  have B5 := hid (below_cat' (below_cat' B4.out (below_alloc' _ _)) b5)
  have x5 := hid (kept x4.out b5)
  have y5 := hid (kept y4.out b5)
  have K1 := hid (J1.out.below b5)
  have K2 := hid (J2.out.below b5)
  have p0 := box_cell x5.out 0 (v := .int .i64 long) rfl
  have p1 := box_cell x5.out 1 (v := .int .i64 size) rfl
  have p2 := box_cell x5.out 2 (v := .slice a1 ws.length c1) rfl
  have p3 := box_cell x5.out 3 (v := .slice a2 gs.length c2) rfl
  have s0 := box_cell y5.out 0 (v := .int .i64 long) rfl
  have s1 := box_cell y5.out 1 (v := .int .i64 size) rfl
  have s2 := box_cell y5.out 2 (v := .slice q1 ws.length g1) rfl
  have s3 := box_cell y5.out 3 (v := .slice q2 gs.length g2) rfl
  have m1 : w.heap.size < w5.heap.size := lt_of_block x5.out
  have m2 : w4.heap.size < w5.heap.size := lt_of_block y5.out
  clear b5 x4 y4 J1 J2
  go_wp2_with fail
  go_region_held3 (fun w' => w'.cell? ⟨w.heap.size, 0, none⟩ = some (.int .i64 long) ∧ w'.cell? ⟨w.heap.size, 1, none⟩ = some (.int .i64 size) ∧ w'.cell? ⟨w.heap.size, 2, none⟩ = some (.slice a1 ws.length c1) ∧ w'.cell? ⟨w.heap.size, 3, none⟩ = some (.slice a2 gs.length c2) ∧ w'.cell? ⟨w4.heap.size, 0, none⟩ = some (.int .i64 long) ∧ w'.cell? ⟨w4.heap.size, 1, none⟩ = some (.int .i64 size) ∧ w'.cell? ⟨w4.heap.size, 2, none⟩ = some (.slice q1 ws.length g1) ∧ w'.cell? ⟨w4.heap.size, 3, none⟩ = some (.slice q2 gs.length g2)) (go_keep) (first
    | (go_at_call 6; refine (toPlan_any long size a1 a2 c1 c2 ws gs _ (by exact (ha1.below B5.out).drewN 1) (by exact (ha2.below B5.out).drewN 1) (by omega) (by omega)).mono ?_; rintro e w6 ⟨t1, h1, t2, h2, rfl, k1, k2, b6⟩; have hc6 : ∀ bb o, bb < w5.heap.size → w6.cell? ⟨bb, o, none⟩ = w5.cell? ⟨bb, o, none⟩ := (bcell b6).1; have I1 := hid k1; have I2 := hid k2; have B6 := hid b6; clear k1 k2 b6)
    | (go_at_call 8; refine (eqPlan_same long size q1 q2 t1 t2 g1 g2 h1 h2 ws gs _ (by exact (K1.out.drewN 1).below B6.out) (by exact (K2.out.drewN 1).below B6.out) (by exact I1.out) (by exact I2.out) (by omega) (by omega)).mono ?_; rintro e w7 ⟨rfl, b7⟩; have hc7 : ∀ bb o, bb < w6.heap.size → w7.cell? ⟨bb, o, none⟩ = w6.cell? ⟨bb, o, none⟩ := (bcell b7).1; have m3 : w5.heap.size ≤ w6.heap.size := B6.out.size; have m4 : w.heap.size < w6.heap.size := (by omega); have m5 : w4.heap.size < w6.heap.size := (by omega); have B7 := hid b7; clear b7))
  all_goals go_wp2
  all_goals go_ret
  all_goals exact ⟨rfl, below_cat' (below_cat' (below_drewN B5.out 1) B6.out) B7.out⟩

theorem planWrite_big (long size : Int) (a1 a2 : Option Addr) (n1 c1 n2 c2 : Nat) (w : World) (hs : 1048576 < n1 + n2) (h1 : n1 ≤ 9223372036854775807) (h2 : n2 ≤ 9223372036854775807) :
    Calls Tryd.prog 3 #[.agg #[.int .i64 long, .int .i64 size, .slice a1 n1 c1, .slice a2 n2 c2]] w fun e w' => e = .returned (.bool true) ∧ Below w.heap.size w w' := by
  have e1 := hid (show szI 1048576 (n1 + n2) = -1 by unfold szI; rw [if_pos (by omega)])
  go_enter Tryd.func3, Tryd.ntmps3
  go_wp2_with fail
  refine (szPlan_any long size a1 a2 _ c1 _ c2 1048576 _ (by omega) (by omega) h1 h2).mono ?_
  rintro e w1 ⟨rfl, b1⟩
  rw [e1.out]
  go_wp2_with fail
  go_ret
  exact ⟨rfl, below_cat' (below_alloc' _ _) b1⟩

theorem walk_FnExactPlanWrite (cs0 : List Value) (w : World) (w0 : Reads w 24 cs0) (hp : Pow w) :
    Calls Tryd.prog 3 #[.agg cs0.toArray] w fun e w' => e = .returned (.bool true) ∧ Below w.heap.size w w' := by
  obtain ⟨long, size, a1, n1, k1, z1, a2, n2, k2, z2, rfl, _, _, r1, r2⟩ := reads_plan w0
  by_cases h : n1 + n2 ≤ 1048576
  · have := planWrite_small long size a1 a2 k1 k2 (z1.take n1) (z2.take n2) w (isRow_ints r1) (isRow_ints r2) (by rw [isRow_len r1, isRow_len r2]; exact h) hp
    rw [isRow_len r1, isRow_len r2] at this
    exact this
  · exact planWrite_big long size a1 a2 n1 k1 n2 k2 w (by omega) (isRow_le r1) (isRow_le r2)
end Go.Proofs.YtdjllghfhginkaaDoor
