/- The walk of the law on which pools are ok. -/
import Derived.Test.YtnfjplmpaeiagaaPlT
import Derived.Test.YtnfjplmpaeiagaaFrmA
import Derived.Test.YtnfjplmpaeiagaaFrmL
import Derived.Deep.RegionHeld3
namespace Go.Proofs.Ytnfjplmpaeiagaa
open Go.ChangeShapes Go.WideShapes Go.ChangeAt Go.RowKit Go.Sort Go.Shelf

theorem FrsAt.drewN {w : World} {a : Option Addr} {fs : List Fr} (h : FrsAt w a fs) (n : Nat) : FrsAt (w.drewN n) a fs := h.below (below_drewN (Below.refl _ _) n)

set_option maxHeartbeats 4000000 in
theorem poolOk_small (a : Option Addr) (c : Nat) (fs : List Fr) (hand : Int) (w : World) (ha : FrsAt w a fs) (hs : fs.length ≤ 1048576) :
    Calls Try.prog 3 #[.agg #[.slice a fs.length c, .int .i64 hand]] w fun e w' => e = .returned (.bool true) ∧ Below w.heap.size w w' := by
  have HA := hid ha
  clear ha
  have hz : ¬ (1048576 - (fs.length : Int) < 0) := by omega
  go_enter Try.func3, Try.ntmps3
  go_wp2_with fail
  refine (szPool_in a fs.length c hand _ hs).mono ?_
  rintro e w1 ⟨rfl, b1⟩
  have x1 := hid (kept (laid w #[.slice a fs.length c, .int .i64 hand] 24) b1)
  have B1 := hid (u_cat (u_b1 _ _) b1)
  clear b1
  have p0 := box_cell x1.out 0 (v := .slice a fs.length c) rfl
  have p1 := box_cell x1.out 1 (v := .int .i64 hand) rfl
  go_wp2_with fail
  refine (toPool_any a c fs hand _ (HA.out.below B1.out) hs).mono ?_
  rintro e w2 ⟨r1, f1, rfl, i1, b2⟩
  have x2 := hid (kept x1.out b2)
  have B2 := hid (u_cat B1.out b2)
  have I1 := hid (frs_at i1)
  clear b2 p0 p1 x1 i1
  go_wp2_with fail
  refine (specPoolOk_any r1 f1 fs hand _ I1.out hs).mono ?_
  rintro e w3 ⟨rfl, b3⟩
  have x3 := hid (kept x2.out b3)
  have B3 := hid (u_cat B2.out b3)
  clear b3 I1 x2
  have p0 := box_cell x3.out 0 (v := .slice a fs.length c) rfl
  have p1 := box_cell x3.out 1 (v := .int .i64 hand) rfl
  go_wp2_with fail
  refine (toPool_any a c fs hand _ (HA.out.below B3.out) hs).mono ?_
  rintro e w4 ⟨q1, g1, rfl, j1, b4⟩
  have x4 := hid (kept (kept x3.out b4) (u_b1 w4 (.cells #[.slice q1 fs.length g1, .int .i64 hand] 29)))
  have B4 := hid (u_cat B3.out b4)
  have y4 := hid (laid w4 #[.slice q1 fs.length g1, .int .i64 hand] 29)
  have J1 := hid ((frs_at j1).below (u_b1 w4 (.cells #[.slice q1 fs.length g1, .int .i64 hand] 29)))
  clear b4 p0 p1 x3 j1
  go_wp2_with fail
  refine (implPoolOk_any q1 g1 fs hand _ J1.out hs).mono ?_
  rintro e w5 ⟨rfl, b5⟩
  have B5 := hid (u_cat (u_cat B4.out (u_b1 _ _)) b5)
  have x5 := hid (kept x4.out b5)
  have y5 := hid (kept y4.out b5)
  have K1 := hid (J1.out.below b5)
  have p0 := box_cell x5.out 0 (v := .slice a fs.length c) rfl
  have p1 := box_cell x5.out 1 (v := .int .i64 hand) rfl
  have s0 := box_cell y5.out 0 (v := .slice q1 fs.length g1) rfl
  have s1 := box_cell y5.out 1 (v := .int .i64 hand) rfl
  have m1 : w.heap.size < w5.heap.size := lt_of_block x5.out
  have m2 : w4.heap.size < w5.heap.size := lt_of_block y5.out
  clear b5 x4 y4 J1
  go_wp2_with fail
  go_region_held3 (fun w' => w'.cell? ⟨w.heap.size, 0, none⟩ = some (.slice a fs.length c) ∧ w'.cell? ⟨w.heap.size, 1, none⟩ = some (.int .i64 hand) ∧ w'.cell? ⟨w4.heap.size, 0, none⟩ = some (.slice q1 fs.length g1) ∧ w'.cell? ⟨w4.heap.size, 1, none⟩ = some (.int .i64 hand)) (go_keep) (first
    | (go_at_call 10; refine (toPool_any a c fs hand _ (by exact (HA.out.below B5.out).drewN 1) hs).mono ?_; rintro e w6 ⟨t1, h1, rfl, k1, b6⟩; have hc6 : ∀ bb o, bb < w5.heap.size → w6.cell? ⟨bb, o, none⟩ = w5.cell? ⟨bb, o, none⟩ := (u_cell b6).1; have I1 := hid (frs_at k1); have B6 := hid b6; clear k1 b6)
    | (go_at_call 12; refine (eqPool_same q1 t1 g1 h1 fs hand _ (by exact (K1.out.drewN 1).below B6.out) (by exact I1.out) (by omega)).mono ?_; rintro e w7 ⟨rfl, b7⟩; have hc7 : ∀ bb o, bb < w6.heap.size → w7.cell? ⟨bb, o, none⟩ = w6.cell? ⟨bb, o, none⟩ := (u_cell b7).1; have m3 : w5.heap.size ≤ w6.heap.size := B6.out.size; have m4 : w.heap.size < w6.heap.size := (by omega); have m5 : w4.heap.size < w6.heap.size := (by omega); have B7 := hid b7; clear b7))
  all_goals go_wp2
  all_goals go_ret
  all_goals exact ⟨rfl, u_cat (u_cat (below_drewN B5.out 1) B6.out) B7.out⟩

theorem poolOk_big (a : Option Addr) (n c : Nat) (hand : Int) (w : World) (hs : 1048576 < n) (h1 : n ≤ 9223372036854775807) :
    Calls Try.prog 3 #[.agg #[.slice a n c, .int .i64 hand]] w fun e w' => e = .returned (.bool true) ∧ Below w.heap.size w w' := by
  go_enter Try.func3, Try.ntmps3
  go_wp2_with fail
  refine (szPool_out a n c hand _ hs h1).mono ?_
  rintro e w1 ⟨rfl, b1⟩
  go_wp2_with fail
  go_ret
  exact ⟨rfl, u_cat (u_b1 _ _) b1⟩

theorem walk_FnExactPoolOk (cs0 : List Value) (w : World) (w0 : Reads w 24 cs0) :
    Calls Try.prog 3 #[.agg cs0.toArray] w fun e w' => e = .returned (.bool true) ∧ Below w.heap.size w w' := by
  obtain ⟨a, cap, fs, hand, rfl, ha, hl⟩ := reads_pool w0
  by_cases h : fs.length ≤ 1048576
  · exact poolOk_small a cap fs hand w ha h
  · exact poolOk_big a fs.length cap hand w (by omega) hl
end Go.Proofs.Ytnfjplmpaeiagaa
