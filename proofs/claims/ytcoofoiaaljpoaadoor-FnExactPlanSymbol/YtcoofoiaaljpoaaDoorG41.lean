/- The walk of the law on symbols of a thing. -/
import Derived.Test.YtcoofoiaaljpoaaDoorG37
import Derived.Test.YtcoofoiaaljpoaaDoorG39
import Derived.Test.YtcoofoiaaljpoaaDoorG40
import Derived.Deep.RegionHeld3
namespace Go.Proofs.YtcoofoiaaljpoaaDoor
open Go.ChangeShapes Go.WideShapes Go.ChangeAt Go.RowKit Go.Sort

theorem specSym_any (long size : Int) (a1 a2 : Option Addr) (c1 c2 : Nat) (ws gs : List Int) (t : ByteArray) (id : Int) (w : World) (ha1 : IntsAt w a1 ws) (ha2 : IntsAt w a2 gs) (hx : ws.length ≤ 1048576) (hy : gs.length ≤ 1048576) :
    Calls Tryd.prog 5 #[.agg #[.int .i64 long, .int .i64 size, .slice a1 ws.length c1, .slice a2 gs.length c2], .string t, .int .i64 id] w fun e w' => e = .returned (.tuple #[.string (symT t long size ws gs id), .bool (decide (symI t long size ws gs id))]) ∧ Below w.heap.size w w' := by
  by_cases h : symI t long size ws gs id
  · have hc := h.1.1
    rw [decide_eq_true h]
    obtain ⟨L, rfl⟩ : ∃ L : Nat, long = L := ⟨long.toNat, by have := hc.1; omega⟩
    obtain ⟨S, rfl⟩ : ∃ S : Nat, size = S := ⟨size.toNat, by have := hc.2.2.1; omega⟩
    exact specSym_in L S a1 a2 c1 c2 ws gs t id w ha1 ha2 hx hy h
  · rw [decide_eq_false h]
    exact specSym_out long size a1 a2 c1 c2 ws gs t id w ha1 ha2 hx hy h

set_option maxHeartbeats 16000000 in
set_option maxRecDepth 100000 in
theorem planSym_small (long size id : Int) (a1 a2 : Option Addr) (c1 c2 : Nat) (ws gs : List Int) (t : ByteArray) (w : World) (ha1 : IntsAt w a1 ws) (ha2 : IntsAt w a2 gs) (hs : ws.length + gs.length ≤ 1048576) (ht : t.size ≤ 1048576) (hT : Tab w) :
    Calls Tryd.prog 3 #[.agg #[.int .i64 long, .int .i64 size, .slice a1 ws.length c1, .slice a2 gs.length c2], .string t, .int .i64 id] w fun e w' => e = .returned (.bool true) ∧ Below w.heap.size w w' := by
  have e1 := hid (show szI 1048576 (ws.length + gs.length) = 1048576 - ((ws.length + gs.length : Nat) : Int) by unfold szI; rw [if_neg (by omega)])
  have IA1 := hid ha1
  have IA2 := hid ha2
  have HT := hid hT
  clear ha1 ha2 hT
  have hd' : decide ((1048576 : Int) < (t.size : Int)) = false := decide_eq_false (by omega)
  have SP := hid (fun (w : World) (p1 p2 : Option Addr) (f1 f2 : Nat) (i1 : IntsAt w p1 ws) (i2 : IntsAt w p2 gs) => specSym_any long size p1 p2 f1 f2 ws gs t id w i1 i2 (by omega) (by omega))
  have IP := hid (fun (w : World) (p1 p2 : Option Addr) (f1 f2 : Nat) (i1 : IntsAt w p1 ws) (i2 : IntsAt w p2 gs) (hT : Tab w) => implSym_any long size p1 p2 f1 f2 ws gs t id w i1 i2 (by omega) (by omega) hT)
  obtain ⟨R, hR⟩ : ∃ R, R = symT t long size ws gs id := ⟨_, rfl⟩
  obtain ⟨Q, hQ⟩ : ∃ Q, Q = decide (symI t long size ws gs id) := ⟨_, rfl⟩
  rw [← hR, ← hQ] at SP IP
  have hrr : (R.toList == R.toList) = true := by simp
  clear hR hQ
  go_enter Tryd.func3, Tryd.ntmps3
  go_wp2_with fail
  refine (szPlan_any long size a1 a2 _ c1 _ c2 1048576 _ (by omega) (by omega) (by omega) (by omega)).mono ?_
  rintro e w1 ⟨rfl, b1⟩
  rw [e1.out]
  have x1 := hid (kept (laid w #[.int .i64 long, .int .i64 size, .slice a1 ws.length c1, .slice a2 gs.length c2] 24) b1)
  have B1 := hid (below_cat' (below_alloc' _ _) b1)
  clear b1
  have p0 := box_cell x1.out 0 (v := .int .i64 long) rfl
  have p1 := box_cell x1.out 1 (v := .int .i64 size) rfl
  have p2 := box_cell x1.out 2 (v := .slice a1 ws.length c1) rfl
  have p3 := box_cell x1.out 3 (v := .slice a2 gs.length c2) rfl
  go_wp2_with fail
  refine (toPlan_any long size a1 a2 c1 c2 ws gs _ (by exact IA1.out.below B1.out) (by exact IA2.out.below B1.out) (by omega) (by omega)).mono ?_
  rintro e w2 ⟨r1, f1, r2, f2, rfl, i1, i2, b2⟩
  have x2 := hid (kept x1.out b2)
  have B2 := hid (below_cat' B1.out b2)
  clear b2 p0 p1 p2 p3 x1 B1
  go_wp2_with fail
  refine (SP.out _ r1 r2 f1 f2 i1 i2).mono ?_
  rintro e w3 ⟨rfl, b3⟩
  have x3 := hid (kept x2.out b3)
  have B3 := hid (below_cat' B2.out b3)
  clear b3 i1 i2 x2 B2
  have p0 := box_cell x3.out 0 (v := .int .i64 long) rfl
  have p1 := box_cell x3.out 1 (v := .int .i64 size) rfl
  have p2 := box_cell x3.out 2 (v := .slice a1 ws.length c1) rfl
  have p3 := box_cell x3.out 3 (v := .slice a2 gs.length c2) rfl
  go_wp2_with fail
  refine (toPlan_any long size a1 a2 c1 c2 ws gs _ (by exact IA1.out.below B3.out) (by exact IA2.out.below B3.out) (by omega) (by omega)).mono ?_
  rintro e w4 ⟨q1, g1, q2, g2, rfl, j1, j2, b4⟩
  have bA := below_alloc' w4 (.cells #[.int .i64 long, .int .i64 size, .slice q1 ws.length g1, .slice q2 gs.length g2] 28)
  have x4 := hid (kept (kept x3.out b4) bA)
  have y4 := hid (laid w4 #[.int .i64 long, .int .i64 size, .slice q1 ws.length g1, .slice q2 gs.length g2] 28)
  have B4 := hid (below_cat' (below_cat' B3.out b4) bA)
  have J1 := hid (j1.below bA)
  have J2 := hid (j2.below bA)
  have T4 := hid (HT.out.below B4.out)
  clear b4 p0 p1 p2 p3 x3 B3 j1 j2 bA
  have s0 := box_cell y4.out 0 (v := .int .i64 long) rfl
  have s1 := box_cell y4.out 1 (v := .int .i64 size) rfl
  have s2 := box_cell y4.out 2 (v := .slice q1 ws.length g1) rfl
  have s3 := box_cell y4.out 3 (v := .slice q2 gs.length g2) rfl
  go_wp2_with fail
  refine (IP.out _ q1 q2 g1 g2 (by exact J1.out) (by exact J2.out) T4.out).mono ?_
  rintro e W6 ⟨rfl, b5⟩
  have x6 := hid (kept x4.out b5)
  have y6 := hid (kept y4.out b5)
  have B6 := hid (below_cat' B4.out b5)
  have L1 := hid (J1.out.below b5)
  have L2 := hid (J2.out.below b5)
  clear b5 x4 y4 B4 J1 J2 s0 s1 s2 s3
  have p0 := box_cell x6.out 0 (v := .int .i64 long) rfl
  have p1 := box_cell x6.out 1 (v := .int .i64 size) rfl
  have p2 := box_cell x6.out 2 (v := .slice a1 ws.length c1) rfl
  have p3 := box_cell x6.out 3 (v := .slice a2 gs.length c2) rfl
  have s0 := box_cell y6.out 0 (v := .int .i64 long) rfl
  have s1 := box_cell y6.out 1 (v := .int .i64 size) rfl
  have s2 := box_cell y6.out 2 (v := .slice q1 ws.length g1) rfl
  have s3 := box_cell y6.out 3 (v := .slice q2 gs.length g2) rfl
  have m1 : w.heap.size < W6.heap.size := lt_of_block x6.out
  have m2 : w4.heap.size < W6.heap.size := lt_of_block y6.out
  go_wp2_with fail
  go_region_held3 (fun w' => w'.cell? ⟨w.heap.size, 0, none⟩ = some (.int .i64 long) ∧ w'.cell? ⟨w.heap.size, 1, none⟩ = some (.int .i64 size) ∧ w'.cell? ⟨w.heap.size, 2, none⟩ = some (.slice a1 ws.length c1) ∧ w'.cell? ⟨w.heap.size, 3, none⟩ = some (.slice a2 gs.length c2) ∧ w'.cell? ⟨w4.heap.size, 0, none⟩ = some (.int .i64 long) ∧ w'.cell? ⟨w4.heap.size, 1, none⟩ = some (.int .i64 size) ∧ w'.cell? ⟨w4.heap.size, 2, none⟩ = some (.slice q1 ws.length g1) ∧ w'.cell? ⟨w4.heap.size, 3, none⟩ = some (.slice q2 gs.length g2)) (go_keep) (first
    | (go_at_call 6; refine (toPlan_any long size a1 a2 c1 c2 ws gs _ (by exact (IA1.out.below B6.out).drewN 1) (by exact (IA2.out.below B6.out).drewN 1) (by omega) (by omega)).mono ?_; rintro e w7 ⟨t1, h1, t2, h2, rfl, k1, k2, b7⟩; have hc7 : ∀ bb o, bb < W6.heap.size → w7.cell? ⟨bb, o, none⟩ = W6.cell? ⟨bb, o, none⟩ := (bcell b7).1; have I1 := hid k1; have I2 := hid k2; have B7 := hid b7; clear k1 k2 b7)
    | (go_at_call 8; refine (eqPlan_same long size q1 q2 t1 t2 g1 g2 h1 h2 ws gs _ (by exact (L1.out.drewN 1).below B7.out) (by exact (L2.out.drewN 1).below B7.out) (by exact I1.out) (by exact I2.out) (by omega) (by omega)).mono ?_; rintro e w8 ⟨rfl, b8⟩; have hc8 : ∀ bb o, bb < w7.heap.size → w8.cell? ⟨bb, o, none⟩ = w7.cell? ⟨bb, o, none⟩ := (bcell b8).1; have m3 : W6.heap.size ≤ w7.heap.size := B7.out.size; have m4 : w.heap.size < w7.heap.size := (by omega); have m5 : w4.heap.size < w7.heap.size := (by omega); have B8 := hid b8; clear b8))
  have D8 : Below W6.heap.size W6 w8 := below_cat' (below_drewN (Below.refl _ _) 1) (below_cat' B7.out B8.out)
  have B9 := hid (below_cat' B6.out D8)
  clear D8
  go_wp2_with fail
  go_ret
  exact ⟨rfl, B9.out⟩

theorem planSym_big (long size id : Int) (a1 a2 : Option Addr) (n1 c1 n2 c2 : Nat) (t : ByteArray) (w : World) (hs : 1048576 < n1 + n2) (h1 : n1 ≤ 9223372036854775807) (h2 : n2 ≤ 9223372036854775807) (ht : t.size ≤ 1048576) :
    Calls Tryd.prog 3 #[.agg #[.int .i64 long, .int .i64 size, .slice a1 n1 c1, .slice a2 n2 c2], .string t, .int .i64 id] w fun e w' => e = .returned (.bool true) ∧ Below w.heap.size w w' := by
  have e1 := hid (show szI 1048576 (n1 + n2) = -1 by unfold szI; rw [if_pos (by omega)])
  have hd' : decide ((1048576 : Int) < (t.size : Int)) = false := decide_eq_false (by omega)
  go_enter Tryd.func3, Tryd.ntmps3
  go_wp2_with fail
  refine (szPlan_any long size a1 a2 _ c1 _ c2 1048576 _ (by omega) (by omega) h1 h2).mono ?_
  rintro e w1 ⟨rfl, b1⟩
  rw [e1.out]
  go_wp2_with fail
  go_ret
  exact ⟨rfl, below_cat' (below_alloc' _ _) b1⟩
theorem planSym_long (long size id : Int) (a1 a2 : Option Addr) (n1 c1 n2 c2 : Nat) (t : ByteArray) (w : World) (ht : 1048576 < t.size) :
    Calls Tryd.prog 3 #[.agg #[.int .i64 long, .int .i64 size, .slice a1 n1 c1, .slice a2 n2 c2], .string t, .int .i64 id] w fun e w' => e = .returned (.bool true) ∧ Below w.heap.size w w' := by
  have hd' : decide ((1048576 : Int) < (t.size : Int)) = true := decide_eq_true (by omega)
  go_enter Tryd.func3, Tryd.ntmps3
  go_wp2_with fail
  go_ret
  exact ⟨rfl, below_alloc' _ _⟩

theorem walk_FnExactPlanSymbol (cs0 : List Value) (a1 : ByteArray) (a2 : Int) (w : World) (w0 : Reads w 24 cs0) (_w1 : a1.size ≤ maxLen) (_w2 : (Lit.int .i64 a2).wf = true) (hT : Tab w) :
    Calls Tryd.prog 3 #[.agg cs0.toArray, .string a1, .int .i64 a2] w fun e w' => e = .returned (.bool true) ∧ Below w.heap.size w w' := by
  obtain ⟨long, size, b1, n1, k1, z1, b2, n2, k2, z2, rfl, _, _, r1, r2⟩ := reads_plan w0
  by_cases ht : a1.size ≤ 1048576
  · by_cases h : n1 + n2 ≤ 1048576
    · have := planSym_small long size a2 b1 b2 k1 k2 (z1.take n1) (z2.take n2) a1 w (isRow_ints r1) (isRow_ints r2) (by rw [isRow_len r1, isRow_len r2]; exact h) ht hT
      rw [isRow_len r1, isRow_len r2] at this
      exact this
    · exact planSym_big long size a2 b1 b2 n1 k1 n2 k2 a1 w (by omega) (isRow_le r1) (isRow_le r2) ht
  · exact planSym_long long size a2 b1 b2 n1 k1 n2 k2 a1 w (by omega)
end Go.Proofs.YtcoofoiaaljpoaaDoor
