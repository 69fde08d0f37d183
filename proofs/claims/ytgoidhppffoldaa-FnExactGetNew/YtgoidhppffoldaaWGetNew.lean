/- The walk of the law on what is known at first. -/
import Derived.Test.YtgoidhppffoldaaGnB
import Derived.Test.YtgoidhppffoldaaGnE
import Derived.Test.YtgoidhppffoldaaPlanA
import Derived.Deep.RegionHeld3
namespace Go.Proofs.Ytgoidhppffoldaa
open Go.ChangeShapes Go.WideShapes Go.ChangeAt Go.RowKit Go.Sort

/-- A row in blocks that stayed stays. -/
theorem owns_k {w w' : World} {base : Nat} {e : TypeId} {size : Nat} {v p q : Value} {n : Nat} {xs : List Value} (h : w.ownsRow base e size v n xs) (hk : ∀ g, g < w.heap.size → p.ownBlock ≠ some g → q.ownBlock ≠ some g → w'.heap[g]? = w.heap[g]?)
    (hl : ∀ k, v.ownBlock = some k → k < w.heap.size) (hp : ∀ k, v.ownBlock = some k → p.ownBlock ≠ some k) (hq : ∀ k, v.ownBlock = some k → q.ownBlock ≠ some k) : w'.ownsRow base e size v n xs := by
  obtain ⟨h1, h2⟩ := h
  refine ⟨h1, ?_⟩
  rcases h2 with h2 | ⟨g, cap, cur, hv, hg, hh, r⟩
  · exact Or.inl h2
  · have hb : v.ownBlock = some g := by rw [hv]; rfl
    exact Or.inr ⟨g, cap, cur, hv, hg, by rw [hk g (hl g hb) (hp g hb) (hq g hb)]; exact hh, r⟩

set_option maxHeartbeats 8000000 in
set_option maxRecDepth 100000 in
theorem getNew_law (long size L S C S' : Int) (a1 a2 : Option Addr) (c1 c2 : Nat) (ws gs xs ys : List Int) (w : World) (ha1 : IntsAt w a1 ws) (ha2 : IntsAt w a2 gs) (hs : ws.length + gs.length ≤ 1048576) (hx : xs.length ≤ 1000) (hy : ys.length ≤ 1000)
    (sp : ∀ (w : World) (p1 p2 : Option Addr) (f1 f2 : Nat), IntsAt w p1 ws → IntsAt w p2 gs → Calls Try.prog 14 #[.agg #[.int .i64 long, .int .i64 size, .slice p1 ws.length f1, .slice p2 gs.length f2]] w fun e w' => ∃ v, e = .returned v ∧ GetO w' w.heap.size L S xs ys C S' v ∧ Below w.heap.size w w')
    (ip : ∀ (w : World) (p1 p2 : Option Addr) (f1 f2 : Nat), IntsAt w p1 ws → IntsAt w p2 gs → Calls Try.prog 15 #[.agg #[.int .i64 long, .int .i64 size, .slice p1 ws.length f1, .slice p2 gs.length f2]] w fun e w' => ∃ v, e = .returned v ∧ GetO w' w.heap.size L S xs ys C S' v ∧ Below w.heap.size w w') :
    Calls Try.prog 4 #[.agg #[.int .i64 long, .int .i64 size, .slice a1 ws.length c1, .slice a2 gs.length c2]] w fun e w' => e = .returned (.bool true) ∧ Below w.heap.size w w' := by
  have e1 := hid (show szI 1048576 (ws.length + gs.length) = 1048576 - ((ws.length + gs.length : Nat) : Int) by unfold szI; rw [if_neg (by omega)])
  have IA1 := hid ha1
  have IA2 := hid ha2
  have SP := hid sp
  have IP := hid ip
  clear ha1 ha2 sp ip
  go_enter Try.func4, Try.ntmps4
  go_wp2_with fail
  refine (szPlan_any long size a1 a2 _ c1 _ c2 1048576 _ (by omega) (by omega) (by omega) (by omega)).mono ?_
  rintro e w1 ⟨rfl, b1⟩
  rw [e1.out]
  have x1 := hid (kept (laid w #[.int .i64 long, .int .i64 size, .slice a1 ws.length c1, .slice a2 gs.length c2] 24) b1)
  have B1 := hid (below_cat' (below_alloc' _ _) b1)
  clear b1
  have p0 := box_cell x1.out 0 (v := .int .i64 long) rfl
  have p1 := box_cell x1.out 1 (v := .int .i64 size) rfl
  have p2 := box_cell x1.out 2 (v := .slice a1 ws.length c1) rfl
  have p3 := box_cell x1.out 3 (v := .slice a2 gs.length c2) rfl
  go_wp2_with fail
  refine (toPlan_any long size a1 a2 c1 c2 ws gs _ (by exact IA1.out.below B1.out) (by exact IA2.out.below B1.out) (by omega) (by omega)).mono ?_
  rintro e w2 ⟨r1, f1, r2, f2, rfl, i1, i2, b2⟩
  have x2 := hid (kept x1.out b2)
  have B2 := hid (below_cat' B1.out b2)
  clear b2 p0 p1 p2 p3 x1 B1
  go_wp2_with fail
  refine (SP.out _ r1 r2 f1 f2 i1 i2).mono ?_
  rintro e w3 ⟨v3, rfl, ⟨m1, n1, m2, n2, rfl, o1, o2, ap⟩, b3⟩
  have bA := below_alloc' w3 (.cells #[.int .i64 L, .int .i64 S, .slice m1 xs.length n1, .slice m2 ys.length n2, .int .i64 C, .int .i64 S', .slice none 0 0] 39)
  have x3 := hid (kept (kept x2.out b3) bA)
  have y3 := hid (laid w3 #[.int .i64 L, .int .i64 S, .slice m1 xs.length n1, .slice m2 ys.length n2, .int .i64 C, .int .i64 S', .slice none 0 0] 39)
  have B3 := hid (below_cat' (below_cat' B2.out b3) bA)
  have O1 := hid (owns_below o1 bA)
  have O2 := hid (owns_below o2 bA)
  have U1 := hid (fun k h => (o1.lt k h).2)
  have U2 := hid (fun k h => (o2.lt k h).2)
  have HZW := hid (show w.heap.size < w3.heap.size from lt_of_block (kept x2.out b3))
  clear b3 i1 i2 x2 B2 o1 o2 ap bA
  have p0 := box_cell x3.out 0 (v := .int .i64 long) rfl
  have p1 := box_cell x3.out 1 (v := .int .i64 size) rfl
  have p2 := box_cell x3.out 2 (v := .slice a1 ws.length c1) rfl
  have p3 := box_cell x3.out 3 (v := .slice a2 gs.length c2) rfl
  go_wp2_with fail
  refine (toPlan_own long size a1 a2 c1 c2 ws gs _ (by exact IA1.out.below B3.out) (by exact IA2.out.below B3.out) (by omega) (by omega)).mono ?_
  rintro e w4 ⟨q1, g1, q2, g2, rfl, j1, j2, ap, b4⟩
  have bA := below_alloc' w4 (.cells #[.int .i64 long, .int .i64 size, .slice q1 ws.length g1, .slice q2 gs.length g2] 28)
  have x4 := hid (kept (kept x3.out b4) bA)
  have y4 := hid (kept (kept y3.out b4) bA)
  have P4 := hid (laid w4 #[.int .i64 long, .int .i64 size, .slice q1 ws.length g1, .slice q2 gs.length g2] 28)
  have B4 := hid (below_cat' (below_cat' B3.out b4) bA)
  have J1 := hid (owns_below j1 bA)
  have J2 := hid (owns_below j2 bA)
  have AP := hid ap
  have V1 := hid (fun k h => (j1.lt k h))
  have V2 := hid (fun k h => (j2.lt k h))
  have O1' := hid (owns_below (owns_below O1.out b4) bA)
  have O2' := hid (owns_below (owns_below O2.out b4) bA)
  have hz3 : w3.heap.size + 1 ≤ w4.heap.size := by have := b4.size; simpa using this
  clear b4 p0 p1 p2 p3 x3 y3 B3 j1 j2 ap bA O1 O2
  have s0 := box_cell P4.out 0 (v := .int .i64 long) rfl
  have s1 := box_cell P4.out 1 (v := .int .i64 size) rfl
  have s2 := box_cell P4.out 2 (v := .slice q1 ws.length g1) rfl
  have s3 := box_cell P4.out 3 (v := .slice q2 gs.length g2) rfl
  go_wp2_with fail
  refine (IP.out _ q1 q2 g1 g2 (by exact owns_at J1.out) (by exact owns_at J2.out)).mono ?_
  rintro e w5 ⟨v5, rfl, ⟨f1, h1, f2, h2, rfl, o1, o2, ap⟩, b5⟩
  have bA := below_alloc' w5 (.cells #[.int .i64 L, .int .i64 S, .slice f1 xs.length h1, .slice f2 ys.length h2, .int .i64 C, .int .i64 S', .slice none 0 0] 39)
  have x5 := hid (kept (kept x4.out b5) bA)
  have y5 := hid (kept (kept y4.out b5) bA)
  have P5 := hid (kept (kept P4.out b5) bA)
  have G5 := hid (laid w5 #[.int .i64 L, .int .i64 S, .slice f1 xs.length h1, .slice f2 ys.length h2, .int .i64 C, .int .i64 S', .slice none 0 0] 39)
  have B5 := hid (below_cat' (below_cat' B4.out b5) bA)
  have K1 := hid (owns_below (owns_below J1.out b5) bA)
  have K2 := hid (owns_below (owns_below J2.out b5) bA)
  have O1 := hid (owns_below (owns_below O1'.out b5) bA)
  have O2 := hid (owns_below (owns_below O2'.out b5) bA)
  have R1 := hid (owns_below o1 bA)
  have R2 := hid (owns_below o2 bA)
  have AQ := hid ap
  have T1 := hid (fun k h => (o1.lt k h))
  have T2 := hid (fun k h => (o2.lt k h))
  have hz4 : w4.heap.size + 1 ≤ w5.heap.size := by have := b5.size; simpa using this
  clear b5 o1 o2 ap bA x4 y4 P4 B4 J1 J2 O1' O2' s0 s1 s2 s3
  have s0 := box_cell G5.out 0 (v := .int .i64 L) rfl
  have s1 := box_cell G5.out 1 (v := .int .i64 S) rfl
  have s2 := box_cell G5.out 2 (v := .slice f1 xs.length h1) rfl
  have s3 := box_cell G5.out 3 (v := .slice f2 ys.length h2) rfl
  have s4 := box_cell G5.out 4 (v := .int .i64 C) rfl
  have s5 := box_cell G5.out 5 (v := .int .i64 S') rfl
  have s6 := box_cell G5.out 6 (v := .slice none 0 0) rfl
  have t0 := box_cell y5.out 0 (v := .int .i64 L) rfl
  have t1 := box_cell y5.out 1 (v := .int .i64 S) rfl
  have t2 := box_cell y5.out 2 (v := .slice m1 xs.length n1) rfl
  have t3 := box_cell y5.out 3 (v := .slice m2 ys.length n2) rfl
  have t4 := box_cell y5.out 4 (v := .int .i64 C) rfl
  have t5 := box_cell y5.out 5 (v := .int .i64 S') rfl
  have t6 := box_cell y5.out 6 (v := .slice none 0 0) rfl
  go_wp2_with fail
  refine (eqGetting_same L S C S' f1 f2 m1 m2 h1 h2 n1 n2 xs ys _ (by exact owns_at R1.out) (by exact owns_at R2.out) (by exact owns_at O1.out) (by exact owns_at O2.out) (by omega) (by omega)).mono ?_
  rintro e w6 ⟨rfl, b6⟩
  have x6 := hid (kept x5.out b6)
  have y6 := hid (kept y5.out b6)
  have P6 := hid (kept P5.out b6)
  have G6 := hid (kept G5.out b6)
  have B6 := hid (below_cat' B5.out b6)
  have L1 := hid (owns_below K1.out b6)
  have L2 := hid (owns_below K2.out b6)
  have O1' := hid (owns_below O1.out b6)
  have O2' := hid (owns_below O2.out b6)
  have R1' := hid (owns_below R1.out b6)
  have R2' := hid (owns_below R2.out b6)
  have hz5 : w5.heap.size + 1 ≤ w6.heap.size := lt_of_block G6.out
  clear b6 x5 y5 P5 G5 B5 K1 K2 O1 O2 R1 R2 s0 s1 s2 s3 s4 s5 s6 t0 t1 t2 t3 t4 t5 t6
  have p0 := box_cell x6.out 0 (v := .int .i64 long) rfl
  have p1 := box_cell x6.out 1 (v := .int .i64 size) rfl
  have p2 := box_cell x6.out 2 (v := .slice a1 ws.length c1) rfl
  have p3 := box_cell x6.out 3 (v := .slice a2 gs.length c2) rfl
  have s0 := box_cell P6.out 0 (v := .int .i64 long) rfl
  have s1 := box_cell P6.out 1 (v := .int .i64 size) rfl
  have s2 := box_cell P6.out 2 (v := .slice q1 ws.length g1) rfl
  have s3 := box_cell P6.out 3 (v := .slice q2 gs.length g2) rfl
  have k1 : w.heap.size < w6.heap.size := lt_of_block x6.out
  have k2 : w4.heap.size < w6.heap.size := lt_of_block P6.out
  go_wp2_with fail
  go_region_held3 (fun w' => w'.cell? ⟨w.heap.size, 0, none⟩ = some (.int .i64 long) ∧ w'.cell? ⟨w.heap.size, 1, none⟩ = some (.int .i64 size) ∧ w'.cell? ⟨w.heap.size, 2, none⟩ = some (.slice a1 ws.length c1) ∧ w'.cell? ⟨w.heap.size, 3, none⟩ = some (.slice a2 gs.length c2) ∧ w'.cell? ⟨w4.heap.size, 0, none⟩ = some (.int .i64 long) ∧ w'.cell? ⟨w4.heap.size, 1, none⟩ = some (.int .i64 size) ∧ w'.cell? ⟨w4.heap.size, 2, none⟩ = some (.slice q1 ws.length g1) ∧ w'.cell? ⟨w4.heap.size, 3, none⟩ = some (.slice q2 gs.length g2)) (go_keep) (first
    | (go_at_call 7; refine (toPlan_any long size a1 a2 c1 c2 ws gs _ (by exact (IA1.out.below B6.out).drewN 1) (by exact (IA2.out.below B6.out).drewN 1) (by omega) (by omega)).mono ?_; rintro e w7 ⟨t1, d1, t2, d2, rfl, k1', k2', b7⟩; have hc7 : ∀ bb o, bb < w6.heap.size → w7.cell? ⟨bb, o, none⟩ = w6.cell? ⟨bb, o, none⟩ := (bcell b7).1; have I1 := hid k1'; have I2 := hid k2'; have B7 := hid b7; clear k1' k2' b7)
    | (go_at_call 10; refine (eqPlan_same long size q1 q2 t1 t2 g1 g2 d1 d2 ws gs _ (by exact ((owns_at L1.out).drewN 1).below B7.out) (by exact ((owns_at L2.out).drewN 1).below B7.out) (by exact I1.out) (by exact I2.out) (by omega) (by omega)).mono ?_; rintro e w8 ⟨rfl, b8⟩; have hc8 : ∀ bb o, bb < w7.heap.size → w8.cell? ⟨bb, o, none⟩ = w7.cell? ⟨bb, o, none⟩ := (bcell b8).1; have k3 : w6.heap.size ≤ w7.heap.size := B7.out.size; have k4 : w.heap.size < w7.heap.size := (by omega); have k5 : w4.heap.size < w7.heap.size := (by omega); have B8 := hid b8; clear b8))
  have D8 : Below w6.heap.size w6 w8 := below_cat' (below_drewN (Below.refl _ _) 1) (below_cat' B7.out B8.out)
  have x8 := hid (kept x6.out D8)
  have y8 := hid (kept y6.out D8)
  have P8 := hid (kept P6.out D8)
  have G8 := hid (kept G6.out D8)
  have B9 := hid (below_cat' B6.out D8)
  have N1 := hid (owns_below L1.out D8)
  have N2 := hid (owns_below L2.out D8)
  have O1 := hid (owns_below O1'.out D8)
  have O2 := hid (owns_below O2'.out D8)
  have R1 := hid (owns_below R1'.out D8)
  have R2 := hid (owns_below R2'.out D8)
  have hz8 : w5.heap.size + 1 ≤ w8.heap.size := lt_of_block G8.out
  clear D8 x6 y6 P6 G6 B6 L1 L2 O1' O2' R1' R2' p0 p1 p2 p3 s0 s1 s2 s3 hc7 hc8 B7 B8 I1 I2 k1 k2 k3 k4 k5
  have s0 := box_cell P8.out 0 (v := .int .i64 long) rfl
  have s1 := box_cell P8.out 1 (v := .int .i64 size) rfl
  have s2 := box_cell P8.out 2 (v := .slice q1 ws.length g1) rfl
  have s3 := box_cell P8.out 3 (v := .slice q2 gs.length g2) rfl
  go_wp2_with fail
  refine (markPlan_any (w3.heap.size + 1) long size q1 q2 g1 g2 ws gs 1 _ (by exact owns_base N1.out (by simp)) (by exact owns_base N2.out (by simp)) AP.out (by omega) (by omega) (by omega) (by omega) (by omega)).mono ?_
  rintro e w9 ⟨rfl, -, -, b9, k9⟩
  have hzw := HZW.out
  have v1 : ∀ k, (.slice q1 ws.length g1 : Value).ownBlock = some k → w3.heap.size + 1 ≤ k ∧ k < w4.heap.size := fun k h => by have := V1.out k h; simpa using this
  have v2 : ∀ k, (.slice q2 gs.length g2 : Value).ownBlock = some k → w3.heap.size + 1 ≤ k ∧ k < w4.heap.size := fun k h => by have := V2.out k h; simpa using this
  have t1' : ∀ k, (.slice f1 xs.length h1 : Value).ownBlock = some k → w4.heap.size + 1 ≤ k ∧ k < w5.heap.size := fun k h => by have := T1.out k h; simpa using this
  have t2' : ∀ k, (.slice f2 ys.length h2 : Value).ownBlock = some k → w4.heap.size + 1 ≤ k ∧ k < w5.heap.size := fun k h => by have := T2.out k h; simpa using this
  have u1 := U1.out
  have u2 := U2.out
  have xa := hid ((k9 w.heap.size (lt_of_block x8.out) (fun h => by have := v1 _ h; omega) (fun h => by have := v2 _ h; omega)).trans x8.out)
  have ya := hid ((k9 w3.heap.size (lt_of_block y8.out) (fun h => by have := v1 _ h; omega) (fun h => by have := v2 _ h; omega)).trans y8.out)
  have Ga := hid ((k9 w5.heap.size (lt_of_block G8.out) (fun h => by have := v1 _ h; omega) (fun h => by have := v2 _ h; omega)).trans G8.out)
  have O1' := hid (owns_k O1.out k9 (fun k h => by have := u1 k h; omega) (fun k h e => by have := v1 _ e; have := u1 k h; omega) (fun k h e => by have := v2 _ e; have := u1 k h; omega))
  have O2' := hid (owns_k O2.out k9 (fun k h => by have := u2 k h; omega) (fun k h e => by have := v1 _ e; have := u2 k h; omega) (fun k h e => by have := v2 _ e; have := u2 k h; omega))
  have R1' := hid (owns_k R1.out k9 (fun k h => by have := t1' k h; omega) (fun k h e => by have := v1 _ e; have := t1' k h; omega) (fun k h e => by have := v2 _ e; have := t1' k h; omega))
  have R2' := hid (owns_k R2.out k9 (fun k h => by have := t2' k h; omega) (fun k h e => by have := v1 _ e; have := t2' k h; omega) (fun k h e => by have := v2 _ e; have := t2' k h; omega))
  have Ba := hid (B9.out.trans (b9.mono (by omega)))
  have Q1 := hid t1'
  have Q2 := hid t2'
  clear b9 k9 s0 s1 s2 s3 x8 y8 P8 G8 N1 N2 O1 O2 R1 R2 B9 v1 v2 t1' t2' u1 u2 hzw
  have s0 := box_cell Ga.out 0 (v := .int .i64 L) rfl
  have s1 := box_cell Ga.out 1 (v := .int .i64 S) rfl
  have s2 := box_cell Ga.out 2 (v := .slice f1 xs.length h1) rfl
  have s3 := box_cell Ga.out 3 (v := .slice f2 ys.length h2) rfl
  have s4 := box_cell Ga.out 4 (v := .int .i64 C) rfl
  have s5 := box_cell Ga.out 5 (v := .int .i64 S') rfl
  have s6 := box_cell Ga.out 6 (v := .slice none 0 0) rfl
  have t0 := box_cell ya.out 0 (v := .int .i64 L) rfl
  have t1 := box_cell ya.out 1 (v := .int .i64 S) rfl
  have t2 := box_cell ya.out 2 (v := .slice m1 xs.length n1) rfl
  have t3 := box_cell ya.out 3 (v := .slice m2 ys.length n2) rfl
  have t4 := box_cell ya.out 4 (v := .int .i64 C) rfl
  have t5 := box_cell ya.out 5 (v := .int .i64 S') rfl
  have t6 := box_cell ya.out 6 (v := .slice none 0 0) rfl
  go_wp2_with fail
  refine (eqGetting_same L S C S' f1 f2 m1 m2 h1 h2 n1 n2 xs ys _ (by exact owns_at R1'.out) (by exact owns_at R2'.out) (by exact owns_at O1'.out) (by exact owns_at O2'.out) (by omega) (by omega)).mono ?_
  rintro e wb ⟨rfl, bb⟩
  have xb := hid (kept xa.out bb)
  have yb := hid (kept ya.out bb)
  have Gb := hid (kept Ga.out bb)
  have Bb := hid (below_cat' Ba.out bb)
  have O1 := hid (owns_below O1'.out bb)
  have O2 := hid (owns_below O2'.out bb)
  have R1 := hid (owns_below R1'.out bb)
  have R2 := hid (owns_below R2'.out bb)
  have hzb : w5.heap.size + 1 ≤ wb.heap.size := lt_of_block Gb.out
  clear bb xa ya Ga Ba O1' O2' R1' R2' s0 s1 s2 s3 s4 s5 s6 t0 t1 t2 t3 t4 t5 t6
  have s0 := box_cell Gb.out 0 (v := .int .i64 L) rfl
  have s1 := box_cell Gb.out 1 (v := .int .i64 S) rfl
  have s2 := box_cell Gb.out 2 (v := .slice f1 xs.length h1) rfl
  have s3 := box_cell Gb.out 3 (v := .slice f2 ys.length h2) rfl
  have s4 := box_cell Gb.out 4 (v := .int .i64 C) rfl
  have s5 := box_cell Gb.out 5 (v := .int .i64 S') rfl
  have s6 := box_cell Gb.out 6 (v := .slice none 0 0) rfl
  go_wp2_with fail
  refine (markGetting_any (w4.heap.size + 1) L S C S' f1 f2 h1 h2 xs ys 1 _ (by exact owns_base R1.out (by simp)) (by exact owns_base R2.out (by simp)) AQ.out (by omega) (by omega) (by omega) (by omega) (by omega)).mono ?_
  rintro e wc ⟨rfl, z1, z2, bc, kc⟩
  have hzw := HZW.out
  have u1 := U1.out
  have u2 := U2.out
  have t1' := Q1.out
  have t2' := Q2.out
  have xc := hid ((kc w.heap.size (lt_of_block xb.out) (fun h => by have := t1' _ h; omega) (fun h => by have := t2' _ h; omega)).trans xb.out)
  have yc := hid ((kc w3.heap.size (lt_of_block yb.out) (fun h => by have := t1' _ h; omega) (fun h => by have := t2' _ h; omega)).trans yb.out)
  have Gc := hid ((kc w5.heap.size (lt_of_block Gb.out) (fun h => by have := t1' _ h; omega) (fun h => by have := t2' _ h; omega)).trans Gb.out)
  have O1' := hid (owns_k O1.out kc (fun k h => by have := u1 k h; omega) (fun k h e => by have := t1' _ e; have := u1 k h; omega) (fun k h e => by have := t2' _ e; have := u1 k h; omega))
  have O2' := hid (owns_k O2.out kc (fun k h => by have := u2 k h; omega) (fun k h e => by have := t1' _ e; have := u2 k h; omega) (fun k h e => by have := t2' _ e; have := u2 k h; omega))
  have M1 := hid z1
  have M2 := hid z2
  have Bc := hid (Bb.out.trans (bc.mono (by omega)))
  clear z1 z2 bc kc xb yb Gb O1 O2 R1 R2 Bb s0 s1 s2 s3 s4 s5 s6 t1' t2' u1 u2 hzw
  have s0 := box_cell Gc.out 0 (v := .int .i64 L) rfl
  have s1 := box_cell Gc.out 1 (v := .int .i64 S) rfl
  have s2 := box_cell Gc.out 2 (v := .slice f1 xs.length h1) rfl
  have s3 := box_cell Gc.out 3 (v := .slice f2 ys.length h2) rfl
  have s4 := box_cell Gc.out 4 (v := .int .i64 C) rfl
  have s5 := box_cell Gc.out 5 (v := .int .i64 S') rfl
  have s6 := box_cell Gc.out 6 (v := .slice none 0 0) rfl
  go_wp2_with fail
  refine (heldGetting_any L S C S' f1 f2 xs.length ys.length h1 h2 1 _ (by exact owns_at M1.out) (by exact owns_at M2.out) (by omega) (by omega) (by omega) (by omega)).mono ?_
  rintro e wd ⟨rfl, bd⟩
  have xd := hid (kept xc.out bd)
  have yd := hid (kept yc.out bd)
  have Gd := hid (kept Gc.out bd)
  have Bd := hid (below_cat' Bc.out bd)
  have O1 := hid (owns_below O1'.out bd)
  have O2 := hid (owns_below O2'.out bd)
  have M1' := hid (owns_below M1.out bd)
  have M2' := hid (owns_below M2.out bd)
  clear bd xc yc Gc Bc O1' O2' M1 M2 s0 s1 s2 s3 s4 s5 s6
  have p0 := box_cell xd.out 0 (v := .int .i64 long) rfl
  have p1 := box_cell xd.out 1 (v := .int .i64 size) rfl
  have p2 := box_cell xd.out 2 (v := .slice a1 ws.length c1) rfl
  have p3 := box_cell xd.out 3 (v := .slice a2 gs.length c2) rfl
  go_wp2_with fail
  refine (toPlan_any long size a1 a2 c1 c2 ws gs _ (by exact IA1.out.below Bd.out) (by exact IA2.out.below Bd.out) (by omega) (by omega)).mono ?_
  rintro e we ⟨r1, l1, r2, l2, rfl, i1, i2, be⟩
  have ye := hid (kept yd.out be)
  have Ge := hid (kept Gd.out be)
  have Be := hid (below_cat' Bd.out be)
  have O1' := hid (owns_below O1.out be)
  have O2' := hid (owns_below O2.out be)
  have M1 := hid (owns_below M1'.out be)
  have M2 := hid (owns_below M2'.out be)
  clear be p0 p1 p2 p3 xd yd Gd Bd O1 O2 M1' M2'
  go_wp2_with fail
  refine (IP.out _ r1 r2 l1 l2 i1 i2).mono ?_
  rintro e wf ⟨vf, rfl, ⟨k1, d1, k2, d2, rfl, o1, o2, ap⟩, bf⟩
  have bA := below_alloc' wf (.cells #[.int .i64 L, .int .i64 S, .slice k1 xs.length d1, .slice k2 ys.length d2, .int .i64 C, .int .i64 S', .slice none 0 0] 39)
  have yf := hid (kept (kept ye.out bf) bA)
  have Gf := hid (kept (kept Ge.out bf) bA)
  have Nf := hid (laid wf #[.int .i64 L, .int .i64 S, .slice k1 xs.length d1, .slice k2 ys.length d2, .int .i64 C, .int .i64 S', .slice none 0 0] 39)
  have Bf := hid (below_cat' (below_cat' Be.out bf) bA)
  have O1 := hid (owns_below (owns_below O1'.out bf) bA)
  have O2 := hid (owns_below (owns_below O2'.out bf) bA)
  have M1' := hid (owns_below (owns_below M1.out bf) bA)
  have M2' := hid (owns_below (owns_below M2.out bf) bA)
  have E1 := hid (owns_below o1 bA)
  have E2 := hid (owns_below o2 bA)
  clear bf bA o1 o2 ap i1 i2 ye Ge Be O1' O2' M1 M2
  have s0 := box_cell Nf.out 0 (v := .int .i64 L) rfl
  have s1 := box_cell Nf.out 1 (v := .int .i64 S) rfl
  have s2 := box_cell Nf.out 2 (v := .slice k1 xs.length d1) rfl
  have s3 := box_cell Nf.out 3 (v := .slice k2 ys.length d2) rfl
  have s4 := box_cell Nf.out 4 (v := .int .i64 C) rfl
  have s5 := box_cell Nf.out 5 (v := .int .i64 S') rfl
  have s6 := box_cell Nf.out 6 (v := .slice none 0 0) rfl
  have t0 := box_cell yf.out 0 (v := .int .i64 L) rfl
  have t1 := box_cell yf.out 1 (v := .int .i64 S) rfl
  have t2 := box_cell yf.out 2 (v := .slice m1 xs.length n1) rfl
  have t3 := box_cell yf.out 3 (v := .slice m2 ys.length n2) rfl
  have t4 := box_cell yf.out 4 (v := .int .i64 C) rfl
  have t5 := box_cell yf.out 5 (v := .int .i64 S') rfl
  have t6 := box_cell yf.out 6 (v := .slice none 0 0) rfl
  go_wp2_with fail
  refine (eqGetting_same L S C S' k1 k2 m1 m2 d1 d2 n1 n2 xs ys _ (by exact owns_at E1.out) (by exact owns_at E2.out) (by exact owns_at O1.out) (by exact owns_at O2.out) (by omega) (by omega)).mono ?_
  rintro e wg ⟨rfl, bg⟩
  have Gg := hid (kept Gf.out bg)
  have Bg := hid (below_cat' Bf.out bg)
  have M1 := hid (owns_below M1'.out bg)
  have M2 := hid (owns_below M2'.out bg)
  clear bg yf Gf Nf Bf O1 O2 M1' M2' E1 E2 s0 s1 s2 s3 s4 s5 s6 t0 t1 t2 t3 t4 t5 t6
  have s0 := box_cell Gg.out 0 (v := .int .i64 L) rfl
  have s1 := box_cell Gg.out 1 (v := .int .i64 S) rfl
  have s2 := box_cell Gg.out 2 (v := .slice f1 xs.length h1) rfl
  have s3 := box_cell Gg.out 3 (v := .slice f2 ys.length h2) rfl
  have s4 := box_cell Gg.out 4 (v := .int .i64 C) rfl
  have s5 := box_cell Gg.out 5 (v := .int .i64 S') rfl
  have s6 := box_cell Gg.out 6 (v := .slice none 0 0) rfl
  go_wp2_with fail
  refine (heldGetting_any L S C S' f1 f2 xs.length ys.length h1 h2 1 _ (by exact owns_at M1.out) (by exact owns_at M2.out) (by omega) (by omega) (by omega) (by omega)).mono ?_
  rintro e wh ⟨rfl, bh⟩
  have Bh := hid (below_cat' Bg.out bh)
  clear bh s0 s1 s2 s3 s4 s5 s6
  go_wp2_with fail
  go_ret
  exact ⟨rfl, Bh.out⟩

theorem getNew_small (long size : Int) (a1 a2 : Option Addr) (c1 c2 : Nat) (ws gs : List Int) (w : World) (ha1 : IntsAt w a1 ws) (ha2 : IntsAt w a2 gs) (hs : ws.length + gs.length ≤ 1048576) :
    Calls Try.prog 4 #[.agg #[.int .i64 long, .int .i64 size, .slice a1 ws.length c1, .slice a2 gs.length c2]] w fun e w' => e = .returned (.bool true) ∧ Below w.heap.size w w' := by
  by_cases hp : planP long size ws gs
  · have l1 := hp.2.1.1
    have l2 := hp.2.1.2.1
    have l3 := hp.2.2.2
    have n1 : ws ≠ [] := by intro h; rw [h] at l1; simp at l1
    have n2 : gs ≠ [] := by intro h; rw [h] at l3; simp at l3; omega
    refine getNew_law long size long size (cntI long size) size a1 a2 c1 c2 ws gs ws gs w ha1 ha2 hs (by omega) (by omega) ?_ ?_
    · intro w p1 p2 f1 f2 i1 i2
      obtain ⟨b1, o1, rfl, h1⟩ := i1 n1
      obtain ⟨b2, o2, rfl, h2⟩ := i2 n2
      exact specGetNew_in long size b1 o1 b2 o2 f1 f2 ws gs w h1 h2 (by omega) (by omega) (by omega) (by omega) hp
    · intro w p1 p2 f1 f2 i1 i2
      obtain ⟨b1, o1, rfl, h1⟩ := i1 n1
      obtain ⟨b2, o2, rfl, h2⟩ := i2 n2
      exact implGetNew_in long size b1 o1 b2 o2 f1 f2 ws gs w h1 h2 (by omega) (by omega) (by omega) (by omega) hp
  · exact getNew_law long size 0 0 0 0 a1 a2 c1 c2 ws gs [] [] w ha1 ha2 hs (by simp) (by simp) (fun w p1 p2 f1 f2 i1 i2 => specGetNew_out long size p1 p2 f1 f2 ws gs w i1 i2 (by omega) (by omega) hp) (fun w p1 p2 f1 f2 i1 i2 => implGetNew_out long size p1 p2 f1 f2 ws gs w i1 i2 (by omega) (by omega) hp)

theorem getNew_big (long size : Int) (a1 a2 : Option Addr) (n1 c1 n2 c2 : Nat) (w : World) (hs : 1048576 < n1 + n2) (h1 : n1 ≤ 9223372036854775807) (h2 : n2 ≤ 9223372036854775807) :
    Calls Try.prog 4 #[.agg #[.int .i64 long, .int .i64 size, .slice a1 n1 c1, .slice a2 n2 c2]] w fun e w' => e = .returned (.bool true) ∧ Below w.heap.size w w' := by
  have e1 := hid (show szI 1048576 (n1 + n2) = -1 by unfold szI; rw [if_pos (by omega)])
  go_enter Try.func4, Try.ntmps4
  go_wp2_with fail
  refine (szPlan_any long size a1 a2 _ c1 _ c2 1048576 _ (by omega) (by omega) h1 h2).mono ?_
  rintro e w1 ⟨rfl, b1⟩
  rw [e1.out]
  go_wp2_with fail
  go_ret
  exact ⟨rfl, below_cat' (below_alloc' _ _) b1⟩

theorem walk_FnExactGetNew (cs0 : List Value) (w : World) (w0 : Reads w 24 cs0) :
    Calls Try.prog 4 #[.agg cs0.toArray] w fun e w' => e = .returned (.bool true) ∧ Below w.heap.size w w' := by
  obtain ⟨long, size, b1, n1, k1, z1, b2, n2, k2, z2, rfl, _, _, r1, r2⟩ := reads_plan w0
  by_cases h : n1 + n2 ≤ 1048576
  · have := getNew_small long size b1 b2 k1 k2 (z1.take n1) (z2.take n2) w (isRow_ints r1) (isRow_ints r2) (by rw [isRow_len r1, isRow_len r2]; exact h)
    rw [isRow_len r1, isRow_len r2] at this
    exact this
  · exact getNew_big long size b1 b2 n1 k1 n2 k2 w (by omega) (isRow_le r1) (isRow_le r2)
end Go.Proofs.Ytgoidhppffoldaa
