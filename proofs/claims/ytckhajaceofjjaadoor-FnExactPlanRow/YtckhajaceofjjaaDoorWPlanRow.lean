/- The walk of the law on rows of symbols. -/
import Derived.Test.YtckhajaceofjjaaDoorPRowS
import Derived.Test.YtckhajaceofjjaaDoorPlanMk
import Derived.Test.YtckhajaceofjjaaDoorPlanA
import Derived.Deep.RegionHeld3
namespace Go.Proofs.YtckhajaceofjjaaDoor
open Go.ChangeShapes Go.WideShapes Go.ChangeAt Go.RowKit Go.Sort

theorem rowP_len (long size : Int) (ws gs : List Int) (id : Int) : (rowP long size ws gs id).length ≤ 24 := by
  unfold rowP
  split
  · next h =>
    unfold rowI
    split
    · simp
    · have hb := win_bd h.1.2.1 h.1.2.2 h.1.1.2.2.2.2 id
      have h1 := drawN_le (winN ws gs id).toNat id (by omega)
      have h2 := (drawSt_len (winN ws gs id).toNat (nx (nx id)) _ h1).2
      unfold drawI
      omega
  · simp

/-- A row in blocks that stayed stays. -/
theorem owns_k {w w' : World} {base : Nat} {e : TypeId} {size : Nat} {v p q : Value} {n : Nat} {xs : List Value} (h : w.ownsRow base e size v n xs) (hk : ∀ g, g < w.heap.size → p.ownBlock ≠ some g → q.ownBlock ≠ some g → w'.heap[g]? = w.heap[g]?)
    (hl : ∀ k, v.ownBlock = some k → k < w.heap.size) (hp : ∀ k, v.ownBlock = some k → p.ownBlock ≠ some k) (hq : ∀ k, v.ownBlock = some k → q.ownBlock ≠ some k) : w'.ownsRow base e size v n xs := by
  obtain ⟨h1, h2⟩ := h
  refine ⟨h1, ?_⟩
  rcases h2 with h2 | ⟨g, cap, cur, hv, hg, hh, r⟩
  · exact Or.inl h2
  · have hb : v.ownBlock = some g := by rw [hv]; rfl
    exact Or.inr ⟨g, cap, cur, hv, hg, by rw [hk g (hl g hb) (hp g hb) (hq g hb)]; exact hh, r⟩

set_option maxHeartbeats 8000000 in
theorem planRow_small (long size id : Int) (a1 a2 : Option Addr) (c1 c2 : Nat) (ws gs : List Int) (w : World) (ha1 : IntsAt w a1 ws) (ha2 : IntsAt w a2 gs) (hs : ws.length + gs.length ≤ 1048576) (hT : Tab w) :
    Calls Tryd.prog 3 #[.agg #[.int .i64 long, .int .i64 size, .slice a1 ws.length c1, .slice a2 gs.length c2], .int .i64 id] w fun e w' => e = .returned (.bool true) ∧ Below w.heap.size w w' := by
  have e1 := hid (show szI 1048576 (ws.length + gs.length) = 1048576 - ((ws.length + gs.length : Nat) : Int) by unfold szI; rw [if_neg (by omega)])
  have hR := rowP_len long size ws gs id
  have IA1 := hid ha1
  have IA2 := hid ha2
  have HT := hid hT
  clear ha1 ha2 hT
  obtain ⟨R, hRd⟩ : ∃ R, R = (rowP long size ws gs id) := ⟨_, rfl⟩
  rw [← hRd] at hR
  have SP := hid (fun (w : World) (p1 p2 : Option Addr) (f1 f2 : Nat) (i1 : IntsAt w p1 ws) (i2 : IntsAt w p2 gs) => hRd ▸ specPlanRow long size id p1 p2 f1 f2 ws gs w i1 i2 (by omega) (by omega))
  have IP := hid (fun (w : World) (p1 p2 : Option Addr) (f1 f2 : Nat) (i1 : IntsAt w p1 ws) (i2 : IntsAt w p2 gs) (hT : Tab w) => hRd ▸ implPlanRow long size id p1 p2 f1 f2 ws gs w i1 i2 (by omega) (by omega) hT)
  clear hRd
  go_enter Tryd.func3, Tryd.ntmps3
  go_wp2_with fail
  refine (szPlan_any long size a1 a2 _ c1 _ c2 1048576 _ (by omega) (by omega) (by omega) (by omega)).mono ?_
  rintro e w1 ⟨rfl, b1⟩
  rw [e1.out]
  have x1 := hid (kept (laid w #[.int .i64 long, .int .i64 size, .slice a1 ws.length c1, .slice a2 gs.length c2] 24) b1)
  have B1 := hid (below_cat' (below_alloc' _ _) b1)
  clear b1
  have p0 := box_cell x1.out 0 (v := .int .i64 long) rfl
  have p1 := box_cell x1.out 1 (v := .int .i64 size) rfl
  have p2 := box_cell x1.out 2 (v := .slice a1 ws.length c1) rfl
  have p3 := box_cell x1.out 3 (v := .slice a2 gs.length c2) rfl
  go_wp2_with fail
  refine (toPlan_any long size a1 a2 c1 c2 ws gs _ (by exact IA1.out.below B1.out) (by exact IA2.out.below B1.out) (by omega) (by omega)).mono ?_
  rintro e w2 ⟨r1, f1, r2, f2, rfl, i1, i2, b2⟩
  have x2 := hid (kept x1.out b2)
  have B2 := hid (below_cat' B1.out b2)
  clear b2 p0 p1 p2 p3 x1 B1
  go_wp2_with fail
  refine (SP.out _ r1 r2 f1 f2 i1 i2).mono ?_
  rintro e w3 ⟨v3, rfl, o3, b3⟩
  obtain ⟨m3, n3, rfl, -, -⟩ := owns_ints o3
  have x3 := hid (kept x2.out b3)
  have B3 := hid (below_cat' B2.out b3)
  have O3 := hid o3
  have U3 := hid (fun k h => (o3.lt k h).2)
  have hzw : w.heap.size < w3.heap.size := lt_of_block x3.out
  have HZW := hid hzw
  clear hzw
  clear b3 i1 i2 x2 B2 o3
  have p0 := box_cell x3.out 0 (v := .int .i64 long) rfl
  have p1 := box_cell x3.out 1 (v := .int .i64 size) rfl
  have p2 := box_cell x3.out 2 (v := .slice a1 ws.length c1) rfl
  have p3 := box_cell x3.out 3 (v := .slice a2 gs.length c2) rfl
  go_wp2_with fail
  refine (toPlan_own long size a1 a2 c1 c2 ws gs _ (by exact IA1.out.below B3.out) (by exact IA2.out.below B3.out) (by omega) (by omega)).mono ?_
  rintro e w4 ⟨q1, g1, q2, g2, rfl, j1, j2, ap, b4⟩
  have bA := below_alloc' w4 (.cells #[.int .i64 long, .int .i64 size, .slice q1 ws.length g1, .slice q2 gs.length g2] 27)
  have x4 := hid (kept (kept x3.out b4) bA)
  have y4 := hid (laid w4 #[.int .i64 long, .int .i64 size, .slice q1 ws.length g1, .slice q2 gs.length g2] 27)
  have B4 := hid (below_cat' (below_cat' B3.out b4) bA)
  have J1 := hid (owns_below j1 bA)
  have J2 := hid (owns_below j2 bA)
  have AP := hid ap
  have V1 := hid (fun k h => (j1.lt k h))
  have V2 := hid (fun k h => (j2.lt k h))
  have O4 := hid (owns_below (owns_below O3.out b4) bA)
  have hz3 : w3.heap.size ≤ w4.heap.size := b4.size
  have T4 := hid (HT.out.below B4.out)
  clear b4 p0 p1 p2 p3 x3 B3 j1 j2 ap bA O3
  have s0 := box_cell y4.out 0 (v := .int .i64 long) rfl
  have s1 := box_cell y4.out 1 (v := .int .i64 size) rfl
  have s2 := box_cell y4.out 2 (v := .slice q1 ws.length g1) rfl
  have s3 := box_cell y4.out 3 (v := .slice q2 gs.length g2) rfl
  go_wp2_with fail
  refine (IP.out _ q1 q2 g1 g2 (by exact owns_at J1.out) (by exact owns_at J2.out) T4.out).mono ?_
  rintro e w5 ⟨v5, rfl, o5, b5⟩
  obtain ⟨m5, n5, rfl, -, -⟩ := owns_ints o5
  have x5 := hid (kept x4.out b5)
  have y5 := hid (kept y4.out b5)
  have B5 := hid (below_cat' B4.out b5)
  have K1 := hid (owns_below J1.out b5)
  have K2 := hid (owns_below J2.out b5)
  have O5 := hid (owns_below O4.out b5)
  have P5 := hid o5
  have U5 := hid (fun k h => (o5.lt k h))
  have hz4 : w4.heap.size + 1 ≤ w5.heap.size := by have := b5.size; simpa using this
  clear b5 o5 x4 y4 B4 J1 J2 O4 s0 s1 s2 s3
  go_wp2_with fail
  refine (eqIntS_any m5 m3 n5 n3 R R _ (by exact owns_at P5.out) (by exact owns_at O5.out) (by omega)).mono ?_
  rintro e w6 ⟨rfl, n6, rfl⟩
  have D6 := below_drewN (Below.refl w5.heap.size w5) n6
  have x6 := hid (kept x5.out D6)
  have y6 := hid (kept y5.out D6)
  have B6 := hid (below_cat' B5.out D6)
  have L1 := hid (owns_below K1.out D6)
  have L2 := hid (owns_below K2.out D6)
  have O6 := hid (owns_below O5.out D6)
  have P6 := hid (owns_below P5.out D6)
  clear D6 x5 y5 B5 K1 K2 O5 P5
  obtain ⟨W6, hW6⟩ : ∃ W6, W6 = w5.drewN n6 := ⟨_, rfl⟩
  have hz6 : W6.heap.size = w5.heap.size := by rw [hW6]; rfl
  rw [← hW6] at x6 y6 B6 L1 L2 O6 P6 ⊢
  have HZ6 := hid hz6
  clear hW6 hz6
  have p0 := box_cell x6.out 0 (v := .int .i64 long) rfl
  have p1 := box_cell x6.out 1 (v := .int .i64 size) rfl
  have p2 := box_cell x6.out 2 (v := .slice a1 ws.length c1) rfl
  have p3 := box_cell x6.out 3 (v := .slice a2 gs.length c2) rfl
  have s0 := box_cell y6.out 0 (v := .int .i64 long) rfl
  have s1 := box_cell y6.out 1 (v := .int .i64 size) rfl
  have s2 := box_cell y6.out 2 (v := .slice q1 ws.length g1) rfl
  have s3 := box_cell y6.out 3 (v := .slice q2 gs.length g2) rfl
  have m1 : w.heap.size < W6.heap.size := lt_of_block x6.out
  have m2 : w4.heap.size < W6.heap.size := lt_of_block y6.out
  go_wp2_with fail
  go_region_held3 (fun w' => w'.cell? ⟨w.heap.size, 0, none⟩ = some (.int .i64 long) ∧ w'.cell? ⟨w.heap.size, 1, none⟩ = some (.int .i64 size) ∧ w'.cell? ⟨w.heap.size, 2, none⟩ = some (.slice a1 ws.length c1) ∧ w'.cell? ⟨w.heap.size, 3, none⟩ = some (.slice a2 gs.length c2) ∧ w'.cell? ⟨w4.heap.size, 0, none⟩ = some (.int .i64 long) ∧ w'.cell? ⟨w4.heap.size, 1, none⟩ = some (.int .i64 size) ∧ w'.cell? ⟨w4.heap.size, 2, none⟩ = some (.slice q1 ws.length g1) ∧ w'.cell? ⟨w4.heap.size, 3, none⟩ = some (.slice q2 gs.length g2)) (go_keep) (first
    | (go_at_call 7; refine (toPlan_any long size a1 a2 c1 c2 ws gs _ (by exact (IA1.out.below B6.out).drewN 1) (by exact (IA2.out.below B6.out).drewN 1) (by omega) (by omega)).mono ?_; rintro e w7 ⟨t1, h1, t2, h2, rfl, k1, k2, b7⟩; have hc7 : ∀ bb o, bb < W6.heap.size → w7.cell? ⟨bb, o, none⟩ = W6.cell? ⟨bb, o, none⟩ := (bcell b7).1; have I1 := hid k1; have I2 := hid k2; have B7 := hid b7; clear k1 k2 b7)
    | (go_at_call 10; refine (eqPlan_same long size q1 q2 t1 t2 g1 g2 h1 h2 ws gs _ (by exact ((owns_at L1.out).drewN 1).below B7.out) (by exact ((owns_at L2.out).drewN 1).below B7.out) (by exact I1.out) (by exact I2.out) (by omega) (by omega)).mono ?_; rintro e w8 ⟨rfl, b8⟩; have hc8 : ∀ bb o, bb < w7.heap.size → w8.cell? ⟨bb, o, none⟩ = w7.cell? ⟨bb, o, none⟩ := (bcell b8).1; have m3 : W6.heap.size ≤ w7.heap.size := B7.out.size; have m4 : w.heap.size < w7.heap.size := (by omega); have m5 : w4.heap.size < w7.heap.size := (by omega); have B8 := hid b8; clear b8))
  have D8 : Below W6.heap.size W6 w8 := below_cat' (below_drewN (Below.refl _ _) 1) (below_cat' B7.out B8.out)
  have x8 := hid (kept x6.out D8)
  have y8 := hid (kept y6.out D8)
  have B9 := hid (below_cat' B6.out D8)
  have N1 := hid (owns_below L1.out D8)
  have N2 := hid (owns_below L2.out D8)
  have O8 := hid (owns_below O6.out D8)
  have P8 := hid (owns_below P6.out D8)
  have hz8 : w5.heap.size ≤ w8.heap.size := by have := D8.size; have := HZ6.out; omega
  clear D8 x6 y6 B6 L1 L2 O6 P6 p0 p1 p2 p3 s0 s1 s2 s3 hc7 hc8 B7 B8 I1 I2 m1 m2 m3 m4 m5
  have s0 := box_cell y8.out 0 (v := .int .i64 long) rfl
  have s1 := box_cell y8.out 1 (v := .int .i64 size) rfl
  have s2 := box_cell y8.out 2 (v := .slice q1 ws.length g1) rfl
  have s3 := box_cell y8.out 3 (v := .slice q2 gs.length g2) rfl
  go_wp2_with fail
  refine (markPlan_any w3.heap.size long size q1 q2 g1 g2 ws gs 1 _ (by exact N1.out) (by exact N2.out) AP.out (by omega) (by omega) (by omega) (by omega) (by omega)).mono ?_
  rintro e w9 ⟨rfl, -, -, b9, k9⟩
  have hzw := HZW.out
  have xa := hid ((k9 w.heap.size (lt_of_block x8.out) (fun h => by have := (V1.out _ h).1; omega) (fun h => by have := (V2.out _ h).1; omega)).trans x8.out)
  have Oa := hid (owns_k O8.out k9 (fun k h => by have := U3.out k h; omega) (fun k h e => by have := (V1.out _ e).1; have := U3.out k h; omega) (fun k h e => by have := (V2.out _ e).1; have := U3.out k h; omega))
  have Pa := hid (owns_k P8.out k9 (fun k h => by have := (U5.out k h).2; omega) (fun k h e => by have := (V1.out _ e).2; have := (U5.out k h).1; simp at this; omega) (fun k h e => by have := (V2.out _ e).2; have := (U5.out k h).1; simp at this; omega))
  have hb39 := b9.size
  have Ba := hid (B9.out.trans (b9.mono (by omega)))
  clear b9 k9 s0 s1 s2 s3 x8 y8 N1 N2 O8 P8
  go_wp2_with fail
  refine (eqIntS_any m5 m3 n5 n3 R R _ (by exact owns_at Pa.out) (by exact owns_at Oa.out) (by omega)).mono ?_
  rintro e wb ⟨rfl, nb, rfl⟩
  have Db := below_drewN (Below.refl w9.heap.size w9) nb
  have xb := hid (kept xa.out Db)
  have Bb := hid (below_cat' Ba.out Db)
  have Ob := hid (owns_below Oa.out Db)
  have Pb := hid (owns_below Pa.out Db)
  have hzb : w9.heap.size = (w9.drewN nb).heap.size := rfl
  have HZB := hid hzb
  clear Db xa Ba Oa Pa hzb
  go_wp2_with fail
  refine (markIntS_any (w4.heap.size + 1) _ R.length R 1 _ (by exact owns_base Pb.out (by simp)) (by omega) (by omega) (by omega)).mono ?_
  rintro e wc ⟨rfl, oc, gc⟩
  have xc := hid ((gc.block w.heap.size (lt_of_block xb.out) (fun h => by have := (U5.out _ h.symm).1; simp at this; omega)).trans xb.out)
  have Oc := hid (owns_grown Ob.out gc (fun k h e => by have h5 := (U5.out k e).1; have h3 := U3.out k h; simp at h5; omega))
  have Bc := hid (Bb.out.trans ((Below.refl _ _).grown gc (by have := Bb.out.size; omega) (fun k h => by have := (U5.out k h).1; simp at this; omega)))
  have OC := hid oc
  clear oc gc xb Bb Ob Pb
  go_wp2_with fail
  refine (heldIntS_any m5 n5 R.length 1 _ (by exact owns_at OC.out) (by omega) (by omega) (by omega)).mono ?_
  rintro e wd ⟨rfl, hq⟩
  subst hq
  have p0 := box_cell xc.out 0 (v := .int .i64 long) rfl
  have p1 := box_cell xc.out 1 (v := .int .i64 size) rfl
  have p2 := box_cell xc.out 2 (v := .slice a1 ws.length c1) rfl
  have p3 := box_cell xc.out 3 (v := .slice a2 gs.length c2) rfl
  go_wp2_with fail
  refine (toPlan_any long size a1 a2 c1 c2 ws gs _ (by exact IA1.out.below Bc.out) (by exact IA2.out.below Bc.out) (by omega) (by omega)).mono ?_
  rintro e we ⟨u1, v1, u2, v2, rfl, i1, i2, be⟩
  have Be := hid (below_cat' Bc.out be)
  have Te := hid (HT.out.below Be.out)
  have Oe := hid (owns_below Oc.out be)
  have OCe := hid (owns_below OC.out be)
  clear be p0 p1 p2 p3
  go_wp2_with fail
  refine (IP.out _ u1 u2 v1 v2 i1 i2 Te.out).mono ?_
  rintro e wf ⟨vf, rfl, of', bf⟩
  obtain ⟨mf, nf, rfl, -, jf⟩ := owns_ints of'
  have Bf := hid (below_cat' Be.out bf)
  have Of := hid (owns_below Oe.out bf)
  have OCf := hid (owns_below OCe.out bf)
  have JF := hid jf
  clear bf of' jf i1 i2
  go_wp2_with fail
  refine (eqIntS_any mf m3 nf n3 R R _ (by exact JF.out) (by exact owns_at Of.out) (by omega)).mono ?_
  rintro e wg ⟨rfl, ng, rfl⟩
  have Dg := below_drewN (Below.refl wf.heap.size wf) ng
  have Bg := hid (below_cat' Bf.out Dg)
  have OCg := hid (owns_below OCf.out Dg)
  clear Dg
  go_wp2_with fail
  refine (heldIntS_any m5 n5 R.length 1 _ (by exact owns_at OCg.out) (by omega) (by omega) (by omega)).mono ?_
  rintro e wh ⟨rfl, hq⟩
  subst hq
  go_wp2_with fail
  go_ret
  exact ⟨rfl, Bg.out⟩

theorem planRow_big (long size id : Int) (a1 a2 : Option Addr) (n1 c1 n2 c2 : Nat) (w : World) (hs : 1048576 < n1 + n2) (h1 : n1 ≤ 9223372036854775807) (h2 : n2 ≤ 9223372036854775807) :
    Calls Tryd.prog 3 #[.agg #[.int .i64 long, .int .i64 size, .slice a1 n1 c1, .slice a2 n2 c2], .int .i64 id] w fun e w' => e = .returned (.bool true) ∧ Below w.heap.size w w' := by
  have e1 := hid (show szI 1048576 (n1 + n2) = -1 by unfold szI; rw [if_pos (by omega)])
  go_enter Tryd.func3, Tryd.ntmps3
  go_wp2_with fail
  refine (szPlan_any long size a1 a2 _ c1 _ c2 1048576 _ (by omega) (by omega) h1 h2).mono ?_
  rintro e w1 ⟨rfl, b1⟩
  rw [e1.out]
  go_wp2_with fail
  go_ret
  exact ⟨rfl, below_cat' (below_alloc' _ _) b1⟩

theorem walk_FnExactPlanRow (cs0 : List Value) (a1 : Int) (w : World) (w0 : Reads w 24 cs0) (_w1 : (Lit.int .i64 a1).wf = true) (hT : Tab w) :
    Calls Tryd.prog 3 #[.agg cs0.toArray, .int .i64 a1] w fun e w' => e = .returned (.bool true) ∧ Below w.heap.size w w' := by
  obtain ⟨long, size, b1, n1, k1, z1, b2, n2, k2, z2, rfl, _, _, r1, r2⟩ := reads_plan w0
  by_cases h : n1 + n2 ≤ 1048576
  · have := planRow_small long size a1 b1 b2 k1 k2 (z1.take n1) (z2.take n2) w (isRow_ints r1) (isRow_ints r2) (by rw [isRow_len r1, isRow_len r2]; exact h) hT
    rw [isRow_len r1, isRow_len r2] at this
    exact this
  · exact planRow_big long size a1 b1 b2 n1 k1 n2 k2 w (by omega) (isRow_le r1) (isRow_le r2)
end Go.Proofs.YtckhajaceofjjaaDoor
