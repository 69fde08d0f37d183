/- The walk of the law on texts cut into blocks. -/
import Derived.Test.YtcoofoiaaljpoaaPcJ
import Derived.Test.YtcoofoiaaljpoaaPlanMk
import Derived.Test.YtcoofoiaaljpoaaPlanA
import Derived.Test.YtcoofoiaaljpoaaStrM
import Derived.Test.YtcoofoiaaljpoaaStrsE
import Derived.Deep.RegionHeld3
namespace Go.Proofs.Ytcoofoiaaljpoaa
open Go.ChangeShapes Go.WideShapes Go.ChangeAt Go.RowKit Go.Sort

/-- What PlanCut answers. -/
def blkR (t : ByteArray) (long size : Int) (ws gs : List Int) : List ByteArray := if planP long size ws gs ∧ (t.size : Int) = long then blkP t long.toNat size.toNat else []
def OwR (w : World) (base : Nat) (a : Option Addr) (c : Nat) (R : List ByteArray) : Prop := R ≠ [] → w.ownsRow base 9 1 (.slice a R.length c) R.length (R.map Value.string)
theorem own_strs {w : World} {base : Nat} {a : Option Addr} {c : Nat} {R : List ByteArray} (h : w.ownsRow base 9 1 (.slice a R.length c) R.length (R.map Value.string)) : StrsAt w a R := by
  obtain ⟨a', c', e, -, hs⟩ := owns_strs h
  cases e
  exact hs
theorem OwR.strs {w : World} {base : Nat} {a : Option Addr} {c : Nat} {R : List ByteArray} (h : OwR w base a c R) : StrsAt w a R := fun hne => own_strs (h hne) hne
theorem OwR.below {w w' : World} {base : Nat} {a : Option Addr} {c : Nat} {R : List ByteArray} (h : OwR w base a c R) (b : Below w.heap.size w w') : OwR w' base a c R := fun hne => owns_below (h hne) b
theorem OwR.kept {w w' : World} {base B : Nat} {a : Option Addr} {c : Nat} {R : List ByteArray} (h : OwR w base a c R) (hB : R ≠ [] → ∀ k, (.slice a R.length c : Value).ownBlock = some k → k < B) (hk : ∀ g, g < B → w'.heap[g]? = w.heap[g]?) : OwR w' base a c R := fun hne => by
  obtain ⟨h1, h2⟩ := h hne
  refine ⟨h1, ?_⟩
  rcases h2 with h2 | ⟨g, cap, cur, hv, hg, hh, r⟩
  · exact Or.inl h2
  · exact Or.inr ⟨g, cap, cur, hv, hg, by rw [hk g (hB hne g (by rw [hv]; rfl))]; exact hh, r⟩
/-- A row in blocks that stayed stays. -/
theorem owns_kc {w w' : World} {base : Nat} {e : TypeId} {size : Nat} {v p q : Value} {n : Nat} {xs : List Value} (h : w.ownsRow base e size v n xs) (hk : ∀ g, g < w.heap.size → p.ownBlock ≠ some g → q.ownBlock ≠ some g → w'.heap[g]? = w.heap[g]?)
    (hl : ∀ k, v.ownBlock = some k → k < w.heap.size) (hp : ∀ k, v.ownBlock = some k → p.ownBlock ≠ some k) (hq : ∀ k, v.ownBlock = some k → q.ownBlock ≠ some k) : w'.ownsRow base e size v n xs := by
  obtain ⟨h1, h2⟩ := h
  refine ⟨h1, ?_⟩
  rcases h2 with h2 | ⟨g, cap, cur, hv, hg, hh, r⟩
  · exact Or.inl h2
  · have hb : v.ownBlock = some g := by rw [hv]; rfl
    exact Or.inr ⟨g, cap, cur, hv, hg, by rw [hk g (hl g hb) (hp g hb) (hq g hb)]; exact hh, r⟩

theorem blkR_len (t : ByteArray) (long size : Int) (ws gs : List Int) : (blkR t long size ws gs).length ≤ 24 := by
  unfold blkR
  split
  · next h =>
    have hc := h.1.1
    have l1 : (long.toNat : Int) = long := by have := hc.1; omega
    have l2 : (size.toNat : Int) = size := by have := hc.2.2.1; omega
    unfold blkP
    rw [l1, l2, cutP_len]
    have := hc.2.2.2.2
    omega
  · simp

theorem spec_cut (long size : Int) (a1 a2 : Option Addr) (c1 c2 : Nat) (ws gs : List Int) (t : ByteArray) (w : World) (ha1 : IntsAt w a1 ws) (ha2 : IntsAt w a2 gs) (hx : ws.length ≤ 1048576) (hy : gs.length ≤ 1048576) :
    Calls Try.prog 5 #[.agg #[.int .i64 long, .int .i64 size, .slice a1 ws.length c1, .slice a2 gs.length c2], .string t] w fun e w' => ∃ a c, e = .returned (.slice a (blkR t long size ws gs).length c) ∧ OwR w' w.heap.size a c (blkR t long size ws gs) ∧ Below w.heap.size w w' := by
  by_cases h : planP long size ws gs ∧ (t.size : Int) = long
  · have hR : blkR t long size ws gs = blkP t long.toNat size.toNat := if_pos h
    have hc := h.1.1
    obtain ⟨L, rfl⟩ : ∃ L : Nat, long = L := ⟨long.toNat, by have := hc.1; omega⟩
    obtain ⟨S, rfl⟩ : ∃ S : Nat, size = S := ⟨size.toNat, by have := hc.2.2.1; omega⟩
    rw [Int.toNat_natCast, Int.toNat_natCast] at hR
    rw [hR]
    refine (specPlanCut_in L S a1 a2 c1 c2 ws gs t w ha1 ha2 hx hy h.1 (by omega)).mono ?_
    rintro e w' ⟨v, rfl, o, b⟩
    obtain ⟨a, c, rfl, -, -⟩ := owns_strs o
    exact ⟨a, c, rfl, fun _ => o, b⟩
  · have hR : blkR t long size ws gs = [] := if_neg h
    rw [hR]
    refine (specPlanCut_out long size a1 a2 c1 c2 ws gs t w ha1 ha2 hx hy h).mono ?_
    rintro e w' ⟨a, rfl, b⟩
    exact ⟨a, 0, rfl, fun hne => absurd rfl hne, b⟩
theorem impl_cut (long size : Int) (a1 a2 : Option Addr) (c1 c2 : Nat) (ws gs : List Int) (t : ByteArray) (w : World) (ha1 : IntsAt w a1 ws) (ha2 : IntsAt w a2 gs) (hx : ws.length ≤ 1048576) (hy : gs.length ≤ 1048576) :
    Calls Try.prog 7 #[.agg #[.int .i64 long, .int .i64 size, .slice a1 ws.length c1, .slice a2 gs.length c2], .string t] w fun e w' => ∃ a c, e = .returned (.slice a (blkR t long size ws gs).length c) ∧ w'.ownsRow w.heap.size 9 1 (.slice a (blkR t long size ws gs).length c) (blkR t long size ws gs).length ((blkR t long size ws gs).map Value.string) ∧ Below w.heap.size w w' := by
  by_cases h : planP long size ws gs ∧ (t.size : Int) = long
  · have hR : blkR t long size ws gs = blkP t long.toNat size.toNat := if_pos h
    have hc := h.1.1
    obtain ⟨L, rfl⟩ : ∃ L : Nat, long = L := ⟨long.toNat, by have := hc.1; omega⟩
    obtain ⟨S, rfl⟩ : ∃ S : Nat, size = S := ⟨size.toNat, by have := hc.2.2.1; omega⟩
    rw [Int.toNat_natCast, Int.toNat_natCast] at hR
    rw [hR]
    exact implPlanCut_in L S a1 a2 c1 c2 ws gs t w ha1 ha2 hx hy h.1 (by omega)
  · have hR : blkR t long size ws gs = [] := if_neg h
    rw [hR]
    refine (implPlanCut_out long size a1 a2 c1 c2 ws gs t w ha1 ha2 hx hy h).mono ?_
    rintro e w' ⟨rfl, b⟩
    exact ⟨none, 0, rfl, ⟨rfl, .inl ⟨rfl, rfl⟩⟩, b⟩

set_option maxHeartbeats 16000000 in
set_option maxRecDepth 100000 in
theorem planCut_small (long size : Int) (a1 a2 : Option Addr) (c1 c2 : Nat) (ws gs : List Int) (t : ByteArray) (w : World) (ha1 : IntsAt w a1 ws) (ha2 : IntsAt w a2 gs) (hs : ws.length + gs.length ≤ 1048576) (ht : t.size ≤ 1048576) :
    Calls Try.prog 3 #[.agg #[.int .i64 long, .int .i64 size, .slice a1 ws.length c1, .slice a2 gs.length c2], .string t] w fun e w' => e = .returned (.bool true) ∧ Below w.heap.size w w' := by
  have e1 := hid (show szI 1048576 (ws.length + gs.length) = 1048576 - ((ws.length + gs.length : Nat) : Int) by unfold szI; rw [if_neg (by omega)])
  have hR := blkR_len t long size ws gs
  have IA1 := hid ha1
  have IA2 := hid ha2
  clear ha1 ha2
  obtain ⟨R, hRd⟩ : ∃ R, R = blkR t long size ws gs := ⟨_, rfl⟩
  rw [← hRd] at hR
  have SP := hid (fun (w : World) (p1 p2 : Option Addr) (f1 f2 : Nat) (i1 : IntsAt w p1 ws) (i2 : IntsAt w p2 gs) => hRd ▸ spec_cut long size p1 p2 f1 f2 ws gs t w i1 i2 (by omega) (by omega))
  have IP := hid (fun (w : World) (p1 p2 : Option Addr) (f1 f2 : Nat) (i1 : IntsAt w p1 ws) (i2 : IntsAt w p2 gs) => hRd ▸ impl_cut long size p1 p2 f1 f2 ws gs t w i1 i2 (by omega) (by omega))
  have hd' : decide ((1048576 : Int) < (t.size : Int)) = false := decide_eq_false (by omega)
  clear hRd
  go_enter Try.func3, Try.ntmps3
  go_wp2_with fail
  refine (szPlan_any long size a1 a2 _ c1 _ c2 1048576 _ (by omega) (by omega) (by omega) (by omega)).mono ?_
  rintro e w1 ⟨rfl, b1⟩
  rw [e1.out]
  have x1 := hid (kept (laid w #[.int .i64 long, .int .i64 size, .slice a1 ws.length c1, .slice a2 gs.length c2] 24) b1)
  have B1 := hid (below_cat' (below_alloc' _ _) b1)
  clear b1
  have p0 := box_cell x1.out 0 (v := .int .i64 long) rfl
  have p1 := box_cell x1.out 1 (v := .int .i64 size) rfl
  have p2 := box_cell x1.out 2 (v := .slice a1 ws.length c1) rfl
  have p3 := box_cell x1.out 3 (v := .slice a2 gs.length c2) rfl
  go_wp2_with fail
  refine (toPlan_any long size a1 a2 c1 c2 ws gs _ (by exact IA1.out.below B1.out) (by exact IA2.out.below B1.out) (by omega) (by omega)).mono ?_
  rintro e w2 ⟨r1, f1, r2, f2, rfl, i1, i2, b2⟩
  have x2 := hid (kept x1.out b2)
  have B2 := hid (below_cat' B1.out b2)
  clear b2 p0 p1 p2 p3 x1 B1
  go_wp2_with fail
  refine (SP.out _ r1 r2 f1 f2 i1 i2).mono ?_
  rintro e w3 ⟨m3, n3, rfl, o3, b3⟩
  have x3 := hid (kept x2.out b3)
  have B3 := hid (below_cat' B2.out b3)
  have O3 := hid o3
  have U3 := hid (fun (hne : R ≠ []) k h => ((o3 hne).lt k h).2)
  have hzw : w.heap.size < w3.heap.size := lt_of_block x3.out
  have HZW := hid hzw
  clear hzw
  clear b3 i1 i2 x2 B2 o3
  have p0 := box_cell x3.out 0 (v := .int .i64 long) rfl
  have p1 := box_cell x3.out 1 (v := .int .i64 size) rfl
  have p2 := box_cell x3.out 2 (v := .slice a1 ws.length c1) rfl
  have p3 := box_cell x3.out 3 (v := .slice a2 gs.length c2) rfl
  go_wp2_with fail
  refine (toPlan_own long size a1 a2 c1 c2 ws gs _ (by exact IA1.out.below B3.out) (by exact IA2.out.below B3.out) (by omega) (by omega)).mono ?_
  rintro e w4 ⟨q1, g1, q2, g2, rfl, j1, j2, ap, b4⟩
  have bA := below_alloc' w4 (.cells #[.int .i64 long, .int .i64 size, .slice q1 ws.length g1, .slice q2 gs.length g2] 28)
  have x4 := hid (kept (kept x3.out b4) bA)
  have y4 := hid (laid w4 #[.int .i64 long, .int .i64 size, .slice q1 ws.length g1, .slice q2 gs.length g2] 28)
  have B4 := hid (below_cat' (below_cat' B3.out b4) bA)
  have J1 := hid (owns_below j1 bA)
  have J2 := hid (owns_below j2 bA)
  have AP := hid ap
  have V1 := hid (fun k h => (j1.lt k h))
  have V2 := hid (fun k h => (j2.lt k h))
  have O4 := hid ((O3.out.below b4).below bA)
  have hz3 : w3.heap.size ≤ w4.heap.size := b4.size
  clear b4 p0 p1 p2 p3 x3 B3 j1 j2 ap bA O3
  have s0 := box_cell y4.out 0 (v := .int .i64 long) rfl
  have s1 := box_cell y4.out 1 (v := .int .i64 size) rfl
  have s2 := box_cell y4.out 2 (v := .slice q1 ws.length g1) rfl
  have s3 := box_cell y4.out 3 (v := .slice q2 gs.length g2) rfl
  go_wp2_with fail
  refine (IP.out _ q1 q2 g1 g2 (by exact owns_at J1.out) (by exact owns_at J2.out)).mono ?_
  rintro e w5 ⟨m5, n5, rfl, o5, b5⟩
  have x5 := hid (kept x4.out b5)
  have y5 := hid (kept y4.out b5)
  have B5 := hid (below_cat' B4.out b5)
  have K1 := hid (owns_below J1.out b5)
  have K2 := hid (owns_below J2.out b5)
  have O5 := hid (O4.out.below b5)
  have P5 := hid o5
  have U5 := hid (fun k h => (o5.lt k h))
  have hz4 : w4.heap.size + 1 ≤ w5.heap.size := by have := b5.size; simpa using this
  clear b5 o5 x4 y4 B4 J1 J2 O4 s0 s1 s2 s3
  go_wp2_with fail
  refine (eqStringS_same m5 m3 n5 n3 R _ (by exact own_strs P5.out) (by exact O5.out.strs) (by omega)).mono ?_
  rintro e w6 ⟨rfl, n6, rfl⟩
  have D6 := below_drewN (Below.refl w5.heap.size w5) n6
  have x6 := hid (kept x5.out D6)
  have y6 := hid (kept y5.out D6)
  have B6 := hid (below_cat' B5.out D6)
  have L1 := hid (owns_below K1.out D6)
  have L2 := hid (owns_below K2.out D6)
  have O6 := hid (O5.out.below D6)
  have P6 := hid (owns_below P5.out D6)
  clear D6 x5 y5 B5 K1 K2 O5 P5
  obtain ⟨W6, hW6⟩ : ∃ W6, W6 = w5.drewN n6 := ⟨_, rfl⟩
  have hz6 : W6.heap.size = w5.heap.size := by rw [hW6]; rfl
  rw [← hW6] at x6 y6 B6 L1 L2 O6 P6 ⊢
  have HZ6 := hid hz6
  clear hW6 hz6
  have p0 := box_cell x6.out 0 (v := .int .i64 long) rfl
  have p1 := box_cell x6.out 1 (v := .int .i64 size) rfl
  have p2 := box_cell x6.out 2 (v := .slice a1 ws.length c1) rfl
  have p3 := box_cell x6.out 3 (v := .slice a2 gs.length c2) rfl
  have s0 := box_cell y6.out 0 (v := .int .i64 long) rfl
  have s1 := box_cell y6.out 1 (v := .int .i64 size) rfl
  have s2 := box_cell y6.out 2 (v := .slice q1 ws.length g1) rfl
  have s3 := box_cell y6.out 3 (v := .slice q2 gs.length g2) rfl
  have m1 : w.heap.size < W6.heap.size := lt_of_block x6.out
  have m2 : w4.heap.size < W6.heap.size := lt_of_block y6.out
  go_wp2_with fail
  go_region_held3 (fun w' => w'.cell? ⟨w.heap.size, 0, none⟩ = some (.int .i64 long) ∧ w'.cell? ⟨w.heap.size, 1, none⟩ = some (.int .i64 size) ∧ w'.cell? ⟨w.heap.size, 2, none⟩ = some (.slice a1 ws.length c1) ∧ w'.cell? ⟨w.heap.size, 3, none⟩ = some (.slice a2 gs.length c2) ∧ w'.cell? ⟨w4.heap.size, 0, none⟩ = some (.int .i64 long) ∧ w'.cell? ⟨w4.heap.size, 1, none⟩ = some (.int .i64 size) ∧ w'.cell? ⟨w4.heap.size, 2, none⟩ = some (.slice q1 ws.length g1) ∧ w'.cell? ⟨w4.heap.size, 3, none⟩ = some (.slice q2 gs.length g2)) (go_keep) (first
    | (go_at_call 6; refine (toPlan_any long size a1 a2 c1 c2 ws gs _ (by exact (IA1.out.below B6.out).drewN 1) (by exact (IA2.out.below B6.out).drewN 1) (by omega) (by omega)).mono ?_; rintro e w7 ⟨t1, h1, t2, h2, rfl, k1, k2, b7⟩; have hc7 : ∀ bb o, bb < W6.heap.size → w7.cell? ⟨bb, o, none⟩ = W6.cell? ⟨bb, o, none⟩ := (bcell b7).1; have I1 := hid k1; have I2 := hid k2; have B7 := hid b7; clear k1 k2 b7)
    | (go_at_call 9; refine (eqPlan_same long size q1 q2 t1 t2 g1 g2 h1 h2 ws gs _ (by exact ((owns_at L1.out).drewN 1).below B7.out) (by exact ((owns_at L2.out).drewN 1).below B7.out) (by exact I1.out) (by exact I2.out) (by omega) (by omega)).mono ?_; rintro e w8 ⟨rfl, b8⟩; have hc8 : ∀ bb o, bb < w7.heap.size → w8.cell? ⟨bb, o, none⟩ = w7.cell? ⟨bb, o, none⟩ := (bcell b8).1; have m3 : W6.heap.size ≤ w7.heap.size := B7.out.size; have m4 : w.heap.size < w7.heap.size := (by omega); have m5 : w4.heap.size < w7.heap.size := (by omega); have B8 := hid b8; clear b8))
  have D8 : Below W6.heap.size W6 w8 := below_cat' (below_drewN (Below.refl _ _) 1) (below_cat' B7.out B8.out)
  have x8 := hid (kept x6.out D8)
  have y8 := hid (kept y6.out D8)
  have B9 := hid (below_cat' B6.out D8)
  have N1 := hid (owns_below L1.out D8)
  have N2 := hid (owns_below L2.out D8)
  have O8 := hid (O6.out.below D8)
  have P8 := hid (owns_below P6.out D8)
  have hz8 : w5.heap.size ≤ w8.heap.size := by have := D8.size; have := HZ6.out; omega
  clear D8 x6 y6 B6 L1 L2 O6 P6 p0 p1 p2 p3 s0 s1 s2 s3 hc7 hc8 B7 B8 I1 I2 m1 m2 m3 m4 m5
  have s0 := box_cell y8.out 0 (v := .int .i64 long) rfl
  have s1 := box_cell y8.out 1 (v := .int .i64 size) rfl
  have s2 := box_cell y8.out 2 (v := .slice q1 ws.length g1) rfl
  have s3 := box_cell y8.out 3 (v := .slice q2 gs.length g2) rfl
  go_wp2_with fail
  refine (markPlan_any w3.heap.size long size q1 q2 g1 g2 ws gs 1 _ (by exact N1.out) (by exact N2.out) AP.out (by omega) (by omega) (by omega) (by omega) (by omega)).mono ?_
  rintro e w9 ⟨rfl, -, -, b9, k9⟩
  have hzw := HZW.out
  have xa := hid ((k9 w.heap.size (lt_of_block x8.out) (fun h => by have := (V1.out _ h).1; omega) (fun h => by have := (V2.out _ h).1; omega)).trans x8.out)
  have Oa := hid (O8.out.kept U3.out (w' := w9) (fun g hg => k9 g (by omega) (fun h => by have := (V1.out _ h).1; omega) (fun h => by have := (V2.out _ h).1; omega)))
  have Pa := hid (owns_kc P8.out k9 (fun k h => by have := (U5.out k h).2; omega) (fun k h e => by have := (V1.out _ e).2; have := (U5.out k h).1; simp at this; omega) (fun k h e => by have := (V2.out _ e).2; have := (U5.out k h).1; simp at this; omega))
  have hb39 := b9.size
  have Ba := hid (B9.out.trans (b9.mono (by omega)))
  clear b9 k9 s0 s1 s2 s3 x8 y8 N1 N2 O8 P8
  go_wp2_with fail
  refine (eqStringS_same m5 m3 n5 n3 R _ (by exact own_strs Pa.out) (by exact Oa.out.strs) (by omega)).mono ?_
  rintro e wb ⟨rfl, nb, rfl⟩
  have Db := below_drewN (Below.refl w9.heap.size w9) nb
  have xb := hid (kept xa.out Db)
  have Bb := hid (below_cat' Ba.out Db)
  have Ob := hid (Oa.out.below Db)
  have Pb := hid (owns_below Pa.out Db)
  have hzb : (w9.drewN nb).heap.size = w9.heap.size := rfl
  have HZB := hid hzb
  clear Db xa Ba Oa Pa hzb
  obtain ⟨WB, hWB⟩ : ∃ WB, WB = w9.drewN nb := ⟨_, rfl⟩
  rw [← hWB] at xb Bb Ob Pb HZB ⊢
  clear hWB
  go_wp2_with fail
  refine (markStringS_any (w4.heap.size + 1) m5 R.length n5 R 1 _ (by exact owns_base Pb.out (by simp)) (by have := HZB.out; omega) (by omega) (by omega) (by omega)).mono ?_
  rintro e wc ⟨rfl, oc, bc, kc⟩
  have xc := hid ((kc w.heap.size (lt_of_block xb.out) (fun h => by have := (U5.out _ h).1; simp at this; omega)).trans xb.out)
  have Oc := hid (Ob.out.kept U3.out (w' := wc) (fun g hg => kc g (by have := HZB.out; omega) (fun h => by have := (U5.out _ h).1; simp at this; omega)))
  have hzc := bc.size
  have Bc := hid (Bb.out.trans (bc.mono (by omega)))
  have OC := hid oc
  clear oc bc kc xb Bb Ob Pb
  go_wp2_with fail
  have OS := hid (own_strs (by rw [mstrs_len]; exact OC.out) : StrsAt _ m5 (mstrs 1 R.length))
  refine (heldStringS_any m5 R.length n5 1 _ (by exact OS.out) (by omega) (by omega) (by omega)).mono ?_
  rintro e wd ⟨rfl, bd⟩
  have xd := hid (kept xc.out bd)
  have Bd := hid (below_cat' Bc.out bd)
  have Od := hid (Oc.out.below bd)
  have OD := hid (OS.out.below bd)
  clear bd xc Bc Oc OC OS
  have p0 := box_cell xd.out 0 (v := .int .i64 long) rfl
  have p1 := box_cell xd.out 1 (v := .int .i64 size) rfl
  have p2 := box_cell xd.out 2 (v := .slice a1 ws.length c1) rfl
  have p3 := box_cell xd.out 3 (v := .slice a2 gs.length c2) rfl
  go_wp2_with fail
  refine (toPlan_any long size a1 a2 c1 c2 ws gs _ (by exact IA1.out.below Bd.out) (by exact IA2.out.below Bd.out) (by omega) (by omega)).mono ?_
  rintro e we ⟨u1, v1, u2, v2, rfl, i1, i2, be⟩
  have Be := hid (below_cat' Bd.out be)
  have Oe := hid (Od.out.below be)
  have OE := hid (OD.out.below be)
  clear be p0 p1 p2 p3
  go_wp2_with fail
  refine (IP.out _ u1 u2 v1 v2 i1 i2).mono ?_
  rintro e wf ⟨mf, nf, rfl, of', bf⟩
  have Bf := hid (below_cat' Be.out bf)
  have Of := hid (Oe.out.below bf)
  have OF := hid (OE.out.below bf)
  have JF := hid (own_strs of')
  clear bf of' i1 i2
  go_wp2_with fail
  refine (eqStringS_same mf m3 nf n3 R _ (by exact JF.out) (by exact Of.out.strs) (by omega)).mono ?_
  rintro e wg ⟨rfl, ng, rfl⟩
  have Dg := below_drewN (Below.refl wf.heap.size wf) ng
  have Bg := hid (below_cat' Bf.out Dg)
  have OG := hid (OF.out.below Dg)
  clear Dg
  go_wp2_with fail
  refine (heldStringS_any m5 R.length n5 1 _ (by exact OG.out) (by omega) (by omega) (by omega)).mono ?_
  rintro e wh ⟨rfl, bh⟩
  have Bh := hid (below_cat' Bg.out bh)
  clear bh
  go_wp2_with fail
  go_ret
  exact ⟨rfl, Bh.out⟩

theorem planCut_big (long size : Int) (a1 a2 : Option Addr) (n1 c1 n2 c2 : Nat) (t : ByteArray) (w : World) (hs : 1048576 < n1 + n2) (h1 : n1 ≤ 9223372036854775807) (h2 : n2 ≤ 9223372036854775807) (ht : t.size ≤ 1048576) :
    Calls Try.prog 3 #[.agg #[.int .i64 long, .int .i64 size, .slice a1 n1 c1, .slice a2 n2 c2], .string t] w fun e w' => e = .returned (.bool true) ∧ Below w.heap.size w w' := by
  have e1 := hid (show szI 1048576 (n1 + n2) = -1 by unfold szI; rw [if_pos (by omega)])
  have hd' : decide ((1048576 : Int) < (t.size : Int)) = false := decide_eq_false (by omega)
  go_enter Try.func3, Try.ntmps3
  go_wp2_with fail
  refine (szPlan_any long size a1 a2 _ c1 _ c2 1048576 _ (by omega) (by omega) h1 h2).mono ?_
  rintro e w1 ⟨rfl, b1⟩
  rw [e1.out]
  go_wp2_with fail
  go_ret
  exact ⟨rfl, below_cat' (below_alloc' _ _) b1⟩
theorem planCut_long (long size : Int) (a1 a2 : Option Addr) (n1 c1 n2 c2 : Nat) (t : ByteArray) (w : World) (ht : 1048576 < t.size) :
    Calls Try.prog 3 #[.agg #[.int .i64 long, .int .i64 size, .slice a1 n1 c1, .slice a2 n2 c2], .string t] w fun e w' => e = .returned (.bool true) ∧ Below w.heap.size w w' := by
  have hd' : decide ((1048576 : Int) < (t.size : Int)) = true := decide_eq_true (by omega)
  go_enter Try.func3, Try.ntmps3
  go_wp2_with fail
  go_ret
  exact ⟨rfl, below_alloc' _ _⟩

theorem walk_FnExactPlanCut (cs0 : List Value) (a1 : ByteArray) (w : World) (w0 : Reads w 24 cs0) (_w1 : a1.size ≤ maxLen) :
    Calls Try.prog 3 #[.agg cs0.toArray, .string a1] w fun e w' => e = .returned (.bool true) ∧ Below w.heap.size w w' := by
  obtain ⟨long, size, b1, n1, k1, z1, b2, n2, k2, z2, rfl, _, _, r1, r2⟩ := reads_plan w0
  by_cases ht : a1.size ≤ 1048576
  · by_cases h : n1 + n2 ≤ 1048576
    · have := planCut_small long size b1 b2 k1 k2 (z1.take n1) (z2.take n2) a1 w (isRow_ints r1) (isRow_ints r2) (by rw [isRow_len r1, isRow_len r2]; exact h) ht
      rw [isRow_len r1, isRow_len r2] at this
      exact this
    · exact planCut_big long size b1 b2 n1 k1 n2 k2 a1 w (by omega) (isRow_le r1) (isRow_le r2) ht
  · exact planCut_long long size b1 b2 n1 k1 n2 k2 a1 w (by omega)
end Go.Proofs.Ytcoofoiaaljpoaa
