/- The walk of the law FnExactGetWant. -/
import Derived.Test.YtegldmdcdnnegaaDoorGwS
import Derived.Test.YtegldmdcdnnegaaDoorGwI
import Derived.Test.YtegldmdcdnnegaaDoorGtL
import Derived.Deep.RegionHeld3
namespace Go.Proofs.YtegldmdcdnnegaaDoor
open Go.ChangeShapes Go.WideShapes Go.ChangeAt Go.RowKit Go.Sort Go.Shelf

theorem IntsAt.drewNfnExactGetWant {w : World} {a : Option Addr} {xs : List Int} (h : IntsAt w a xs) (n : Nat) : IntsAt (w.drewN n) a xs := h.below (below_drewN (Below.refl _ _) n)
theorem EqsAt.drewNfnExactGetWant {w : World} {a : Option Addr} {es : List EqV} (h : EqsAt w a es) (n : Nat) : EqsAt (w.drewN n) a es := h.below (below_drewN (Below.refl _ _) n)

set_option maxHeartbeats 16000000 in
set_option maxRecDepth 100000 in
theorem fnExactGetWant_of (L S : Int) (a1 a2 : Option Addr) (c1 c2 : Nat) (ws gs : List Int) (C Z : Int) (a : Option Addr) (cap : Nat) (es : List EqV) (fr : Int) (N : Int) (w : World) (ha1 : IntsAt w a1 ws) (ha2 : IntsAt w a2 gs) (hx : ws.length ≤ 9223372036854775807) (hy : gs.length ≤ 9223372036854775807) (ha : EqsAt w a es) (hn : es.length ≤ 9223372036854775807) (hL : LongE es) (hT : Tab w)
    (hsp : ∀ p1 f1 p2 f2 a c' fs w, IntsAt w p1 ws → IntsAt w p2 gs → ws.length + gs.length ≤ 1048576 → EqsAt w a fs → SamV fs es → fs.length ≤ 1048576 → SmallE fs → Calls Tryd.prog 19 #[.agg #[.int .i64 L, .int .i64 S, .slice p1 ws.length f1, .slice p2 gs.length f2, .int .i64 C, .int .i64 Z, .slice a fs.length c'], .int .i64 fr] w fun e w' => e = .returned (.int .i64 N) ∧ Below w.heap.size w w')
    (him : ∀ p1 f1 p2 f2 a c' fs w, IntsAt w p1 ws → IntsAt w p2 gs → ws.length + gs.length ≤ 1048576 → EqsAt w a fs → SamV fs es → fs.length ≤ 1048576 → SmallE fs → Tab w → Calls Tryd.prog 20 #[.agg #[.int .i64 L, .int .i64 S, .slice p1 ws.length f1, .slice p2 gs.length f2, .int .i64 C, .int .i64 Z, .slice a fs.length c'], .int .i64 fr] w fun e w' => e = .returned (.int .i64 N) ∧ Below w.heap.size w w') :
    Calls Tryd.prog 7 #[.agg #[.int .i64 L, .int .i64 S, .slice a1 ws.length c1, .slice a2 gs.length c2, .int .i64 C, .int .i64 Z, .slice a es.length cap], .int .i64 fr] w fun e w' => e = .returned (.bool true) ∧ Below w.heap.size w w' := by
  have HA := hid ha
  have H1 := hid ha1
  have H2 := hid ha2
  have HT := hid hT
  have HSP := hid hsp
  have HIM := hid him
  clear ha ha1 ha2 hT hsp him
  go_enter Tryd.func7, Tryd.ntmps7
  go_wp2_with fail
  refine (szGetting_ex L S a1 a2 ws.length c1 gs.length c2 C Z a cap es _ hx hy (HA.out.below (u_b1 _ _)) hn hL).mono ?_
  rintro e w1 ⟨v, rfl, hv, b1⟩
  have X := hid (kept (laid w #[.int .i64 L, .int .i64 S, .slice a1 ws.length c1, .slice a2 gs.length c2, .int .i64 C, .int .i64 Z, .slice a es.length cap] 29) b1)
  have B := hid (u_cat (u_b1 _ _) b1)
  have HV := hid hv
  clear b1 hv
  by_cases hv0 : v < 0
  · go_wp2_with fail
    go_ret
    exact ⟨rfl, B.out⟩
  obtain ⟨⟨hpl, hs, hsm⟩, -, -⟩ := HV.out.resolve_left hv0
  have HS := hid hsm
  have hvv : ¬ (v < 0) := hv0
  clear hsm HV
  have p0 := box_cell X.out 0 (v := .int .i64 L) rfl
  have p1 := box_cell X.out 1 (v := .int .i64 S) rfl
  have p2 := box_cell X.out 2 (v := .slice a1 ws.length c1) rfl
  have p3 := box_cell X.out 3 (v := .slice a2 gs.length c2) rfl
  have p4 := box_cell X.out 4 (v := .int .i64 C) rfl
  have p5 := box_cell X.out 5 (v := .int .i64 Z) rfl
  have p6 := box_cell X.out 6 (v := .slice a es.length cap) rfl
  go_wp2_with fail
  refine (toGetting_own L S a1 a2 c1 c2 ws gs C Z a cap es _ (H1.out.below B.out) (H2.out.below B.out) (by omega) (by omega) (HA.out.below B.out) hs HS.out).mono ?_
  rintro e w2 ⟨p1', d1, p2', d2, r1, f1, fs, rfl, o2, s2, b2⟩
  have X := hid (kept X.out b2)
  have B := hid (u_cat B.out b2)
  have O2 := hid o2
  have M1 := hid s2
  clear b2 p0 p1 p2 p3 p4 p5 p6 o2 s2
  go_wp2_with fail
  refine (HSP.out p1' d1 p2' d2 r1 f1 fs _ (owns_at O2.out.o1) (owns_at O2.out.o2) hpl O2.out.eqs M1.out (by rw [M1.out.len]; exact hs) (M1.out.symm.small HS.out)).mono ?_
  rintro e w3 ⟨rfl, b3⟩
  have X := hid (kept X.out b3)
  have B := hid (u_cat B.out b3)
  clear b3 O2 M1
  have p0 := box_cell X.out 0 (v := .int .i64 L) rfl
  have p1 := box_cell X.out 1 (v := .int .i64 S) rfl
  have p2 := box_cell X.out 2 (v := .slice a1 ws.length c1) rfl
  have p3 := box_cell X.out 3 (v := .slice a2 gs.length c2) rfl
  have p4 := box_cell X.out 4 (v := .int .i64 C) rfl
  have p5 := box_cell X.out 5 (v := .int .i64 Z) rfl
  have p6 := box_cell X.out 6 (v := .slice a es.length cap) rfl
  go_wp2_with fail
  refine (toGetting_own L S a1 a2 c1 c2 ws gs C Z a cap es _ (H1.out.below B.out) (H2.out.below B.out) (by omega) (by omega) (HA.out.below B.out) hs HS.out).mono ?_
  rintro e w4 ⟨q1, g1, q2, g2, r2, f2, gq, rfl, o4, s4, b4⟩
  have b5' := u_b1 w4 (.cells #[.int .i64 L, .int .i64 S, .slice q1 ws.length g1, .slice q2 gs.length g2, .int .i64 C, .int .i64 Z, .slice r2 gq.length f2] 37)
  have b4' := u_cat b4 b5'
  have X := hid (kept X.out b4')
  have B := hid (u_cat B.out b4')
  have Y := hid (laid w4 #[.int .i64 L, .int .i64 S, .slice q1 ws.length g1, .slice q2 gs.length g2, .int .i64 C, .int .i64 Z, .slice r2 gq.length f2] 37)
  have J1 := hid (o4.eqs.below b5')
  have I1 := hid (IntsAt.below (owns_at o4.o1) b5')
  have I2 := hid (IntsAt.below (owns_at o4.o2) b5')
  have M2 := hid s4
  clear b4 b4' b5' p0 p1 p2 p3 p4 p5 p6 o4 s4
  go_wp2_with fail
  refine (HIM.out q1 g1 q2 g2 r2 f2 gq _ I1.out I2.out hpl J1.out M2.out (by rw [M2.out.len]; exact hs) (M2.out.symm.small HS.out) (HT.out.below B.out)).mono ?_
  rintro e w5 ⟨rfl, b5⟩
  have X := hid (kept X.out b5)
  have B := hid (u_cat B.out b5)
  have Y := hid (kept Y.out b5)
  have J1 := hid (J1.out.below b5)
  have I1 := hid (I1.out.below b5)
  have I2 := hid (I2.out.below b5)
  have p0 := box_cell X.out 0 (v := .int .i64 L) rfl
  have p1 := box_cell X.out 1 (v := .int .i64 S) rfl
  have p2 := box_cell X.out 2 (v := .slice a1 ws.length c1) rfl
  have p3 := box_cell X.out 3 (v := .slice a2 gs.length c2) rfl
  have p4 := box_cell X.out 4 (v := .int .i64 C) rfl
  have p5 := box_cell X.out 5 (v := .int .i64 Z) rfl
  have p6 := box_cell X.out 6 (v := .slice a es.length cap) rfl
  have s0 := box_cell Y.out 0 (v := .int .i64 L) rfl
  have s1 := box_cell Y.out 1 (v := .int .i64 S) rfl
  have s2 := box_cell Y.out 2 (v := .slice q1 ws.length g1) rfl
  have s3 := box_cell Y.out 3 (v := .slice q2 gs.length g2) rfl
  have s4 := box_cell Y.out 4 (v := .int .i64 C) rfl
  have s5 := box_cell Y.out 5 (v := .int .i64 Z) rfl
  have s6 := box_cell Y.out 6 (v := .slice r2 gq.length f2) rfl
  have m1 : w.heap.size < w5.heap.size := lt_of_block X.out
  have m2 : w4.heap.size < w5.heap.size := lt_of_block Y.out
  clear b5
  go_wp2_with fail
  go_region_held3 (fun w' => w'.cell? ⟨w.heap.size, 0, none⟩ = some (.int .i64 L) ∧ w'.cell? ⟨w.heap.size, 1, none⟩ = some (.int .i64 S) ∧ w'.cell? ⟨w.heap.size, 2, none⟩ = some (.slice a1 ws.length c1) ∧ w'.cell? ⟨w.heap.size, 3, none⟩ = some (.slice a2 gs.length c2) ∧ w'.cell? ⟨w.heap.size, 4, none⟩ = some (.int .i64 C) ∧ w'.cell? ⟨w.heap.size, 5, none⟩ = some (.int .i64 Z) ∧ w'.cell? ⟨w.heap.size, 6, none⟩ = some (.slice a es.length cap) ∧ w'.cell? ⟨w4.heap.size, 0, none⟩ = some (.int .i64 L) ∧ w'.cell? ⟨w4.heap.size, 1, none⟩ = some (.int .i64 S) ∧ w'.cell? ⟨w4.heap.size, 2, none⟩ = some (.slice q1 ws.length g1) ∧ w'.cell? ⟨w4.heap.size, 3, none⟩ = some (.slice q2 gs.length g2) ∧ w'.cell? ⟨w4.heap.size, 4, none⟩ = some (.int .i64 C) ∧ w'.cell? ⟨w4.heap.size, 5, none⟩ = some (.int .i64 Z) ∧ w'.cell? ⟨w4.heap.size, 6, none⟩ = some (.slice r2 gq.length f2)) (go_keep) (first
    | (go_at_call 10; refine (toGetting_own L S a1 a2 c1 c2 ws gs C Z a cap es _ (by exact IntsAt.drewNfnExactGetWant (H1.out.below B.out) 1) (by exact IntsAt.drewNfnExactGetWant (H2.out.below B.out) 1) (by omega) (by omega) (by exact EqsAt.drewNfnExactGetWant (HA.out.below B.out) 1) hs HS.out).mono ?_; rintro e w6 ⟨t1, h1, t2, h2, t3, h3, ks, rfl, k1, k2, b6⟩; have hc6 : ∀ bb o, bb < w5.heap.size → w6.cell? ⟨bb, o, none⟩ = w5.cell? ⟨bb, o, none⟩ := (u_cell b6).1; have O6 := hid k1; have M3 := hid k2; have B6 := hid b6; clear k1 k2 b6)
    | (go_at_call 12; refine (eqGetting_eq L S q1 q2 g1 g2 t1 t2 h1 h2 ws gs C Z r2 t3 f2 h3 gq ks _ (by exact (IntsAt.drewNfnExactGetWant I1.out 1).below B6.out) (by exact (IntsAt.drewNfnExactGetWant I2.out 1).below B6.out) (by exact owns_at O6.out.o1) (by exact owns_at O6.out.o2) (by omega) (by omega) (by exact (EqsAt.drewNfnExactGetWant J1.out 1).below B6.out) (by exact O6.out.eqs) (M2.out.trans M3.out.symm) (by rw [M2.out.len]; exact hs) (M2.out.symm.small HS.out)).mono ?_; rintro e w7 ⟨rfl, b7⟩; have hc7 : ∀ bb o, bb < w6.heap.size → w7.cell? ⟨bb, o, none⟩ = w6.cell? ⟨bb, o, none⟩ := (u_cell b7).1; have m3 : w5.heap.size ≤ w6.heap.size := B6.out.size; have m4 : w.heap.size < w6.heap.size := (by omega); have m5 : w4.heap.size < w6.heap.size := (by omega); have B7 := hid b7; clear b7))
  all_goals go_wp2
  all_goals go_ret
  all_goals exact ⟨rfl, u_cat (u_cat (below_drewN B.out 1) B6.out) B7.out⟩

theorem walk_FnExactGetWant (cs0 : List Value) (fr : Int) (w : World) (w0 : Reads w 29 cs0) (_ : (Lit.int .i64 fr).wf = true) (hT : Tab w) :
    Calls Tryd.prog 7 #[.agg cs0.toArray, .int .i64 fr] w fun e w' => e = .returned (.bool true) ∧ Below w.heap.size w w' := by
  obtain ⟨L, S, a1, n1, k1, z1, a2, n2, k2, z2, C, Z, a, cap, es, rfl, r1, r2, ha, hl, hL⟩ := reads_getting w0
  have e1 := isRow_len r1
  have e2 := isRow_len r2
  have l1 := isRow_le r1
  have l2 := isRow_le r2
  have i1 := isRow_ints r1
  have i2 := isRow_ints r2
  obtain ⟨ws, hws⟩ : ∃ ws, z1.take n1 = ws := ⟨_, rfl⟩
  obtain ⟨gs, hgs⟩ : ∃ gs, z2.take n2 = gs := ⟨_, rfl⟩
  rw [hws] at e1 i1
  rw [hgs] at e2 i2
  subst e1 e2
  exact fnExactGetWant_of L S a1 a2 k1 k2 ws gs C Z a cap es fr (wantI L S ws gs C Z es fr) w i1 i2 l1 l2 ha hl hL hT
    (fun p1 f1 p2 f2 a c' fs w h1 h2 hp ha hs hx hsm => by
      have h := specGetWant_any L S p1 p2 f1 f2 ws gs C Z a c' fs fr w h1 h2 (by omega) (by omega) ha hx hsm
      first | exact h | (rw [hs.want fr] at h; exact h))
    (fun p1 f1 p2 f2 a c' fs w h1 h2 hp ha hs hx hsm hT => by
      have h := implGetWant_any L S p1 p2 f1 f2 ws gs C Z a c' fs fr w h1 h2 (by omega) (by omega) ha hx hsm hT
      first | exact h | (rw [hs.want fr] at h; exact h))
end Go.Proofs.YtegldmdcdnnegaaDoor
