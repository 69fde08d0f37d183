/- The walk of the law on what a solver says of a row. -/
import Derived.Test.YtpdaobiaekamoaaDoorSlQ
import Derived.Test.YtpdaobiaekamoaaDoorSlP
import Derived.Test.YtpdaobiaekamoaaDoorSlU
import Derived.Test.YtpdaobiaekamoaaDoorSlV
import Derived.Test.YtpdaobiaekamoaaDoorToInts
import Derived.Test.YtpdaobiaekamoaaDoorIntsE
import Derived.Test.YtpdaobiaekamoaaDoorIntsR
import Derived.Deep.RegionHeld3
namespace Go.Proofs.YtpdaobiaekamoaaDoor
open Go.ChangeShapes Go.WideShapes Go.ChangeAt Go.RowKit Go.Sort Go.Shelf

theorem EqsAt.drewNsolverSays {w : World} {a : Option Addr} {es : List EqV} (h : EqsAt w a es) (n : Nat) : EqsAt (w.drewN n) a es := h.below (below_drewN (Below.refl _ _) n)

set_option maxHeartbeats 8000000 in
theorem solverSays_of (a : Option Addr) (cap : Nat) (es : List EqV) (c z : Int) (ar : Option Addr) (cr : Nat) (row : List Int) (S : ByteArray) (B : Bool) (w : World) (ha : EqsAt w a es) (hn : es.length ≤ 9223372036854775807) (hL : LongE es) (hr : IntsAt w ar row) (hT : Tab w)
    (hsp : ∀ a c' fs ar cr w, EqsAt w a fs → SamV fs es → fs.length ≤ 1048576 → SmallE fs → IntsAt w ar row → row.length ≤ 1048576 → (ar = none → cr = 0) → Calls Tryd.prog 28 #[.agg #[.int .i64 c, .int .i64 z, .slice a fs.length c'], .slice ar row.length cr] w fun e w' => e = .returned (.tuple #[.string S, .bool B]) ∧ Below w.heap.size w w')
    (him : ∀ a c' fs ar cr w, EqsAt w a fs → SamV fs es → fs.length ≤ 1048576 → SmallE fs → IntsAt w ar row → row.length ≤ 1048576 → Tab w → Calls Tryd.prog 29 #[.agg #[.int .i64 c, .int .i64 z, .slice a fs.length c'], .slice ar row.length cr] w fun e w' => e = .returned (.tuple #[.string S, .bool B]) ∧ Below w.heap.size w w') :
    Calls Tryd.prog 8 #[.agg #[.int .i64 c, .int .i64 z, .slice a es.length cap], .slice ar row.length cr] w fun e w' => e = .returned (.bool true) ∧ Below w.heap.size w w' := by
  have HA := hid ha
  have HT := hid hT
  have HR := hid hr
  have HSP := hid hsp
  have HIM := hid him
  clear ha hT hsp him hr
  go_enter Tryd.func8, Tryd.ntmps8
  by_cases hrl : (1048576 : Int) < (row.length : Int)
  · go_wp2_with fail
    go_ret
    exact ⟨rfl, u_b1 _ _⟩
  have HRL := hid (show row.length ≤ 1048576 by omega)
  go_wp2_with fail
  refine (szSolver_ex a cap es c z _ (HA.out.below (u_b1 _ _)) hn hL).mono ?_
  rintro e w1 ⟨v, rfl, hv, b1⟩
  have X := hid (kept (laid w #[.int .i64 c, .int .i64 z, .slice a es.length cap] 24) b1)
  have B := hid (u_cat (u_b1 _ _) b1)
  have HV := hid hv
  clear b1 hv
  by_cases hv0 : v < 0
  · go_wp2_with fail
    go_ret
    exact ⟨rfl, B.out⟩
  obtain ⟨⟨hs, hsm⟩, -, -⟩ := HV.out.resolve_left hv0
  have HS := hid hsm
  have hvv : ¬ (v < 0) := hv0
  clear hsm HV
  have p0 := box_cell X.out 0 (v := .int .i64 c) rfl
  have p1 := box_cell X.out 1 (v := .int .i64 z) rfl
  have p2 := box_cell X.out 2 (v := .slice a es.length cap) rfl
  go_wp2_with fail
  refine (toSolver_any a cap es c z _ (HA.out.below B.out) hs HS.out).mono ?_
  rintro e w2 ⟨r1, f1, fs, rfl, o2, s2, q2, b2⟩
  have X := hid (kept X.out b2)
  have B := hid (u_cat B.out b2)
  have I1 := hid (eqs_at o2 q2)
  have M1 := hid s2
  clear b2 p0 p1 p2 o2 s2 q2
  go_wp2_with fail
  refine (toIntS_any ar cr row _ (HR.out.below B.out) HRL.out).mono ?_
  rintro e w2' ⟨vr, rfl, or1, br1⟩
  obtain ⟨ar1, cr1, rfl, -, jr1⟩ := owns_ints or1
  have X := hid (kept X.out br1)
  have B := hid (u_cat B.out br1)
  have I1 := hid (I1.out.below br1)
  have hc1 := owns_cap or1
  have JR1 := hid jr1
  have HC1 := hid hc1
  clear br1 or1 jr1 hc1
  go_wp2_with fail
  refine (HSP.out r1 f1 fs ar1 cr1 _ I1.out M1.out (by rw [M1.out.len]; exact hs) (M1.out.symm.small HS.out) JR1.out HRL.out HC1.out).mono ?_
  rintro e w3 ⟨rfl, b3⟩
  have X := hid (kept X.out b3)
  have B := hid (u_cat B.out b3)
  clear b3 I1 M1 JR1 HC1
  have p0 := box_cell X.out 0 (v := .int .i64 c) rfl
  have p1 := box_cell X.out 1 (v := .int .i64 z) rfl
  have p2 := box_cell X.out 2 (v := .slice a es.length cap) rfl
  go_wp2_with fail
  refine (toSolver_any a cap es c z _ (HA.out.below B.out) hs HS.out).mono ?_
  rintro e w4 ⟨r2, f2, gs, rfl, o4, s4, q4, b4⟩
  obtain ⟨W4, hW4⟩ : ∃ W4, W4 = w4.alloc (.cells #[.int .i64 c, .int .i64 z, .slice r2 gs.length f2] 29) := ⟨_, rfl⟩
  have bb : Below w4.heap.size w4 W4 := by rw [hW4]; exact u_b1 _ _
  have b4' := u_cat b4 bb
  have X := hid (kept X.out b4')
  have B := hid (u_cat B.out b4')
  have Y := hid (show W4.heap[w4.heap.size]? = some (.cells #[.int .i64 c, .int .i64 z, .slice r2 gs.length f2] 29 (0, 0)) by rw [hW4]; exact laid w4 _ _)
  have J1 := hid ((eqs_at o4 q4).below bb)
  have M2 := hid s4
  clear b4 b4' p0 p1 p2 o4 s4 q4 bb
  repeat ((fail_if_success (with_reducible show Code.wp _ (Code.region 9 _ _) _ _ _)); (first | go_values | go_skip | go_guarded | go_step | go_upon | go_back | go_simp))
  rw [← hW4]
  clear hW4
  go_wp2_with fail
  refine (toIntS_any ar cr row _ (HR.out.below B.out) HRL.out).mono ?_
  rintro e w5 ⟨vr, rfl, or2, br2⟩
  obtain ⟨ar2, cr2, rfl, -, jr2⟩ := owns_ints or2
  have X := hid (kept X.out br2)
  have B := hid (u_cat B.out br2)
  have Y := hid (kept Y.out br2)
  have J1 := hid (J1.out.below br2)
  have JR2 := hid jr2
  clear br2 or2 jr2
  have s0 := box_cell Y.out 0 (v := .int .i64 c) rfl
  have s1 := box_cell Y.out 1 (v := .int .i64 z) rfl
  have s2 := box_cell Y.out 2 (v := .slice r2 gs.length f2) rfl
  go_wp2_with fail
  refine (HIM.out r2 f2 gs ar2 cr2 _ J1.out M2.out (by rw [M2.out.len]; exact hs) (M2.out.symm.small HS.out) JR2.out HRL.out (HT.out.below B.out)).mono ?_
  rintro e w6 ⟨rfl, b5⟩
  have X := hid (kept X.out b5)
  have B := hid (u_cat B.out b5)
  have Y := hid (kept Y.out b5)
  have J1 := hid (J1.out.below b5)
  have JR2 := hid (JR2.out.below b5)
  clear s0 s1 s2
  have p0 := box_cell X.out 0 (v := .int .i64 c) rfl
  have p1 := box_cell X.out 1 (v := .int .i64 z) rfl
  have p2 := box_cell X.out 2 (v := .slice a es.length cap) rfl
  have s0 := box_cell Y.out 0 (v := .int .i64 c) rfl
  have s1 := box_cell Y.out 1 (v := .int .i64 z) rfl
  have s2 := box_cell Y.out 2 (v := .slice r2 gs.length f2) rfl
  have m1 : w.heap.size < w6.heap.size := lt_of_block X.out
  have m2 : w4.heap.size < w6.heap.size := lt_of_block Y.out
  clear b5
  go_wp2_with fail
  go_region_held3 (fun w' => w'.cell? ⟨w.heap.size, 0, none⟩ = some (.int .i64 c) ∧ w'.cell? ⟨w.heap.size, 1, none⟩ = some (.int .i64 z) ∧ w'.cell? ⟨w.heap.size, 2, none⟩ = some (.slice a es.length cap) ∧ w'.cell? ⟨w4.heap.size, 0, none⟩ = some (.int .i64 c) ∧ w'.cell? ⟨w4.heap.size, 1, none⟩ = some (.int .i64 z) ∧ w'.cell? ⟨w4.heap.size, 2, none⟩ = some (.slice r2 gs.length f2)) (go_keep) (first
    | (go_at_call 12; refine (toSolver_any a cap es c z _ (by exact EqsAt.drewNsolverSays (HA.out.below B.out) 1) hs HS.out).mono ?_; rintro e w7 ⟨t1, h1, ks, rfl, k1, k2, k3, b7⟩; have hc7 : ∀ bb o, bb < w6.heap.size → w7.cell? ⟨bb, o, none⟩ = w6.cell? ⟨bb, o, none⟩ := (u_cell b7).1; have I1 := hid (eqs_at k1 k3); have M3 := hid k2; have B7 := hid b7; clear k1 k2 k3 b7)
    | (go_at_call 14; refine (eqSolver_same r2 t1 f2 h1 gs ks c z _ (by exact (EqsAt.drewNsolverSays J1.out 1).below B7.out) (by exact I1.out) (M2.out.trans M3.out.symm) (by rw [M2.out.len]; exact hs) (M2.out.symm.small HS.out)).mono ?_; rintro e w8 ⟨rfl, b8⟩; have hc8 : ∀ bb o, bb < w7.heap.size → w8.cell? ⟨bb, o, none⟩ = w7.cell? ⟨bb, o, none⟩ := (u_cell b8).1; have m3 : w6.heap.size ≤ w7.heap.size := B7.out.size; have m4 : w.heap.size < w7.heap.size := (by omega); have m5 : w4.heap.size < w7.heap.size := (by omega); have B8 := hid b8; clear b8))
  all_goals go_wp2_with fail
  have D7 := u_cat B7.out B8.out
  have D6 := u_cat (below_drewN (Below.refl w6.heap.size w6) 1) D7
  have BW := hid (u_cat B.out D6)
  have JW := hid (JR2.out.below D6)
  clear D7 D6 p0 p1 p2 s0 s1 s2 hc7 hc8 m1 m2 m3 m4 m5
  refine (toIntS_any ar cr row _ (HR.out.below BW.out) HRL.out).mono ?_
  rintro e w9 ⟨vr, rfl, or3, br3⟩
  obtain ⟨ar3, cr3, rfl, -, jr3⟩ := owns_ints or3
  have BW := hid (u_cat BW.out br3)
  have JW := hid (JW.out.below br3)
  have JR3 := hid jr3
  clear or3 br3 jr3
  go_wp2_with fail
  refine (eqIntS_any ar2 ar3 cr2 cr3 row row w9 JW.out JR3.out (by have := HRL.out; omega)).mono ?_
  rintro e w10 ⟨rfl, n10, rfl⟩
  rw [decide_eq_true (rfl : row = row)]
  go_wp2_with fail
  go_ret
  exact ⟨rfl, u_cat BW.out (below_drewN (Below.refl _ _) n10)⟩

theorem walk_FnExactSolverSays (cs0 : List Value) (a1 : Option Addr) (len1 cap1 : Nat) (z1 : List Int) (w : World) (w0 : Reads w 24 cs0) (w1 : IsRow .i64 w a1 len1 cap1 z1) (hT : Tab w) :
    Calls Tryd.prog 8 #[.agg cs0.toArray, .slice a1 len1 cap1] w fun e w' => e = .returned (.bool true) ∧ Below w.heap.size w w' := by
  obtain ⟨c, z, a, cap, es, rfl, ha, hl, hL⟩ := reads_solver w0
  obtain ⟨xs1, hx1⟩ : ∃ xs1, xs1 = z1.take len1 := ⟨_, rfl⟩
  have i1 := isRow_ints w1
  have hlen := isRow_len w1
  rw [← hx1] at i1 hlen
  rw [← hlen]
  exact solverSays_of a cap es c z a1 cap1 xs1 (saysT c z es xs1) (decide (saysP c z es xs1)) w ha hl hL i1 hT
    (fun a c' fs ar cr w ha hs hx hsm hr hrl hcr => by have h := specSolverSays_any a c' fs c z ar cr xs1 w ha hsm hx hr hrl hcr; rw [(hs.says _).1, (hs.says _).2] at h; exact h)
    (fun a c' fs ar cr w ha hs hx hsm hr hrl hT => by have h := implSolverSays_any a c' fs c z ar cr xs1 w ha hsm hx hr hrl hT; rw [(hs.says _).1, (hs.says _).2] at h; exact h)
end Go.Proofs.YtpdaobiaekamoaaDoor
