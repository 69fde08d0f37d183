/- The walk of the law on an equation that is learnt. -/
import Derived.Test.YtpdaobiaekamoaaDoorG14
import Derived.Test.YtpdaobiaekamoaaDoorG23
import Derived.Test.YtpdaobiaekamoaaDoorG26
import Derived.Test.YtpdaobiaekamoaaDoorG10
import Derived.Test.YtpdaobiaekamoaaDoorG9
import Derived.Test.YtpdaobiaekamoaaDoorG0
import Derived.Deep.RegionHeld3
namespace Go.Proofs.YtpdaobiaekamoaaDoor
open Go.ChangeShapes Go.WideShapes Go.ChangeAt Go.RowKit Go.Sort Go.Shelf

theorem EqsAt.drewNsolverAdd {w : World} {a : Option Addr} {es : List EqV} (h : EqsAt w a es) (n : Nat) : EqsAt (w.drewN n) a es := h.below (below_drewN (Below.refl _ _) n)
theorem vals_small {gs : List EqV} {vs : List Vl} (h : valsE gs = vs) (hv : ∀ k ∈ vs, k.1.length ≤ 1048576 ∧ k.2.size ≤ 1048576) : SmallE gs := fun g hg => hv (g.r, g.d) (by rw [← h]; exact List.mem_map_of_mem hg)

set_option maxHeartbeats 16000000 in
set_option maxRecDepth 100000 in
theorem solverAdd_of (a : Option Addr) (cap : Nat) (es : List EqV) (c z : Int) (ar : Option Addr) (cr : Nat) (row : List Int) (data : ByteArray) (cc zz : Int) (vs : List Vl) (code : Int) (w : World) (ha : EqsAt w a es) (hn : es.length ≤ 9223372036854775807) (hL : LongE es) (hr : IntsAt w ar row) (hT : Tab w)
    (hvs : es.length ≤ 1048576 → SmallE es → vs.length ≤ 1048576 ∧ ∀ k ∈ vs, k.1.length ≤ 1048576 ∧ k.2.size ≤ 1048576)
    (hsp : ∀ a c' fs ar cr w, EqsAt w a fs → SamV fs es → fs.length ≤ 1048576 → SmallE fs → (∀ e ∈ fs, e.a = none → e.c = 0) → IntsAt w ar row → row.length ≤ 1048576 → (ar = none → cr = 0) → data.size ≤ 1048576 → Calls Tryd.prog 15 #[.agg #[.int .i64 c, .int .i64 z, .slice a fs.length c'], .slice ar row.length cr, .string data] w fun e w' => AddO w w' w.heap.size cc zz vs code e)
    (him : ∀ a c' fs ar cr w, EqsAt w a fs → SamV fs es → fs.length ≤ 1048576 → SmallE fs → IntsAt w ar row → row.length ≤ 1048576 → data.size ≤ 1048576 → Tab w → Calls Tryd.prog 17 #[.agg #[.int .i64 c, .int .i64 z, .slice a fs.length c'], .slice ar row.length cr, .string data] w fun e w' =>
      ∃ a' c' gs, e = .returned (.tuple #[.agg #[.int .i64 cc, .int .i64 zz, .slice a' gs.length c'], .int .i64 code]) ∧ w'.ownsRow w.heap.size 53 2 (.slice a' gs.length c') gs.length (eqCells gs) ∧ valsE gs = vs ∧ RowsOwn w' w.heap.size gs ∧ RowsAp gs ∧ Below w.heap.size w w') :
    Calls Tryd.prog 4 #[.agg #[.int .i64 c, .int .i64 z, .slice a es.length cap], .slice ar row.length cr, .string data] w fun e w' => e = .returned (.bool true) ∧ Below w.heap.size w w' := by
  have HA := hid ha
  have HT := hid hT
  have HR := hid hr
  have HSP := hid hsp
  have HIM := hid him
  have HVS := hid hvs
  clear ha hT hsp him hr hvs
  go_enter Tryd.func4, Tryd.ntmps4
  by_cases hrl : (1048576 : Int) < (row.length : Int)
  · go_wp2_with fail
    go_ret
    exact ⟨rfl, u_b1 _ _⟩
  have HRL := hid (show row.length ≤ 1048576 by omega)
  by_cases hdl : (1048576 : Int) < (data.size : Int)
  · go_wp2_with fail
    go_ret
    exact ⟨rfl, u_b1 _ _⟩
  have HDL := hid (show data.size ≤ 1048576 by omega)
  go_wp2_with fail
  refine (szSolver_ex a cap es c z _ (HA.out.below (u_b1 _ _)) hn hL).mono ?_
  rintro e w1 ⟨v, rfl, hv, b1⟩
  have X := hid (kept (laid w #[.int .i64 c, .int .i64 z, .slice a es.length cap] 24) b1)
  have B := hid (u_cat (u_b1 _ _) b1)
  have HV := hid hv
  clear b1 hv
  by_cases hv0 : v < 0
  · go_wp2_with fail
    go_ret
    exact ⟨rfl, B.out⟩
  obtain ⟨⟨hs, hsm⟩, -, -⟩ := HV.out.resolve_left hv0
  have HS := hid hsm
  obtain ⟨hvl, hvk⟩ := HVS.out hs hsm
  have HVK := hid hvk
  have hvv : ¬ (v < 0) := hv0
  clear hsm HV HVS hvk
  have p0 := box_cell X.out 0 (v := .int .i64 c) rfl
  have p1 := box_cell X.out 1 (v := .int .i64 z) rfl
  have p2 := box_cell X.out 2 (v := .slice a es.length cap) rfl
  go_wp2_with fail
  refine (toSolver_any a cap es c z _ (HA.out.below B.out) hs HS.out).mono ?_
  rintro e w2 ⟨r1, f1, fs, rfl, o2, s2, q2, b2⟩
  have X := hid (kept X.out b2)
  have B := hid (u_cat B.out b2)
  have I1 := hid (eqs_at o2 q2)
  have M1 := hid s2
  have CP1 := hid (show ∀ e ∈ fs, e.a = none → e.c = 0 from fun e he => owns_cap (q2 e he))
  clear b2 p0 p1 p2 o2 s2 q2
  go_wp2_with fail
  refine (toIntS_any ar cr row _ (HR.out.below B.out) HRL.out).mono ?_
  rintro e w2' ⟨vr, rfl, or1, br1⟩
  obtain ⟨ar1, cr1, rfl, -, jr1⟩ := owns_ints or1
  have X := hid (kept X.out br1)
  have B := hid (u_cat B.out br1)
  have I1 := hid (I1.out.below br1)
  have hc1 := owns_cap or1
  have JR1 := hid jr1
  have HC1 := hid hc1
  clear br1 or1 jr1 hc1
  go_wp2_with fail
  refine (HSP.out r1 f1 fs ar1 cr1 _ I1.out M1.out (by rw [M1.out.len]; exact hs) (M1.out.symm.small HS.out) CP1.out JR1.out HRL.out HC1.out HDL.out).mono ?_
  rintro e w3 ⟨b0, d0, gs0, rfl, o0, v0, q0, b3⟩
  -- the model's answer, in a box
  obtain ⟨W3, hW3⟩ : ∃ W3, W3 = w3.alloc (.cells #[.int .i64 cc, .int .i64 zz, .slice b0 gs0.length d0] 29) := ⟨_, rfl⟩
  have bb : Below w3.heap.size w3 W3 := by rw [hW3]; exact u_b1 _ _
  have hz3 : w3.heap.size + 1 ≤ W3.heap.size := by rw [hW3]; simp
  have Y0 := hid (show W3.heap[w3.heap.size]? = some (.cells #[.int .i64 cc, .int .i64 zz, .slice b0 gs0.length d0] 29 (0, 0)) by rw [hW3]; exact laid w3 _ _)
  have L0 := hid (show ∀ k, (.slice b0 gs0.length d0 : Value).ownBlock = some k → k < w3.heap.size from fun k hk => (o0.lt k hk).2)
  have LR0 := hid (show ∀ f ∈ gs0, ∀ k, (rowV f).ownBlock = some k → k < w3.heap.size from fun f hf k hk => ((q0 f hf).lt k hk).2)
  have hxw := lt_of_block (kept X.out b3)
  have X := hid (kept (kept X.out b3) bb)
  have B := hid (u_cat (u_cat B.out b3) bb)
  have O0 := hid (owns_below o0 bb)
  have Q0 := hid (q0.below bb)
  have V0 := hid v0
  have hgl0 : gs0.length ≤ 1048576 := by rw [vals_len v0]; exact hvl
  clear b3 o0 v0 q0 I1 M1 JR1 HC1 CP1
  repeat ((fail_if_success (with_reducible show Code.wp _ (Code.region 10 _ _) _ _ _)); (first | go_values | go_skip | go_guarded | go_step | go_upon | go_back | go_simp))
  rw [← hW3]
  clear hW3 bb
  have p0 := box_cell X.out 0 (v := .int .i64 c) rfl
  have p1 := box_cell X.out 1 (v := .int .i64 z) rfl
  have p2 := box_cell X.out 2 (v := .slice a es.length cap) rfl
  go_wp2_with fail
  refine (toSolver_ap a cap es c z _ (HA.out.below B.out) hs HS.out).mono ?_
  rintro e w4 ⟨r2, f2, gx, rfl, o4, s4, q4, ap4, b4⟩
  have hz4 := b4.size
  obtain ⟨W4, hW4⟩ : ∃ W4, W4 = w4.alloc (.cells #[.int .i64 c, .int .i64 z, .slice r2 gx.length f2] 29) := ⟨_, rfl⟩
  have bb : Below w4.heap.size w4 W4 := by rw [hW4]; exact u_b1 _ _
  have hz4' : w4.heap.size + 1 ≤ W4.heap.size := by rw [hW4]; simp
  have Yx := hid (show W4.heap[w4.heap.size]? = some (.cells #[.int .i64 c, .int .i64 z, .slice r2 gx.length f2] 29 (0, 0)) by rw [hW4]; exact laid w4 _ _)
  have Lx := hid (show ∀ k, (.slice r2 gx.length f2 : Value).ownBlock = some k → W3.heap.size ≤ k ∧ k < w4.heap.size from fun k hk => o4.lt k hk)
  have LRx := hid (show ∀ f ∈ gx, ∀ k, (rowV f).ownBlock = some k → W3.heap.size ≤ k ∧ k < w4.heap.size from fun f hf k hk => (q4 f hf).lt k hk)
  have b4' := u_cat b4 bb
  have X := hid (kept X.out b4')
  have B := hid (u_cat B.out b4')
  have Y0 := hid (kept Y0.out b4')
  have O0 := hid (owns_below O0.out b4')
  have Q0 := hid (Q0.out.below b4')
  have Ox := hid (owns_below o4 bb)
  have Rx := hid (q4.below bb)
  have APx := hid ap4
  have M2 := hid s4
  clear b4 b4' o4 s4 q4 ap4 bb p0 p1 p2
  repeat ((fail_if_success (with_reducible show Code.wp _ (Code.region 11 _ _) _ _ _)); (first | go_values | go_skip | go_guarded | go_step | go_upon | go_back | go_simp))
  rw [← hW4]
  clear hW4
  go_wp2_with fail
  refine (toIntS_any ar cr row _ (HR.out.below B.out) HRL.out).mono ?_
  rintro e w5 ⟨vr, rfl, or2, br2⟩
  have hz5 := br2.size
  obtain ⟨ar2, cr2, rfl, -, -⟩ := owns_ints or2
  have Lr := hid (show ∀ k, (.slice ar2 row.length cr2 : Value).ownBlock = some k → W4.heap.size ≤ k ∧ k < w5.heap.size from fun k hk => or2.lt k hk)
  have N1 := hid or2
  have X := hid (kept X.out br2)
  have B := hid (u_cat B.out br2)
  have Y0 := hid (kept Y0.out br2)
  have O0 := hid (owns_below O0.out br2)
  have Q0 := hid (Q0.out.below br2)
  have Yx := hid (kept Yx.out br2)
  have Ox := hid (owns_below Ox.out br2)
  have Rx := hid (Rx.out.below br2)
  clear or2 br2
  have s0 := box_cell Yx.out 0 (v := .int .i64 c) rfl
  have s1 := box_cell Yx.out 1 (v := .int .i64 z) rfl
  have s2 := box_cell Yx.out 2 (v := .slice r2 gx.length f2) rfl
  go_wp2_with fail
  refine (HIM.out r2 f2 gx ar2 cr2 _ (eqs_at Ox.out Rx.out) M2.out (by rw [M2.out.len]; exact hs) (M2.out.symm.small HS.out) (owns_at N1.out) HRL.out HDL.out (HT.out.below B.out)).mono ?_
  rintro e w6 ⟨bg, dg, gg, rfl, o6, v6, q6, ap6, b6⟩
  have hz6 := b6.size
  obtain ⟨W6, hW6⟩ : ∃ W6, W6 = w6.alloc (.cells #[.int .i64 cc, .int .i64 zz, .slice bg gg.length dg] 29) := ⟨_, rfl⟩
  have bb : Below w6.heap.size w6 W6 := by rw [hW6]; exact u_b1 _ _
  have hz6' : w6.heap.size + 1 ≤ W6.heap.size := by rw [hW6]; simp
  have Yg := hid (show W6.heap[w6.heap.size]? = some (.cells #[.int .i64 cc, .int .i64 zz, .slice bg gg.length dg] 29 (0, 0)) by rw [hW6]; exact laid w6 _ _)
  have Lg := hid (show ∀ k, (.slice bg gg.length dg : Value).ownBlock = some k → w5.heap.size ≤ k ∧ k < w6.heap.size from fun k hk => o6.lt k hk)
  have LRg := hid (show ∀ f ∈ gg, ∀ k, (rowV f).ownBlock = some k → w5.heap.size ≤ k ∧ k < w6.heap.size from fun f hf k hk => (q6 f hf).lt k hk)
  have b6' := u_cat b6 bb
  have X := hid (kept X.out b6')
  have B := hid (u_cat B.out b6')
  have Y0 := hid (kept Y0.out b6')
  have O0 := hid (owns_below O0.out b6')
  have Q0 := hid (Q0.out.below b6')
  have Yx := hid (kept Yx.out b6')
  have Ox := hid (owns_below Ox.out b6')
  have Rx := hid (Rx.out.below b6')
  have N1 := hid (owns_below N1.out b6')
  have Og := hid (owns_below o6 bb)
  have Rg := hid (q6.below bb)
  have APg := hid ap6
  have SG := hid (vals_same.1 (v6.trans V0.out.symm))
  have hggl : gg.length ≤ 1048576 := by rw [vals_len v6]; exact hvl
  have SMG := hid (vals_small v6 HVK.out)
  clear b6 b6' o6 v6 q6 ap6 bb s0 s1 s2
  repeat ((fail_if_success (with_reducible show Code.wp _ (Code.region 13 _ _) _ _ _)); (first | go_values | go_skip | go_guarded | go_step | go_upon | go_back | go_simp))
  rw [← hW6]
  clear hW6
  have s0 := box_cell Yg.out 0 (v := .int .i64 cc) rfl
  have s1 := box_cell Yg.out 1 (v := .int .i64 zz) rfl
  have s2 := box_cell Yg.out 2 (v := .slice bg gg.length dg) rfl
  have u0 := box_cell Y0.out 0 (v := .int .i64 cc) rfl
  have u1 := box_cell Y0.out 1 (v := .int .i64 zz) rfl
  have u2 := box_cell Y0.out 2 (v := .slice b0 gs0.length d0) rfl
  go_wp2_with fail
  refine (eqSolver_same bg b0 dg d0 gg gs0 cc zz _ (eqs_at Og.out Rg.out) (eqs_at O0.out Q0.out) SG.out hggl SMG.out).mono ?_
  rintro e w7 ⟨rfl, b7⟩
  have hz7 := b7.size
  have X := hid (kept X.out b7)
  have B := hid (u_cat B.out b7)
  have Y0 := hid (kept Y0.out b7)
  have O0 := hid (owns_below O0.out b7)
  have Q0 := hid (Q0.out.below b7)
  have Yx := hid (kept Yx.out b7)
  have Ox := hid (owns_below Ox.out b7)
  have Rx := hid (Rx.out.below b7)
  have N1 := hid (owns_below N1.out b7)
  have Yg := hid (kept Yg.out b7)
  have Og := hid (owns_below Og.out b7)
  have Rg := hid (Rg.out.below b7)
  clear b7 s0 s1 s2 u0 u1 u2
  have p0 := box_cell X.out 0 (v := .int .i64 c) rfl
  have p1 := box_cell X.out 1 (v := .int .i64 z) rfl
  have p2 := box_cell X.out 2 (v := .slice a es.length cap) rfl
  have s0 := box_cell Yx.out 0 (v := .int .i64 c) rfl
  have s1 := box_cell Yx.out 1 (v := .int .i64 z) rfl
  have s2 := box_cell Yx.out 2 (v := .slice r2 gx.length f2) rfl
  have m1 : w.heap.size < w7.heap.size := lt_of_block X.out
  have m2 : w4.heap.size < w7.heap.size := lt_of_block Yx.out
  have J1 := hid (eqs_at Ox.out Rx.out)
  go_wp2_with fail
  go_region_held3 (fun w' => w'.cell? ⟨w.heap.size, 0, none⟩ = some (.int .i64 c) ∧ w'.cell? ⟨w.heap.size, 1, none⟩ = some (.int .i64 z) ∧ w'.cell? ⟨w.heap.size, 2, none⟩ = some (.slice a es.length cap) ∧ w'.cell? ⟨w4.heap.size, 0, none⟩ = some (.int .i64 c) ∧ w'.cell? ⟨w4.heap.size, 1, none⟩ = some (.int .i64 z) ∧ w'.cell? ⟨w4.heap.size, 2, none⟩ = some (.slice r2 gx.length f2)) (go_keep) (first
    | (go_at_call 12; refine (toSolver_any a cap es c z _ (by exact EqsAt.drewNsolverAdd (HA.out.below B.out) 1) hs HS.out).mono ?_; rintro e w8 ⟨t1, h1, ks, rfl, k1, k2, k3, b8⟩; have hc8 : ∀ bb o, bb < w7.heap.size → w8.cell? ⟨bb, o, none⟩ = w7.cell? ⟨bb, o, none⟩ := (u_cell b8).1; have I1 := hid (eqs_at k1 k3); have M3 := hid k2; have B8 := hid b8; clear k1 k2 k3 b8)
    | (go_at_call 14; refine (eqSolver_same r2 t1 f2 h1 gx ks c z _ (by exact (EqsAt.drewNsolverAdd J1.out 1).below B8.out) (by exact I1.out) (M2.out.trans M3.out.symm) (by rw [M2.out.len]; exact hs) (M2.out.symm.small HS.out)).mono ?_; rintro e w9 ⟨rfl, b9⟩; have hc9 : ∀ bb o, bb < w8.heap.size → w9.cell? ⟨bb, o, none⟩ = w8.cell? ⟨bb, o, none⟩ := (u_cell b9).1; have m3 : w7.heap.size ≤ w8.heap.size := B8.out.size; have m4 : w.heap.size < w8.heap.size := (by omega); have m5 : w4.heap.size < w8.heap.size := (by omega); have B9 := hid b9; clear b9))
  all_goals go_wp2_with fail
  have D8 := u_cat B8.out B9.out
  have D7 := u_cat (below_drewN (Below.refl w7.heap.size w7) 1) D8
  have X := hid (kept X.out D7)
  have B := hid (u_cat B.out D7)
  have Y0 := hid (kept Y0.out D7)
  have O0 := hid (owns_below O0.out D7)
  have Q0 := hid (Q0.out.below D7)
  have Yx := hid (kept Yx.out D7)
  have Ox := hid (owns_below Ox.out D7)
  have Rx := hid (Rx.out.below D7)
  have N1 := hid (owns_below N1.out D7)
  have Yg := hid (kept Yg.out D7)
  have Og := hid (owns_below Og.out D7)
  have Rg := hid (Rg.out.below D7)
  have hz9 := D7.size
  clear D8 D7 p0 p1 p2 s0 s1 s2 hc8 hc9 m1 m2 m3 m4 m5 J1 I1 B8 B9
  refine (toIntS_any ar cr row _ (HR.out.below B.out) HRL.out).mono ?_
  rintro e w10 ⟨vr, rfl, or3, br3⟩
  obtain ⟨ar3, cr3, rfl, -, jr3⟩ := owns_ints or3
  have hz10 := br3.size
  have X := hid (kept X.out br3)
  have B := hid (u_cat B.out br3)
  have Y0 := hid (kept Y0.out br3)
  have O0 := hid (owns_below O0.out br3)
  have Q0 := hid (Q0.out.below br3)
  have Yx := hid (kept Yx.out br3)
  have Ox := hid (owns_below Ox.out br3)
  have Rx := hid (Rx.out.below br3)
  have N1 := hid (owns_below N1.out br3)
  have Yg := hid (kept Yg.out br3)
  have Og := hid (owns_below Og.out br3)
  have Rg := hid (Rg.out.below br3)
  have JR3 := hid jr3
  clear or3 br3 jr3
  go_wp2_with fail
  refine (eqIntS_any ar2 ar3 cr2 cr3 row row w10 (owns_at N1.out) JR3.out (by have := HRL.out; omega)).mono ?_
  rintro e w11 ⟨rfl, hdr⟩
  rw [decide_eq_true (rfl : row = row)]
  have b11 : Below w10.heap.size w10 w11 := by obtain ⟨n, rfl⟩ := hdr; exact below_drewN (Below.refl _ _) n
  have hz11 := b11.size
  have X := hid (kept X.out b11)
  have B := hid (u_cat B.out b11)
  have Y0 := hid (kept Y0.out b11)
  have O0 := hid (owns_below O0.out b11)
  have Q0 := hid (Q0.out.below b11)
  have Yx := hid (kept Yx.out b11)
  have Ox := hid (owns_below Ox.out b11)
  have Rx := hid (Rx.out.below b11)
  have N1 := hid (owns_below N1.out b11)
  have Yg := hid (kept Yg.out b11)
  have Og := hid (owns_below Og.out b11)
  have Rg := hid (Rg.out.below b11)
  clear b11 hdr JR3
  have s0 := box_cell Yx.out 0 (v := .int .i64 c) rfl
  have s1 := box_cell Yx.out 1 (v := .int .i64 z) rfl
  have s2 := box_cell Yx.out 2 (v := .slice r2 gx.length f2) rfl
  go_wp2_with fail
  refine (markSolver_any W3.heap.size c z r2 f2 gx 1 _ Ox.out Rx.out APx.out (by rw [M2.out.len]; exact hs) (fun f hf => (M2.out.symm.small HS.out f hf).1) (by omega) (by omega) (by omega)).mono ?_
  rintro e w12 ⟨rfl, -, -, b12, k12⟩
  have KO := hid (keepOut_of k12 Lx.out LRx.out)
  have hz12 := b12.size
  have X := hid (KO.out.blk X.out (by omega))
  have Y0 := hid (KO.out.blk Y0.out (by omega))
  have O0 := hid (KO.out.owns O0.out (fun k hk => by have := L0.out k hk; omega))
  have Q0 := hid (KO.out.rows Q0.out (fun f hf k hk => by have := LR0.out f hf k hk; omega))
  have N1 := hid (KO.out.owns N1.out (fun k hk => by have := Lr.out k hk; omega))
  have Yg := hid (KO.out.blk Yg.out (by omega))
  have Og := hid (KO.out.owns Og.out (fun k hk => by have := Lg.out k hk; omega))
  have Rg := hid (KO.out.rows Rg.out (fun f hf k hk => by have := LRg.out f hf k hk; omega))
  have B := hid (B.out.trans (b12.mono (by omega)))
  have hct := cntE_le (fs := gx) (fun f hf => (M2.out.symm.small HS.out f hf).1)
  have hgxl : gx.length ≤ 1048576 := by rw [M2.out.len]; exact hs
  have hrl2 := HRL.out
  clear s0 s1 s2 b12 k12 KO Yx Ox Rx
  obtain ⟨K1, hK1⟩ : ∃ K1 : Nat, K1 = 1 + cntE gx := ⟨_, rfl⟩
  have hK1b : K1 ≤ 1152921504606846976 := by omega
  rw [← hK1]
  clear hK1
  go_wp2_with fail
  refine (markIntS_any W4.heap.size _ row.length row K1 w12 N1.out (by omega) (by omega) (by omega)).mono ?_
  rintro e w13 ⟨rfl, -, g13⟩
  have KO := hid (keepOut_row g13 Lr.out)
  have hz13 := g13.size
  have b13 := grown_base g13 N1.out (show W4.heap.size ≤ w12.heap.size by omega)
  have X := hid (KO.out.blk X.out (by omega))
  have Y0 := hid (KO.out.blk Y0.out (by omega))
  have O0 := hid (KO.out.owns O0.out (fun k hk => by have := L0.out k hk; omega))
  have Q0 := hid (KO.out.rows Q0.out (fun f hf k hk => by have := LR0.out f hf k hk; omega))
  have Yg := hid (KO.out.blk Yg.out (by omega))
  have Og := hid (KO.out.owns Og.out (fun k hk => by have := Lg.out k hk; omega))
  have Rg := hid (KO.out.rows Rg.out (fun f hf k hk => by have := LRg.out f hf k hk; omega))
  have B := hid (B.out.trans (b13.mono (by omega)))
  have hkn : ¬ ((K1 : Int) + (row.length : Int) < 0) := by omega
  clear b13 g13 KO N1
  have s0 := box_cell Yg.out 0 (v := .int .i64 cc) rfl
  have s1 := box_cell Yg.out 1 (v := .int .i64 zz) rfl
  have s2 := box_cell Yg.out 2 (v := .slice bg gg.length dg) rfl
  have u0 := box_cell Y0.out 0 (v := .int .i64 cc) rfl
  have u1 := box_cell Y0.out 1 (v := .int .i64 zz) rfl
  have u2 := box_cell Y0.out 2 (v := .slice b0 gs0.length d0) rfl
  go_wp2_with fail
  refine (eqSolver_same bg b0 dg d0 gg gs0 cc zz _ (eqs_at Og.out Rg.out) (eqs_at O0.out Q0.out) SG.out hggl SMG.out).mono ?_
  rintro e w14 ⟨rfl, b14⟩
  have hz14 := b14.size
  have X := hid (kept X.out b14)
  have B := hid (u_cat B.out b14)
  have Y0 := hid (kept Y0.out b14)
  have O0 := hid (owns_below O0.out b14)
  have Q0 := hid (Q0.out.below b14)
  have Yg := hid (kept Yg.out b14)
  have Og := hid (owns_below Og.out b14)
  have Rg := hid (Rg.out.below b14)
  clear b14 s0 s1 s2 u0 u1 u2
  have s0 := box_cell Yg.out 0 (v := .int .i64 cc) rfl
  have s1 := box_cell Yg.out 1 (v := .int .i64 zz) rfl
  have s2 := box_cell Yg.out 2 (v := .slice bg gg.length dg) rfl
  go_wp2_with fail
  refine (markSolver_any w5.heap.size cc zz bg dg gg 1 _ Og.out Rg.out APg.out hggl (fun f hf => (SMG.out f hf).1) (by omega) (by omega) (by omega)).mono ?_
  rintro e w15 ⟨rfl, o15, r15, b15, k15⟩
  have KO := hid (keepOut_of k15 Lg.out LRg.out)
  have hz15 := b15.size
  have X := hid (KO.out.blk X.out (by omega))
  have Y0 := hid (KO.out.blk Y0.out (by omega))
  have O0 := hid (KO.out.owns O0.out (fun k hk => by have := L0.out k hk; omega))
  have Q0 := hid (KO.out.rows Q0.out (fun f hf k hk => by have := LR0.out f hf k hk; omega))
  have Yg := hid (KO.out.blk Yg.out (by omega))
  have Eg := hid (show EqsAt w15 bg (mkE 1 gg) by
    have h := o15
    rw [← mkE_len gg 1] at h
    exact eqs_at h r15)
  have B := hid (B.out.trans (b15.mono (by omega)))
  have hcg := cntE_le (fs := gg) (fun f hf => (SMG.out f hf).1)
  clear s0 s1 s2 b15 k15 o15 r15 KO Og Rg
  have KH := hid (fun W (hE : EqsAt W bg (mkE 1 gg)) => heldSolver_any cc zz bg dg gg 1 W hE hggl (fun f hf => (SMG.out f hf).1) (by omega) (by omega))
  obtain ⟨K2, hK2⟩ : ∃ K2 : Nat, K2 = 1 + cntE gg := ⟨_, rfl⟩
  have hk2 : ¬ ((K2 : Int) < 0) := by omega
  rw [← hK2] at KH ⊢
  clear hK2
  have s0 := box_cell Yg.out 0 (v := .int .i64 cc) rfl
  have s1 := box_cell Yg.out 1 (v := .int .i64 zz) rfl
  have s2 := box_cell Yg.out 2 (v := .slice bg gg.length dg) rfl
  go_wp2_with fail
  refine (KH.out w15 Eg.out).mono ?_
  rintro e w16 ⟨rfl, b16⟩
  have X := hid (kept X.out b16)
  have B := hid (u_cat B.out b16)
  have Y0 := hid (kept Y0.out b16)
  have O0 := hid (owns_below O0.out b16)
  have Q0 := hid (Q0.out.below b16)
  have Yg := hid (kept Yg.out b16)
  have Eg := hid (Eg.out.below b16)
  clear b16 s0 s1 s2
  have p0 := box_cell X.out 0 (v := .int .i64 c) rfl
  have p1 := box_cell X.out 1 (v := .int .i64 z) rfl
  have p2 := box_cell X.out 2 (v := .slice a es.length cap) rfl
  go_wp2_with fail
  refine (toSolver_any a cap es c z _ (HA.out.below B.out) hs HS.out).mono ?_
  rintro e w17 ⟨r3, f3, hx, rfl, o17, s17, q17, b17⟩
  have X := hid (kept X.out b17)
  have B := hid (u_cat B.out b17)
  have Y0 := hid (kept Y0.out b17)
  have O0 := hid (owns_below O0.out b17)
  have Q0 := hid (Q0.out.below b17)
  have Yg := hid (kept Yg.out b17)
  have Eg := hid (Eg.out.below b17)
  have I3 := hid (eqs_at o17 q17)
  have M3 := hid s17
  clear b17 o17 s17 q17 p0 p1 p2
  go_wp2_with fail
  refine (toIntS_any ar cr row _ (HR.out.below B.out) HRL.out).mono ?_
  rintro e w18 ⟨vr, rfl, or4, br4⟩
  obtain ⟨ar4, cr4, rfl, -, jr4⟩ := owns_ints or4
  have X := hid (kept X.out br4)
  have B := hid (u_cat B.out br4)
  have Y0 := hid (kept Y0.out br4)
  have O0 := hid (owns_below O0.out br4)
  have Q0 := hid (Q0.out.below br4)
  have Yg := hid (kept Yg.out br4)
  have Eg := hid (Eg.out.below br4)
  have I3 := hid (I3.out.below br4)
  have JR4 := hid jr4
  clear br4 or4 jr4
  go_wp2_with fail
  refine (HIM.out r3 f3 hx ar4 cr4 _ I3.out M3.out (by rw [M3.out.len]; exact hs) (M3.out.symm.small HS.out) JR4.out HRL.out HDL.out (HT.out.below B.out)).mono ?_
  rintro e w19 ⟨bh, dh, gh, rfl, o19, v19, q19, -, b19⟩
  obtain ⟨W9, hW9⟩ : ∃ W9, W9 = w19.alloc (.cells #[.int .i64 cc, .int .i64 zz, .slice bh gh.length dh] 29) := ⟨_, rfl⟩
  have bb : Below w19.heap.size w19 W9 := by rw [hW9]; exact u_b1 _ _
  have Yh := hid (show W9.heap[w19.heap.size]? = some (.cells #[.int .i64 cc, .int .i64 zz, .slice bh gh.length dh] 29 (0, 0)) by rw [hW9]; exact laid w19 _ _)
  have b19' := u_cat b19 bb
  have X := hid (kept X.out b19')
  have B := hid (u_cat B.out b19')
  have Y0 := hid (kept Y0.out b19')
  have O0 := hid (owns_below O0.out b19')
  have Q0 := hid (Q0.out.below b19')
  have Yg := hid (kept Yg.out b19')
  have Eg := hid (Eg.out.below b19')
  have Eh := hid ((eqs_at o19 q19).below bb)
  have SH := hid (vals_same.1 (v19.trans V0.out.symm))
  have hghl : gh.length ≤ 1048576 := by rw [vals_len v19]; exact hvl
  have SMH := hid (vals_small v19 HVK.out)
  clear b19 b19' o19 v19 q19 bb I3 M3 JR4
  repeat ((fail_if_success (with_reducible show Code.wp _ (Code.region 33 _ _) _ _ _)); (first | go_values | go_skip | go_guarded | go_step | go_upon | go_back | go_simp))
  rw [← hW9]
  clear hW9
  have s0 := box_cell Yh.out 0 (v := .int .i64 cc) rfl
  have s1 := box_cell Yh.out 1 (v := .int .i64 zz) rfl
  have s2 := box_cell Yh.out 2 (v := .slice bh gh.length dh) rfl
  have u0 := box_cell Y0.out 0 (v := .int .i64 cc) rfl
  have u1 := box_cell Y0.out 1 (v := .int .i64 zz) rfl
  have u2 := box_cell Y0.out 2 (v := .slice b0 gs0.length d0) rfl
  go_wp2_with fail
  refine (eqSolver_same bh b0 dh d0 gh gs0 cc zz _ Eh.out (eqs_at O0.out Q0.out) SH.out hghl SMH.out).mono ?_
  rintro e w20 ⟨rfl, b20⟩
  have B := hid (u_cat B.out b20)
  have Yg := hid (kept Yg.out b20)
  have Eg := hid (Eg.out.below b20)
  clear b20 s0 s1 s2 u0 u1 u2 Yh Eh
  have s0 := box_cell Yg.out 0 (v := .int .i64 cc) rfl
  have s1 := box_cell Yg.out 1 (v := .int .i64 zz) rfl
  have s2 := box_cell Yg.out 2 (v := .slice bg gg.length dg) rfl
  go_wp2_with fail
  refine (KH.out w20 Eg.out).mono ?_
  rintro e w21 ⟨rfl, b21⟩
  have B := hid (u_cat B.out b21)
  clear b21 s0 s1 s2
  go_wp2_with fail
  go_ret
  exact ⟨rfl, B.out⟩
end Go.Proofs.YtpdaobiaekamoaaDoor
