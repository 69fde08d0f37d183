/- Gettings that come in: measured, copied, compared, read. A getting laid anew, its rows apart, as the laws do it. -/
import Derived.Test.YtbakicgdloakgaaGreatDoorG16
import Derived.Test.YtbakicgdloakgaaGreatDoorG6
import Derived.Test.YtbakicgdloakgaaGreatDoorG4
namespace Go.Proofs.YtbakicgdloakgaaGreatDoor
open Go.ChangeShapes Go.WideShapes Go.ChangeAt Go.RowKit Go.Sort Go.Shelf
attribute [local go_sem] Oper.semAt_some

set_option maxRecDepth 100000 in
set_option maxHeartbeats 2000000 in
theorem szEqS_le (a : Option Addr) (cap : Nat) (es : List EqV) (left : Int) (w : World) (ha : EqsAt w a es) (hn : es.length ≤ 9223372036854775807) (hL : LongE es) (l0 : 0 ≤ left) (l1 : left ≤ 1048576) :
    Calls Tryz.prog 67 #[.slice a es.length cap, .int .i64 left] w fun e w' => ∃ v : Int, e = .returned (.int .i64 v) ∧ szP (es.length ≤ 1048576 ∧ SmallE es) left v ∧ Below w.heap.size w w' := by
  have HA := hid ha
  have HL := hid hL
  clear ha hL
  by_cases h : (es.length : Int) ≤ left
  · have h2 : ¬ (left - (es.length : Int) < 0) := by omega
    go_enter Tryz.func67, Tryz.ntmps67
    go_wp2
    go_loopw [1, 5] (fun l i wr => ∃ (k : Nat) (v : Int), k ≤ es.length ∧ i = .int .i64 k ∧ l = .int .i64 v ∧ 0 ≤ v ∧ v ≤ left ∧ (∀ j (hj : j < es.length), j < k → es[j].r.length ≤ 1048576 ∧ es[j].d.size ≤ 1048576) ∧ Below w.heap.size w wr) (fun _ i _ => es.length - (intOf i).toNat)
    case atStart => exact ⟨0, _, by omega, rfl, rfl, by omega, by omega, fun j hj h => by omega, Below.refl _ _⟩
    case round =>
      obtain ⟨k, v, hk, rfl, rfl, hv0, hv1, hall, B⟩ := hrel
      have HB := hid B
      have HS := hid hall
      clear hall
      by_cases hlt : k < es.length
      · obtain ⟨e, he⟩ : ∃ e, es[k] = e := ⟨_, rfl⟩
        have hm : e ∈ es := by rw [← he]; exact List.getElem_mem hlt
        obtain ⟨b, off, rfl, hc⟩ := (HA.out.below B) (by intro h; simp [h] at hlt)
        obtain ⟨c0, c1, -⟩ := hc k e (by rw [List.getElem?_eq_getElem hlt, he])
        have K := hid (szEq_ex e.a e.r.length e.c e.d v wr (HL.out e hm).1 (HL.out e hm).2 hv0 (by omega))
        have HE := hid he
        clear hc he hm B
        go_wp2_with fail
        refine K.out.mono ?_
        rintro _ w1 ⟨u, rfl, hu, b1⟩
        have HU := hid hu
        clear hu c0 c1
        by_cases hu0 : u < 0
        · go_wp2_with fail
          go_ret
          exact ⟨_, rfl, .inl (by omega), u_cat HB.out b1⟩
        · have HU2 := hid (HU.out.resolve_left hu0)
          go_wp2_with fail
          go_roundw
          case rel => exact ⟨k + 1, u, by omega, by go_num, rfl, HU2.out.2.1, by have := HU2.out.2.2; omega, fun j hj hjk => (by
            rcases Nat.lt_succ_iff_lt_or_eq.1 hjk with h | h
            · exact HS.out j hj h
            · subst h; rw [HE.out]; have := HU2.out.1; omega), u_cat HB.out b1⟩
          case measure => simp [intOf]; omega
      · go_wp2
        go_ret
        exact ⟨_, rfl, .inr ⟨⟨by omega, fun e he => by
          obtain ⟨j, hj, rfl⟩ := List.getElem_of_mem he
          exact HS.out j hj (by omega)⟩, hv0, hv1⟩, HB.out⟩
  · have h2 : left - (es.length : Int) < 0 := by omega
    go_enter Tryz.func67, Tryz.ntmps67
    go_wp2
    go_ret
    exact ⟨_, rfl, .inl (by omega), Below.refl _ _⟩

set_option maxRecDepth 100000 in
set_option maxHeartbeats 1000000 in
theorem szSolver_le (a : Option Addr) (cap : Nat) (es : List EqV) (c z left : Int) (w : World) (ha : EqsAt w a es) (hn : es.length ≤ 9223372036854775807) (hL : LongE es) (l0 : 0 ≤ left) (l1 : left ≤ 1048576) :
    Calls Tryz.prog 45 #[.agg #[.int .i64 c, .int .i64 z, .slice a es.length cap], .int .i64 left] w fun e w' => ∃ v : Int, e = .returned (.int .i64 v) ∧ szP (es.length ≤ 1048576 ∧ SmallE es) left v ∧ Below w.heap.size w w' := by
  have HA := hid ha
  clear ha
  go_enter Tryz.func45, Tryz.ntmps45
  go_wp2_with fail
  refine (szEqS_le a cap es left _ (HA.out.below (u_b1 _ _)) hn hL l0 l1).mono ?_
  rintro e w1 ⟨v, rfl, hv, b1⟩
  have HB := hid (u_cat (u_b1 _ _) b1)
  clear b1
  by_cases hv0 : v < 0
  · clear hv
    go_wp2_with fail
    go_ret
    exact ⟨_, rfl, .inl (by omega), HB.out⟩
  · have HV := hid hv
    clear hv
    go_wp2_with fail
    go_ret
    exact ⟨_, rfl, HV.out, HB.out⟩

/-- A getting of the call's own. -/
structure GetOwn (w : World) (base : Nat) (ws gs : List Int) (b1 b2 : Option Addr) (d1 d2 : Nat) (a : Option Addr) (c : Nat) (fs : List EqV) : Prop where
  o1 : w.ownsRow base 3 1 (.slice b1 ws.length d1) ws.length (ws.map (Value.int .i64))
  o2 : w.ownsRow base 3 1 (.slice b2 gs.length d2) gs.length (gs.map (Value.int .i64))
  ap : Apart (.slice b1 ws.length d1) (.slice b2 gs.length d2)
  up : ∃ n, base ≤ n ∧ (∀ k, (.slice b1 ws.length d1 : Value).ownBlock = some k → k < n) ∧ (∀ k, (.slice b2 gs.length d2 : Value).ownBlock = some k → k < n) ∧ w.ownsRow n 124 2 (.slice a fs.length c) fs.length (eqCells fs) ∧ RowsOwn w n fs

theorem GetOwn.eqs {w : World} {base : Nat} {ws gs : List Int} {b1 b2 : Option Addr} {d1 d2 : Nat} {a : Option Addr} {c : Nat} {fs : List EqV} (h : GetOwn w base ws gs b1 b2 d1 d2 a c fs) : EqsAt w a fs := by
  obtain ⟨n, _, _, _, h1, h2⟩ := h.up
  exact eqs_at h1 h2

set_option maxRecDepth 100000 in
set_option maxHeartbeats 2000000 in
theorem eqGetting_eq (L S : Int) (a1 a2 : Option Addr) (c1 c2 : Nat) (b1 b2 : Option Addr) (d1 d2 : Nat) (ws gs : List Int) (C Z : Int) (a b : Option Addr) (ca cb : Nat) (es fs : List EqV) (w : World) (ha1 : IntsAt w a1 ws) (ha2 : IntsAt w a2 gs) (hb1 : IntsAt w b1 ws) (hb2 : IntsAt w b2 gs) (hx : ws.length ≤ 1048576) (hy : gs.length ≤ 1048576) (ha : EqsAt w a es) (hb : EqsAt w b fs) (hs : SamV es fs) (hz : es.length ≤ 1048576) (hsm : SmallE es) :
    Calls Tryz.prog 34 #[.agg #[.int .i64 L, .int .i64 S, .slice a1 ws.length c1, .slice a2 gs.length c2, .int .i64 C, .int .i64 Z, .slice a es.length ca], .agg #[.int .i64 L, .int .i64 S, .slice b1 ws.length d1, .slice b2 gs.length d2, .int .i64 C, .int .i64 Z, .slice b fs.length cb]] w fun e w' => e = .returned (.bool true) ∧ Below w.heap.size w w' := by
  obtain ⟨W0, hW0⟩ : ∃ W0, W0 = (w.alloc (.cells #[.int .i64 L, .int .i64 S, .slice a1 ws.length c1, .slice a2 gs.length c2, .int .i64 C, .int .i64 Z, .slice a es.length ca] 38)).alloc (.cells #[.int .i64 L, .int .i64 S, .slice b1 ws.length d1, .slice b2 gs.length d2, .int .i64 C, .int .i64 Z, .slice b fs.length cb] 38) := ⟨_, rfl⟩
  obtain ⟨X0, X1, B0⟩ := u_box2 (w := w) (c := #[.int .i64 L, .int .i64 S, .slice a1 ws.length c1, .slice a2 gs.length c2, .int .i64 C, .int .i64 Z, .slice a es.length ca]) (t := 38) (d := #[.int .i64 L, .int .i64 S, .slice b1 ws.length d1, .slice b2 gs.length d2, .int .i64 C, .int .i64 Z, .slice b fs.length cb]) (s := 38) (w1 := W0) (by rw [hW0]; exact Below.refl _ _)
  have HX0 := hid X0
  have HX1 := hid X1
  have I1 := hid (ha1.below B0)
  have I2 := hid (ha2.below B0)
  have J1 := hid (hb1.below B0)
  have J2 := hid (hb2.below B0)
  have E1 := hid (ha.below B0)
  have E2 := hid (hb.below B0)
  have HS := hid hsm
  have HM := hid hs
  have HB := hid B0
  have q0 := box_cell X0 0 (v := .int .i64 L) rfl
  have q1 := box_cell X0 1 (v := .int .i64 S) rfl
  have q2 := box_cell X0 2 (v := .slice a1 ws.length c1) rfl
  have q3 := box_cell X0 3 (v := .slice a2 gs.length c2) rfl
  have r0 := box_cell X1 0 (v := .int .i64 L) rfl
  have r1 := box_cell X1 1 (v := .int .i64 S) rfl
  have r2 := box_cell X1 2 (v := .slice b1 ws.length d1) rfl
  have r3 := box_cell X1 3 (v := .slice b2 gs.length d2) rfl
  clear X0 X1 B0 ha1 ha2 hb1 hb2 ha hb hs hsm
  go_enter Tryz.func34, Tryz.ntmps34
  repeat ((fail_if_success (with_reducible show Code.wp _ (Code.region 1 _ _) _ _ _)); (first | go_values | go_skip | go_guarded | go_step | go_upon | go_back | go_simp))
  rw [← hW0]
  clear hW0
  go_wp2_with fail
  refine (eqPlan_same L S a1 a2 b1 b2 c1 c2 d1 d2 ws gs _ I1.out I2.out J1.out J2.out (by omega) (by omega)).mono ?_
  rintro e w1 ⟨rfl, bb⟩
  replace HX0 := hid (kept HX0.out bb)
  replace HX1 := hid (kept HX1.out bb)
  replace HB := hid (u_cat HB.out bb)
  replace E1 := hid (E1.out.below bb)
  replace E2 := hid (E2.out.below bb)
  clear bb q0 q1 q2 q3 r0 r1 r2 r3
  have q4 := box_cell HX0.out 4 (v := .int .i64 C) rfl
  have q5 := box_cell HX0.out 5 (v := .int .i64 Z) rfl
  have q6 := box_cell HX0.out 6 (v := .slice a es.length ca) rfl
  have r4 := box_cell HX1.out 4 (v := .int .i64 C) rfl
  have r5 := box_cell HX1.out 5 (v := .int .i64 Z) rfl
  have r6 := box_cell HX1.out 6 (v := .slice b fs.length cb) rfl
  go_wp2_with fail
  refine (eqSolver_same a b ca cb es fs C Z _ E1.out E2.out HM.out hz HS.out).mono ?_
  rintro e w2 ⟨rfl, bb⟩
  replace HB := hid (u_cat HB.out bb)
  clear bb q4 q5 q6 r4 r5 r6
  go_wp2_with fail
  go_ret
  exact ⟨rfl, HB.out⟩

theorem cellsGet : Tryz.prog.cellsOf 29 = 7 := by kernel_rfl
set_option maxRecDepth 100000 in
theorem reads_getting {W : World} {cs : List Value} (h : Reads W 29 cs) : ∃ L S a1 n1 k1 z1 a2 n2 k2 z2 C Z a cap es, cs = [.int .i64 L, .int .i64 S, .slice a1 n1 k1, .slice a2 n2 k2, .int .i64 C, .int .i64 Z, .slice a es.length cap] ∧
    IsRow .i64 W a1 n1 k1 z1 ∧ IsRow .i64 W a2 n2 k2 z2 ∧ EqsAt W a es ∧ es.length ≤ 9223372036854775807 ∧ LongE es := by
  obtain ⟨hl, hf⟩ := h.struct Tryz.underlying29
  rw [cellsGet] at hl
  obtain ⟨x0, x1, x2, x3, x4, x5, x6, rfl⟩ : ∃ x0 x1 x2 x3 x4 x5 x6, cs = [x0, x1, x2, x3, x4, x5, x6] := by
    match cs, hl with
    | [x0, x1, x2, x3, x4, x5, x6], _ => exact ⟨x0, x1, x2, x3, x4, x5, x6, rfl⟩
  have g0 : Reads W 24 (List.take (Tryz.prog.cellsOf 24) (List.drop 0 [x0, x1, x2, x3, x4, x5, x6])) := hf 0 _ rfl
  rw [cellsPlan] at g0
  have h0 : Reads W 24 [x0, x1, x2, x3] := g0
  have g1 : Reads W 27 (List.take (Tryz.prog.cellsOf 27) (List.drop 4 [x0, x1, x2, x3, x4, x5, x6])) := hf 1 _ rfl
  rw [cellsSol] at g1
  have h1 : Reads W 27 [x4, x5, x6] := g1
  obtain ⟨L, S, a1, n1, k1, z1, a2, n2, k2, z2, e0, -, -, r1, r2⟩ := reads_plan h0
  obtain ⟨C, Z, a, cap, es, e1, r3, r4, r5⟩ := reads_solver h1
  simp only [List.cons.injEq, and_true] at e0 e1
  obtain ⟨rfl, rfl, rfl, rfl⟩ := e0
  obtain ⟨rfl, rfl, rfl⟩ := e1
  exact ⟨L, S, a1, n1, k1, z1, a2, n2, k2, z2, C, Z, a, cap, es, rfl, r1, r2, r3, r4, r5⟩
end Go.Proofs.YtbakicgdloakgaaGreatDoor
namespace Go.Proofs.YtbakicgdloakgaaGreatDoor
open Go.ChangeShapes Go.WideShapes Go.ChangeAt Go.RowKit Go.Sort Go.Shelf
attribute [local go_sem] Oper.semAt_some

set_option maxRecDepth 100000 in
set_option maxHeartbeats 4000000 in
theorem toGetting_ap (L S : Int) (a1 a2 : Option Addr) (c1 c2 : Nat) (ws gs : List Int) (C Z : Int) (a : Option Addr) (cap : Nat) (es : List EqV) (w : World) (ha1 : IntsAt w a1 ws) (ha2 : IntsAt w a2 gs) (hx : ws.length ≤ 1048576) (hy : gs.length ≤ 1048576) (ha : EqsAt w a es) (hz : es.length ≤ 1048576) (hsm : SmallE es) :
    Calls Tryz.prog 28 #[.agg #[.int .i64 L, .int .i64 S, .slice a1 ws.length c1, .slice a2 gs.length c2, .int .i64 C, .int .i64 Z, .slice a es.length cap]] w fun e w' => ∃ b1 d1 b2 d2 a' c' fs, e = .returned (.agg #[.int .i64 L, .int .i64 S, .slice b1 ws.length d1, .slice b2 gs.length d2, .int .i64 C, .int .i64 Z, .slice a' fs.length c']) ∧ GetOwn w' w.heap.size ws gs b1 b2 d1 d2 a' c' fs ∧ SamV fs es ∧ RowsAp fs ∧ Below w.heap.size w w' := by
  have HA := hid ha
  have HS := hid hsm
  have H1 := hid ha1
  have H2 := hid ha2
  clear ha hsm ha1 ha2
  obtain ⟨W0, hW0⟩ : ∃ W0, W0 = ((w.alloc (.cells #[.int .i64 L, .int .i64 S, .slice a1 ws.length c1, .slice a2 gs.length c2, .int .i64 C, .int .i64 Z, .slice a es.length cap] 29)).alloc (.cells #[.int .i64 0, .int .i64 0, .slice none 0 0, .slice none 0 0, .int .i64 0, .int .i64 0, .slice none 0 0] 38)).alloc (.cells #[.int .i64 0, .int .i64 0, .slice none 0 0, .slice none 0 0, .int .i64 0, .int .i64 0, .slice none 0 0] 38) := ⟨_, rfl⟩
  obtain ⟨X0, X1, X2, B0⟩ := u_box3 (w := w) (c := #[.int .i64 L, .int .i64 S, .slice a1 ws.length c1, .slice a2 gs.length c2, .int .i64 C, .int .i64 Z, .slice a es.length cap]) (t := 29) (d := #[.int .i64 0, .int .i64 0, .slice none 0 0, .slice none 0 0, .int .i64 0, .int .i64 0, .slice none 0 0]) (s := 38) (f := #[.int .i64 0, .int .i64 0, .slice none 0 0, .slice none 0 0, .int .i64 0, .int .i64 0, .slice none 0 0]) (r := 38) (w1 := W0) (by rw [hW0]; exact Below.refl _ _)
  have hs0 : W0.heap.size = w.heap.size + 3 := by rw [hW0]; simp
  have HX0 := hid X0
  have HX1 := hid X1
  have HX2 := hid X2
  have HB := hid B0
  have q0 := box_cell X0 0 (v := .int .i64 L) rfl
  have q1 := box_cell X0 1 (v := .int .i64 S) rfl
  have q2 := box_cell X0 2 (v := .slice a1 ws.length c1) rfl
  have q3 := box_cell X0 3 (v := .slice a2 gs.length c2) rfl
  clear X0 X1 X2 B0
  go_enter Tryz.func28, Tryz.ntmps28
  repeat ((fail_if_success (with_reducible show Code.wp _ (Code.region 2 _ _) _ _ _)); (first | go_values | go_skip | go_guarded | go_step | go_upon | go_back | go_simp))
  rw [← hW0]
  clear hW0
  go_wp2_with fail
  refine (toPlan_own L S a1 a2 c1 c2 ws gs _ (H1.out.below HB.out) (H2.out.below HB.out) hx hy).mono ?_
  rintro e w1 ⟨b1, d1, b2, d2, rfl, o1, o2, ap, bb⟩
  have O1 := hid o1
  have O2 := hid o2
  have AP := hid ap
  replace HX0 := hid (kept HX0.out bb)
  replace HX1 := hid (kept HX1.out bb)
  replace HX2 := hid (kept HX2.out bb)
  replace HB := hid (u_cat HB.out bb)
  have hs1 : w.heap.size + 3 ≤ w1.heap.size := by have := bb.size; omega
  clear bb o1 o2 ap q0 q1 q2 q3
  have z2 := box_frozen HX2.out
  have q4 := box_cell HX0.out 4 (v := .int .i64 C) rfl
  have q5 := box_cell HX0.out 5 (v := .int .i64 Z) rfl
  have q6 := box_cell HX0.out 6 (v := .slice a es.length cap) rfl
  have r0 := box_cell HX2.out 0 (v := .int .i64 0) rfl
  have r1 := box_cell HX2.out 1 (v := .int .i64 0) rfl
  have r2 := box_cell HX2.out 2 (v := .slice none 0 0) rfl
  have r3 := box_cell HX2.out 3 (v := .slice none 0 0) rfl
  repeat ((fail_if_success (with_reducible show Code.wp _ (Code.region 3 _ _) _ _ _)); (first | go_values | go_skip | go_guarded | go_step | go_upon | go_back | go_simp))
  obtain ⟨V1, hV1⟩ : ∃ V1, V1 = (((w1.setCell ⟨w.heap.size + 1 + 1, 0, none⟩ (.int .i64 L)).setCell ⟨w.heap.size + 1 + 1, 1, none⟩ (.int .i64 S)).setCell ⟨w.heap.size + 1 + 1, 2, none⟩ (.slice b1 ws.length d1)).setCell ⟨w.heap.size + 1 + 1, 3, none⟩ (.slice b2 gs.length d2) := ⟨_, rfl⟩
  have Y2 := set_block (set_block (set_block (set_block HX2.out 0 (.int .i64 L)) 1 (.int .i64 S)) 2 (.slice b1 ws.length d1)) 3 (.slice b2 gs.length d2)
  have Y1 := set_other (set_other (set_other (set_other HX1.out (g := w.heap.size + 1 + 1) (by omega) 0 (.int .i64 L)) (g := w.heap.size + 1 + 1) (by omega) 1 (.int .i64 S)) (g := w.heap.size + 1 + 1) (by omega) 2 (.slice b1 ws.length d1)) (g := w.heap.size + 1 + 1) (by omega) 3 (.slice b2 gs.length d2)
  have Y0 := set_other (set_other (set_other (set_other HX0.out (g := w.heap.size + 1 + 1) (by omega) 0 (.int .i64 L)) (g := w.heap.size + 1 + 1) (by omega) 1 (.int .i64 S)) (g := w.heap.size + 1 + 1) (by omega) 2 (.slice b1 ws.length d1)) (g := w.heap.size + 1 + 1) (by omega) 3 (.slice b2 gs.length d2)
  have YB := u_set (u_set (u_set (u_set HB.out (g := w.heap.size + 1 + 1) (by omega) 0 (.int .i64 L)) (g := w.heap.size + 1 + 1) (by omega) 1 (.int .i64 S)) (g := w.heap.size + 1 + 1) (by omega) 2 (.slice b1 ws.length d1)) (g := w.heap.size + 1 + 1) (by omega) 3 (.slice b2 gs.length d2)
  have P1 := owns_base (base' := w.heap.size + 3) O1.out (by omega)
  have P2 := owns_base (base' := w.heap.size + 3) O2.out (by omega)
  have P1 := Touch.owns (Touch.setCell _ ⟨w.heap.size + 1 + 1, 3, none⟩ (.slice b2 gs.length d2)) (Touch.owns (Touch.setCell _ ⟨w.heap.size + 1 + 1, 2, none⟩ (.slice b1 ws.length d1)) (Touch.owns (Touch.setCell _ ⟨w.heap.size + 1 + 1, 1, none⟩ (.int .i64 S)) (Touch.owns (Touch.setCell _ ⟨w.heap.size + 1 + 1, 0, none⟩ (.int .i64 L)) P1 (by simp only []; omega)) (by simp only []; omega)) (by simp only []; omega)) (by simp only []; omega)
  have P2 := Touch.owns (Touch.setCell _ ⟨w.heap.size + 1 + 1, 3, none⟩ (.slice b2 gs.length d2)) (Touch.owns (Touch.setCell _ ⟨w.heap.size + 1 + 1, 2, none⟩ (.slice b1 ws.length d1)) (Touch.owns (Touch.setCell _ ⟨w.heap.size + 1 + 1, 1, none⟩ (.int .i64 S)) (Touch.owns (Touch.setCell _ ⟨w.heap.size + 1 + 1, 0, none⟩ (.int .i64 L)) P2 (by simp only []; omega)) (by simp only []; omega)) (by simp only []; omega)) (by simp only []; omega)
  have hsz : V1.heap.size = w1.heap.size := by rw [hV1]; simp [World.setCell]
  rw [← hV1] at Y0 Y1 Y2 YB P1 P2 ⊢
  replace HX0 := hid Y0
  replace HX1 := hid Y1
  replace HX2 := hid Y2
  replace HB := hid YB
  replace O1 := hid P1
  replace O2 := hid P2
  clear hV1 Y0 Y1 Y2 YB P1 P2 q4 q5 q6 r0 r1 r2 r3 z2
  have q4 := box_cell HX0.out 4 (v := .int .i64 C) rfl
  have q5 := box_cell HX0.out 5 (v := .int .i64 Z) rfl
  have q6 := box_cell HX0.out 6 (v := .slice a es.length cap) rfl
  go_wp2_with fail
  refine (toSolver_ap a cap es C Z _ (HA.out.below HB.out) hz HS.out).mono ?_
  rintro e w2 ⟨a', c', fs, rfl, o3, sm, rw3, ap3, bb⟩
  have U1 := hid (fun k h => (O1.out.lt k h).2)
  have U2 := hid (fun k h => (O2.out.lt k h).2)
  replace HX1 := hid (kept HX1.out bb)
  replace HX2 := hid (kept HX2.out bb)
  replace HB := hid (u_cat HB.out bb)
  replace O1 := hid (owns_below O1.out bb)
  replace O2 := hid (owns_below O2.out bb)
  have O3 := hid o3
  have R3 := hid rw3
  have SM := hid sm
  have AP3 := hid ap3
  have hs2 : V1.heap.size ≤ w2.heap.size := bb.size
  clear bb q4 q5 q6 o3 rw3 sm ap3
  have z2 := box_frozen HX2.out
  have r4 := box_cell HX2.out 4 (v := .int .i64 0) (by simp)
  have r5 := box_cell HX2.out 5 (v := .int .i64 0) (by simp)
  have r6 := box_cell HX2.out 6 (v := .slice none 0 0) (by simp)
  repeat ((fail_if_success (with_reducible show Code.wp _ (Code.region 4 _ _) _ _ _)); (first | go_values | go_skip | go_guarded | go_step | go_upon | go_back | go_simp))
  obtain ⟨V2, hV2⟩ : ∃ V2, V2 = ((w2.setCell ⟨w.heap.size + 1 + 1, 4, none⟩ (.int .i64 C)).setCell ⟨w.heap.size + 1 + 1, 5, none⟩ (.int .i64 Z)).setCell ⟨w.heap.size + 1 + 1, 6, none⟩ (.slice a' fs.length c') := ⟨_, rfl⟩
  have hlt := hs1
  have Y2 := set_block (set_block (set_block HX2.out 4 (.int .i64 C)) 5 (.int .i64 Z)) 6 (.slice a' fs.length c')
  have Y1 := set_other (set_other (set_other HX1.out (g := w.heap.size + 1 + 1) (by omega) 4 (.int .i64 C)) (g := w.heap.size + 1 + 1) (by omega) 5 (.int .i64 Z)) (g := w.heap.size + 1 + 1) (by omega) 6 (.slice a' fs.length c')
  have YB := u_set (u_set (u_set HB.out (g := w.heap.size + 1 + 1) (by omega) 4 (.int .i64 C)) (g := w.heap.size + 1 + 1) (by omega) 5 (.int .i64 Z)) (g := w.heap.size + 1 + 1) (by omega) 6 (.slice a' fs.length c')
  have P1 := Touch.owns (Touch.setCell _ ⟨w.heap.size + 1 + 1, 6, none⟩ (.slice a' fs.length c')) (Touch.owns (Touch.setCell _ ⟨w.heap.size + 1 + 1, 5, none⟩ (.int .i64 Z)) (Touch.owns (Touch.setCell _ ⟨w.heap.size + 1 + 1, 4, none⟩ (.int .i64 C)) O1.out (by simp only []; omega)) (by simp only []; omega)) (by simp only []; omega)
  have P2 := Touch.owns (Touch.setCell _ ⟨w.heap.size + 1 + 1, 6, none⟩ (.slice a' fs.length c')) (Touch.owns (Touch.setCell _ ⟨w.heap.size + 1 + 1, 5, none⟩ (.int .i64 Z)) (Touch.owns (Touch.setCell _ ⟨w.heap.size + 1 + 1, 4, none⟩ (.int .i64 C)) O2.out (by simp only []; omega)) (by simp only []; omega)) (by simp only []; omega)
  have P3 := Touch.owns (Touch.setCell _ ⟨w.heap.size + 1 + 1, 6, none⟩ (.slice a' fs.length c')) (Touch.owns (Touch.setCell _ ⟨w.heap.size + 1 + 1, 5, none⟩ (.int .i64 Z)) (Touch.owns (Touch.setCell _ ⟨w.heap.size + 1 + 1, 4, none⟩ (.int .i64 C)) O3.out (by simp only []; omega)) (by simp only []; omega)) (by simp only []; omega)
  have P4 := RowsOwn.set (RowsOwn.set (RowsOwn.set R3.out (g := w.heap.size + 1 + 1) (by omega) 4 (.int .i64 C)) (g := w.heap.size + 1 + 1) (by omega) 5 (.int .i64 Z)) (g := w.heap.size + 1 + 1) (by omega) 6 (.slice a' fs.length c')
  have hsz2 : V2.heap.size = w2.heap.size := by rw [hV2]; simp [World.setCell]
  rw [← hV2] at Y1 Y2 YB P1 P2 P3 P4 ⊢
  replace HX1 := hid Y1
  replace HX2 := hid Y2
  replace HB := hid YB
  replace O1 := hid P1
  replace O2 := hid P2
  replace O3 := hid P3
  replace R3 := hid P4
  clear hV2 Y1 Y2 YB P1 P2 P3 P4 r4 r5 r6 z2
  have r0 := box_cell HX2.out 0 (v := .int .i64 L) (by simp)
  have r1 := box_cell HX2.out 1 (v := .int .i64 S) (by simp)
  have r2 := box_cell HX2.out 2 (v := .slice b1 ws.length d1) (by simp)
  have r3 := box_cell HX2.out 3 (v := .slice b2 gs.length d2) (by simp)
  have r4 := box_cell HX2.out 4 (v := .int .i64 C) (by simp)
  have r5 := box_cell HX2.out 5 (v := .int .i64 Z) (by simp)
  have r6 := box_cell HX2.out 6 (v := .slice a' fs.length c') (by simp)
  have z1 := box_frozen HX1.out
  have s0 := box_cell HX1.out 0 (v := .int .i64 0) (by simp)
  have s1 := box_cell HX1.out 1 (v := .int .i64 0) (by simp)
  have s2 := box_cell HX1.out 2 (v := .slice none 0 0) (by simp)
  have s3 := box_cell HX1.out 3 (v := .slice none 0 0) (by simp)
  have s4 := box_cell HX1.out 4 (v := .int .i64 0) (by simp)
  have s5 := box_cell HX1.out 5 (v := .int .i64 0) (by simp)
  have s6 := box_cell HX1.out 6 (v := .slice none 0 0) (by simp)
  go_wp2_with fail
  have Y := set_block (set_block (set_block (set_block (set_block (set_block (set_block HX1.out 0 (.int .i64 L)) 1 (.int .i64 S)) 2 (.slice b1 ws.length d1)) 3 (.slice b2 gs.length d2)) 4 (.int .i64 C)) 5 (.int .i64 Z)) 6 (.slice a' fs.length c')
  have y0 := box_cell Y 0 (v := .int .i64 L) (by simp)
  have y1 := box_cell Y 1 (v := .int .i64 S) (by simp)
  have y2 := box_cell Y 2 (v := .slice b1 ws.length d1) (by simp)
  have y3 := box_cell Y 3 (v := .slice b2 gs.length d2) (by simp)
  have y4 := box_cell Y 4 (v := .int .i64 C) (by simp)
  have y5 := box_cell Y 5 (v := .int .i64 Z) (by simp)
  have y6 := box_cell Y 6 (v := .slice a' fs.length c') (by simp)
  obtain ⟨V3, hV3⟩ : ∃ V3, V3 = ((((((V2.setCell ⟨w.heap.size + 1, 0, none⟩ (.int .i64 L)).setCell ⟨w.heap.size + 1, 1, none⟩ (.int .i64 S)).setCell ⟨w.heap.size + 1, 2, none⟩ (.slice b1 ws.length d1)).setCell ⟨w.heap.size + 1, 3, none⟩ (.slice b2 gs.length d2)).setCell ⟨w.heap.size + 1, 4, none⟩ (.int .i64 C)).setCell ⟨w.heap.size + 1, 5, none⟩ (.int .i64 Z)).setCell ⟨w.heap.size + 1, 6, none⟩ (.slice a' fs.length c') := ⟨_, rfl⟩
  have T : ∀ {base : Nat} {e : TypeId} {size : Nat} {v : Value} {n : Nat} {xs : List Value}, w.heap.size + 1 < base → V2.ownsRow base e size v n xs → V3.ownsRow base e size v n xs := fun hb h => by
    rw [hV3]
    exact Touch.owns (Touch.setCell _ _ _) (Touch.owns (Touch.setCell _ _ _) (Touch.owns (Touch.setCell _ _ _) (Touch.owns (Touch.setCell _ _ _) (Touch.owns (Touch.setCell _ _ _) (Touch.owns (Touch.setCell _ _ _) (Touch.owns (Touch.setCell _ _ _) h (by simp only []; omega)) (by simp only []; omega)) (by simp only []; omega)) (by simp only []; omega)) (by simp only []; omega)) (by simp only []; omega)) (by simp only []; omega)
  have B3 : Below w.heap.size w V3 := by rw [hV3]; exact u_set (u_set (u_set (u_set (u_set (u_set (u_set (HB.out) (g := w.heap.size + 1) (by omega) _ _) (g := w.heap.size + 1) (by omega) _ _) (g := w.heap.size + 1) (by omega) _ _) (g := w.heap.size + 1) (by omega) _ _) (g := w.heap.size + 1) (by omega) _ _) (g := w.heap.size + 1) (by omega) _ _) (g := w.heap.size + 1) (by omega) _ _
  rw [← hV3] at y0 y1 y2 y3 y4 y5 y6 ⊢
  clear hV3 Y
  have T3 : ∀ {e : TypeId} {size : Nat} {v : Value} {n : Nat} {xs : List Value}, V2.ownsRow V1.heap.size e size v n xs → V3.ownsRow V1.heap.size e size v n xs := fun h => T (base := V1.heap.size) (by omega) h
  have T1 : ∀ {e : TypeId} {size : Nat} {v : Value} {n : Nat} {xs : List Value}, V2.ownsRow (w.heap.size + 3) e size v n xs → V3.ownsRow (w.heap.size + 3) e size v n xs := fun h => T (base := w.heap.size + 3) (by omega) h
  refine bodyPost_ret (v := .agg #[.int .i64 L, .int .i64 S, .slice b1 ws.length d1, .slice b2 gs.length d2, .int .i64 C, .int .i64 Z, .slice a' fs.length c']) ?_ rfl ⟨b1, d1, b2, d2, a', c', fs, rfl, ⟨?_, ?_, AP.out, V1.heap.size, by omega, U1.out, U2.out, T3 O3.out, fun f hf => T3 (R3.out f hf)⟩, SM.out, AP3.out, ?_⟩
  · unfold results; rw [Tryz.results28]; simp [go_sem, y0, y1, y2, y3, y4, y5, y6]
  · exact owns_base (T1 O1.out) (by omega)
  · exact owns_base (T1 O2.out) (by omega)
  · exact B3

end Go.Proofs.YtbakicgdloakgaaGreatDoor
