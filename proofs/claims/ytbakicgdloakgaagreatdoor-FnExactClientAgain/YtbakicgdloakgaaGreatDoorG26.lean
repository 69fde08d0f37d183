/- A client that is ok, by the program: its parts. -/
import Derived.Test.YtbakicgdloakgaaGreatDoorG10
import Derived.Test.YtbakicgdloakgaaGreatDoorG25
import Derived.Test.YtbakicgdloakgaaGreatDoorG0
import Derived.Test.YtbakicgdloakgaaGreatDoorG1
namespace Go.Proofs.YtbakicgdloakgaaGreatDoor
open Go.ChangeShapes Go.WideShapes Go.ChangeAt Go.RowKit Go.Sort Go.Shelf
attribute [local go_sem] Oper.semAt_some

set_option maxHeartbeats 4000000 in
set_option maxRecDepth 100000 in
theorem wants_any (i t s ed : Int) (nm : ByteArray) (L S : Int) (a1 a2 : Option Addr) (c1 c2 : Nat) (ws gs : List Int) (C Z : Int) (a : Option Addr) (cap : Nat) (es : List EqV) (w : World) (ha1 : IntsAt w a1 ws) (ha2 : IntsAt w a2 gs) (_hx : ws.length ≤ 1048576) (_hy : gs.length ≤ 1048576) (ha : EqsAt w a es) (_hl : es.length ≤ 1048576) (hsm : SmallE es) (hnm : nm.size ≤ maxLen) (hT : Tab w) :
    Calls Tryz.prog 133 #[.agg #[.int .i64 i, .int .i64 t, .int .i64 s, .string nm, .int .i64 ed, .int .i64 L, .int .i64 S, .slice a1 ws.length c1, .slice a2 gs.length c2, .int .i64 C, .int .i64 Z, .slice a es.length cap]] w fun e w' => e = .returned (.bool (decide ((0 < t ∧ nameB nm = true)))) ∧ Below w.heap.size w w' := by
  by_cases k0 : 0 < t
  case neg =>
    rw [decide_eq_false (show ¬ ((0 < t ∧ nameB nm = true)) from fun h => by grind)]
    have bt : decide (0 < t) = false := decide_eq_false k0
    obtain ⟨W0, hW0⟩ : ∃ W0, W0 = w.alloc (.cells #[.int .i64 i, .int .i64 t, .int .i64 s, .string nm, .int .i64 ed, .int .i64 L, .int .i64 S, .slice a1 ws.length c1, .slice a2 gs.length c2, .int .i64 C, .int .i64 Z, .slice a es.length cap] 40) := ⟨_, rfl⟩
    have X0 := hid (show W0.heap[w.heap.size]? = some (.cells #[.int .i64 i, .int .i64 t, .int .i64 s, .string nm, .int .i64 ed, .int .i64 L, .int .i64 S, .slice a1 ws.length c1, .slice a2 gs.length c2, .int .i64 C, .int .i64 Z, .slice a es.length cap] 40 (0, 0)) by rw [hW0]; exact laid _ _ _)
    have B0 := hid (show Below w.heap.size w W0 by rw [hW0]; exact u_b1 _ _)
    have I1 := hid (ha1.below B0.out)
    have I2 := hid (ha2.below B0.out)
    have I3 := hid (ha.below B0.out)
    have SM := hid hsm
    have NM := hid hnm
    have HT := hid (hT.below B0.out)
    have y0 := box_cell X0.out 0 (v := .int .i64 i) rfl
    have y1 := box_cell X0.out 1 (v := .int .i64 t) rfl
    have y2 := box_cell X0.out 2 (v := .int .i64 s) rfl
    have y3 := box_cell X0.out 3 (v := .string nm) rfl
    have y4 := box_cell X0.out 4 (v := .int .i64 ed) rfl
    have y5 := box_cell X0.out 5 (v := .int .i64 L) rfl
    have y6 := box_cell X0.out 6 (v := .int .i64 S) rfl
    have y7 := box_cell X0.out 7 (v := .slice a1 ws.length c1) rfl
    have y8 := box_cell X0.out 8 (v := .slice a2 gs.length c2) rfl
    have y9 := box_cell X0.out 9 (v := .int .i64 C) rfl
    have y10 := box_cell X0.out 10 (v := .int .i64 Z) rfl
    have y11 := box_cell X0.out 11 (v := .slice a es.length cap) rfl
    clear ha1 ha2 ha hsm hnm hT
    go_enter Tryz.func133, Tryz.ntmps133
    repeat ((fail_if_success (with_reducible show Code.wp _ (Code.region 1 _ _) _ _ _)); (first | go_values | go_skip | go_guarded | go_step | go_upon | go_back | go_simp))
    rw [← hW0]
    clear hW0
    go_wp2_with (first
      | (go_at_call 30; refine (implNameOk nm _ NM.out).mono ?_; rintro e wa ⟨rfl, hq⟩; subst hq; rw [HM.out]))
    go_ret
    exact ⟨rfl, B0.out⟩
  by_cases k1 : nameB nm = true
  case neg =>
    rw [decide_eq_false (show ¬ ((0 < t ∧ nameB nm = true)) from fun h => by grind)]
    have bt : decide (0 < t) = true := decide_eq_true k0
    have HM := hid (show nameB nm = false by simpa using k1)
    obtain ⟨W0, hW0⟩ : ∃ W0, W0 = w.alloc (.cells #[.int .i64 i, .int .i64 t, .int .i64 s, .string nm, .int .i64 ed, .int .i64 L, .int .i64 S, .slice a1 ws.length c1, .slice a2 gs.length c2, .int .i64 C, .int .i64 Z, .slice a es.length cap] 40) := ⟨_, rfl⟩
    have X0 := hid (show W0.heap[w.heap.size]? = some (.cells #[.int .i64 i, .int .i64 t, .int .i64 s, .string nm, .int .i64 ed, .int .i64 L, .int .i64 S, .slice a1 ws.length c1, .slice a2 gs.length c2, .int .i64 C, .int .i64 Z, .slice a es.length cap] 40 (0, 0)) by rw [hW0]; exact laid _ _ _)
    have B0 := hid (show Below w.heap.size w W0 by rw [hW0]; exact u_b1 _ _)
    have I1 := hid (ha1.below B0.out)
    have I2 := hid (ha2.below B0.out)
    have I3 := hid (ha.below B0.out)
    have SM := hid hsm
    have NM := hid hnm
    have HT := hid (hT.below B0.out)
    have y0 := box_cell X0.out 0 (v := .int .i64 i) rfl
    have y1 := box_cell X0.out 1 (v := .int .i64 t) rfl
    have y2 := box_cell X0.out 2 (v := .int .i64 s) rfl
    have y3 := box_cell X0.out 3 (v := .string nm) rfl
    have y4 := box_cell X0.out 4 (v := .int .i64 ed) rfl
    have y5 := box_cell X0.out 5 (v := .int .i64 L) rfl
    have y6 := box_cell X0.out 6 (v := .int .i64 S) rfl
    have y7 := box_cell X0.out 7 (v := .slice a1 ws.length c1) rfl
    have y8 := box_cell X0.out 8 (v := .slice a2 gs.length c2) rfl
    have y9 := box_cell X0.out 9 (v := .int .i64 C) rfl
    have y10 := box_cell X0.out 10 (v := .int .i64 Z) rfl
    have y11 := box_cell X0.out 11 (v := .slice a es.length cap) rfl
    clear ha1 ha2 ha hsm hnm hT
    go_enter Tryz.func133, Tryz.ntmps133
    repeat ((fail_if_success (with_reducible show Code.wp _ (Code.region 1 _ _) _ _ _)); (first | go_values | go_skip | go_guarded | go_step | go_upon | go_back | go_simp))
    rw [← hW0]
    clear hW0
    go_wp2_with (first
      | (go_at_call 30; refine (implNameOk nm _ NM.out).mono ?_; rintro e wa ⟨rfl, hq⟩; subst hq; rw [HM.out]))
    go_ret
    exact ⟨rfl, B0.out⟩
  rw [decide_eq_true (show (0 < t ∧ nameB nm = true) by grind)]
  have bt : decide (0 < t) = true := decide_eq_true k0
  have HM := hid k1
  obtain ⟨W0, hW0⟩ : ∃ W0, W0 = w.alloc (.cells #[.int .i64 i, .int .i64 t, .int .i64 s, .string nm, .int .i64 ed, .int .i64 L, .int .i64 S, .slice a1 ws.length c1, .slice a2 gs.length c2, .int .i64 C, .int .i64 Z, .slice a es.length cap] 40) := ⟨_, rfl⟩
  have X0 := hid (show W0.heap[w.heap.size]? = some (.cells #[.int .i64 i, .int .i64 t, .int .i64 s, .string nm, .int .i64 ed, .int .i64 L, .int .i64 S, .slice a1 ws.length c1, .slice a2 gs.length c2, .int .i64 C, .int .i64 Z, .slice a es.length cap] 40 (0, 0)) by rw [hW0]; exact laid _ _ _)
  have B0 := hid (show Below w.heap.size w W0 by rw [hW0]; exact u_b1 _ _)
  have I1 := hid (ha1.below B0.out)
  have I2 := hid (ha2.below B0.out)
  have I3 := hid (ha.below B0.out)
  have SM := hid hsm
  have NM := hid hnm
  have HT := hid (hT.below B0.out)
  have y0 := box_cell X0.out 0 (v := .int .i64 i) rfl
  have y1 := box_cell X0.out 1 (v := .int .i64 t) rfl
  have y2 := box_cell X0.out 2 (v := .int .i64 s) rfl
  have y3 := box_cell X0.out 3 (v := .string nm) rfl
  have y4 := box_cell X0.out 4 (v := .int .i64 ed) rfl
  have y5 := box_cell X0.out 5 (v := .int .i64 L) rfl
  have y6 := box_cell X0.out 6 (v := .int .i64 S) rfl
  have y7 := box_cell X0.out 7 (v := .slice a1 ws.length c1) rfl
  have y8 := box_cell X0.out 8 (v := .slice a2 gs.length c2) rfl
  have y9 := box_cell X0.out 9 (v := .int .i64 C) rfl
  have y10 := box_cell X0.out 10 (v := .int .i64 Z) rfl
  have y11 := box_cell X0.out 11 (v := .slice a es.length cap) rfl
  clear ha1 ha2 ha hsm hnm hT
  go_enter Tryz.func133, Tryz.ntmps133
  repeat ((fail_if_success (with_reducible show Code.wp _ (Code.region 1 _ _) _ _ _)); (first | go_values | go_skip | go_guarded | go_step | go_upon | go_back | go_simp))
  rw [← hW0]
  clear hW0
  go_wp2_with (first
    | (go_at_call 30; refine (implNameOk nm _ NM.out).mono ?_; rintro e wa ⟨rfl, hq⟩; subst hq; rw [HM.out]))
  go_ret
  exact ⟨rfl, B0.out⟩
set_option maxHeartbeats 4000000 in
set_option maxRecDepth 100000 in
theorem fits_1 (i t s ed : Int) (nm : ByteArray) (L S : Int) (a1 a2 : Option Addr) (c1 c2 : Nat) (ws gs : List Int) (C Z : Int) (a : Option Addr) (cap : Nat) (es : List EqV) (w : World) (ha1 : IntsAt w a1 ws) (ha2 : IntsAt w a2 gs) (hx : ws.length ≤ 1048576) (hy : gs.length ≤ 1048576) (ha : EqsAt w a es) (hl : es.length ≤ 1048576) (hsm : SmallE es) (hnm : nm.size ≤ maxLen) (hT : Tab w) :
    Calls Tryz.prog 130 #[.agg #[], .agg #[.int .i64 i, .int .i64 t, .int .i64 s, .string nm, .int .i64 ed, .int .i64 L, .int .i64 S, .slice a1 ws.length c1, .slice a2 gs.length c2, .int .i64 C, .int .i64 Z, .slice a es.length cap]] w fun e w' => e = .returned (.bool (decide (((0 < t ∧ nameB nm = true) ∧ ¬ (getP L S ws gs C Z es ∧ (es.length : Int) = C))))) ∧ Below w.heap.size w w' := by
  by_cases k0 : (0 < t ∧ nameB nm = true)
  case neg =>
    rw [decide_eq_false (show ¬ (((0 < t ∧ nameB nm = true) ∧ ¬ (getP L S ws gs C Z es ∧ (es.length : Int) = C))) from fun h => by grind)]
    have HW := hid (decide_eq_false k0)
    obtain ⟨W0, hW0⟩ : ∃ W0, W0 = (w.alloc (.cells #[] 84)).alloc (.cells #[.int .i64 i, .int .i64 t, .int .i64 s, .string nm, .int .i64 ed, .int .i64 L, .int .i64 S, .slice a1 ws.length c1, .slice a2 gs.length c2, .int .i64 C, .int .i64 Z, .slice a es.length cap] 40) := ⟨_, rfl⟩
    have X0 := hid (show W0.heap[w.heap.size + 1]? = some (.cells #[.int .i64 i, .int .i64 t, .int .i64 s, .string nm, .int .i64 ed, .int .i64 L, .int .i64 S, .slice a1 ws.length c1, .slice a2 gs.length c2, .int .i64 C, .int .i64 Z, .slice a es.length cap] 40 (0, 0)) by rw [hW0]; exact u_laid _ _ _ (by simp))
    have B0 := hid (show Below w.heap.size w W0 by rw [hW0]; exact u_b2 _ _ _)
    have I1 := hid (ha1.below B0.out)
    have I2 := hid (ha2.below B0.out)
    have I3 := hid (ha.below B0.out)
    have SM := hid hsm
    have NM := hid hnm
    have HT := hid (hT.below B0.out)
    have y0 := box_cell X0.out 0 (v := .int .i64 i) rfl
    have y1 := box_cell X0.out 1 (v := .int .i64 t) rfl
    have y2 := box_cell X0.out 2 (v := .int .i64 s) rfl
    have y3 := box_cell X0.out 3 (v := .string nm) rfl
    have y4 := box_cell X0.out 4 (v := .int .i64 ed) rfl
    have y5 := box_cell X0.out 5 (v := .int .i64 L) rfl
    have y6 := box_cell X0.out 6 (v := .int .i64 S) rfl
    have y7 := box_cell X0.out 7 (v := .slice a1 ws.length c1) rfl
    have y8 := box_cell X0.out 8 (v := .slice a2 gs.length c2) rfl
    have y9 := box_cell X0.out 9 (v := .int .i64 C) rfl
    have y10 := box_cell X0.out 10 (v := .int .i64 Z) rfl
    have y11 := box_cell X0.out 11 (v := .slice a es.length cap) rfl
    clear ha1 ha2 ha hsm hnm hT
    go_enter Tryz.func130, Tryz.ntmps130
    repeat ((fail_if_success (with_reducible show Code.wp _ (Code.region 1 _ _) _ _ _)); (first | go_values | go_skip | go_guarded | go_step | go_upon | go_back | go_simp))
    rw [← hW0]
    clear hW0
    go_wp2_with (first
      | (go_at_call 133; refine (wants_any i t s ed nm L S a1 a2 c1 c2 ws gs C Z a cap es _ (by exact I1.out) (by exact I2.out) hx hy (by exact I3.out) hl SM.out NM.out HT.out).mono ?_; rintro e w1 ⟨rfl, b1⟩; rw [HW.out]; replace X0 := hid (kept X0.out b1); replace B0 := hid (u_cat B0.out b1); replace I1 := hid (I1.out.below b1); replace I2 := hid (I2.out.below b1); replace I3 := hid (I3.out.below b1); replace HT := hid (HT.out.below b1); clear b1 y0 y1 y2 y3 y4 y5 y6 y7 y8 y9 y10 y11; have y0 := box_cell X0.out 0 (v := .int .i64 i) rfl; have y1 := box_cell X0.out 1 (v := .int .i64 t) rfl; have y2 := box_cell X0.out 2 (v := .int .i64 s) rfl; have y3 := box_cell X0.out 3 (v := .string nm) rfl; have y4 := box_cell X0.out 4 (v := .int .i64 ed) rfl; have y5 := box_cell X0.out 5 (v := .int .i64 L) rfl; have y6 := box_cell X0.out 6 (v := .int .i64 S) rfl; have y7 := box_cell X0.out 7 (v := .slice a1 ws.length c1) rfl; have y8 := box_cell X0.out 8 (v := .slice a2 gs.length c2) rfl; have y9 := box_cell X0.out 9 (v := .int .i64 C) rfl; have y10 := box_cell X0.out 10 (v := .int .i64 Z) rfl; have y11 := box_cell X0.out 11 (v := .slice a es.length cap) rfl)
      | (go_at_call 134; refine (implGetDone_any L S a1 a2 c1 c2 ws gs C Z a cap es _ (by exact I1.out) (by exact I2.out) hx hy (by exact I3.out) hl SM.out HT.out).mono ?_; rintro e w1 ⟨rfl, b1⟩; rw [HD.out]; replace X0 := hid (kept X0.out b1); replace B0 := hid (u_cat B0.out b1); replace I1 := hid (I1.out.below b1); replace I2 := hid (I2.out.below b1); replace I3 := hid (I3.out.below b1); replace HT := hid (HT.out.below b1); clear b1 y0 y1 y2 y3 y4 y5 y6 y7 y8 y9 y10 y11; have y0 := box_cell X0.out 0 (v := .int .i64 i) rfl; have y1 := box_cell X0.out 1 (v := .int .i64 t) rfl; have y2 := box_cell X0.out 2 (v := .int .i64 s) rfl; have y3 := box_cell X0.out 3 (v := .string nm) rfl; have y4 := box_cell X0.out 4 (v := .int .i64 ed) rfl; have y5 := box_cell X0.out 5 (v := .int .i64 L) rfl; have y6 := box_cell X0.out 6 (v := .int .i64 S) rfl; have y7 := box_cell X0.out 7 (v := .slice a1 ws.length c1) rfl; have y8 := box_cell X0.out 8 (v := .slice a2 gs.length c2) rfl; have y9 := box_cell X0.out 9 (v := .int .i64 C) rfl; have y10 := box_cell X0.out 10 (v := .int .i64 Z) rfl; have y11 := box_cell X0.out 11 (v := .slice a es.length cap) rfl))
    go_ret
    exact ⟨rfl, B0.out⟩
  by_cases k1 : ¬ (getP L S ws gs C Z es ∧ (es.length : Int) = C)
  case neg =>
    rw [decide_eq_false (show ¬ (((0 < t ∧ nameB nm = true) ∧ ¬ (getP L S ws gs C Z es ∧ (es.length : Int) = C))) from fun h => by grind)]
    have HW := hid (decide_eq_true k0)
    have HD := hid (decide_eq_true (Decidable.not_not.1 k1))
    obtain ⟨W0, hW0⟩ : ∃ W0, W0 = (w.alloc (.cells #[] 84)).alloc (.cells #[.int .i64 i, .int .i64 t, .int .i64 s, .string nm, .int .i64 ed, .int .i64 L, .int .i64 S, .slice a1 ws.length c1, .slice a2 gs.length c2, .int .i64 C, .int .i64 Z, .slice a es.length cap] 40) := ⟨_, rfl⟩
    have X0 := hid (show W0.heap[w.heap.size + 1]? = some (.cells #[.int .i64 i, .int .i64 t, .int .i64 s, .string nm, .int .i64 ed, .int .i64 L, .int .i64 S, .slice a1 ws.length c1, .slice a2 gs.length c2, .int .i64 C, .int .i64 Z, .slice a es.length cap] 40 (0, 0)) by rw [hW0]; exact u_laid _ _ _ (by simp))
    have B0 := hid (show Below w.heap.size w W0 by rw [hW0]; exact u_b2 _ _ _)
    have I1 := hid (ha1.below B0.out)
    have I2 := hid (ha2.below B0.out)
    have I3 := hid (ha.below B0.out)
    have SM := hid hsm
    have NM := hid hnm
    have HT := hid (hT.below B0.out)
    have y0 := box_cell X0.out 0 (v := .int .i64 i) rfl
    have y1 := box_cell X0.out 1 (v := .int .i64 t) rfl
    have y2 := box_cell X0.out 2 (v := .int .i64 s) rfl
    have y3 := box_cell X0.out 3 (v := .string nm) rfl
    have y4 := box_cell X0.out 4 (v := .int .i64 ed) rfl
    have y5 := box_cell X0.out 5 (v := .int .i64 L) rfl
    have y6 := box_cell X0.out 6 (v := .int .i64 S) rfl
    have y7 := box_cell X0.out 7 (v := .slice a1 ws.length c1) rfl
    have y8 := box_cell X0.out 8 (v := .slice a2 gs.length c2) rfl
    have y9 := box_cell X0.out 9 (v := .int .i64 C) rfl
    have y10 := box_cell X0.out 10 (v := .int .i64 Z) rfl
    have y11 := box_cell X0.out 11 (v := .slice a es.length cap) rfl
    clear ha1 ha2 ha hsm hnm hT
    go_enter Tryz.func130, Tryz.ntmps130
    repeat ((fail_if_success (with_reducible show Code.wp _ (Code.region 1 _ _) _ _ _)); (first | go_values | go_skip | go_guarded | go_step | go_upon | go_back | go_simp))
    rw [← hW0]
    clear hW0
    go_wp2_with (first
      | (go_at_call 133; refine (wants_any i t s ed nm L S a1 a2 c1 c2 ws gs C Z a cap es _ (by exact I1.out) (by exact I2.out) hx hy (by exact I3.out) hl SM.out NM.out HT.out).mono ?_; rintro e w1 ⟨rfl, b1⟩; rw [HW.out]; replace X0 := hid (kept X0.out b1); replace B0 := hid (u_cat B0.out b1); replace I1 := hid (I1.out.below b1); replace I2 := hid (I2.out.below b1); replace I3 := hid (I3.out.below b1); replace HT := hid (HT.out.below b1); clear b1 y0 y1 y2 y3 y4 y5 y6 y7 y8 y9 y10 y11; have y0 := box_cell X0.out 0 (v := .int .i64 i) rfl; have y1 := box_cell X0.out 1 (v := .int .i64 t) rfl; have y2 := box_cell X0.out 2 (v := .int .i64 s) rfl; have y3 := box_cell X0.out 3 (v := .string nm) rfl; have y4 := box_cell X0.out 4 (v := .int .i64 ed) rfl; have y5 := box_cell X0.out 5 (v := .int .i64 L) rfl; have y6 := box_cell X0.out 6 (v := .int .i64 S) rfl; have y7 := box_cell X0.out 7 (v := .slice a1 ws.length c1) rfl; have y8 := box_cell X0.out 8 (v := .slice a2 gs.length c2) rfl; have y9 := box_cell X0.out 9 (v := .int .i64 C) rfl; have y10 := box_cell X0.out 10 (v := .int .i64 Z) rfl; have y11 := box_cell X0.out 11 (v := .slice a es.length cap) rfl)
      | (go_at_call 134; refine (implGetDone_any L S a1 a2 c1 c2 ws gs C Z a cap es _ (by exact I1.out) (by exact I2.out) hx hy (by exact I3.out) hl SM.out HT.out).mono ?_; rintro e w1 ⟨rfl, b1⟩; rw [HD.out]; replace X0 := hid (kept X0.out b1); replace B0 := hid (u_cat B0.out b1); replace I1 := hid (I1.out.below b1); replace I2 := hid (I2.out.below b1); replace I3 := hid (I3.out.below b1); replace HT := hid (HT.out.below b1); clear b1 y0 y1 y2 y3 y4 y5 y6 y7 y8 y9 y10 y11; have y0 := box_cell X0.out 0 (v := .int .i64 i) rfl; have y1 := box_cell X0.out 1 (v := .int .i64 t) rfl; have y2 := box_cell X0.out 2 (v := .int .i64 s) rfl; have y3 := box_cell X0.out 3 (v := .string nm) rfl; have y4 := box_cell X0.out 4 (v := .int .i64 ed) rfl; have y5 := box_cell X0.out 5 (v := .int .i64 L) rfl; have y6 := box_cell X0.out 6 (v := .int .i64 S) rfl; have y7 := box_cell X0.out 7 (v := .slice a1 ws.length c1) rfl; have y8 := box_cell X0.out 8 (v := .slice a2 gs.length c2) rfl; have y9 := box_cell X0.out 9 (v := .int .i64 C) rfl; have y10 := box_cell X0.out 10 (v := .int .i64 Z) rfl; have y11 := box_cell X0.out 11 (v := .slice a es.length cap) rfl))
    go_ret
    exact ⟨rfl, B0.out⟩
  rw [decide_eq_true (show ((0 < t ∧ nameB nm = true) ∧ ¬ (getP L S ws gs C Z es ∧ (es.length : Int) = C)) by grind)]
  have HW := hid (decide_eq_true k0)
  have HD := hid (decide_eq_false k1)
  obtain ⟨W0, hW0⟩ : ∃ W0, W0 = (w.alloc (.cells #[] 84)).alloc (.cells #[.int .i64 i, .int .i64 t, .int .i64 s, .string nm, .int .i64 ed, .int .i64 L, .int .i64 S, .slice a1 ws.length c1, .slice a2 gs.length c2, .int .i64 C, .int .i64 Z, .slice a es.length cap] 40) := ⟨_, rfl⟩
  have X0 := hid (show W0.heap[w.heap.size + 1]? = some (.cells #[.int .i64 i, .int .i64 t, .int .i64 s, .string nm, .int .i64 ed, .int .i64 L, .int .i64 S, .slice a1 ws.length c1, .slice a2 gs.length c2, .int .i64 C, .int .i64 Z, .slice a es.length cap] 40 (0, 0)) by rw [hW0]; exact u_laid _ _ _ (by simp))
  have B0 := hid (show Below w.heap.size w W0 by rw [hW0]; exact u_b2 _ _ _)
  have I1 := hid (ha1.below B0.out)
  have I2 := hid (ha2.below B0.out)
  have I3 := hid (ha.below B0.out)
  have SM := hid hsm
  have NM := hid hnm
  have HT := hid (hT.below B0.out)
  have y0 := box_cell X0.out 0 (v := .int .i64 i) rfl
  have y1 := box_cell X0.out 1 (v := .int .i64 t) rfl
  have y2 := box_cell X0.out 2 (v := .int .i64 s) rfl
  have y3 := box_cell X0.out 3 (v := .string nm) rfl
  have y4 := box_cell X0.out 4 (v := .int .i64 ed) rfl
  have y5 := box_cell X0.out 5 (v := .int .i64 L) rfl
  have y6 := box_cell X0.out 6 (v := .int .i64 S) rfl
  have y7 := box_cell X0.out 7 (v := .slice a1 ws.length c1) rfl
  have y8 := box_cell X0.out 8 (v := .slice a2 gs.length c2) rfl
  have y9 := box_cell X0.out 9 (v := .int .i64 C) rfl
  have y10 := box_cell X0.out 10 (v := .int .i64 Z) rfl
  have y11 := box_cell X0.out 11 (v := .slice a es.length cap) rfl
  clear ha1 ha2 ha hsm hnm hT
  go_enter Tryz.func130, Tryz.ntmps130
  repeat ((fail_if_success (with_reducible show Code.wp _ (Code.region 1 _ _) _ _ _)); (first | go_values | go_skip | go_guarded | go_step | go_upon | go_back | go_simp))
  rw [← hW0]
  clear hW0
  go_wp2_with (first
    | (go_at_call 133; refine (wants_any i t s ed nm L S a1 a2 c1 c2 ws gs C Z a cap es _ (by exact I1.out) (by exact I2.out) hx hy (by exact I3.out) hl SM.out NM.out HT.out).mono ?_; rintro e w1 ⟨rfl, b1⟩; rw [HW.out]; replace X0 := hid (kept X0.out b1); replace B0 := hid (u_cat B0.out b1); replace I1 := hid (I1.out.below b1); replace I2 := hid (I2.out.below b1); replace I3 := hid (I3.out.below b1); replace HT := hid (HT.out.below b1); clear b1 y0 y1 y2 y3 y4 y5 y6 y7 y8 y9 y10 y11; have y0 := box_cell X0.out 0 (v := .int .i64 i) rfl; have y1 := box_cell X0.out 1 (v := .int .i64 t) rfl; have y2 := box_cell X0.out 2 (v := .int .i64 s) rfl; have y3 := box_cell X0.out 3 (v := .string nm) rfl; have y4 := box_cell X0.out 4 (v := .int .i64 ed) rfl; have y5 := box_cell X0.out 5 (v := .int .i64 L) rfl; have y6 := box_cell X0.out 6 (v := .int .i64 S) rfl; have y7 := box_cell X0.out 7 (v := .slice a1 ws.length c1) rfl; have y8 := box_cell X0.out 8 (v := .slice a2 gs.length c2) rfl; have y9 := box_cell X0.out 9 (v := .int .i64 C) rfl; have y10 := box_cell X0.out 10 (v := .int .i64 Z) rfl; have y11 := box_cell X0.out 11 (v := .slice a es.length cap) rfl)
    | (go_at_call 134; refine (implGetDone_any L S a1 a2 c1 c2 ws gs C Z a cap es _ (by exact I1.out) (by exact I2.out) hx hy (by exact I3.out) hl SM.out HT.out).mono ?_; rintro e w1 ⟨rfl, b1⟩; rw [HD.out]; replace X0 := hid (kept X0.out b1); replace B0 := hid (u_cat B0.out b1); replace I1 := hid (I1.out.below b1); replace I2 := hid (I2.out.below b1); replace I3 := hid (I3.out.below b1); replace HT := hid (HT.out.below b1); clear b1 y0 y1 y2 y3 y4 y5 y6 y7 y8 y9 y10 y11; have y0 := box_cell X0.out 0 (v := .int .i64 i) rfl; have y1 := box_cell X0.out 1 (v := .int .i64 t) rfl; have y2 := box_cell X0.out 2 (v := .int .i64 s) rfl; have y3 := box_cell X0.out 3 (v := .string nm) rfl; have y4 := box_cell X0.out 4 (v := .int .i64 ed) rfl; have y5 := box_cell X0.out 5 (v := .int .i64 L) rfl; have y6 := box_cell X0.out 6 (v := .int .i64 S) rfl; have y7 := box_cell X0.out 7 (v := .slice a1 ws.length c1) rfl; have y8 := box_cell X0.out 8 (v := .slice a2 gs.length c2) rfl; have y9 := box_cell X0.out 9 (v := .int .i64 C) rfl; have y10 := box_cell X0.out 10 (v := .int .i64 Z) rfl; have y11 := box_cell X0.out 11 (v := .slice a es.length cap) rfl))
  go_ret
  exact ⟨rfl, B0.out⟩
set_option maxHeartbeats 4000000 in
set_option maxRecDepth 100000 in
theorem fits_4 (i t s ed : Int) (nm : ByteArray) (L S : Int) (a1 a2 : Option Addr) (c1 c2 : Nat) (ws gs : List Int) (C Z : Int) (a : Option Addr) (cap : Nat) (es : List EqV) (w : World) (ha1 : IntsAt w a1 ws) (ha2 : IntsAt w a2 gs) (hx : ws.length ≤ 1048576) (hy : gs.length ≤ 1048576) (ha : EqsAt w a es) (hl : es.length ≤ 1048576) (hsm : SmallE es) (hnm : nm.size ≤ maxLen) (hT : Tab w) :
    Calls Tryz.prog 148 #[.agg #[], .agg #[.int .i64 i, .int .i64 t, .int .i64 s, .string nm, .int .i64 ed, .int .i64 L, .int .i64 S, .slice a1 ws.length c1, .slice a2 gs.length c2, .int .i64 C, .int .i64 Z, .slice a es.length cap]] w fun e w' => e = .returned (.bool (decide (((0 < t ∧ nameB nm = true) ∧ ¬ (getP L S ws gs C Z es ∧ (es.length : Int) = C))))) ∧ Below w.heap.size w w' := by
  by_cases k0 : (0 < t ∧ nameB nm = true)
  case neg =>
    rw [decide_eq_false (show ¬ (((0 < t ∧ nameB nm = true) ∧ ¬ (getP L S ws gs C Z es ∧ (es.length : Int) = C))) from fun h => by grind)]
    have HW := hid (decide_eq_false k0)
    obtain ⟨W0, hW0⟩ : ∃ W0, W0 = (w.alloc (.cells #[] 95)).alloc (.cells #[.int .i64 i, .int .i64 t, .int .i64 s, .string nm, .int .i64 ed, .int .i64 L, .int .i64 S, .slice a1 ws.length c1, .slice a2 gs.length c2, .int .i64 C, .int .i64 Z, .slice a es.length cap] 40) := ⟨_, rfl⟩
    have X0 := hid (show W0.heap[w.heap.size + 1]? = some (.cells #[.int .i64 i, .int .i64 t, .int .i64 s, .string nm, .int .i64 ed, .int .i64 L, .int .i64 S, .slice a1 ws.length c1, .slice a2 gs.length c2, .int .i64 C, .int .i64 Z, .slice a es.length cap] 40 (0, 0)) by rw [hW0]; exact u_laid _ _ _ (by simp))
    have B0 := hid (show Below w.heap.size w W0 by rw [hW0]; exact u_b2 _ _ _)
    have I1 := hid (ha1.below B0.out)
    have I2 := hid (ha2.below B0.out)
    have I3 := hid (ha.below B0.out)
    have SM := hid hsm
    have NM := hid hnm
    have HT := hid (hT.below B0.out)
    have y0 := box_cell X0.out 0 (v := .int .i64 i) rfl
    have y1 := box_cell X0.out 1 (v := .int .i64 t) rfl
    have y2 := box_cell X0.out 2 (v := .int .i64 s) rfl
    have y3 := box_cell X0.out 3 (v := .string nm) rfl
    have y4 := box_cell X0.out 4 (v := .int .i64 ed) rfl
    have y5 := box_cell X0.out 5 (v := .int .i64 L) rfl
    have y6 := box_cell X0.out 6 (v := .int .i64 S) rfl
    have y7 := box_cell X0.out 7 (v := .slice a1 ws.length c1) rfl
    have y8 := box_cell X0.out 8 (v := .slice a2 gs.length c2) rfl
    have y9 := box_cell X0.out 9 (v := .int .i64 C) rfl
    have y10 := box_cell X0.out 10 (v := .int .i64 Z) rfl
    have y11 := box_cell X0.out 11 (v := .slice a es.length cap) rfl
    clear ha1 ha2 ha hsm hnm hT
    go_enter Tryz.func148, Tryz.ntmps148
    repeat ((fail_if_success (with_reducible show Code.wp _ (Code.region 1 _ _) _ _ _)); (first | go_values | go_skip | go_guarded | go_step | go_upon | go_back | go_simp))
    rw [← hW0]
    clear hW0
    go_wp2_with (first
      | (go_at_call 133; refine (wants_any i t s ed nm L S a1 a2 c1 c2 ws gs C Z a cap es _ (by exact I1.out) (by exact I2.out) hx hy (by exact I3.out) hl SM.out NM.out HT.out).mono ?_; rintro e w1 ⟨rfl, b1⟩; rw [HW.out]; replace X0 := hid (kept X0.out b1); replace B0 := hid (u_cat B0.out b1); replace I1 := hid (I1.out.below b1); replace I2 := hid (I2.out.below b1); replace I3 := hid (I3.out.below b1); replace HT := hid (HT.out.below b1); clear b1 y0 y1 y2 y3 y4 y5 y6 y7 y8 y9 y10 y11; have y0 := box_cell X0.out 0 (v := .int .i64 i) rfl; have y1 := box_cell X0.out 1 (v := .int .i64 t) rfl; have y2 := box_cell X0.out 2 (v := .int .i64 s) rfl; have y3 := box_cell X0.out 3 (v := .string nm) rfl; have y4 := box_cell X0.out 4 (v := .int .i64 ed) rfl; have y5 := box_cell X0.out 5 (v := .int .i64 L) rfl; have y6 := box_cell X0.out 6 (v := .int .i64 S) rfl; have y7 := box_cell X0.out 7 (v := .slice a1 ws.length c1) rfl; have y8 := box_cell X0.out 8 (v := .slice a2 gs.length c2) rfl; have y9 := box_cell X0.out 9 (v := .int .i64 C) rfl; have y10 := box_cell X0.out 10 (v := .int .i64 Z) rfl; have y11 := box_cell X0.out 11 (v := .slice a es.length cap) rfl)
      | (go_at_call 134; refine (implGetDone_any L S a1 a2 c1 c2 ws gs C Z a cap es _ (by exact I1.out) (by exact I2.out) hx hy (by exact I3.out) hl SM.out HT.out).mono ?_; rintro e w1 ⟨rfl, b1⟩; rw [HD.out]; replace X0 := hid (kept X0.out b1); replace B0 := hid (u_cat B0.out b1); replace I1 := hid (I1.out.below b1); replace I2 := hid (I2.out.below b1); replace I3 := hid (I3.out.below b1); replace HT := hid (HT.out.below b1); clear b1 y0 y1 y2 y3 y4 y5 y6 y7 y8 y9 y10 y11; have y0 := box_cell X0.out 0 (v := .int .i64 i) rfl; have y1 := box_cell X0.out 1 (v := .int .i64 t) rfl; have y2 := box_cell X0.out 2 (v := .int .i64 s) rfl; have y3 := box_cell X0.out 3 (v := .string nm) rfl; have y4 := box_cell X0.out 4 (v := .int .i64 ed) rfl; have y5 := box_cell X0.out 5 (v := .int .i64 L) rfl; have y6 := box_cell X0.out 6 (v := .int .i64 S) rfl; have y7 := box_cell X0.out 7 (v := .slice a1 ws.length c1) rfl; have y8 := box_cell X0.out 8 (v := .slice a2 gs.length c2) rfl; have y9 := box_cell X0.out 9 (v := .int .i64 C) rfl; have y10 := box_cell X0.out 10 (v := .int .i64 Z) rfl; have y11 := box_cell X0.out 11 (v := .slice a es.length cap) rfl))
    go_ret
    exact ⟨rfl, B0.out⟩
  by_cases k1 : ¬ (getP L S ws gs C Z es ∧ (es.length : Int) = C)
  case neg =>
    rw [decide_eq_false (show ¬ (((0 < t ∧ nameB nm = true) ∧ ¬ (getP L S ws gs C Z es ∧ (es.length : Int) = C))) from fun h => by grind)]
    have HW := hid (decide_eq_true k0)
    have HD := hid (decide_eq_true (Decidable.not_not.1 k1))
    obtain ⟨W0, hW0⟩ : ∃ W0, W0 = (w.alloc (.cells #[] 95)).alloc (.cells #[.int .i64 i, .int .i64 t, .int .i64 s, .string nm, .int .i64 ed, .int .i64 L, .int .i64 S, .slice a1 ws.length c1, .slice a2 gs.length c2, .int .i64 C, .int .i64 Z, .slice a es.length cap] 40) := ⟨_, rfl⟩
    have X0 := hid (show W0.heap[w.heap.size + 1]? = some (.cells #[.int .i64 i, .int .i64 t, .int .i64 s, .string nm, .int .i64 ed, .int .i64 L, .int .i64 S, .slice a1 ws.length c1, .slice a2 gs.length c2, .int .i64 C, .int .i64 Z, .slice a es.length cap] 40 (0, 0)) by rw [hW0]; exact u_laid _ _ _ (by simp))
    have B0 := hid (show Below w.heap.size w W0 by rw [hW0]; exact u_b2 _ _ _)
    have I1 := hid (ha1.below B0.out)
    have I2 := hid (ha2.below B0.out)
    have I3 := hid (ha.below B0.out)
    have SM := hid hsm
    have NM := hid hnm
    have HT := hid (hT.below B0.out)
    have y0 := box_cell X0.out 0 (v := .int .i64 i) rfl
    have y1 := box_cell X0.out 1 (v := .int .i64 t) rfl
    have y2 := box_cell X0.out 2 (v := .int .i64 s) rfl
    have y3 := box_cell X0.out 3 (v := .string nm) rfl
    have y4 := box_cell X0.out 4 (v := .int .i64 ed) rfl
    have y5 := box_cell X0.out 5 (v := .int .i64 L) rfl
    have y6 := box_cell X0.out 6 (v := .int .i64 S) rfl
    have y7 := box_cell X0.out 7 (v := .slice a1 ws.length c1) rfl
    have y8 := box_cell X0.out 8 (v := .slice a2 gs.length c2) rfl
    have y9 := box_cell X0.out 9 (v := .int .i64 C) rfl
    have y10 := box_cell X0.out 10 (v := .int .i64 Z) rfl
    have y11 := box_cell X0.out 11 (v := .slice a es.length cap) rfl
    clear ha1 ha2 ha hsm hnm hT
    go_enter Tryz.func148, Tryz.ntmps148
    repeat ((fail_if_success (with_reducible show Code.wp _ (Code.region 1 _ _) _ _ _)); (first | go_values | go_skip | go_guarded | go_step | go_upon | go_back | go_simp))
    rw [← hW0]
    clear hW0
    go_wp2_with (first
      | (go_at_call 133; refine (wants_any i t s ed nm L S a1 a2 c1 c2 ws gs C Z a cap es _ (by exact I1.out) (by exact I2.out) hx hy (by exact I3.out) hl SM.out NM.out HT.out).mono ?_; rintro e w1 ⟨rfl, b1⟩; rw [HW.out]; replace X0 := hid (kept X0.out b1); replace B0 := hid (u_cat B0.out b1); replace I1 := hid (I1.out.below b1); replace I2 := hid (I2.out.below b1); replace I3 := hid (I3.out.below b1); replace HT := hid (HT.out.below b1); clear b1 y0 y1 y2 y3 y4 y5 y6 y7 y8 y9 y10 y11; have y0 := box_cell X0.out 0 (v := .int .i64 i) rfl; have y1 := box_cell X0.out 1 (v := .int .i64 t) rfl; have y2 := box_cell X0.out 2 (v := .int .i64 s) rfl; have y3 := box_cell X0.out 3 (v := .string nm) rfl; have y4 := box_cell X0.out 4 (v := .int .i64 ed) rfl; have y5 := box_cell X0.out 5 (v := .int .i64 L) rfl; have y6 := box_cell X0.out 6 (v := .int .i64 S) rfl; have y7 := box_cell X0.out 7 (v := .slice a1 ws.length c1) rfl; have y8 := box_cell X0.out 8 (v := .slice a2 gs.length c2) rfl; have y9 := box_cell X0.out 9 (v := .int .i64 C) rfl; have y10 := box_cell X0.out 10 (v := .int .i64 Z) rfl; have y11 := box_cell X0.out 11 (v := .slice a es.length cap) rfl)
      | (go_at_call 134; refine (implGetDone_any L S a1 a2 c1 c2 ws gs C Z a cap es _ (by exact I1.out) (by exact I2.out) hx hy (by exact I3.out) hl SM.out HT.out).mono ?_; rintro e w1 ⟨rfl, b1⟩; rw [HD.out]; replace X0 := hid (kept X0.out b1); replace B0 := hid (u_cat B0.out b1); replace I1 := hid (I1.out.below b1); replace I2 := hid (I2.out.below b1); replace I3 := hid (I3.out.below b1); replace HT := hid (HT.out.below b1); clear b1 y0 y1 y2 y3 y4 y5 y6 y7 y8 y9 y10 y11; have y0 := box_cell X0.out 0 (v := .int .i64 i) rfl; have y1 := box_cell X0.out 1 (v := .int .i64 t) rfl; have y2 := box_cell X0.out 2 (v := .int .i64 s) rfl; have y3 := box_cell X0.out 3 (v := .string nm) rfl; have y4 := box_cell X0.out 4 (v := .int .i64 ed) rfl; have y5 := box_cell X0.out 5 (v := .int .i64 L) rfl; have y6 := box_cell X0.out 6 (v := .int .i64 S) rfl; have y7 := box_cell X0.out 7 (v := .slice a1 ws.length c1) rfl; have y8 := box_cell X0.out 8 (v := .slice a2 gs.length c2) rfl; have y9 := box_cell X0.out 9 (v := .int .i64 C) rfl; have y10 := box_cell X0.out 10 (v := .int .i64 Z) rfl; have y11 := box_cell X0.out 11 (v := .slice a es.length cap) rfl))
    go_ret
    exact ⟨rfl, B0.out⟩
  rw [decide_eq_true (show ((0 < t ∧ nameB nm = true) ∧ ¬ (getP L S ws gs C Z es ∧ (es.length : Int) = C)) by grind)]
  have HW := hid (decide_eq_true k0)
  have HD := hid (decide_eq_false k1)
  obtain ⟨W0, hW0⟩ : ∃ W0, W0 = (w.alloc (.cells #[] 95)).alloc (.cells #[.int .i64 i, .int .i64 t, .int .i64 s, .string nm, .int .i64 ed, .int .i64 L, .int .i64 S, .slice a1 ws.length c1, .slice a2 gs.length c2, .int .i64 C, .int .i64 Z, .slice a es.length cap] 40) := ⟨_, rfl⟩
  have X0 := hid (show W0.heap[w.heap.size + 1]? = some (.cells #[.int .i64 i, .int .i64 t, .int .i64 s, .string nm, .int .i64 ed, .int .i64 L, .int .i64 S, .slice a1 ws.length c1, .slice a2 gs.length c2, .int .i64 C, .int .i64 Z, .slice a es.length cap] 40 (0, 0)) by rw [hW0]; exact u_laid _ _ _ (by simp))
  have B0 := hid (show Below w.heap.size w W0 by rw [hW0]; exact u_b2 _ _ _)
  have I1 := hid (ha1.below B0.out)
  have I2 := hid (ha2.below B0.out)
  have I3 := hid (ha.below B0.out)
  have SM := hid hsm
  have NM := hid hnm
  have HT := hid (hT.below B0.out)
  have y0 := box_cell X0.out 0 (v := .int .i64 i) rfl
  have y1 := box_cell X0.out 1 (v := .int .i64 t) rfl
  have y2 := box_cell X0.out 2 (v := .int .i64 s) rfl
  have y3 := box_cell X0.out 3 (v := .string nm) rfl
  have y4 := box_cell X0.out 4 (v := .int .i64 ed) rfl
  have y5 := box_cell X0.out 5 (v := .int .i64 L) rfl
  have y6 := box_cell X0.out 6 (v := .int .i64 S) rfl
  have y7 := box_cell X0.out 7 (v := .slice a1 ws.length c1) rfl
  have y8 := box_cell X0.out 8 (v := .slice a2 gs.length c2) rfl
  have y9 := box_cell X0.out 9 (v := .int .i64 C) rfl
  have y10 := box_cell X0.out 10 (v := .int .i64 Z) rfl
  have y11 := box_cell X0.out 11 (v := .slice a es.length cap) rfl
  clear ha1 ha2 ha hsm hnm hT
  go_enter Tryz.func148, Tryz.ntmps148
  repeat ((fail_if_success (with_reducible show Code.wp _ (Code.region 1 _ _) _ _ _)); (first | go_values | go_skip | go_guarded | go_step | go_upon | go_back | go_simp))
  rw [← hW0]
  clear hW0
  go_wp2_with (first
    | (go_at_call 133; refine (wants_any i t s ed nm L S a1 a2 c1 c2 ws gs C Z a cap es _ (by exact I1.out) (by exact I2.out) hx hy (by exact I3.out) hl SM.out NM.out HT.out).mono ?_; rintro e w1 ⟨rfl, b1⟩; rw [HW.out]; replace X0 := hid (kept X0.out b1); replace B0 := hid (u_cat B0.out b1); replace I1 := hid (I1.out.below b1); replace I2 := hid (I2.out.below b1); replace I3 := hid (I3.out.below b1); replace HT := hid (HT.out.below b1); clear b1 y0 y1 y2 y3 y4 y5 y6 y7 y8 y9 y10 y11; have y0 := box_cell X0.out 0 (v := .int .i64 i) rfl; have y1 := box_cell X0.out 1 (v := .int .i64 t) rfl; have y2 := box_cell X0.out 2 (v := .int .i64 s) rfl; have y3 := box_cell X0.out 3 (v := .string nm) rfl; have y4 := box_cell X0.out 4 (v := .int .i64 ed) rfl; have y5 := box_cell X0.out 5 (v := .int .i64 L) rfl; have y6 := box_cell X0.out 6 (v := .int .i64 S) rfl; have y7 := box_cell X0.out 7 (v := .slice a1 ws.length c1) rfl; have y8 := box_cell X0.out 8 (v := .slice a2 gs.length c2) rfl; have y9 := box_cell X0.out 9 (v := .int .i64 C) rfl; have y10 := box_cell X0.out 10 (v := .int .i64 Z) rfl; have y11 := box_cell X0.out 11 (v := .slice a es.length cap) rfl)
    | (go_at_call 134; refine (implGetDone_any L S a1 a2 c1 c2 ws gs C Z a cap es _ (by exact I1.out) (by exact I2.out) hx hy (by exact I3.out) hl SM.out HT.out).mono ?_; rintro e w1 ⟨rfl, b1⟩; rw [HD.out]; replace X0 := hid (kept X0.out b1); replace B0 := hid (u_cat B0.out b1); replace I1 := hid (I1.out.below b1); replace I2 := hid (I2.out.below b1); replace I3 := hid (I3.out.below b1); replace HT := hid (HT.out.below b1); clear b1 y0 y1 y2 y3 y4 y5 y6 y7 y8 y9 y10 y11; have y0 := box_cell X0.out 0 (v := .int .i64 i) rfl; have y1 := box_cell X0.out 1 (v := .int .i64 t) rfl; have y2 := box_cell X0.out 2 (v := .int .i64 s) rfl; have y3 := box_cell X0.out 3 (v := .string nm) rfl; have y4 := box_cell X0.out 4 (v := .int .i64 ed) rfl; have y5 := box_cell X0.out 5 (v := .int .i64 L) rfl; have y6 := box_cell X0.out 6 (v := .int .i64 S) rfl; have y7 := box_cell X0.out 7 (v := .slice a1 ws.length c1) rfl; have y8 := box_cell X0.out 8 (v := .slice a2 gs.length c2) rfl; have y9 := box_cell X0.out 9 (v := .int .i64 C) rfl; have y10 := box_cell X0.out 10 (v := .int .i64 Z) rfl; have y11 := box_cell X0.out 11 (v := .slice a es.length cap) rfl))
  go_ret
  exact ⟨rfl, B0.out⟩
set_option maxHeartbeats 4000000 in
set_option maxRecDepth 100000 in
theorem fits_2 (i t s ed : Int) (nm : ByteArray) (L S : Int) (a1 a2 : Option Addr) (c1 c2 : Nat) (ws gs : List Int) (C Z : Int) (a : Option Addr) (cap : Nat) (es : List EqV) (w : World) (ha1 : IntsAt w a1 ws) (ha2 : IntsAt w a2 gs) (hx : ws.length ≤ 1048576) (hy : gs.length ≤ 1048576) (ha : EqsAt w a es) (hl : es.length ≤ 1048576) (hsm : SmallE es) (hnm : nm.size ≤ maxLen) (hT : Tab w) :
    Calls Tryz.prog 140 #[.agg #[], .agg #[.int .i64 i, .int .i64 t, .int .i64 s, .string nm, .int .i64 ed, .int .i64 L, .int .i64 S, .slice a1 ws.length c1, .slice a2 gs.length c2, .int .i64 C, .int .i64 Z, .slice a es.length cap]] w fun e w' => e = .returned (.bool (decide (((0 < t ∧ nameB nm = true) ∧ 0 < ed ∧ ¬ (getP L S ws gs C Z es ∧ (es.length : Int) = C))))) ∧ Below w.heap.size w w' := by
  by_cases k0 : (0 < t ∧ nameB nm = true)
  case neg =>
    rw [decide_eq_false (show ¬ (((0 < t ∧ nameB nm = true) ∧ 0 < ed ∧ ¬ (getP L S ws gs C Z es ∧ (es.length : Int) = C))) from fun h => by grind)]
    have HW := hid (decide_eq_false k0)
    obtain ⟨W0, hW0⟩ : ∃ W0, W0 = (w.alloc (.cells #[] 93)).alloc (.cells #[.int .i64 i, .int .i64 t, .int .i64 s, .string nm, .int .i64 ed, .int .i64 L, .int .i64 S, .slice a1 ws.length c1, .slice a2 gs.length c2, .int .i64 C, .int .i64 Z, .slice a es.length cap] 40) := ⟨_, rfl⟩
    have X0 := hid (show W0.heap[w.heap.size + 1]? = some (.cells #[.int .i64 i, .int .i64 t, .int .i64 s, .string nm, .int .i64 ed, .int .i64 L, .int .i64 S, .slice a1 ws.length c1, .slice a2 gs.length c2, .int .i64 C, .int .i64 Z, .slice a es.length cap] 40 (0, 0)) by rw [hW0]; exact u_laid _ _ _ (by simp))
    have B0 := hid (show Below w.heap.size w W0 by rw [hW0]; exact u_b2 _ _ _)
    have I1 := hid (ha1.below B0.out)
    have I2 := hid (ha2.below B0.out)
    have I3 := hid (ha.below B0.out)
    have SM := hid hsm
    have NM := hid hnm
    have HT := hid (hT.below B0.out)
    have y0 := box_cell X0.out 0 (v := .int .i64 i) rfl
    have y1 := box_cell X0.out 1 (v := .int .i64 t) rfl
    have y2 := box_cell X0.out 2 (v := .int .i64 s) rfl
    have y3 := box_cell X0.out 3 (v := .string nm) rfl
    have y4 := box_cell X0.out 4 (v := .int .i64 ed) rfl
    have y5 := box_cell X0.out 5 (v := .int .i64 L) rfl
    have y6 := box_cell X0.out 6 (v := .int .i64 S) rfl
    have y7 := box_cell X0.out 7 (v := .slice a1 ws.length c1) rfl
    have y8 := box_cell X0.out 8 (v := .slice a2 gs.length c2) rfl
    have y9 := box_cell X0.out 9 (v := .int .i64 C) rfl
    have y10 := box_cell X0.out 10 (v := .int .i64 Z) rfl
    have y11 := box_cell X0.out 11 (v := .slice a es.length cap) rfl
    clear ha1 ha2 ha hsm hnm hT
    go_enter Tryz.func140, Tryz.ntmps140
    repeat ((fail_if_success (with_reducible show Code.wp _ (Code.region 1 _ _) _ _ _)); (first | go_values | go_skip | go_guarded | go_step | go_upon | go_back | go_simp))
    rw [← hW0]
    clear hW0
    go_wp2_with (first
      | (go_at_call 133; refine (wants_any i t s ed nm L S a1 a2 c1 c2 ws gs C Z a cap es _ (by exact I1.out) (by exact I2.out) hx hy (by exact I3.out) hl SM.out NM.out HT.out).mono ?_; rintro e w1 ⟨rfl, b1⟩; rw [HW.out]; replace X0 := hid (kept X0.out b1); replace B0 := hid (u_cat B0.out b1); replace I1 := hid (I1.out.below b1); replace I2 := hid (I2.out.below b1); replace I3 := hid (I3.out.below b1); replace HT := hid (HT.out.below b1); clear b1 y0 y1 y2 y3 y4 y5 y6 y7 y8 y9 y10 y11; have y0 := box_cell X0.out 0 (v := .int .i64 i) rfl; have y1 := box_cell X0.out 1 (v := .int .i64 t) rfl; have y2 := box_cell X0.out 2 (v := .int .i64 s) rfl; have y3 := box_cell X0.out 3 (v := .string nm) rfl; have y4 := box_cell X0.out 4 (v := .int .i64 ed) rfl; have y5 := box_cell X0.out 5 (v := .int .i64 L) rfl; have y6 := box_cell X0.out 6 (v := .int .i64 S) rfl; have y7 := box_cell X0.out 7 (v := .slice a1 ws.length c1) rfl; have y8 := box_cell X0.out 8 (v := .slice a2 gs.length c2) rfl; have y9 := box_cell X0.out 9 (v := .int .i64 C) rfl; have y10 := box_cell X0.out 10 (v := .int .i64 Z) rfl; have y11 := box_cell X0.out 11 (v := .slice a es.length cap) rfl)
      | (go_at_call 134; refine (implGetDone_any L S a1 a2 c1 c2 ws gs C Z a cap es _ (by exact I1.out) (by exact I2.out) hx hy (by exact I3.out) hl SM.out HT.out).mono ?_; rintro e w1 ⟨rfl, b1⟩; rw [HD.out]; replace X0 := hid (kept X0.out b1); replace B0 := hid (u_cat B0.out b1); replace I1 := hid (I1.out.below b1); replace I2 := hid (I2.out.below b1); replace I3 := hid (I3.out.below b1); replace HT := hid (HT.out.below b1); clear b1 y0 y1 y2 y3 y4 y5 y6 y7 y8 y9 y10 y11; have y0 := box_cell X0.out 0 (v := .int .i64 i) rfl; have y1 := box_cell X0.out 1 (v := .int .i64 t) rfl; have y2 := box_cell X0.out 2 (v := .int .i64 s) rfl; have y3 := box_cell X0.out 3 (v := .string nm) rfl; have y4 := box_cell X0.out 4 (v := .int .i64 ed) rfl; have y5 := box_cell X0.out 5 (v := .int .i64 L) rfl; have y6 := box_cell X0.out 6 (v := .int .i64 S) rfl; have y7 := box_cell X0.out 7 (v := .slice a1 ws.length c1) rfl; have y8 := box_cell X0.out 8 (v := .slice a2 gs.length c2) rfl; have y9 := box_cell X0.out 9 (v := .int .i64 C) rfl; have y10 := box_cell X0.out 10 (v := .int .i64 Z) rfl; have y11 := box_cell X0.out 11 (v := .slice a es.length cap) rfl))
    go_ret
    exact ⟨rfl, B0.out⟩
  by_cases k1 : 0 < ed
  case neg =>
    rw [decide_eq_false (show ¬ (((0 < t ∧ nameB nm = true) ∧ 0 < ed ∧ ¬ (getP L S ws gs C Z es ∧ (es.length : Int) = C))) from fun h => by grind)]
    have HW := hid (decide_eq_true k0)
    have bed : decide (0 < ed) = false := decide_eq_false k1
    obtain ⟨W0, hW0⟩ : ∃ W0, W0 = (w.alloc (.cells #[] 93)).alloc (.cells #[.int .i64 i, .int .i64 t, .int .i64 s, .string nm, .int .i64 ed, .int .i64 L, .int .i64 S, .slice a1 ws.length c1, .slice a2 gs.length c2, .int .i64 C, .int .i64 Z, .slice a es.length cap] 40) := ⟨_, rfl⟩
    have X0 := hid (show W0.heap[w.heap.size + 1]? = some (.cells #[.int .i64 i, .int .i64 t, .int .i64 s, .string nm, .int .i64 ed, .int .i64 L, .int .i64 S, .slice a1 ws.length c1, .slice a2 gs.length c2, .int .i64 C, .int .i64 Z, .slice a es.length cap] 40 (0, 0)) by rw [hW0]; exact u_laid _ _ _ (by simp))
    have B0 := hid (show Below w.heap.size w W0 by rw [hW0]; exact u_b2 _ _ _)
    have I1 := hid (ha1.below B0.out)
    have I2 := hid (ha2.below B0.out)
    have I3 := hid (ha.below B0.out)
    have SM := hid hsm
    have NM := hid hnm
    have HT := hid (hT.below B0.out)
    have y0 := box_cell X0.out 0 (v := .int .i64 i) rfl
    have y1 := box_cell X0.out 1 (v := .int .i64 t) rfl
    have y2 := box_cell X0.out 2 (v := .int .i64 s) rfl
    have y3 := box_cell X0.out 3 (v := .string nm) rfl
    have y4 := box_cell X0.out 4 (v := .int .i64 ed) rfl
    have y5 := box_cell X0.out 5 (v := .int .i64 L) rfl
    have y6 := box_cell X0.out 6 (v := .int .i64 S) rfl
    have y7 := box_cell X0.out 7 (v := .slice a1 ws.length c1) rfl
    have y8 := box_cell X0.out 8 (v := .slice a2 gs.length c2) rfl
    have y9 := box_cell X0.out 9 (v := .int .i64 C) rfl
    have y10 := box_cell X0.out 10 (v := .int .i64 Z) rfl
    have y11 := box_cell X0.out 11 (v := .slice a es.length cap) rfl
    clear ha1 ha2 ha hsm hnm hT
    go_enter Tryz.func140, Tryz.ntmps140
    repeat ((fail_if_success (with_reducible show Code.wp _ (Code.region 1 _ _) _ _ _)); (first | go_values | go_skip | go_guarded | go_step | go_upon | go_back | go_simp))
    rw [← hW0]
    clear hW0
    go_wp2_with (first
      | (go_at_call 133; refine (wants_any i t s ed nm L S a1 a2 c1 c2 ws gs C Z a cap es _ (by exact I1.out) (by exact I2.out) hx hy (by exact I3.out) hl SM.out NM.out HT.out).mono ?_; rintro e w1 ⟨rfl, b1⟩; rw [HW.out]; replace X0 := hid (kept X0.out b1); replace B0 := hid (u_cat B0.out b1); replace I1 := hid (I1.out.below b1); replace I2 := hid (I2.out.below b1); replace I3 := hid (I3.out.below b1); replace HT := hid (HT.out.below b1); clear b1 y0 y1 y2 y3 y4 y5 y6 y7 y8 y9 y10 y11; have y0 := box_cell X0.out 0 (v := .int .i64 i) rfl; have y1 := box_cell X0.out 1 (v := .int .i64 t) rfl; have y2 := box_cell X0.out 2 (v := .int .i64 s) rfl; have y3 := box_cell X0.out 3 (v := .string nm) rfl; have y4 := box_cell X0.out 4 (v := .int .i64 ed) rfl; have y5 := box_cell X0.out 5 (v := .int .i64 L) rfl; have y6 := box_cell X0.out 6 (v := .int .i64 S) rfl; have y7 := box_cell X0.out 7 (v := .slice a1 ws.length c1) rfl; have y8 := box_cell X0.out 8 (v := .slice a2 gs.length c2) rfl; have y9 := box_cell X0.out 9 (v := .int .i64 C) rfl; have y10 := box_cell X0.out 10 (v := .int .i64 Z) rfl; have y11 := box_cell X0.out 11 (v := .slice a es.length cap) rfl)
      | (go_at_call 134; refine (implGetDone_any L S a1 a2 c1 c2 ws gs C Z a cap es _ (by exact I1.out) (by exact I2.out) hx hy (by exact I3.out) hl SM.out HT.out).mono ?_; rintro e w1 ⟨rfl, b1⟩; rw [HD.out]; replace X0 := hid (kept X0.out b1); replace B0 := hid (u_cat B0.out b1); replace I1 := hid (I1.out.below b1); replace I2 := hid (I2.out.below b1); replace I3 := hid (I3.out.below b1); replace HT := hid (HT.out.below b1); clear b1 y0 y1 y2 y3 y4 y5 y6 y7 y8 y9 y10 y11; have y0 := box_cell X0.out 0 (v := .int .i64 i) rfl; have y1 := box_cell X0.out 1 (v := .int .i64 t) rfl; have y2 := box_cell X0.out 2 (v := .int .i64 s) rfl; have y3 := box_cell X0.out 3 (v := .string nm) rfl; have y4 := box_cell X0.out 4 (v := .int .i64 ed) rfl; have y5 := box_cell X0.out 5 (v := .int .i64 L) rfl; have y6 := box_cell X0.out 6 (v := .int .i64 S) rfl; have y7 := box_cell X0.out 7 (v := .slice a1 ws.length c1) rfl; have y8 := box_cell X0.out 8 (v := .slice a2 gs.length c2) rfl; have y9 := box_cell X0.out 9 (v := .int .i64 C) rfl; have y10 := box_cell X0.out 10 (v := .int .i64 Z) rfl; have y11 := box_cell X0.out 11 (v := .slice a es.length cap) rfl))
    go_ret
    exact ⟨rfl, B0.out⟩
  by_cases k2 : ¬ (getP L S ws gs C Z es ∧ (es.length : Int) = C)
  case neg =>
    rw [decide_eq_false (show ¬ (((0 < t ∧ nameB nm = true) ∧ 0 < ed ∧ ¬ (getP L S ws gs C Z es ∧ (es.length : Int) = C))) from fun h => by grind)]
    have HW := hid (decide_eq_true k0)
    have bed : decide (0 < ed) = true := decide_eq_true k1
    have HD := hid (decide_eq_true (Decidable.not_not.1 k2))
    obtain ⟨W0, hW0⟩ : ∃ W0, W0 = (w.alloc (.cells #[] 93)).alloc (.cells #[.int .i64 i, .int .i64 t, .int .i64 s, .string nm, .int .i64 ed, .int .i64 L, .int .i64 S, .slice a1 ws.length c1, .slice a2 gs.length c2, .int .i64 C, .int .i64 Z, .slice a es.length cap] 40) := ⟨_, rfl⟩
    have X0 := hid (show W0.heap[w.heap.size + 1]? = some (.cells #[.int .i64 i, .int .i64 t, .int .i64 s, .string nm, .int .i64 ed, .int .i64 L, .int .i64 S, .slice a1 ws.length c1, .slice a2 gs.length c2, .int .i64 C, .int .i64 Z, .slice a es.length cap] 40 (0, 0)) by rw [hW0]; exact u_laid _ _ _ (by simp))
    have B0 := hid (show Below w.heap.size w W0 by rw [hW0]; exact u_b2 _ _ _)
    have I1 := hid (ha1.below B0.out)
    have I2 := hid (ha2.below B0.out)
    have I3 := hid (ha.below B0.out)
    have SM := hid hsm
    have NM := hid hnm
    have HT := hid (hT.below B0.out)
    have y0 := box_cell X0.out 0 (v := .int .i64 i) rfl
    have y1 := box_cell X0.out 1 (v := .int .i64 t) rfl
    have y2 := box_cell X0.out 2 (v := .int .i64 s) rfl
    have y3 := box_cell X0.out 3 (v := .string nm) rfl
    have y4 := box_cell X0.out 4 (v := .int .i64 ed) rfl
    have y5 := box_cell X0.out 5 (v := .int .i64 L) rfl
    have y6 := box_cell X0.out 6 (v := .int .i64 S) rfl
    have y7 := box_cell X0.out 7 (v := .slice a1 ws.length c1) rfl
    have y8 := box_cell X0.out 8 (v := .slice a2 gs.length c2) rfl
    have y9 := box_cell X0.out 9 (v := .int .i64 C) rfl
    have y10 := box_cell X0.out 10 (v := .int .i64 Z) rfl
    have y11 := box_cell X0.out 11 (v := .slice a es.length cap) rfl
    clear ha1 ha2 ha hsm hnm hT
    go_enter Tryz.func140, Tryz.ntmps140
    repeat ((fail_if_success (with_reducible show Code.wp _ (Code.region 1 _ _) _ _ _)); (first | go_values | go_skip | go_guarded | go_step | go_upon | go_back | go_simp))
    rw [← hW0]
    clear hW0
    go_wp2_with (first
      | (go_at_call 133; refine (wants_any i t s ed nm L S a1 a2 c1 c2 ws gs C Z a cap es _ (by exact I1.out) (by exact I2.out) hx hy (by exact I3.out) hl SM.out NM.out HT.out).mono ?_; rintro e w1 ⟨rfl, b1⟩; rw [HW.out]; replace X0 := hid (kept X0.out b1); replace B0 := hid (u_cat B0.out b1); replace I1 := hid (I1.out.below b1); replace I2 := hid (I2.out.below b1); replace I3 := hid (I3.out.below b1); replace HT := hid (HT.out.below b1); clear b1 y0 y1 y2 y3 y4 y5 y6 y7 y8 y9 y10 y11; have y0 := box_cell X0.out 0 (v := .int .i64 i) rfl; have y1 := box_cell X0.out 1 (v := .int .i64 t) rfl; have y2 := box_cell X0.out 2 (v := .int .i64 s) rfl; have y3 := box_cell X0.out 3 (v := .string nm) rfl; have y4 := box_cell X0.out 4 (v := .int .i64 ed) rfl; have y5 := box_cell X0.out 5 (v := .int .i64 L) rfl; have y6 := box_cell X0.out 6 (v := .int .i64 S) rfl; have y7 := box_cell X0.out 7 (v := .slice a1 ws.length c1) rfl; have y8 := box_cell X0.out 8 (v := .slice a2 gs.length c2) rfl; have y9 := box_cell X0.out 9 (v := .int .i64 C) rfl; have y10 := box_cell X0.out 10 (v := .int .i64 Z) rfl; have y11 := box_cell X0.out 11 (v := .slice a es.length cap) rfl)
      | (go_at_call 134; refine (implGetDone_any L S a1 a2 c1 c2 ws gs C Z a cap es _ (by exact I1.out) (by exact I2.out) hx hy (by exact I3.out) hl SM.out HT.out).mono ?_; rintro e w1 ⟨rfl, b1⟩; rw [HD.out]; replace X0 := hid (kept X0.out b1); replace B0 := hid (u_cat B0.out b1); replace I1 := hid (I1.out.below b1); replace I2 := hid (I2.out.below b1); replace I3 := hid (I3.out.below b1); replace HT := hid (HT.out.below b1); clear b1 y0 y1 y2 y3 y4 y5 y6 y7 y8 y9 y10 y11; have y0 := box_cell X0.out 0 (v := .int .i64 i) rfl; have y1 := box_cell X0.out 1 (v := .int .i64 t) rfl; have y2 := box_cell X0.out 2 (v := .int .i64 s) rfl; have y3 := box_cell X0.out 3 (v := .string nm) rfl; have y4 := box_cell X0.out 4 (v := .int .i64 ed) rfl; have y5 := box_cell X0.out 5 (v := .int .i64 L) rfl; have y6 := box_cell X0.out 6 (v := .int .i64 S) rfl; have y7 := box_cell X0.out 7 (v := .slice a1 ws.length c1) rfl; have y8 := box_cell X0.out 8 (v := .slice a2 gs.length c2) rfl; have y9 := box_cell X0.out 9 (v := .int .i64 C) rfl; have y10 := box_cell X0.out 10 (v := .int .i64 Z) rfl; have y11 := box_cell X0.out 11 (v := .slice a es.length cap) rfl))
    go_ret
    exact ⟨rfl, B0.out⟩
  rw [decide_eq_true (show ((0 < t ∧ nameB nm = true) ∧ 0 < ed ∧ ¬ (getP L S ws gs C Z es ∧ (es.length : Int) = C)) by grind)]
  have HW := hid (decide_eq_true k0)
  have bed : decide (0 < ed) = true := decide_eq_true k1
  have HD := hid (decide_eq_false k2)
  obtain ⟨W0, hW0⟩ : ∃ W0, W0 = (w.alloc (.cells #[] 93)).alloc (.cells #[.int .i64 i, .int .i64 t, .int .i64 s, .string nm, .int .i64 ed, .int .i64 L, .int .i64 S, .slice a1 ws.length c1, .slice a2 gs.length c2, .int .i64 C, .int .i64 Z, .slice a es.length cap] 40) := ⟨_, rfl⟩
  have X0 := hid (show W0.heap[w.heap.size + 1]? = some (.cells #[.int .i64 i, .int .i64 t, .int .i64 s, .string nm, .int .i64 ed, .int .i64 L, .int .i64 S, .slice a1 ws.length c1, .slice a2 gs.length c2, .int .i64 C, .int .i64 Z, .slice a es.length cap] 40 (0, 0)) by rw [hW0]; exact u_laid _ _ _ (by simp))
  have B0 := hid (show Below w.heap.size w W0 by rw [hW0]; exact u_b2 _ _ _)
  have I1 := hid (ha1.below B0.out)
  have I2 := hid (ha2.below B0.out)
  have I3 := hid (ha.below B0.out)
  have SM := hid hsm
  have NM := hid hnm
  have HT := hid (hT.below B0.out)
  have y0 := box_cell X0.out 0 (v := .int .i64 i) rfl
  have y1 := box_cell X0.out 1 (v := .int .i64 t) rfl
  have y2 := box_cell X0.out 2 (v := .int .i64 s) rfl
  have y3 := box_cell X0.out 3 (v := .string nm) rfl
  have y4 := box_cell X0.out 4 (v := .int .i64 ed) rfl
  have y5 := box_cell X0.out 5 (v := .int .i64 L) rfl
  have y6 := box_cell X0.out 6 (v := .int .i64 S) rfl
  have y7 := box_cell X0.out 7 (v := .slice a1 ws.length c1) rfl
  have y8 := box_cell X0.out 8 (v := .slice a2 gs.length c2) rfl
  have y9 := box_cell X0.out 9 (v := .int .i64 C) rfl
  have y10 := box_cell X0.out 10 (v := .int .i64 Z) rfl
  have y11 := box_cell X0.out 11 (v := .slice a es.length cap) rfl
  clear ha1 ha2 ha hsm hnm hT
  go_enter Tryz.func140, Tryz.ntmps140
  repeat ((fail_if_success (with_reducible show Code.wp _ (Code.region 1 _ _) _ _ _)); (first | go_values | go_skip | go_guarded | go_step | go_upon | go_back | go_simp))
  rw [← hW0]
  clear hW0
  go_wp2_with (first
    | (go_at_call 133; refine (wants_any i t s ed nm L S a1 a2 c1 c2 ws gs C Z a cap es _ (by exact I1.out) (by exact I2.out) hx hy (by exact I3.out) hl SM.out NM.out HT.out).mono ?_; rintro e w1 ⟨rfl, b1⟩; rw [HW.out]; replace X0 := hid (kept X0.out b1); replace B0 := hid (u_cat B0.out b1); replace I1 := hid (I1.out.below b1); replace I2 := hid (I2.out.below b1); replace I3 := hid (I3.out.below b1); replace HT := hid (HT.out.below b1); clear b1 y0 y1 y2 y3 y4 y5 y6 y7 y8 y9 y10 y11; have y0 := box_cell X0.out 0 (v := .int .i64 i) rfl; have y1 := box_cell X0.out 1 (v := .int .i64 t) rfl; have y2 := box_cell X0.out 2 (v := .int .i64 s) rfl; have y3 := box_cell X0.out 3 (v := .string nm) rfl; have y4 := box_cell X0.out 4 (v := .int .i64 ed) rfl; have y5 := box_cell X0.out 5 (v := .int .i64 L) rfl; have y6 := box_cell X0.out 6 (v := .int .i64 S) rfl; have y7 := box_cell X0.out 7 (v := .slice a1 ws.length c1) rfl; have y8 := box_cell X0.out 8 (v := .slice a2 gs.length c2) rfl; have y9 := box_cell X0.out 9 (v := .int .i64 C) rfl; have y10 := box_cell X0.out 10 (v := .int .i64 Z) rfl; have y11 := box_cell X0.out 11 (v := .slice a es.length cap) rfl)
    | (go_at_call 134; refine (implGetDone_any L S a1 a2 c1 c2 ws gs C Z a cap es _ (by exact I1.out) (by exact I2.out) hx hy (by exact I3.out) hl SM.out HT.out).mono ?_; rintro e w1 ⟨rfl, b1⟩; rw [HD.out]; replace X0 := hid (kept X0.out b1); replace B0 := hid (u_cat B0.out b1); replace I1 := hid (I1.out.below b1); replace I2 := hid (I2.out.below b1); replace I3 := hid (I3.out.below b1); replace HT := hid (HT.out.below b1); clear b1 y0 y1 y2 y3 y4 y5 y6 y7 y8 y9 y10 y11; have y0 := box_cell X0.out 0 (v := .int .i64 i) rfl; have y1 := box_cell X0.out 1 (v := .int .i64 t) rfl; have y2 := box_cell X0.out 2 (v := .int .i64 s) rfl; have y3 := box_cell X0.out 3 (v := .string nm) rfl; have y4 := box_cell X0.out 4 (v := .int .i64 ed) rfl; have y5 := box_cell X0.out 5 (v := .int .i64 L) rfl; have y6 := box_cell X0.out 6 (v := .int .i64 S) rfl; have y7 := box_cell X0.out 7 (v := .slice a1 ws.length c1) rfl; have y8 := box_cell X0.out 8 (v := .slice a2 gs.length c2) rfl; have y9 := box_cell X0.out 9 (v := .int .i64 C) rfl; have y10 := box_cell X0.out 10 (v := .int .i64 Z) rfl; have y11 := box_cell X0.out 11 (v := .slice a es.length cap) rfl))
  go_ret
  exact ⟨rfl, B0.out⟩
set_option maxHeartbeats 4000000 in
set_option maxRecDepth 100000 in
theorem fits_3 (i t s ed : Int) (nm : ByteArray) (L S : Int) (a1 a2 : Option Addr) (c1 c2 : Nat) (ws gs : List Int) (C Z : Int) (a : Option Addr) (cap : Nat) (es : List EqV) (w : World) (ha1 : IntsAt w a1 ws) (ha2 : IntsAt w a2 gs) (hx : ws.length ≤ 1048576) (hy : gs.length ≤ 1048576) (ha : EqsAt w a es) (hl : es.length ≤ 1048576) (hsm : SmallE es) (hnm : nm.size ≤ maxLen) (hT : Tab w) :
    Calls Tryz.prog 144 #[.agg #[], .agg #[.int .i64 i, .int .i64 t, .int .i64 s, .string nm, .int .i64 ed, .int .i64 L, .int .i64 S, .slice a1 ws.length c1, .slice a2 gs.length c2, .int .i64 C, .int .i64 Z, .slice a es.length cap]] w fun e w' => e = .returned (.bool (decide (((0 < t ∧ nameB nm = true) ∧ 0 < ed ∧ (getP L S ws gs C Z es ∧ (es.length : Int) = C))))) ∧ Below w.heap.size w w' := by
  by_cases k0 : (0 < t ∧ nameB nm = true)
  case neg =>
    rw [decide_eq_false (show ¬ (((0 < t ∧ nameB nm = true) ∧ 0 < ed ∧ (getP L S ws gs C Z es ∧ (es.length : Int) = C))) from fun h => by grind)]
    have HW := hid (decide_eq_false k0)
    obtain ⟨W0, hW0⟩ : ∃ W0, W0 = (w.alloc (.cells #[] 94)).alloc (.cells #[.int .i64 i, .int .i64 t, .int .i64 s, .string nm, .int .i64 ed, .int .i64 L, .int .i64 S, .slice a1 ws.length c1, .slice a2 gs.length c2, .int .i64 C, .int .i64 Z, .slice a es.length cap] 40) := ⟨_, rfl⟩
    have X0 := hid (show W0.heap[w.heap.size + 1]? = some (.cells #[.int .i64 i, .int .i64 t, .int .i64 s, .string nm, .int .i64 ed, .int .i64 L, .int .i64 S, .slice a1 ws.length c1, .slice a2 gs.length c2, .int .i64 C, .int .i64 Z, .slice a es.length cap] 40 (0, 0)) by rw [hW0]; exact u_laid _ _ _ (by simp))
    have B0 := hid (show Below w.heap.size w W0 by rw [hW0]; exact u_b2 _ _ _)
    have I1 := hid (ha1.below B0.out)
    have I2 := hid (ha2.below B0.out)
    have I3 := hid (ha.below B0.out)
    have SM := hid hsm
    have NM := hid hnm
    have HT := hid (hT.below B0.out)
    have y0 := box_cell X0.out 0 (v := .int .i64 i) rfl
    have y1 := box_cell X0.out 1 (v := .int .i64 t) rfl
    have y2 := box_cell X0.out 2 (v := .int .i64 s) rfl
    have y3 := box_cell X0.out 3 (v := .string nm) rfl
    have y4 := box_cell X0.out 4 (v := .int .i64 ed) rfl
    have y5 := box_cell X0.out 5 (v := .int .i64 L) rfl
    have y6 := box_cell X0.out 6 (v := .int .i64 S) rfl
    have y7 := box_cell X0.out 7 (v := .slice a1 ws.length c1) rfl
    have y8 := box_cell X0.out 8 (v := .slice a2 gs.length c2) rfl
    have y9 := box_cell X0.out 9 (v := .int .i64 C) rfl
    have y10 := box_cell X0.out 10 (v := .int .i64 Z) rfl
    have y11 := box_cell X0.out 11 (v := .slice a es.length cap) rfl
    clear ha1 ha2 ha hsm hnm hT
    go_enter Tryz.func144, Tryz.ntmps144
    repeat ((fail_if_success (with_reducible show Code.wp _ (Code.region 1 _ _) _ _ _)); (first | go_values | go_skip | go_guarded | go_step | go_upon | go_back | go_simp))
    rw [← hW0]
    clear hW0
    go_wp2_with (first
      | (go_at_call 133; refine (wants_any i t s ed nm L S a1 a2 c1 c2 ws gs C Z a cap es _ (by exact I1.out) (by exact I2.out) hx hy (by exact I3.out) hl SM.out NM.out HT.out).mono ?_; rintro e w1 ⟨rfl, b1⟩; rw [HW.out]; replace X0 := hid (kept X0.out b1); replace B0 := hid (u_cat B0.out b1); replace I1 := hid (I1.out.below b1); replace I2 := hid (I2.out.below b1); replace I3 := hid (I3.out.below b1); replace HT := hid (HT.out.below b1); clear b1 y0 y1 y2 y3 y4 y5 y6 y7 y8 y9 y10 y11; have y0 := box_cell X0.out 0 (v := .int .i64 i) rfl; have y1 := box_cell X0.out 1 (v := .int .i64 t) rfl; have y2 := box_cell X0.out 2 (v := .int .i64 s) rfl; have y3 := box_cell X0.out 3 (v := .string nm) rfl; have y4 := box_cell X0.out 4 (v := .int .i64 ed) rfl; have y5 := box_cell X0.out 5 (v := .int .i64 L) rfl; have y6 := box_cell X0.out 6 (v := .int .i64 S) rfl; have y7 := box_cell X0.out 7 (v := .slice a1 ws.length c1) rfl; have y8 := box_cell X0.out 8 (v := .slice a2 gs.length c2) rfl; have y9 := box_cell X0.out 9 (v := .int .i64 C) rfl; have y10 := box_cell X0.out 10 (v := .int .i64 Z) rfl; have y11 := box_cell X0.out 11 (v := .slice a es.length cap) rfl)
      | (go_at_call 134; refine (implGetDone_any L S a1 a2 c1 c2 ws gs C Z a cap es _ (by exact I1.out) (by exact I2.out) hx hy (by exact I3.out) hl SM.out HT.out).mono ?_; rintro e w1 ⟨rfl, b1⟩; rw [HD.out]; replace X0 := hid (kept X0.out b1); replace B0 := hid (u_cat B0.out b1); replace I1 := hid (I1.out.below b1); replace I2 := hid (I2.out.below b1); replace I3 := hid (I3.out.below b1); replace HT := hid (HT.out.below b1); clear b1 y0 y1 y2 y3 y4 y5 y6 y7 y8 y9 y10 y11; have y0 := box_cell X0.out 0 (v := .int .i64 i) rfl; have y1 := box_cell X0.out 1 (v := .int .i64 t) rfl; have y2 := box_cell X0.out 2 (v := .int .i64 s) rfl; have y3 := box_cell X0.out 3 (v := .string nm) rfl; have y4 := box_cell X0.out 4 (v := .int .i64 ed) rfl; have y5 := box_cell X0.out 5 (v := .int .i64 L) rfl; have y6 := box_cell X0.out 6 (v := .int .i64 S) rfl; have y7 := box_cell X0.out 7 (v := .slice a1 ws.length c1) rfl; have y8 := box_cell X0.out 8 (v := .slice a2 gs.length c2) rfl; have y9 := box_cell X0.out 9 (v := .int .i64 C) rfl; have y10 := box_cell X0.out 10 (v := .int .i64 Z) rfl; have y11 := box_cell X0.out 11 (v := .slice a es.length cap) rfl))
    go_ret
    exact ⟨rfl, B0.out⟩
  by_cases k1 : 0 < ed
  case neg =>
    rw [decide_eq_false (show ¬ (((0 < t ∧ nameB nm = true) ∧ 0 < ed ∧ (getP L S ws gs C Z es ∧ (es.length : Int) = C))) from fun h => by grind)]
    have HW := hid (decide_eq_true k0)
    have bed : decide (0 < ed) = false := decide_eq_false k1
    obtain ⟨W0, hW0⟩ : ∃ W0, W0 = (w.alloc (.cells #[] 94)).alloc (.cells #[.int .i64 i, .int .i64 t, .int .i64 s, .string nm, .int .i64 ed, .int .i64 L, .int .i64 S, .slice a1 ws.length c1, .slice a2 gs.length c2, .int .i64 C, .int .i64 Z, .slice a es.length cap] 40) := ⟨_, rfl⟩
    have X0 := hid (show W0.heap[w.heap.size + 1]? = some (.cells #[.int .i64 i, .int .i64 t, .int .i64 s, .string nm, .int .i64 ed, .int .i64 L, .int .i64 S, .slice a1 ws.length c1, .slice a2 gs.length c2, .int .i64 C, .int .i64 Z, .slice a es.length cap] 40 (0, 0)) by rw [hW0]; exact u_laid _ _ _ (by simp))
    have B0 := hid (show Below w.heap.size w W0 by rw [hW0]; exact u_b2 _ _ _)
    have I1 := hid (ha1.below B0.out)
    have I2 := hid (ha2.below B0.out)
    have I3 := hid (ha.below B0.out)
    have SM := hid hsm
    have NM := hid hnm
    have HT := hid (hT.below B0.out)
    have y0 := box_cell X0.out 0 (v := .int .i64 i) rfl
    have y1 := box_cell X0.out 1 (v := .int .i64 t) rfl
    have y2 := box_cell X0.out 2 (v := .int .i64 s) rfl
    have y3 := box_cell X0.out 3 (v := .string nm) rfl
    have y4 := box_cell X0.out 4 (v := .int .i64 ed) rfl
    have y5 := box_cell X0.out 5 (v := .int .i64 L) rfl
    have y6 := box_cell X0.out 6 (v := .int .i64 S) rfl
    have y7 := box_cell X0.out 7 (v := .slice a1 ws.length c1) rfl
    have y8 := box_cell X0.out 8 (v := .slice a2 gs.length c2) rfl
    have y9 := box_cell X0.out 9 (v := .int .i64 C) rfl
    have y10 := box_cell X0.out 10 (v := .int .i64 Z) rfl
    have y11 := box_cell X0.out 11 (v := .slice a es.length cap) rfl
    clear ha1 ha2 ha hsm hnm hT
    go_enter Tryz.func144, Tryz.ntmps144
    repeat ((fail_if_success (with_reducible show Code.wp _ (Code.region 1 _ _) _ _ _)); (first | go_values | go_skip | go_guarded | go_step | go_upon | go_back | go_simp))
    rw [← hW0]
    clear hW0
    go_wp2_with (first
      | (go_at_call 133; refine (wants_any i t s ed nm L S a1 a2 c1 c2 ws gs C Z a cap es _ (by exact I1.out) (by exact I2.out) hx hy (by exact I3.out) hl SM.out NM.out HT.out).mono ?_; rintro e w1 ⟨rfl, b1⟩; rw [HW.out]; replace X0 := hid (kept X0.out b1); replace B0 := hid (u_cat B0.out b1); replace I1 := hid (I1.out.below b1); replace I2 := hid (I2.out.below b1); replace I3 := hid (I3.out.below b1); replace HT := hid (HT.out.below b1); clear b1 y0 y1 y2 y3 y4 y5 y6 y7 y8 y9 y10 y11; have y0 := box_cell X0.out 0 (v := .int .i64 i) rfl; have y1 := box_cell X0.out 1 (v := .int .i64 t) rfl; have y2 := box_cell X0.out 2 (v := .int .i64 s) rfl; have y3 := box_cell X0.out 3 (v := .string nm) rfl; have y4 := box_cell X0.out 4 (v := .int .i64 ed) rfl; have y5 := box_cell X0.out 5 (v := .int .i64 L) rfl; have y6 := box_cell X0.out 6 (v := .int .i64 S) rfl; have y7 := box_cell X0.out 7 (v := .slice a1 ws.length c1) rfl; have y8 := box_cell X0.out 8 (v := .slice a2 gs.length c2) rfl; have y9 := box_cell X0.out 9 (v := .int .i64 C) rfl; have y10 := box_cell X0.out 10 (v := .int .i64 Z) rfl; have y11 := box_cell X0.out 11 (v := .slice a es.length cap) rfl)
      | (go_at_call 134; refine (implGetDone_any L S a1 a2 c1 c2 ws gs C Z a cap es _ (by exact I1.out) (by exact I2.out) hx hy (by exact I3.out) hl SM.out HT.out).mono ?_; rintro e w1 ⟨rfl, b1⟩; rw [HD.out]; replace X0 := hid (kept X0.out b1); replace B0 := hid (u_cat B0.out b1); replace I1 := hid (I1.out.below b1); replace I2 := hid (I2.out.below b1); replace I3 := hid (I3.out.below b1); replace HT := hid (HT.out.below b1); clear b1 y0 y1 y2 y3 y4 y5 y6 y7 y8 y9 y10 y11; have y0 := box_cell X0.out 0 (v := .int .i64 i) rfl; have y1 := box_cell X0.out 1 (v := .int .i64 t) rfl; have y2 := box_cell X0.out 2 (v := .int .i64 s) rfl; have y3 := box_cell X0.out 3 (v := .string nm) rfl; have y4 := box_cell X0.out 4 (v := .int .i64 ed) rfl; have y5 := box_cell X0.out 5 (v := .int .i64 L) rfl; have y6 := box_cell X0.out 6 (v := .int .i64 S) rfl; have y7 := box_cell X0.out 7 (v := .slice a1 ws.length c1) rfl; have y8 := box_cell X0.out 8 (v := .slice a2 gs.length c2) rfl; have y9 := box_cell X0.out 9 (v := .int .i64 C) rfl; have y10 := box_cell X0.out 10 (v := .int .i64 Z) rfl; have y11 := box_cell X0.out 11 (v := .slice a es.length cap) rfl))
    go_ret
    exact ⟨rfl, B0.out⟩
  by_cases k2 : (getP L S ws gs C Z es ∧ (es.length : Int) = C)
  case neg =>
    rw [decide_eq_false (show ¬ (((0 < t ∧ nameB nm = true) ∧ 0 < ed ∧ (getP L S ws gs C Z es ∧ (es.length : Int) = C))) from fun h => by grind)]
    have HW := hid (decide_eq_true k0)
    have bed : decide (0 < ed) = true := decide_eq_true k1
    have HD := hid (decide_eq_false k2)
    obtain ⟨W0, hW0⟩ : ∃ W0, W0 = (w.alloc (.cells #[] 94)).alloc (.cells #[.int .i64 i, .int .i64 t, .int .i64 s, .string nm, .int .i64 ed, .int .i64 L, .int .i64 S, .slice a1 ws.length c1, .slice a2 gs.length c2, .int .i64 C, .int .i64 Z, .slice a es.length cap] 40) := ⟨_, rfl⟩
    have X0 := hid (show W0.heap[w.heap.size + 1]? = some (.cells #[.int .i64 i, .int .i64 t, .int .i64 s, .string nm, .int .i64 ed, .int .i64 L, .int .i64 S, .slice a1 ws.length c1, .slice a2 gs.length c2, .int .i64 C, .int .i64 Z, .slice a es.length cap] 40 (0, 0)) by rw [hW0]; exact u_laid _ _ _ (by simp))
    have B0 := hid (show Below w.heap.size w W0 by rw [hW0]; exact u_b2 _ _ _)
    have I1 := hid (ha1.below B0.out)
    have I2 := hid (ha2.below B0.out)
    have I3 := hid (ha.below B0.out)
    have SM := hid hsm
    have NM := hid hnm
    have HT := hid (hT.below B0.out)
    have y0 := box_cell X0.out 0 (v := .int .i64 i) rfl
    have y1 := box_cell X0.out 1 (v := .int .i64 t) rfl
    have y2 := box_cell X0.out 2 (v := .int .i64 s) rfl
    have y3 := box_cell X0.out 3 (v := .string nm) rfl
    have y4 := box_cell X0.out 4 (v := .int .i64 ed) rfl
    have y5 := box_cell X0.out 5 (v := .int .i64 L) rfl
    have y6 := box_cell X0.out 6 (v := .int .i64 S) rfl
    have y7 := box_cell X0.out 7 (v := .slice a1 ws.length c1) rfl
    have y8 := box_cell X0.out 8 (v := .slice a2 gs.length c2) rfl
    have y9 := box_cell X0.out 9 (v := .int .i64 C) rfl
    have y10 := box_cell X0.out 10 (v := .int .i64 Z) rfl
    have y11 := box_cell X0.out 11 (v := .slice a es.length cap) rfl
    clear ha1 ha2 ha hsm hnm hT
    go_enter Tryz.func144, Tryz.ntmps144
    repeat ((fail_if_success (with_reducible show Code.wp _ (Code.region 1 _ _) _ _ _)); (first | go_values | go_skip | go_guarded | go_step | go_upon | go_back | go_simp))
    rw [← hW0]
    clear hW0
    go_wp2_with (first
      | (go_at_call 133; refine (wants_any i t s ed nm L S a1 a2 c1 c2 ws gs C Z a cap es _ (by exact I1.out) (by exact I2.out) hx hy (by exact I3.out) hl SM.out NM.out HT.out).mono ?_; rintro e w1 ⟨rfl, b1⟩; rw [HW.out]; replace X0 := hid (kept X0.out b1); replace B0 := hid (u_cat B0.out b1); replace I1 := hid (I1.out.below b1); replace I2 := hid (I2.out.below b1); replace I3 := hid (I3.out.below b1); replace HT := hid (HT.out.below b1); clear b1 y0 y1 y2 y3 y4 y5 y6 y7 y8 y9 y10 y11; have y0 := box_cell X0.out 0 (v := .int .i64 i) rfl; have y1 := box_cell X0.out 1 (v := .int .i64 t) rfl; have y2 := box_cell X0.out 2 (v := .int .i64 s) rfl; have y3 := box_cell X0.out 3 (v := .string nm) rfl; have y4 := box_cell X0.out 4 (v := .int .i64 ed) rfl; have y5 := box_cell X0.out 5 (v := .int .i64 L) rfl; have y6 := box_cell X0.out 6 (v := .int .i64 S) rfl; have y7 := box_cell X0.out 7 (v := .slice a1 ws.length c1) rfl; have y8 := box_cell X0.out 8 (v := .slice a2 gs.length c2) rfl; have y9 := box_cell X0.out 9 (v := .int .i64 C) rfl; have y10 := box_cell X0.out 10 (v := .int .i64 Z) rfl; have y11 := box_cell X0.out 11 (v := .slice a es.length cap) rfl)
      | (go_at_call 134; refine (implGetDone_any L S a1 a2 c1 c2 ws gs C Z a cap es _ (by exact I1.out) (by exact I2.out) hx hy (by exact I3.out) hl SM.out HT.out).mono ?_; rintro e w1 ⟨rfl, b1⟩; rw [HD.out]; replace X0 := hid (kept X0.out b1); replace B0 := hid (u_cat B0.out b1); replace I1 := hid (I1.out.below b1); replace I2 := hid (I2.out.below b1); replace I3 := hid (I3.out.below b1); replace HT := hid (HT.out.below b1); clear b1 y0 y1 y2 y3 y4 y5 y6 y7 y8 y9 y10 y11; have y0 := box_cell X0.out 0 (v := .int .i64 i) rfl; have y1 := box_cell X0.out 1 (v := .int .i64 t) rfl; have y2 := box_cell X0.out 2 (v := .int .i64 s) rfl; have y3 := box_cell X0.out 3 (v := .string nm) rfl; have y4 := box_cell X0.out 4 (v := .int .i64 ed) rfl; have y5 := box_cell X0.out 5 (v := .int .i64 L) rfl; have y6 := box_cell X0.out 6 (v := .int .i64 S) rfl; have y7 := box_cell X0.out 7 (v := .slice a1 ws.length c1) rfl; have y8 := box_cell X0.out 8 (v := .slice a2 gs.length c2) rfl; have y9 := box_cell X0.out 9 (v := .int .i64 C) rfl; have y10 := box_cell X0.out 10 (v := .int .i64 Z) rfl; have y11 := box_cell X0.out 11 (v := .slice a es.length cap) rfl))
    go_ret
    exact ⟨rfl, B0.out⟩
  rw [decide_eq_true (show ((0 < t ∧ nameB nm = true) ∧ 0 < ed ∧ (getP L S ws gs C Z es ∧ (es.length : Int) = C)) by grind)]
  have HW := hid (decide_eq_true k0)
  have bed : decide (0 < ed) = true := decide_eq_true k1
  have HD := hid (decide_eq_true k2)
  obtain ⟨W0, hW0⟩ : ∃ W0, W0 = (w.alloc (.cells #[] 94)).alloc (.cells #[.int .i64 i, .int .i64 t, .int .i64 s, .string nm, .int .i64 ed, .int .i64 L, .int .i64 S, .slice a1 ws.length c1, .slice a2 gs.length c2, .int .i64 C, .int .i64 Z, .slice a es.length cap] 40) := ⟨_, rfl⟩
  have X0 := hid (show W0.heap[w.heap.size + 1]? = some (.cells #[.int .i64 i, .int .i64 t, .int .i64 s, .string nm, .int .i64 ed, .int .i64 L, .int .i64 S, .slice a1 ws.length c1, .slice a2 gs.length c2, .int .i64 C, .int .i64 Z, .slice a es.length cap] 40 (0, 0)) by rw [hW0]; exact u_laid _ _ _ (by simp))
  have B0 := hid (show Below w.heap.size w W0 by rw [hW0]; exact u_b2 _ _ _)
  have I1 := hid (ha1.below B0.out)
  have I2 := hid (ha2.below B0.out)
  have I3 := hid (ha.below B0.out)
  have SM := hid hsm
  have NM := hid hnm
  have HT := hid (hT.below B0.out)
  have y0 := box_cell X0.out 0 (v := .int .i64 i) rfl
  have y1 := box_cell X0.out 1 (v := .int .i64 t) rfl
  have y2 := box_cell X0.out 2 (v := .int .i64 s) rfl
  have y3 := box_cell X0.out 3 (v := .string nm) rfl
  have y4 := box_cell X0.out 4 (v := .int .i64 ed) rfl
  have y5 := box_cell X0.out 5 (v := .int .i64 L) rfl
  have y6 := box_cell X0.out 6 (v := .int .i64 S) rfl
  have y7 := box_cell X0.out 7 (v := .slice a1 ws.length c1) rfl
  have y8 := box_cell X0.out 8 (v := .slice a2 gs.length c2) rfl
  have y9 := box_cell X0.out 9 (v := .int .i64 C) rfl
  have y10 := box_cell X0.out 10 (v := .int .i64 Z) rfl
  have y11 := box_cell X0.out 11 (v := .slice a es.length cap) rfl
  clear ha1 ha2 ha hsm hnm hT
  go_enter Tryz.func144, Tryz.ntmps144
  repeat ((fail_if_success (with_reducible show Code.wp _ (Code.region 1 _ _) _ _ _)); (first | go_values | go_skip | go_guarded | go_step | go_upon | go_back | go_simp))
  rw [← hW0]
  clear hW0
  go_wp2_with (first
    | (go_at_call 133; refine (wants_any i t s ed nm L S a1 a2 c1 c2 ws gs C Z a cap es _ (by exact I1.out) (by exact I2.out) hx hy (by exact I3.out) hl SM.out NM.out HT.out).mono ?_; rintro e w1 ⟨rfl, b1⟩; rw [HW.out]; replace X0 := hid (kept X0.out b1); replace B0 := hid (u_cat B0.out b1); replace I1 := hid (I1.out.below b1); replace I2 := hid (I2.out.below b1); replace I3 := hid (I3.out.below b1); replace HT := hid (HT.out.below b1); clear b1 y0 y1 y2 y3 y4 y5 y6 y7 y8 y9 y10 y11; have y0 := box_cell X0.out 0 (v := .int .i64 i) rfl; have y1 := box_cell X0.out 1 (v := .int .i64 t) rfl; have y2 := box_cell X0.out 2 (v := .int .i64 s) rfl; have y3 := box_cell X0.out 3 (v := .string nm) rfl; have y4 := box_cell X0.out 4 (v := .int .i64 ed) rfl; have y5 := box_cell X0.out 5 (v := .int .i64 L) rfl; have y6 := box_cell X0.out 6 (v := .int .i64 S) rfl; have y7 := box_cell X0.out 7 (v := .slice a1 ws.length c1) rfl; have y8 := box_cell X0.out 8 (v := .slice a2 gs.length c2) rfl; have y9 := box_cell X0.out 9 (v := .int .i64 C) rfl; have y10 := box_cell X0.out 10 (v := .int .i64 Z) rfl; have y11 := box_cell X0.out 11 (v := .slice a es.length cap) rfl)
    | (go_at_call 134; refine (implGetDone_any L S a1 a2 c1 c2 ws gs C Z a cap es _ (by exact I1.out) (by exact I2.out) hx hy (by exact I3.out) hl SM.out HT.out).mono ?_; rintro e w1 ⟨rfl, b1⟩; rw [HD.out]; replace X0 := hid (kept X0.out b1); replace B0 := hid (u_cat B0.out b1); replace I1 := hid (I1.out.below b1); replace I2 := hid (I2.out.below b1); replace I3 := hid (I3.out.below b1); replace HT := hid (HT.out.below b1); clear b1 y0 y1 y2 y3 y4 y5 y6 y7 y8 y9 y10 y11; have y0 := box_cell X0.out 0 (v := .int .i64 i) rfl; have y1 := box_cell X0.out 1 (v := .int .i64 t) rfl; have y2 := box_cell X0.out 2 (v := .int .i64 s) rfl; have y3 := box_cell X0.out 3 (v := .string nm) rfl; have y4 := box_cell X0.out 4 (v := .int .i64 ed) rfl; have y5 := box_cell X0.out 5 (v := .int .i64 L) rfl; have y6 := box_cell X0.out 6 (v := .int .i64 S) rfl; have y7 := box_cell X0.out 7 (v := .slice a1 ws.length c1) rfl; have y8 := box_cell X0.out 8 (v := .slice a2 gs.length c2) rfl; have y9 := box_cell X0.out 9 (v := .int .i64 C) rfl; have y10 := box_cell X0.out 10 (v := .int .i64 Z) rfl; have y11 := box_cell X0.out 11 (v := .slice a es.length cap) rfl))
  go_ret
  exact ⟨rfl, B0.out⟩
set_option maxHeartbeats 4000000 in
set_option maxRecDepth 100000 in
theorem fits_0 (i t s ed : Int) (nm : ByteArray) (L S : Int) (a1 a2 : Option Addr) (c1 c2 : Nat) (ws gs : List Int) (C Z : Int) (a : Option Addr) (cap : Nat) (es : List EqV) (w : World) (ha1 : IntsAt w a1 ws) (ha2 : IntsAt w a2 gs) (_hx : ws.length ≤ 1048576) (_hy : gs.length ≤ 1048576) (ha : EqsAt w a es) (_hl : es.length ≤ 1048576) (hsm : SmallE es) (hnm : nm.size ≤ maxLen) (hT : Tab w) :
    Calls Tryz.prog 128 #[.agg #[], .agg #[.int .i64 i, .int .i64 t, .int .i64 s, .string nm, .int .i64 ed, .int .i64 L, .int .i64 S, .slice a1 ws.length c1, .slice a2 gs.length c2, .int .i64 C, .int .i64 Z, .slice a es.length cap]] w fun e w' => e = .returned (.bool (decide ((nm = ⟨#[]⟩ ∧ ed = 0)))) ∧ Below w.heap.size w w' := by
  by_cases k0 : nm = ⟨#[]⟩
  case neg =>
    rw [decide_eq_false (show ¬ (nm = ⟨#[]⟩ ∧ ed = 0) from fun h => k0 h.1)]
    have hnl := ne_toList k0
    obtain ⟨W0, hW0⟩ : ∃ W0, W0 = (w.alloc (.cells #[] 68)).alloc (.cells #[.int .i64 i, .int .i64 t, .int .i64 s, .string nm, .int .i64 ed, .int .i64 L, .int .i64 S, .slice a1 ws.length c1, .slice a2 gs.length c2, .int .i64 C, .int .i64 Z, .slice a es.length cap] 40) := ⟨_, rfl⟩
    have X0 := hid (show W0.heap[w.heap.size + 1]? = some (.cells #[.int .i64 i, .int .i64 t, .int .i64 s, .string nm, .int .i64 ed, .int .i64 L, .int .i64 S, .slice a1 ws.length c1, .slice a2 gs.length c2, .int .i64 C, .int .i64 Z, .slice a es.length cap] 40 (0, 0)) by rw [hW0]; exact u_laid _ _ _ (by simp))
    have B0 := hid (show Below w.heap.size w W0 by rw [hW0]; exact u_b2 _ _ _)
    have I1 := hid (ha1.below B0.out)
    have I2 := hid (ha2.below B0.out)
    have I3 := hid (ha.below B0.out)
    have SM := hid hsm
    have NM := hid hnm
    have HT := hid (hT.below B0.out)
    have y0 := box_cell X0.out 0 (v := .int .i64 i) rfl
    have y1 := box_cell X0.out 1 (v := .int .i64 t) rfl
    have y2 := box_cell X0.out 2 (v := .int .i64 s) rfl
    have y3 := box_cell X0.out 3 (v := .string nm) rfl
    have y4 := box_cell X0.out 4 (v := .int .i64 ed) rfl
    have y5 := box_cell X0.out 5 (v := .int .i64 L) rfl
    have y6 := box_cell X0.out 6 (v := .int .i64 S) rfl
    have y7 := box_cell X0.out 7 (v := .slice a1 ws.length c1) rfl
    have y8 := box_cell X0.out 8 (v := .slice a2 gs.length c2) rfl
    have y9 := box_cell X0.out 9 (v := .int .i64 C) rfl
    have y10 := box_cell X0.out 10 (v := .int .i64 Z) rfl
    have y11 := box_cell X0.out 11 (v := .slice a es.length cap) rfl
    clear ha1 ha2 ha hsm hnm hT
    go_enter Tryz.func128, Tryz.ntmps128
    repeat ((fail_if_success (with_reducible show Code.wp _ (Code.region 1 _ _) _ _ _)); (first | go_values | go_skip | go_guarded | go_step | go_upon | go_back | go_simp))
    rw [← hW0]
    clear hW0
    go_wp2_with fail
    all_goals first | (exact absurd (by assumption) hnl) | (go_ret; exact ⟨rfl, B0.out⟩)
  by_cases k1 : ed = 0
  case neg =>
    rw [decide_eq_false (show ¬ (nm = ⟨#[]⟩ ∧ ed = 0) from fun h => k1 h.2)]
    have be : (ed == 0) = false := beq_eq_false_iff_ne.2 k1
    subst k0
    obtain ⟨W0, hW0⟩ : ∃ W0, W0 = (w.alloc (.cells #[] 68)).alloc (.cells #[.int .i64 i, .int .i64 t, .int .i64 s, .string ⟨#[]⟩, .int .i64 ed, .int .i64 L, .int .i64 S, .slice a1 ws.length c1, .slice a2 gs.length c2, .int .i64 C, .int .i64 Z, .slice a es.length cap] 40) := ⟨_, rfl⟩
    have X0 := hid (show W0.heap[w.heap.size + 1]? = some (.cells #[.int .i64 i, .int .i64 t, .int .i64 s, .string ⟨#[]⟩, .int .i64 ed, .int .i64 L, .int .i64 S, .slice a1 ws.length c1, .slice a2 gs.length c2, .int .i64 C, .int .i64 Z, .slice a es.length cap] 40 (0, 0)) by rw [hW0]; exact u_laid _ _ _ (by simp))
    have B0 := hid (show Below w.heap.size w W0 by rw [hW0]; exact u_b2 _ _ _)
    have I1 := hid (ha1.below B0.out)
    have I2 := hid (ha2.below B0.out)
    have I3 := hid (ha.below B0.out)
    have SM := hid hsm
    have NM := hid hnm
    have HT := hid (hT.below B0.out)
    have y0 := box_cell X0.out 0 (v := .int .i64 i) rfl
    have y1 := box_cell X0.out 1 (v := .int .i64 t) rfl
    have y2 := box_cell X0.out 2 (v := .int .i64 s) rfl
    have y3 := box_cell X0.out 3 (v := .string ⟨#[]⟩) rfl
    have y4 := box_cell X0.out 4 (v := .int .i64 ed) rfl
    have y5 := box_cell X0.out 5 (v := .int .i64 L) rfl
    have y6 := box_cell X0.out 6 (v := .int .i64 S) rfl
    have y7 := box_cell X0.out 7 (v := .slice a1 ws.length c1) rfl
    have y8 := box_cell X0.out 8 (v := .slice a2 gs.length c2) rfl
    have y9 := box_cell X0.out 9 (v := .int .i64 C) rfl
    have y10 := box_cell X0.out 10 (v := .int .i64 Z) rfl
    have y11 := box_cell X0.out 11 (v := .slice a es.length cap) rfl
    clear ha1 ha2 ha hsm hnm hT
    go_enter Tryz.func128, Tryz.ntmps128
    repeat ((fail_if_success (with_reducible show Code.wp _ (Code.region 1 _ _) _ _ _)); (first | go_values | go_skip | go_guarded | go_step | go_upon | go_back | go_simp))
    rw [← hW0]
    clear hW0
    go_wp2_with fail
    go_ret
    exact ⟨rfl, B0.out⟩
  rw [decide_eq_true (show (nm = ⟨#[]⟩ ∧ ed = 0) from ⟨k0, k1⟩)]
  subst k0 k1
  obtain ⟨W0, hW0⟩ : ∃ W0, W0 = (w.alloc (.cells #[] 68)).alloc (.cells #[.int .i64 i, .int .i64 t, .int .i64 s, .string ⟨#[]⟩, .int .i64 0, .int .i64 L, .int .i64 S, .slice a1 ws.length c1, .slice a2 gs.length c2, .int .i64 C, .int .i64 Z, .slice a es.length cap] 40) := ⟨_, rfl⟩
  have X0 := hid (show W0.heap[w.heap.size + 1]? = some (.cells #[.int .i64 i, .int .i64 t, .int .i64 s, .string ⟨#[]⟩, .int .i64 0, .int .i64 L, .int .i64 S, .slice a1 ws.length c1, .slice a2 gs.length c2, .int .i64 C, .int .i64 Z, .slice a es.length cap] 40 (0, 0)) by rw [hW0]; exact u_laid _ _ _ (by simp))
  have B0 := hid (show Below w.heap.size w W0 by rw [hW0]; exact u_b2 _ _ _)
  have I1 := hid (ha1.below B0.out)
  have I2 := hid (ha2.below B0.out)
  have I3 := hid (ha.below B0.out)
  have SM := hid hsm
  have NM := hid hnm
  have HT := hid (hT.below B0.out)
  have y0 := box_cell X0.out 0 (v := .int .i64 i) rfl
  have y1 := box_cell X0.out 1 (v := .int .i64 t) rfl
  have y2 := box_cell X0.out 2 (v := .int .i64 s) rfl
  have y3 := box_cell X0.out 3 (v := .string ⟨#[]⟩) rfl
  have y4 := box_cell X0.out 4 (v := .int .i64 0) rfl
  have y5 := box_cell X0.out 5 (v := .int .i64 L) rfl
  have y6 := box_cell X0.out 6 (v := .int .i64 S) rfl
  have y7 := box_cell X0.out 7 (v := .slice a1 ws.length c1) rfl
  have y8 := box_cell X0.out 8 (v := .slice a2 gs.length c2) rfl
  have y9 := box_cell X0.out 9 (v := .int .i64 C) rfl
  have y10 := box_cell X0.out 10 (v := .int .i64 Z) rfl
  have y11 := box_cell X0.out 11 (v := .slice a es.length cap) rfl
  clear ha1 ha2 ha hsm hnm hT
  go_enter Tryz.func128, Tryz.ntmps128
  repeat ((fail_if_success (with_reducible show Code.wp _ (Code.region 1 _ _) _ _ _)); (first | go_values | go_skip | go_guarded | go_step | go_upon | go_back | go_simp))
  rw [← hW0]
  clear hW0
  go_wp2_with fail
  go_ret
  exact ⟨rfl, B0.out⟩
set_option maxHeartbeats 4000000 in
set_option maxRecDepth 100000 in
theorem getOk_any (i t s ed : Int) (nm : ByteArray) (L S : Int) (a1 a2 : Option Addr) (c1 c2 : Nat) (ws gs : List Int) (C Z : Int) (a : Option Addr) (cap : Nat) (es : List EqV) (w : World) (ha1 : IntsAt w a1 ws) (ha2 : IntsAt w a2 gs) (hx : ws.length ≤ 1048576) (hy : gs.length ≤ 1048576) (ha : EqsAt w a es) (hl : es.length ≤ 1048576) (hsm : SmallE es) (hnm : nm.size ≤ maxLen) (hT : Tab w) :
    Calls Tryz.prog 55 #[.agg #[.int .i64 i, .int .i64 t, .int .i64 s, .string nm, .int .i64 ed, .int .i64 L, .int .i64 S, .slice a1 ws.length c1, .slice a2 gs.length c2, .int .i64 C, .int .i64 Z, .slice a es.length cap]] w fun e w' => e = .returned (.bool (decide (((ed = 0 ∧ nonP L S ws.length gs.length C Z es.length) ∨ (ed ≠ 0 ∧ getP L S ws gs C Z es))))) ∧ Below w.heap.size w w' := by
  by_cases k1 : ed = 0
  · subst k1
    by_cases k0 : nonP L S ws.length gs.length C Z es.length
    case neg =>
      rw [decide_eq_false (show ¬ (((0 : Int) = 0 ∧ nonP L S ws.length gs.length C Z es.length) ∨ ((0 : Int) ≠ 0 ∧ getP L S ws gs C Z es)) from fun h => by grind)]
      have HN := hid (decide_eq_false k0)
      obtain ⟨W0, hW0⟩ : ∃ W0, W0 = w.alloc (.cells #[.int .i64 i, .int .i64 t, .int .i64 s, .string nm, .int .i64 0, .int .i64 L, .int .i64 S, .slice a1 ws.length c1, .slice a2 gs.length c2, .int .i64 C, .int .i64 Z, .slice a es.length cap] 40) := ⟨_, rfl⟩
      have X0 := hid (show W0.heap[w.heap.size]? = some (.cells #[.int .i64 i, .int .i64 t, .int .i64 s, .string nm, .int .i64 0, .int .i64 L, .int .i64 S, .slice a1 ws.length c1, .slice a2 gs.length c2, .int .i64 C, .int .i64 Z, .slice a es.length cap] 40 (0, 0)) by rw [hW0]; exact laid _ _ _)
      have B0 := hid (show Below w.heap.size w W0 by rw [hW0]; exact u_b1 _ _)
      have I1 := hid (ha1.below B0.out)
      have I2 := hid (ha2.below B0.out)
      have I3 := hid (ha.below B0.out)
      have SM := hid hsm
      have NM := hid hnm
      have HT := hid (hT.below B0.out)
      have y0 := box_cell X0.out 0 (v := .int .i64 i) rfl
      have y1 := box_cell X0.out 1 (v := .int .i64 t) rfl
      have y2 := box_cell X0.out 2 (v := .int .i64 s) rfl
      have y3 := box_cell X0.out 3 (v := .string nm) rfl
      have y4 := box_cell X0.out 4 (v := .int .i64 0) rfl
      have y5 := box_cell X0.out 5 (v := .int .i64 L) rfl
      have y6 := box_cell X0.out 6 (v := .int .i64 S) rfl
      have y7 := box_cell X0.out 7 (v := .slice a1 ws.length c1) rfl
      have y8 := box_cell X0.out 8 (v := .slice a2 gs.length c2) rfl
      have y9 := box_cell X0.out 9 (v := .int .i64 C) rfl
      have y10 := box_cell X0.out 10 (v := .int .i64 Z) rfl
      have y11 := box_cell X0.out 11 (v := .slice a es.length cap) rfl
      clear ha1 ha2 ha hsm hnm hT
      go_enter Tryz.func55, Tryz.ntmps55
      repeat ((fail_if_success (with_reducible show Code.wp _ (Code.region 1 _ _) _ _ _)); (first | go_values | go_skip | go_guarded | go_step | go_upon | go_back | go_simp))
      rw [← hW0]
      clear hW0
      go_wp2_with (first
        | (go_at_call 75; refine (isNothing_any L S a1 a2 a ws.length gs.length es.length c1 c2 cap C Z _).mono ?_; rintro e w1 ⟨rfl, b1⟩; rw [HN.out]; replace X0 := hid (kept X0.out b1); replace B0 := hid (u_cat B0.out b1); replace I1 := hid (I1.out.below b1); replace I2 := hid (I2.out.below b1); replace I3 := hid (I3.out.below b1); replace HT := hid (HT.out.below b1); clear b1 y0 y1 y2 y3 y4 y5 y6 y7 y8 y9 y10 y11; have y0 := box_cell X0.out 0 (v := .int .i64 i) rfl; have y1 := box_cell X0.out 1 (v := .int .i64 t) rfl; have y2 := box_cell X0.out 2 (v := .int .i64 s) rfl; have y3 := box_cell X0.out 3 (v := .string nm) rfl; have y4 := box_cell X0.out 4 (v := .int .i64 0) rfl; have y5 := box_cell X0.out 5 (v := .int .i64 L) rfl; have y6 := box_cell X0.out 6 (v := .int .i64 S) rfl; have y7 := box_cell X0.out 7 (v := .slice a1 ws.length c1) rfl; have y8 := box_cell X0.out 8 (v := .slice a2 gs.length c2) rfl; have y9 := box_cell X0.out 9 (v := .int .i64 C) rfl; have y10 := box_cell X0.out 10 (v := .int .i64 Z) rfl; have y11 := box_cell X0.out 11 (v := .slice a es.length cap) rfl))
      go_ret
      exact ⟨rfl, B0.out⟩
    rw [decide_eq_true (show (((0 : Int) = 0 ∧ nonP L S ws.length gs.length C Z es.length) ∨ ((0 : Int) ≠ 0 ∧ getP L S ws gs C Z es)) from .inl ⟨rfl, k0⟩)]
    have HN := hid (decide_eq_true k0)
    obtain ⟨W0, hW0⟩ : ∃ W0, W0 = w.alloc (.cells #[.int .i64 i, .int .i64 t, .int .i64 s, .string nm, .int .i64 0, .int .i64 L, .int .i64 S, .slice a1 ws.length c1, .slice a2 gs.length c2, .int .i64 C, .int .i64 Z, .slice a es.length cap] 40) := ⟨_, rfl⟩
    have X0 := hid (show W0.heap[w.heap.size]? = some (.cells #[.int .i64 i, .int .i64 t, .int .i64 s, .string nm, .int .i64 0, .int .i64 L, .int .i64 S, .slice a1 ws.length c1, .slice a2 gs.length c2, .int .i64 C, .int .i64 Z, .slice a es.length cap] 40 (0, 0)) by rw [hW0]; exact laid _ _ _)
    have B0 := hid (show Below w.heap.size w W0 by rw [hW0]; exact u_b1 _ _)
    have I1 := hid (ha1.below B0.out)
    have I2 := hid (ha2.below B0.out)
    have I3 := hid (ha.below B0.out)
    have SM := hid hsm
    have NM := hid hnm
    have HT := hid (hT.below B0.out)
    have y0 := box_cell X0.out 0 (v := .int .i64 i) rfl
    have y1 := box_cell X0.out 1 (v := .int .i64 t) rfl
    have y2 := box_cell X0.out 2 (v := .int .i64 s) rfl
    have y3 := box_cell X0.out 3 (v := .string nm) rfl
    have y4 := box_cell X0.out 4 (v := .int .i64 0) rfl
    have y5 := box_cell X0.out 5 (v := .int .i64 L) rfl
    have y6 := box_cell X0.out 6 (v := .int .i64 S) rfl
    have y7 := box_cell X0.out 7 (v := .slice a1 ws.length c1) rfl
    have y8 := box_cell X0.out 8 (v := .slice a2 gs.length c2) rfl
    have y9 := box_cell X0.out 9 (v := .int .i64 C) rfl
    have y10 := box_cell X0.out 10 (v := .int .i64 Z) rfl
    have y11 := box_cell X0.out 11 (v := .slice a es.length cap) rfl
    clear ha1 ha2 ha hsm hnm hT
    go_enter Tryz.func55, Tryz.ntmps55
    repeat ((fail_if_success (with_reducible show Code.wp _ (Code.region 1 _ _) _ _ _)); (first | go_values | go_skip | go_guarded | go_step | go_upon | go_back | go_simp))
    rw [← hW0]
    clear hW0
    go_wp2_with (first
      | (go_at_call 75; refine (isNothing_any L S a1 a2 a ws.length gs.length es.length c1 c2 cap C Z _).mono ?_; rintro e w1 ⟨rfl, b1⟩; rw [HN.out]; replace X0 := hid (kept X0.out b1); replace B0 := hid (u_cat B0.out b1); replace I1 := hid (I1.out.below b1); replace I2 := hid (I2.out.below b1); replace I3 := hid (I3.out.below b1); replace HT := hid (HT.out.below b1); clear b1 y0 y1 y2 y3 y4 y5 y6 y7 y8 y9 y10 y11; have y0 := box_cell X0.out 0 (v := .int .i64 i) rfl; have y1 := box_cell X0.out 1 (v := .int .i64 t) rfl; have y2 := box_cell X0.out 2 (v := .int .i64 s) rfl; have y3 := box_cell X0.out 3 (v := .string nm) rfl; have y4 := box_cell X0.out 4 (v := .int .i64 0) rfl; have y5 := box_cell X0.out 5 (v := .int .i64 L) rfl; have y6 := box_cell X0.out 6 (v := .int .i64 S) rfl; have y7 := box_cell X0.out 7 (v := .slice a1 ws.length c1) rfl; have y8 := box_cell X0.out 8 (v := .slice a2 gs.length c2) rfl; have y9 := box_cell X0.out 9 (v := .int .i64 C) rfl; have y10 := box_cell X0.out 10 (v := .int .i64 Z) rfl; have y11 := box_cell X0.out 11 (v := .slice a es.length cap) rfl))
    go_ret
    exact ⟨rfl, B0.out⟩
  · have be : (ed == 0) = false := beq_eq_false_iff_ne.2 k1
    by_cases k0 : getP L S ws gs C Z es
    case neg =>
      rw [decide_eq_false (show ¬ ((ed = 0 ∧ nonP L S ws.length gs.length C Z es.length) ∨ (ed ≠ 0 ∧ getP L S ws gs C Z es)) from fun h => by grind)]
      have HG := hid (decide_eq_false k0)
      obtain ⟨W0, hW0⟩ : ∃ W0, W0 = w.alloc (.cells #[.int .i64 i, .int .i64 t, .int .i64 s, .string nm, .int .i64 ed, .int .i64 L, .int .i64 S, .slice a1 ws.length c1, .slice a2 gs.length c2, .int .i64 C, .int .i64 Z, .slice a es.length cap] 40) := ⟨_, rfl⟩
      have X0 := hid (show W0.heap[w.heap.size]? = some (.cells #[.int .i64 i, .int .i64 t, .int .i64 s, .string nm, .int .i64 ed, .int .i64 L, .int .i64 S, .slice a1 ws.length c1, .slice a2 gs.length c2, .int .i64 C, .int .i64 Z, .slice a es.length cap] 40 (0, 0)) by rw [hW0]; exact laid _ _ _)
      have B0 := hid (show Below w.heap.size w W0 by rw [hW0]; exact u_b1 _ _)
      have I1 := hid (ha1.below B0.out)
      have I2 := hid (ha2.below B0.out)
      have I3 := hid (ha.below B0.out)
      have SM := hid hsm
      have NM := hid hnm
      have HT := hid (hT.below B0.out)
      have y0 := box_cell X0.out 0 (v := .int .i64 i) rfl
      have y1 := box_cell X0.out 1 (v := .int .i64 t) rfl
      have y2 := box_cell X0.out 2 (v := .int .i64 s) rfl
      have y3 := box_cell X0.out 3 (v := .string nm) rfl
      have y4 := box_cell X0.out 4 (v := .int .i64 ed) rfl
      have y5 := box_cell X0.out 5 (v := .int .i64 L) rfl
      have y6 := box_cell X0.out 6 (v := .int .i64 S) rfl
      have y7 := box_cell X0.out 7 (v := .slice a1 ws.length c1) rfl
      have y8 := box_cell X0.out 8 (v := .slice a2 gs.length c2) rfl
      have y9 := box_cell X0.out 9 (v := .int .i64 C) rfl
      have y10 := box_cell X0.out 10 (v := .int .i64 Z) rfl
      have y11 := box_cell X0.out 11 (v := .slice a es.length cap) rfl
      clear ha1 ha2 ha hsm hnm hT
      go_enter Tryz.func55, Tryz.ntmps55
      repeat ((fail_if_success (with_reducible show Code.wp _ (Code.region 1 _ _) _ _ _)); (first | go_values | go_skip | go_guarded | go_step | go_upon | go_back | go_simp))
      rw [← hW0]
      clear hW0
      go_wp2_with (first
        | (go_at_call 76; refine (implGetOk_any L S a1 a2 c1 c2 ws gs C Z a cap es _ (by exact I1.out) (by exact I2.out) hx hy (by exact I3.out) hl SM.out HT.out).mono ?_; rintro e w1 ⟨rfl, b1⟩; rw [HG.out]; replace X0 := hid (kept X0.out b1); replace B0 := hid (u_cat B0.out b1); replace I1 := hid (I1.out.below b1); replace I2 := hid (I2.out.below b1); replace I3 := hid (I3.out.below b1); replace HT := hid (HT.out.below b1); clear b1 y0 y1 y2 y3 y4 y5 y6 y7 y8 y9 y10 y11; have y0 := box_cell X0.out 0 (v := .int .i64 i) rfl; have y1 := box_cell X0.out 1 (v := .int .i64 t) rfl; have y2 := box_cell X0.out 2 (v := .int .i64 s) rfl; have y3 := box_cell X0.out 3 (v := .string nm) rfl; have y4 := box_cell X0.out 4 (v := .int .i64 ed) rfl; have y5 := box_cell X0.out 5 (v := .int .i64 L) rfl; have y6 := box_cell X0.out 6 (v := .int .i64 S) rfl; have y7 := box_cell X0.out 7 (v := .slice a1 ws.length c1) rfl; have y8 := box_cell X0.out 8 (v := .slice a2 gs.length c2) rfl; have y9 := box_cell X0.out 9 (v := .int .i64 C) rfl; have y10 := box_cell X0.out 10 (v := .int .i64 Z) rfl; have y11 := box_cell X0.out 11 (v := .slice a es.length cap) rfl))
      go_ret
      exact ⟨rfl, B0.out⟩
    rw [decide_eq_true (show ((ed = 0 ∧ nonP L S ws.length gs.length C Z es.length) ∨ (ed ≠ 0 ∧ getP L S ws gs C Z es)) from .inr ⟨k1, k0⟩)]
    have HG := hid (decide_eq_true k0)
    obtain ⟨W0, hW0⟩ : ∃ W0, W0 = w.alloc (.cells #[.int .i64 i, .int .i64 t, .int .i64 s, .string nm, .int .i64 ed, .int .i64 L, .int .i64 S, .slice a1 ws.length c1, .slice a2 gs.length c2, .int .i64 C, .int .i64 Z, .slice a es.length cap] 40) := ⟨_, rfl⟩
    have X0 := hid (show W0.heap[w.heap.size]? = some (.cells #[.int .i64 i, .int .i64 t, .int .i64 s, .string nm, .int .i64 ed, .int .i64 L, .int .i64 S, .slice a1 ws.length c1, .slice a2 gs.length c2, .int .i64 C, .int .i64 Z, .slice a es.length cap] 40 (0, 0)) by rw [hW0]; exact laid _ _ _)
    have B0 := hid (show Below w.heap.size w W0 by rw [hW0]; exact u_b1 _ _)
    have I1 := hid (ha1.below B0.out)
    have I2 := hid (ha2.below B0.out)
    have I3 := hid (ha.below B0.out)
    have SM := hid hsm
    have NM := hid hnm
    have HT := hid (hT.below B0.out)
    have y0 := box_cell X0.out 0 (v := .int .i64 i) rfl
    have y1 := box_cell X0.out 1 (v := .int .i64 t) rfl
    have y2 := box_cell X0.out 2 (v := .int .i64 s) rfl
    have y3 := box_cell X0.out 3 (v := .string nm) rfl
    have y4 := box_cell X0.out 4 (v := .int .i64 ed) rfl
    have y5 := box_cell X0.out 5 (v := .int .i64 L) rfl
    have y6 := box_cell X0.out 6 (v := .int .i64 S) rfl
    have y7 := box_cell X0.out 7 (v := .slice a1 ws.length c1) rfl
    have y8 := box_cell X0.out 8 (v := .slice a2 gs.length c2) rfl
    have y9 := box_cell X0.out 9 (v := .int .i64 C) rfl
    have y10 := box_cell X0.out 10 (v := .int .i64 Z) rfl
    have y11 := box_cell X0.out 11 (v := .slice a es.length cap) rfl
    clear ha1 ha2 ha hsm hnm hT
    go_enter Tryz.func55, Tryz.ntmps55
    repeat ((fail_if_success (with_reducible show Code.wp _ (Code.region 1 _ _) _ _ _)); (first | go_values | go_skip | go_guarded | go_step | go_upon | go_back | go_simp))
    rw [← hW0]
    clear hW0
    go_wp2_with (first
      | (go_at_call 76; refine (implGetOk_any L S a1 a2 c1 c2 ws gs C Z a cap es _ (by exact I1.out) (by exact I2.out) hx hy (by exact I3.out) hl SM.out HT.out).mono ?_; rintro e w1 ⟨rfl, b1⟩; rw [HG.out]; replace X0 := hid (kept X0.out b1); replace B0 := hid (u_cat B0.out b1); replace I1 := hid (I1.out.below b1); replace I2 := hid (I2.out.below b1); replace I3 := hid (I3.out.below b1); replace HT := hid (HT.out.below b1); clear b1 y0 y1 y2 y3 y4 y5 y6 y7 y8 y9 y10 y11; have y0 := box_cell X0.out 0 (v := .int .i64 i) rfl; have y1 := box_cell X0.out 1 (v := .int .i64 t) rfl; have y2 := box_cell X0.out 2 (v := .int .i64 s) rfl; have y3 := box_cell X0.out 3 (v := .string nm) rfl; have y4 := box_cell X0.out 4 (v := .int .i64 ed) rfl; have y5 := box_cell X0.out 5 (v := .int .i64 L) rfl; have y6 := box_cell X0.out 6 (v := .int .i64 S) rfl; have y7 := box_cell X0.out 7 (v := .slice a1 ws.length c1) rfl; have y8 := box_cell X0.out 8 (v := .slice a2 gs.length c2) rfl; have y9 := box_cell X0.out 9 (v := .int .i64 C) rfl; have y10 := box_cell X0.out 10 (v := .int .i64 Z) rfl; have y11 := box_cell X0.out 11 (v := .slice a es.length cap) rfl))
    go_ret
    exact ⟨rfl, B0.out⟩
end Go.Proofs.YtbakicgdloakgaaGreatDoor
