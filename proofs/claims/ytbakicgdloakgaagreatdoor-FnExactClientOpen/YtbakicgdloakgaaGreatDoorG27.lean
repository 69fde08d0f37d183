/- A client that is ok, by the program. -/
import Derived.Test.YtbakicgdloakgaaGreatDoorG26
namespace Go.Proofs.YtbakicgdloakgaaGreatDoor
open Go.ChangeShapes Go.WideShapes Go.ChangeAt Go.RowKit Go.Sort Go.Shelf
attribute [local go_sem] Oper.semAt_some

set_option maxHeartbeats 8000000 in
set_option maxRecDepth 100000 in
theorem implCli_0 (i t ed : Int) (nm : ByteArray) (L S : Int) (a1 a2 : Option Addr) (c1 c2 : Nat) (ws gs : List Int) (C Z : Int) (a : Option Addr) (cap : Nat) (es : List EqV) (w : World) (ha1 : IntsAt w a1 ws) (ha2 : IntsAt w a2 gs) (hx : ws.length ≤ 1048576) (hy : gs.length ≤ 1048576) (ha : EqsAt w a es) (hl : es.length ≤ 1048576) (hsm : SmallE es) (hnm : nm.size ≤ maxLen) (hT : Tab w) :
    Calls Tryz.prog 29 #[.agg #[.int .i64 i, .int .i64 t, .int .i64 0, .string nm, .int .i64 ed, .int .i64 L, .int .i64 S, .slice a1 ws.length c1, .slice a2 gs.length c2, .int .i64 C, .int .i64 Z, .slice a es.length cap]] w fun e w' => e = .returned (.bool (decide ((0 ≤ i ∧ i ≤ 3) ∧ (0 ≤ t ∧ t ≤ 99999) ∧ (0 ≤ ed ∧ ed ≤ 99999) ∧ ((ed = 0 ∧ nonP L S ws.length gs.length C Z es.length) ∨ (ed ≠ 0 ∧ getP L S ws gs C Z es)) ∧ (nm = ⟨#[]⟩ ∧ ed = 0)))) ∧ Below w.heap.size w w' := by
  have hm : ∀ w : World, (method 269 68 (.agg #[]) "loop.example/wellhead/impl.fits").run Tryz.prog w = .ok (128, .agg #[]) w := fun _ => by kernel_rfl
  by_cases k0 : (0 ≤ i ∧ i ≤ 3)
  case neg =>
    rw [decide_eq_false (show ¬ ((0 ≤ i ∧ i ≤ 3) ∧ (0 ≤ t ∧ t ≤ 99999) ∧ (0 ≤ ed ∧ ed ≤ 99999) ∧ ((ed = 0 ∧ nonP L S ws.length gs.length C Z es.length) ∨ (ed ≠ 0 ∧ getP L S ws gs C Z es)) ∧ (nm = ⟨#[]⟩ ∧ ed = 0)) from fun h => by grind)]
    have HI := hid (decide_eq_false k0)
    clear k0
    obtain ⟨W0, hW0⟩ : ∃ W0, W0 = w.alloc (.cells #[.int .i64 i, .int .i64 t, .int .i64 0, .string nm, .int .i64 ed, .int .i64 L, .int .i64 S, .slice a1 ws.length c1, .slice a2 gs.length c2, .int .i64 C, .int .i64 Z, .slice a es.length cap] 40) := ⟨_, rfl⟩
    have X0 := hid (show W0.heap[w.heap.size]? = some (.cells #[.int .i64 i, .int .i64 t, .int .i64 0, .string nm, .int .i64 ed, .int .i64 L, .int .i64 S, .slice a1 ws.length c1, .slice a2 gs.length c2, .int .i64 C, .int .i64 Z, .slice a es.length cap] 40 (0, 0)) by rw [hW0]; exact laid _ _ _)
    have B0 := hid (show Below w.heap.size w W0 by rw [hW0]; exact u_b1 _ _)
    have I1 := hid (ha1.below B0.out)
    have I2 := hid (ha2.below B0.out)
    have I3 := hid (ha.below B0.out)
    have SM := hid hsm
    have NM := hid hnm
    have HT := hid (hT.below B0.out)
    have y0 := box_cell X0.out 0 (v := .int .i64 i) rfl
    have y1 := box_cell X0.out 1 (v := .int .i64 t) rfl
    have y2 := box_cell X0.out 2 (v := .int .i64 0) rfl
    have y3 := box_cell X0.out 3 (v := .string nm) rfl
    have y4 := box_cell X0.out 4 (v := .int .i64 ed) rfl
    have y5 := box_cell X0.out 5 (v := .int .i64 L) rfl
    have y6 := box_cell X0.out 6 (v := .int .i64 S) rfl
    have y7 := box_cell X0.out 7 (v := .slice a1 ws.length c1) rfl
    have y8 := box_cell X0.out 8 (v := .slice a2 gs.length c2) rfl
    have y9 := box_cell X0.out 9 (v := .int .i64 C) rfl
    have y10 := box_cell X0.out 10 (v := .int .i64 Z) rfl
    have y11 := box_cell X0.out 11 (v := .slice a es.length cap) rfl
    clear ha1 ha2 ha hsm hnm hT
    go_enter Tryz.func29, Tryz.ntmps29
    repeat ((fail_if_success (with_reducible show Code.wp _ (Code.region 1 _ _) _ _ _)); (first | go_values | go_skip | go_guarded | go_step | go_upon | go_back | go_simp))
    rw [← hW0]
    clear hW0
    go_wp2_with (first
      | (go_at_call 42; refine (stand_0 _).mono ?_; rintro e wa ⟨rfl, hq⟩; subst hq)
      | (go_at_call 53; refine (clientIs_any _ _).mono ?_; rintro e wa ⟨rfl, hq⟩; subst hq; rw [HI.out])
      | (go_at_call 54; refine (countOk_any _ _).mono ?_; rintro e wa ⟨rfl, hq⟩; subst hq; first | rw [HC1.out] | rw [HC2.out])
      | (go_at_call 55; refine (getOk_any i t 0 ed nm L S a1 a2 c1 c2 ws gs C Z a cap es _ (by exact I1.out) (by exact I2.out) hx hy (by exact I3.out) hl SM.out NM.out HT.out).mono ?_; rintro e w1 ⟨rfl, b1⟩; rw [HO.out]; replace X0 := hid (kept X0.out b1); replace B0 := hid (u_cat B0.out b1); replace I1 := hid (I1.out.below b1); replace I2 := hid (I2.out.below b1); replace I3 := hid (I3.out.below b1); replace HT := hid (HT.out.below b1); clear b1 y0 y1 y2 y3 y4 y5 y6 y7 y8 y9 y10 y11; have y0 := box_cell X0.out 0 (v := .int .i64 i) rfl; have y1 := box_cell X0.out 1 (v := .int .i64 t) rfl; have y2 := box_cell X0.out 2 (v := .int .i64 0) rfl; have y3 := box_cell X0.out 3 (v := .string nm) rfl; have y4 := box_cell X0.out 4 (v := .int .i64 ed) rfl; have y5 := box_cell X0.out 5 (v := .int .i64 L) rfl; have y6 := box_cell X0.out 6 (v := .int .i64 S) rfl; have y7 := box_cell X0.out 7 (v := .slice a1 ws.length c1) rfl; have y8 := box_cell X0.out 8 (v := .slice a2 gs.length c2) rfl; have y9 := box_cell X0.out 9 (v := .int .i64 C) rfl; have y10 := box_cell X0.out 10 (v := .int .i64 Z) rfl; have y11 := box_cell X0.out 11 (v := .slice a es.length cap) rfl)
      | (go_at_call 128; refine (fits_0 i t 0 ed nm L S a1 a2 c1 c2 ws gs C Z a cap es _ (by exact I1.out) (by exact I2.out) hx hy (by exact I3.out) hl SM.out NM.out HT.out).mono ?_; rintro e w1 ⟨rfl, b1⟩; rw [HF.out]; replace X0 := hid (kept X0.out b1); replace B0 := hid (u_cat B0.out b1); replace I1 := hid (I1.out.below b1); replace I2 := hid (I2.out.below b1); replace I3 := hid (I3.out.below b1); replace HT := hid (HT.out.below b1); clear b1 y0 y1 y2 y3 y4 y5 y6 y7 y8 y9 y10 y11; have y0 := box_cell X0.out 0 (v := .int .i64 i) rfl; have y1 := box_cell X0.out 1 (v := .int .i64 t) rfl; have y2 := box_cell X0.out 2 (v := .int .i64 0) rfl; have y3 := box_cell X0.out 3 (v := .string nm) rfl; have y4 := box_cell X0.out 4 (v := .int .i64 ed) rfl; have y5 := box_cell X0.out 5 (v := .int .i64 L) rfl; have y6 := box_cell X0.out 6 (v := .int .i64 S) rfl; have y7 := box_cell X0.out 7 (v := .slice a1 ws.length c1) rfl; have y8 := box_cell X0.out 8 (v := .slice a2 gs.length c2) rfl; have y9 := box_cell X0.out 9 (v := .int .i64 C) rfl; have y10 := box_cell X0.out 10 (v := .int .i64 Z) rfl; have y11 := box_cell X0.out 11 (v := .slice a es.length cap) rfl))
    go_ret
    exact ⟨rfl, B0.out⟩
  by_cases k1 : (0 ≤ t ∧ t ≤ 99999)
  case neg =>
    rw [decide_eq_false (show ¬ ((0 ≤ i ∧ i ≤ 3) ∧ (0 ≤ t ∧ t ≤ 99999) ∧ (0 ≤ ed ∧ ed ≤ 99999) ∧ ((ed = 0 ∧ nonP L S ws.length gs.length C Z es.length) ∨ (ed ≠ 0 ∧ getP L S ws gs C Z es)) ∧ (nm = ⟨#[]⟩ ∧ ed = 0)) from fun h => by grind)]
    have HI := hid (decide_eq_true k0)
    have HC1 := hid (decide_eq_false k1)
    clear k0 k1
    obtain ⟨W0, hW0⟩ : ∃ W0, W0 = w.alloc (.cells #[.int .i64 i, .int .i64 t, .int .i64 0, .string nm, .int .i64 ed, .int .i64 L, .int .i64 S, .slice a1 ws.length c1, .slice a2 gs.length c2, .int .i64 C, .int .i64 Z, .slice a es.length cap] 40) := ⟨_, rfl⟩
    have X0 := hid (show W0.heap[w.heap.size]? = some (.cells #[.int .i64 i, .int .i64 t, .int .i64 0, .string nm, .int .i64 ed, .int .i64 L, .int .i64 S, .slice a1 ws.length c1, .slice a2 gs.length c2, .int .i64 C, .int .i64 Z, .slice a es.length cap] 40 (0, 0)) by rw [hW0]; exact laid _ _ _)
    have B0 := hid (show Below w.heap.size w W0 by rw [hW0]; exact u_b1 _ _)
    have I1 := hid (ha1.below B0.out)
    have I2 := hid (ha2.below B0.out)
    have I3 := hid (ha.below B0.out)
    have SM := hid hsm
    have NM := hid hnm
    have HT := hid (hT.below B0.out)
    have y0 := box_cell X0.out 0 (v := .int .i64 i) rfl
    have y1 := box_cell X0.out 1 (v := .int .i64 t) rfl
    have y2 := box_cell X0.out 2 (v := .int .i64 0) rfl
    have y3 := box_cell X0.out 3 (v := .string nm) rfl
    have y4 := box_cell X0.out 4 (v := .int .i64 ed) rfl
    have y5 := box_cell X0.out 5 (v := .int .i64 L) rfl
    have y6 := box_cell X0.out 6 (v := .int .i64 S) rfl
    have y7 := box_cell X0.out 7 (v := .slice a1 ws.length c1) rfl
    have y8 := box_cell X0.out 8 (v := .slice a2 gs.length c2) rfl
    have y9 := box_cell X0.out 9 (v := .int .i64 C) rfl
    have y10 := box_cell X0.out 10 (v := .int .i64 Z) rfl
    have y11 := box_cell X0.out 11 (v := .slice a es.length cap) rfl
    clear ha1 ha2 ha hsm hnm hT
    go_enter Tryz.func29, Tryz.ntmps29
    repeat ((fail_if_success (with_reducible show Code.wp _ (Code.region 1 _ _) _ _ _)); (first | go_values | go_skip | go_guarded | go_step | go_upon | go_back | go_simp))
    rw [← hW0]
    clear hW0
    go_wp2_with (first
      | (go_at_call 42; refine (stand_0 _).mono ?_; rintro e wa ⟨rfl, hq⟩; subst hq)
      | (go_at_call 53; refine (clientIs_any _ _).mono ?_; rintro e wa ⟨rfl, hq⟩; subst hq; rw [HI.out])
      | (go_at_call 54; refine (countOk_any _ _).mono ?_; rintro e wa ⟨rfl, hq⟩; subst hq; first | rw [HC1.out] | rw [HC2.out])
      | (go_at_call 55; refine (getOk_any i t 0 ed nm L S a1 a2 c1 c2 ws gs C Z a cap es _ (by exact I1.out) (by exact I2.out) hx hy (by exact I3.out) hl SM.out NM.out HT.out).mono ?_; rintro e w1 ⟨rfl, b1⟩; rw [HO.out]; replace X0 := hid (kept X0.out b1); replace B0 := hid (u_cat B0.out b1); replace I1 := hid (I1.out.below b1); replace I2 := hid (I2.out.below b1); replace I3 := hid (I3.out.below b1); replace HT := hid (HT.out.below b1); clear b1 y0 y1 y2 y3 y4 y5 y6 y7 y8 y9 y10 y11; have y0 := box_cell X0.out 0 (v := .int .i64 i) rfl; have y1 := box_cell X0.out 1 (v := .int .i64 t) rfl; have y2 := box_cell X0.out 2 (v := .int .i64 0) rfl; have y3 := box_cell X0.out 3 (v := .string nm) rfl; have y4 := box_cell X0.out 4 (v := .int .i64 ed) rfl; have y5 := box_cell X0.out 5 (v := .int .i64 L) rfl; have y6 := box_cell X0.out 6 (v := .int .i64 S) rfl; have y7 := box_cell X0.out 7 (v := .slice a1 ws.length c1) rfl; have y8 := box_cell X0.out 8 (v := .slice a2 gs.length c2) rfl; have y9 := box_cell X0.out 9 (v := .int .i64 C) rfl; have y10 := box_cell X0.out 10 (v := .int .i64 Z) rfl; have y11 := box_cell X0.out 11 (v := .slice a es.length cap) rfl)
      | (go_at_call 128; refine (fits_0 i t 0 ed nm L S a1 a2 c1 c2 ws gs C Z a cap es _ (by exact I1.out) (by exact I2.out) hx hy (by exact I3.out) hl SM.out NM.out HT.out).mono ?_; rintro e w1 ⟨rfl, b1⟩; rw [HF.out]; replace X0 := hid (kept X0.out b1); replace B0 := hid (u_cat B0.out b1); replace I1 := hid (I1.out.below b1); replace I2 := hid (I2.out.below b1); replace I3 := hid (I3.out.below b1); replace HT := hid (HT.out.below b1); clear b1 y0 y1 y2 y3 y4 y5 y6 y7 y8 y9 y10 y11; have y0 := box_cell X0.out 0 (v := .int .i64 i) rfl; have y1 := box_cell X0.out 1 (v := .int .i64 t) rfl; have y2 := box_cell X0.out 2 (v := .int .i64 0) rfl; have y3 := box_cell X0.out 3 (v := .string nm) rfl; have y4 := box_cell X0.out 4 (v := .int .i64 ed) rfl; have y5 := box_cell X0.out 5 (v := .int .i64 L) rfl; have y6 := box_cell X0.out 6 (v := .int .i64 S) rfl; have y7 := box_cell X0.out 7 (v := .slice a1 ws.length c1) rfl; have y8 := box_cell X0.out 8 (v := .slice a2 gs.length c2) rfl; have y9 := box_cell X0.out 9 (v := .int .i64 C) rfl; have y10 := box_cell X0.out 10 (v := .int .i64 Z) rfl; have y11 := box_cell X0.out 11 (v := .slice a es.length cap) rfl))
    go_ret
    exact ⟨rfl, B0.out⟩
  by_cases k2 : (0 ≤ ed ∧ ed ≤ 99999)
  case neg =>
    rw [decide_eq_false (show ¬ ((0 ≤ i ∧ i ≤ 3) ∧ (0 ≤ t ∧ t ≤ 99999) ∧ (0 ≤ ed ∧ ed ≤ 99999) ∧ ((ed = 0 ∧ nonP L S ws.length gs.length C Z es.length) ∨ (ed ≠ 0 ∧ getP L S ws gs C Z es)) ∧ (nm = ⟨#[]⟩ ∧ ed = 0)) from fun h => by grind)]
    have HI := hid (decide_eq_true k0)
    have HC1 := hid (decide_eq_true k1)
    have HC2 := hid (decide_eq_false k2)
    clear k0 k1 k2
    obtain ⟨W0, hW0⟩ : ∃ W0, W0 = w.alloc (.cells #[.int .i64 i, .int .i64 t, .int .i64 0, .string nm, .int .i64 ed, .int .i64 L, .int .i64 S, .slice a1 ws.length c1, .slice a2 gs.length c2, .int .i64 C, .int .i64 Z, .slice a es.length cap] 40) := ⟨_, rfl⟩
    have X0 := hid (show W0.heap[w.heap.size]? = some (.cells #[.int .i64 i, .int .i64 t, .int .i64 0, .string nm, .int .i64 ed, .int .i64 L, .int .i64 S, .slice a1 ws.length c1, .slice a2 gs.length c2, .int .i64 C, .int .i64 Z, .slice a es.length cap] 40 (0, 0)) by rw [hW0]; exact laid _ _ _)
    have B0 := hid (show Below w.heap.size w W0 by rw [hW0]; exact u_b1 _ _)
    have I1 := hid (ha1.below B0.out)
    have I2 := hid (ha2.below B0.out)
    have I3 := hid (ha.below B0.out)
    have SM := hid hsm
    have NM := hid hnm
    have HT := hid (hT.below B0.out)
    have y0 := box_cell X0.out 0 (v := .int .i64 i) rfl
    have y1 := box_cell X0.out 1 (v := .int .i64 t) rfl
    have y2 := box_cell X0.out 2 (v := .int .i64 0) rfl
    have y3 := box_cell X0.out 3 (v := .string nm) rfl
    have y4 := box_cell X0.out 4 (v := .int .i64 ed) rfl
    have y5 := box_cell X0.out 5 (v := .int .i64 L) rfl
    have y6 := box_cell X0.out 6 (v := .int .i64 S) rfl
    have y7 := box_cell X0.out 7 (v := .slice a1 ws.length c1) rfl
    have y8 := box_cell X0.out 8 (v := .slice a2 gs.length c2) rfl
    have y9 := box_cell X0.out 9 (v := .int .i64 C) rfl
    have y10 := box_cell X0.out 10 (v := .int .i64 Z) rfl
    have y11 := box_cell X0.out 11 (v := .slice a es.length cap) rfl
    clear ha1 ha2 ha hsm hnm hT
    go_enter Tryz.func29, Tryz.ntmps29
    repeat ((fail_if_success (with_reducible show Code.wp _ (Code.region 1 _ _) _ _ _)); (first | go_values | go_skip | go_guarded | go_step | go_upon | go_back | go_simp))
    rw [← hW0]
    clear hW0
    go_wp2_with (first
      | (go_at_call 42; refine (stand_0 _).mono ?_; rintro e wa ⟨rfl, hq⟩; subst hq)
      | (go_at_call 53; refine (clientIs_any _ _).mono ?_; rintro e wa ⟨rfl, hq⟩; subst hq; rw [HI.out])
      | (go_at_call 54; refine (countOk_any _ _).mono ?_; rintro e wa ⟨rfl, hq⟩; subst hq; first | rw [HC1.out] | rw [HC2.out])
      | (go_at_call 55; refine (getOk_any i t 0 ed nm L S a1 a2 c1 c2 ws gs C Z a cap es _ (by exact I1.out) (by exact I2.out) hx hy (by exact I3.out) hl SM.out NM.out HT.out).mono ?_; rintro e w1 ⟨rfl, b1⟩; rw [HO.out]; replace X0 := hid (kept X0.out b1); replace B0 := hid (u_cat B0.out b1); replace I1 := hid (I1.out.below b1); replace I2 := hid (I2.out.below b1); replace I3 := hid (I3.out.below b1); replace HT := hid (HT.out.below b1); clear b1 y0 y1 y2 y3 y4 y5 y6 y7 y8 y9 y10 y11; have y0 := box_cell X0.out 0 (v := .int .i64 i) rfl; have y1 := box_cell X0.out 1 (v := .int .i64 t) rfl; have y2 := box_cell X0.out 2 (v := .int .i64 0) rfl; have y3 := box_cell X0.out 3 (v := .string nm) rfl; have y4 := box_cell X0.out 4 (v := .int .i64 ed) rfl; have y5 := box_cell X0.out 5 (v := .int .i64 L) rfl; have y6 := box_cell X0.out 6 (v := .int .i64 S) rfl; have y7 := box_cell X0.out 7 (v := .slice a1 ws.length c1) rfl; have y8 := box_cell X0.out 8 (v := .slice a2 gs.length c2) rfl; have y9 := box_cell X0.out 9 (v := .int .i64 C) rfl; have y10 := box_cell X0.out 10 (v := .int .i64 Z) rfl; have y11 := box_cell X0.out 11 (v := .slice a es.length cap) rfl)
      | (go_at_call 128; refine (fits_0 i t 0 ed nm L S a1 a2 c1 c2 ws gs C Z a cap es _ (by exact I1.out) (by exact I2.out) hx hy (by exact I3.out) hl SM.out NM.out HT.out).mono ?_; rintro e w1 ⟨rfl, b1⟩; rw [HF.out]; replace X0 := hid (kept X0.out b1); replace B0 := hid (u_cat B0.out b1); replace I1 := hid (I1.out.below b1); replace I2 := hid (I2.out.below b1); replace I3 := hid (I3.out.below b1); replace HT := hid (HT.out.below b1); clear b1 y0 y1 y2 y3 y4 y5 y6 y7 y8 y9 y10 y11; have y0 := box_cell X0.out 0 (v := .int .i64 i) rfl; have y1 := box_cell X0.out 1 (v := .int .i64 t) rfl; have y2 := box_cell X0.out 2 (v := .int .i64 0) rfl; have y3 := box_cell X0.out 3 (v := .string nm) rfl; have y4 := box_cell X0.out 4 (v := .int .i64 ed) rfl; have y5 := box_cell X0.out 5 (v := .int .i64 L) rfl; have y6 := box_cell X0.out 6 (v := .int .i64 S) rfl; have y7 := box_cell X0.out 7 (v := .slice a1 ws.length c1) rfl; have y8 := box_cell X0.out 8 (v := .slice a2 gs.length c2) rfl; have y9 := box_cell X0.out 9 (v := .int .i64 C) rfl; have y10 := box_cell X0.out 10 (v := .int .i64 Z) rfl; have y11 := box_cell X0.out 11 (v := .slice a es.length cap) rfl))
    go_ret
    exact ⟨rfl, B0.out⟩
  by_cases k3 : ((ed = 0 ∧ nonP L S ws.length gs.length C Z es.length) ∨ (ed ≠ 0 ∧ getP L S ws gs C Z es))
  case neg =>
    rw [decide_eq_false (show ¬ ((0 ≤ i ∧ i ≤ 3) ∧ (0 ≤ t ∧ t ≤ 99999) ∧ (0 ≤ ed ∧ ed ≤ 99999) ∧ ((ed = 0 ∧ nonP L S ws.length gs.length C Z es.length) ∨ (ed ≠ 0 ∧ getP L S ws gs C Z es)) ∧ (nm = ⟨#[]⟩ ∧ ed = 0)) from fun h => by grind)]
    have HI := hid (decide_eq_true k0)
    have HC1 := hid (decide_eq_true k1)
    have HC2 := hid (decide_eq_true k2)
    have HO := hid (decide_eq_false k3)
    clear k0 k1 k2 k3
    obtain ⟨W0, hW0⟩ : ∃ W0, W0 = w.alloc (.cells #[.int .i64 i, .int .i64 t, .int .i64 0, .string nm, .int .i64 ed, .int .i64 L, .int .i64 S, .slice a1 ws.length c1, .slice a2 gs.length c2, .int .i64 C, .int .i64 Z, .slice a es.length cap] 40) := ⟨_, rfl⟩
    have X0 := hid (show W0.heap[w.heap.size]? = some (.cells #[.int .i64 i, .int .i64 t, .int .i64 0, .string nm, .int .i64 ed, .int .i64 L, .int .i64 S, .slice a1 ws.length c1, .slice a2 gs.length c2, .int .i64 C, .int .i64 Z, .slice a es.length cap] 40 (0, 0)) by rw [hW0]; exact laid _ _ _)
    have B0 := hid (show Below w.heap.size w W0 by rw [hW0]; exact u_b1 _ _)
    have I1 := hid (ha1.below B0.out)
    have I2 := hid (ha2.below B0.out)
    have I3 := hid (ha.below B0.out)
    have SM := hid hsm
    have NM := hid hnm
    have HT := hid (hT.below B0.out)
    have y0 := box_cell X0.out 0 (v := .int .i64 i) rfl
    have y1 := box_cell X0.out 1 (v := .int .i64 t) rfl
    have y2 := box_cell X0.out 2 (v := .int .i64 0) rfl
    have y3 := box_cell X0.out 3 (v := .string nm) rfl
    have y4 := box_cell X0.out 4 (v := .int .i64 ed) rfl
    have y5 := box_cell X0.out 5 (v := .int .i64 L) rfl
    have y6 := box_cell X0.out 6 (v := .int .i64 S) rfl
    have y7 := box_cell X0.out 7 (v := .slice a1 ws.length c1) rfl
    have y8 := box_cell X0.out 8 (v := .slice a2 gs.length c2) rfl
    have y9 := box_cell X0.out 9 (v := .int .i64 C) rfl
    have y10 := box_cell X0.out 10 (v := .int .i64 Z) rfl
    have y11 := box_cell X0.out 11 (v := .slice a es.length cap) rfl
    clear ha1 ha2 ha hsm hnm hT
    go_enter Tryz.func29, Tryz.ntmps29
    repeat ((fail_if_success (with_reducible show Code.wp _ (Code.region 1 _ _) _ _ _)); (first | go_values | go_skip | go_guarded | go_step | go_upon | go_back | go_simp))
    rw [← hW0]
    clear hW0
    go_wp2_with (first
      | (go_at_call 42; refine (stand_0 _).mono ?_; rintro e wa ⟨rfl, hq⟩; subst hq)
      | (go_at_call 53; refine (clientIs_any _ _).mono ?_; rintro e wa ⟨rfl, hq⟩; subst hq; rw [HI.out])
      | (go_at_call 54; refine (countOk_any _ _).mono ?_; rintro e wa ⟨rfl, hq⟩; subst hq; first | rw [HC1.out] | rw [HC2.out])
      | (go_at_call 55; refine (getOk_any i t 0 ed nm L S a1 a2 c1 c2 ws gs C Z a cap es _ (by exact I1.out) (by exact I2.out) hx hy (by exact I3.out) hl SM.out NM.out HT.out).mono ?_; rintro e w1 ⟨rfl, b1⟩; rw [HO.out]; replace X0 := hid (kept X0.out b1); replace B0 := hid (u_cat B0.out b1); replace I1 := hid (I1.out.below b1); replace I2 := hid (I2.out.below b1); replace I3 := hid (I3.out.below b1); replace HT := hid (HT.out.below b1); clear b1 y0 y1 y2 y3 y4 y5 y6 y7 y8 y9 y10 y11; have y0 := box_cell X0.out 0 (v := .int .i64 i) rfl; have y1 := box_cell X0.out 1 (v := .int .i64 t) rfl; have y2 := box_cell X0.out 2 (v := .int .i64 0) rfl; have y3 := box_cell X0.out 3 (v := .string nm) rfl; have y4 := box_cell X0.out 4 (v := .int .i64 ed) rfl; have y5 := box_cell X0.out 5 (v := .int .i64 L) rfl; have y6 := box_cell X0.out 6 (v := .int .i64 S) rfl; have y7 := box_cell X0.out 7 (v := .slice a1 ws.length c1) rfl; have y8 := box_cell X0.out 8 (v := .slice a2 gs.length c2) rfl; have y9 := box_cell X0.out 9 (v := .int .i64 C) rfl; have y10 := box_cell X0.out 10 (v := .int .i64 Z) rfl; have y11 := box_cell X0.out 11 (v := .slice a es.length cap) rfl)
      | (go_at_call 128; refine (fits_0 i t 0 ed nm L S a1 a2 c1 c2 ws gs C Z a cap es _ (by exact I1.out) (by exact I2.out) hx hy (by exact I3.out) hl SM.out NM.out HT.out).mono ?_; rintro e w1 ⟨rfl, b1⟩; rw [HF.out]; replace X0 := hid (kept X0.out b1); replace B0 := hid (u_cat B0.out b1); replace I1 := hid (I1.out.below b1); replace I2 := hid (I2.out.below b1); replace I3 := hid (I3.out.below b1); replace HT := hid (HT.out.below b1); clear b1 y0 y1 y2 y3 y4 y5 y6 y7 y8 y9 y10 y11; have y0 := box_cell X0.out 0 (v := .int .i64 i) rfl; have y1 := box_cell X0.out 1 (v := .int .i64 t) rfl; have y2 := box_cell X0.out 2 (v := .int .i64 0) rfl; have y3 := box_cell X0.out 3 (v := .string nm) rfl; have y4 := box_cell X0.out 4 (v := .int .i64 ed) rfl; have y5 := box_cell X0.out 5 (v := .int .i64 L) rfl; have y6 := box_cell X0.out 6 (v := .int .i64 S) rfl; have y7 := box_cell X0.out 7 (v := .slice a1 ws.length c1) rfl; have y8 := box_cell X0.out 8 (v := .slice a2 gs.length c2) rfl; have y9 := box_cell X0.out 9 (v := .int .i64 C) rfl; have y10 := box_cell X0.out 10 (v := .int .i64 Z) rfl; have y11 := box_cell X0.out 11 (v := .slice a es.length cap) rfl))
    go_ret
    exact ⟨rfl, B0.out⟩
  by_cases k4 : (nm = ⟨#[]⟩ ∧ ed = 0)
  case neg =>
    rw [decide_eq_false (show ¬ ((0 ≤ i ∧ i ≤ 3) ∧ (0 ≤ t ∧ t ≤ 99999) ∧ (0 ≤ ed ∧ ed ≤ 99999) ∧ ((ed = 0 ∧ nonP L S ws.length gs.length C Z es.length) ∨ (ed ≠ 0 ∧ getP L S ws gs C Z es)) ∧ (nm = ⟨#[]⟩ ∧ ed = 0)) from fun h => by grind)]
    have HI := hid (decide_eq_true k0)
    have HC1 := hid (decide_eq_true k1)
    have HC2 := hid (decide_eq_true k2)
    have HO := hid (decide_eq_true k3)
    have HF := hid (decide_eq_false k4)
    clear k0 k1 k2 k3 k4
    obtain ⟨W0, hW0⟩ : ∃ W0, W0 = w.alloc (.cells #[.int .i64 i, .int .i64 t, .int .i64 0, .string nm, .int .i64 ed, .int .i64 L, .int .i64 S, .slice a1 ws.length c1, .slice a2 gs.length c2, .int .i64 C, .int .i64 Z, .slice a es.length cap] 40) := ⟨_, rfl⟩
    have X0 := hid (show W0.heap[w.heap.size]? = some (.cells #[.int .i64 i, .int .i64 t, .int .i64 0, .string nm, .int .i64 ed, .int .i64 L, .int .i64 S, .slice a1 ws.length c1, .slice a2 gs.length c2, .int .i64 C, .int .i64 Z, .slice a es.length cap] 40 (0, 0)) by rw [hW0]; exact laid _ _ _)
    have B0 := hid (show Below w.heap.size w W0 by rw [hW0]; exact u_b1 _ _)
    have I1 := hid (ha1.below B0.out)
    have I2 := hid (ha2.below B0.out)
    have I3 := hid (ha.below B0.out)
    have SM := hid hsm
    have NM := hid hnm
    have HT := hid (hT.below B0.out)
    have y0 := box_cell X0.out 0 (v := .int .i64 i) rfl
    have y1 := box_cell X0.out 1 (v := .int .i64 t) rfl
    have y2 := box_cell X0.out 2 (v := .int .i64 0) rfl
    have y3 := box_cell X0.out 3 (v := .string nm) rfl
    have y4 := box_cell X0.out 4 (v := .int .i64 ed) rfl
    have y5 := box_cell X0.out 5 (v := .int .i64 L) rfl
    have y6 := box_cell X0.out 6 (v := .int .i64 S) rfl
    have y7 := box_cell X0.out 7 (v := .slice a1 ws.length c1) rfl
    have y8 := box_cell X0.out 8 (v := .slice a2 gs.length c2) rfl
    have y9 := box_cell X0.out 9 (v := .int .i64 C) rfl
    have y10 := box_cell X0.out 10 (v := .int .i64 Z) rfl
    have y11 := box_cell X0.out 11 (v := .slice a es.length cap) rfl
    clear ha1 ha2 ha hsm hnm hT
    go_enter Tryz.func29, Tryz.ntmps29
    repeat ((fail_if_success (with_reducible show Code.wp _ (Code.region 1 _ _) _ _ _)); (first | go_values | go_skip | go_guarded | go_step | go_upon | go_back | go_simp))
    rw [← hW0]
    clear hW0
    go_wp2_with (first
      | (go_at_call 42; refine (stand_0 _).mono ?_; rintro e wa ⟨rfl, hq⟩; subst hq)
      | (go_at_call 53; refine (clientIs_any _ _).mono ?_; rintro e wa ⟨rfl, hq⟩; subst hq; rw [HI.out])
      | (go_at_call 54; refine (countOk_any _ _).mono ?_; rintro e wa ⟨rfl, hq⟩; subst hq; first | rw [HC1.out] | rw [HC2.out])
      | (go_at_call 55; refine (getOk_any i t 0 ed nm L S a1 a2 c1 c2 ws gs C Z a cap es _ (by exact I1.out) (by exact I2.out) hx hy (by exact I3.out) hl SM.out NM.out HT.out).mono ?_; rintro e w1 ⟨rfl, b1⟩; rw [HO.out]; replace X0 := hid (kept X0.out b1); replace B0 := hid (u_cat B0.out b1); replace I1 := hid (I1.out.below b1); replace I2 := hid (I2.out.below b1); replace I3 := hid (I3.out.below b1); replace HT := hid (HT.out.below b1); clear b1 y0 y1 y2 y3 y4 y5 y6 y7 y8 y9 y10 y11; have y0 := box_cell X0.out 0 (v := .int .i64 i) rfl; have y1 := box_cell X0.out 1 (v := .int .i64 t) rfl; have y2 := box_cell X0.out 2 (v := .int .i64 0) rfl; have y3 := box_cell X0.out 3 (v := .string nm) rfl; have y4 := box_cell X0.out 4 (v := .int .i64 ed) rfl; have y5 := box_cell X0.out 5 (v := .int .i64 L) rfl; have y6 := box_cell X0.out 6 (v := .int .i64 S) rfl; have y7 := box_cell X0.out 7 (v := .slice a1 ws.length c1) rfl; have y8 := box_cell X0.out 8 (v := .slice a2 gs.length c2) rfl; have y9 := box_cell X0.out 9 (v := .int .i64 C) rfl; have y10 := box_cell X0.out 10 (v := .int .i64 Z) rfl; have y11 := box_cell X0.out 11 (v := .slice a es.length cap) rfl)
      | (go_at_call 128; refine (fits_0 i t 0 ed nm L S a1 a2 c1 c2 ws gs C Z a cap es _ (by exact I1.out) (by exact I2.out) hx hy (by exact I3.out) hl SM.out NM.out HT.out).mono ?_; rintro e w1 ⟨rfl, b1⟩; rw [HF.out]; replace X0 := hid (kept X0.out b1); replace B0 := hid (u_cat B0.out b1); replace I1 := hid (I1.out.below b1); replace I2 := hid (I2.out.below b1); replace I3 := hid (I3.out.below b1); replace HT := hid (HT.out.below b1); clear b1 y0 y1 y2 y3 y4 y5 y6 y7 y8 y9 y10 y11; have y0 := box_cell X0.out 0 (v := .int .i64 i) rfl; have y1 := box_cell X0.out 1 (v := .int .i64 t) rfl; have y2 := box_cell X0.out 2 (v := .int .i64 0) rfl; have y3 := box_cell X0.out 3 (v := .string nm) rfl; have y4 := box_cell X0.out 4 (v := .int .i64 ed) rfl; have y5 := box_cell X0.out 5 (v := .int .i64 L) rfl; have y6 := box_cell X0.out 6 (v := .int .i64 S) rfl; have y7 := box_cell X0.out 7 (v := .slice a1 ws.length c1) rfl; have y8 := box_cell X0.out 8 (v := .slice a2 gs.length c2) rfl; have y9 := box_cell X0.out 9 (v := .int .i64 C) rfl; have y10 := box_cell X0.out 10 (v := .int .i64 Z) rfl; have y11 := box_cell X0.out 11 (v := .slice a es.length cap) rfl))
    go_ret
    exact ⟨rfl, B0.out⟩
  rw [decide_eq_true (show (0 ≤ i ∧ i ≤ 3) ∧ (0 ≤ t ∧ t ≤ 99999) ∧ (0 ≤ ed ∧ ed ≤ 99999) ∧ ((ed = 0 ∧ nonP L S ws.length gs.length C Z es.length) ∨ (ed ≠ 0 ∧ getP L S ws gs C Z es)) ∧ (nm = ⟨#[]⟩ ∧ ed = 0) by grind)]
  have HI := hid (decide_eq_true k0)
  have HC1 := hid (decide_eq_true k1)
  have HC2 := hid (decide_eq_true k2)
  have HO := hid (decide_eq_true k3)
  have HF := hid (decide_eq_true k4)
  clear k0 k1 k2 k3 k4
  obtain ⟨W0, hW0⟩ : ∃ W0, W0 = w.alloc (.cells #[.int .i64 i, .int .i64 t, .int .i64 0, .string nm, .int .i64 ed, .int .i64 L, .int .i64 S, .slice a1 ws.length c1, .slice a2 gs.length c2, .int .i64 C, .int .i64 Z, .slice a es.length cap] 40) := ⟨_, rfl⟩
  have X0 := hid (show W0.heap[w.heap.size]? = some (.cells #[.int .i64 i, .int .i64 t, .int .i64 0, .string nm, .int .i64 ed, .int .i64 L, .int .i64 S, .slice a1 ws.length c1, .slice a2 gs.length c2, .int .i64 C, .int .i64 Z, .slice a es.length cap] 40 (0, 0)) by rw [hW0]; exact laid _ _ _)
  have B0 := hid (show Below w.heap.size w W0 by rw [hW0]; exact u_b1 _ _)
  have I1 := hid (ha1.below B0.out)
  have I2 := hid (ha2.below B0.out)
  have I3 := hid (ha.below B0.out)
  have SM := hid hsm
  have NM := hid hnm
  have HT := hid (hT.below B0.out)
  have y0 := box_cell X0.out 0 (v := .int .i64 i) rfl
  have y1 := box_cell X0.out 1 (v := .int .i64 t) rfl
  have y2 := box_cell X0.out 2 (v := .int .i64 0) rfl
  have y3 := box_cell X0.out 3 (v := .string nm) rfl
  have y4 := box_cell X0.out 4 (v := .int .i64 ed) rfl
  have y5 := box_cell X0.out 5 (v := .int .i64 L) rfl
  have y6 := box_cell X0.out 6 (v := .int .i64 S) rfl
  have y7 := box_cell X0.out 7 (v := .slice a1 ws.length c1) rfl
  have y8 := box_cell X0.out 8 (v := .slice a2 gs.length c2) rfl
  have y9 := box_cell X0.out 9 (v := .int .i64 C) rfl
  have y10 := box_cell X0.out 10 (v := .int .i64 Z) rfl
  have y11 := box_cell X0.out 11 (v := .slice a es.length cap) rfl
  clear ha1 ha2 ha hsm hnm hT
  go_enter Tryz.func29, Tryz.ntmps29
  repeat ((fail_if_success (with_reducible show Code.wp _ (Code.region 1 _ _) _ _ _)); (first | go_values | go_skip | go_guarded | go_step | go_upon | go_back | go_simp))
  rw [← hW0]
  clear hW0
  go_wp2_with (first
    | (go_at_call 42; refine (stand_0 _).mono ?_; rintro e wa ⟨rfl, hq⟩; subst hq)
    | (go_at_call 53; refine (clientIs_any _ _).mono ?_; rintro e wa ⟨rfl, hq⟩; subst hq; rw [HI.out])
    | (go_at_call 54; refine (countOk_any _ _).mono ?_; rintro e wa ⟨rfl, hq⟩; subst hq; first | rw [HC1.out] | rw [HC2.out])
    | (go_at_call 55; refine (getOk_any i t 0 ed nm L S a1 a2 c1 c2 ws gs C Z a cap es _ (by exact I1.out) (by exact I2.out) hx hy (by exact I3.out) hl SM.out NM.out HT.out).mono ?_; rintro e w1 ⟨rfl, b1⟩; rw [HO.out]; replace X0 := hid (kept X0.out b1); replace B0 := hid (u_cat B0.out b1); replace I1 := hid (I1.out.below b1); replace I2 := hid (I2.out.below b1); replace I3 := hid (I3.out.below b1); replace HT := hid (HT.out.below b1); clear b1 y0 y1 y2 y3 y4 y5 y6 y7 y8 y9 y10 y11; have y0 := box_cell X0.out 0 (v := .int .i64 i) rfl; have y1 := box_cell X0.out 1 (v := .int .i64 t) rfl; have y2 := box_cell X0.out 2 (v := .int .i64 0) rfl; have y3 := box_cell X0.out 3 (v := .string nm) rfl; have y4 := box_cell X0.out 4 (v := .int .i64 ed) rfl; have y5 := box_cell X0.out 5 (v := .int .i64 L) rfl; have y6 := box_cell X0.out 6 (v := .int .i64 S) rfl; have y7 := box_cell X0.out 7 (v := .slice a1 ws.length c1) rfl; have y8 := box_cell X0.out 8 (v := .slice a2 gs.length c2) rfl; have y9 := box_cell X0.out 9 (v := .int .i64 C) rfl; have y10 := box_cell X0.out 10 (v := .int .i64 Z) rfl; have y11 := box_cell X0.out 11 (v := .slice a es.length cap) rfl)
    | (go_at_call 128; refine (fits_0 i t 0 ed nm L S a1 a2 c1 c2 ws gs C Z a cap es _ (by exact I1.out) (by exact I2.out) hx hy (by exact I3.out) hl SM.out NM.out HT.out).mono ?_; rintro e w1 ⟨rfl, b1⟩; rw [HF.out]; replace X0 := hid (kept X0.out b1); replace B0 := hid (u_cat B0.out b1); replace I1 := hid (I1.out.below b1); replace I2 := hid (I2.out.below b1); replace I3 := hid (I3.out.below b1); replace HT := hid (HT.out.below b1); clear b1 y0 y1 y2 y3 y4 y5 y6 y7 y8 y9 y10 y11; have y0 := box_cell X0.out 0 (v := .int .i64 i) rfl; have y1 := box_cell X0.out 1 (v := .int .i64 t) rfl; have y2 := box_cell X0.out 2 (v := .int .i64 0) rfl; have y3 := box_cell X0.out 3 (v := .string nm) rfl; have y4 := box_cell X0.out 4 (v := .int .i64 ed) rfl; have y5 := box_cell X0.out 5 (v := .int .i64 L) rfl; have y6 := box_cell X0.out 6 (v := .int .i64 S) rfl; have y7 := box_cell X0.out 7 (v := .slice a1 ws.length c1) rfl; have y8 := box_cell X0.out 8 (v := .slice a2 gs.length c2) rfl; have y9 := box_cell X0.out 9 (v := .int .i64 C) rfl; have y10 := box_cell X0.out 10 (v := .int .i64 Z) rfl; have y11 := box_cell X0.out 11 (v := .slice a es.length cap) rfl))
  go_ret
  exact ⟨rfl, B0.out⟩
set_option maxHeartbeats 8000000 in
set_option maxRecDepth 100000 in
theorem implCli_1 (i t ed : Int) (nm : ByteArray) (L S : Int) (a1 a2 : Option Addr) (c1 c2 : Nat) (ws gs : List Int) (C Z : Int) (a : Option Addr) (cap : Nat) (es : List EqV) (w : World) (ha1 : IntsAt w a1 ws) (ha2 : IntsAt w a2 gs) (hx : ws.length ≤ 1048576) (hy : gs.length ≤ 1048576) (ha : EqsAt w a es) (hl : es.length ≤ 1048576) (hsm : SmallE es) (hnm : nm.size ≤ maxLen) (hT : Tab w) :
    Calls Tryz.prog 29 #[.agg #[.int .i64 i, .int .i64 t, .int .i64 1, .string nm, .int .i64 ed, .int .i64 L, .int .i64 S, .slice a1 ws.length c1, .slice a2 gs.length c2, .int .i64 C, .int .i64 Z, .slice a es.length cap]] w fun e w' => e = .returned (.bool (decide ((0 ≤ i ∧ i ≤ 3) ∧ (0 ≤ t ∧ t ≤ 99999) ∧ (0 ≤ ed ∧ ed ≤ 99999) ∧ ((ed = 0 ∧ nonP L S ws.length gs.length C Z es.length) ∨ (ed ≠ 0 ∧ getP L S ws gs C Z es)) ∧ ((0 < t ∧ nameB nm = true) ∧ ¬ (getP L S ws gs C Z es ∧ (es.length : Int) = C))))) ∧ Below w.heap.size w w' := by
  have hm : ∀ w : World, (method 269 84 (.agg #[]) "loop.example/wellhead/impl.fits").run Tryz.prog w = .ok (130, .agg #[]) w := fun _ => by kernel_rfl
  by_cases k0 : (0 ≤ i ∧ i ≤ 3)
  case neg =>
    rw [decide_eq_false (show ¬ ((0 ≤ i ∧ i ≤ 3) ∧ (0 ≤ t ∧ t ≤ 99999) ∧ (0 ≤ ed ∧ ed ≤ 99999) ∧ ((ed = 0 ∧ nonP L S ws.length gs.length C Z es.length) ∨ (ed ≠ 0 ∧ getP L S ws gs C Z es)) ∧ ((0 < t ∧ nameB nm = true) ∧ ¬ (getP L S ws gs C Z es ∧ (es.length : Int) = C))) from fun h => by grind)]
    have HI := hid (decide_eq_false k0)
    clear k0
    obtain ⟨W0, hW0⟩ : ∃ W0, W0 = w.alloc (.cells #[.int .i64 i, .int .i64 t, .int .i64 1, .string nm, .int .i64 ed, .int .i64 L, .int .i64 S, .slice a1 ws.length c1, .slice a2 gs.length c2, .int .i64 C, .int .i64 Z, .slice a es.length cap] 40) := ⟨_, rfl⟩
    have X0 := hid (show W0.heap[w.heap.size]? = some (.cells #[.int .i64 i, .int .i64 t, .int .i64 1, .string nm, .int .i64 ed, .int .i64 L, .int .i64 S, .slice a1 ws.length c1, .slice a2 gs.length c2, .int .i64 C, .int .i64 Z, .slice a es.length cap] 40 (0, 0)) by rw [hW0]; exact laid _ _ _)
    have B0 := hid (show Below w.heap.size w W0 by rw [hW0]; exact u_b1 _ _)
    have I1 := hid (ha1.below B0.out)
    have I2 := hid (ha2.below B0.out)
    have I3 := hid (ha.below B0.out)
    have SM := hid hsm
    have NM := hid hnm
    have HT := hid (hT.below B0.out)
    have y0 := box_cell X0.out 0 (v := .int .i64 i) rfl
    have y1 := box_cell X0.out 1 (v := .int .i64 t) rfl
    have y2 := box_cell X0.out 2 (v := .int .i64 1) rfl
    have y3 := box_cell X0.out 3 (v := .string nm) rfl
    have y4 := box_cell X0.out 4 (v := .int .i64 ed) rfl
    have y5 := box_cell X0.out 5 (v := .int .i64 L) rfl
    have y6 := box_cell X0.out 6 (v := .int .i64 S) rfl
    have y7 := box_cell X0.out 7 (v := .slice a1 ws.length c1) rfl
    have y8 := box_cell X0.out 8 (v := .slice a2 gs.length c2) rfl
    have y9 := box_cell X0.out 9 (v := .int .i64 C) rfl
    have y10 := box_cell X0.out 10 (v := .int .i64 Z) rfl
    have y11 := box_cell X0.out 11 (v := .slice a es.length cap) rfl
    clear ha1 ha2 ha hsm hnm hT
    go_enter Tryz.func29, Tryz.ntmps29
    repeat ((fail_if_success (with_reducible show Code.wp _ (Code.region 1 _ _) _ _ _)); (first | go_values | go_skip | go_guarded | go_step | go_upon | go_back | go_simp))
    rw [← hW0]
    clear hW0
    go_wp2_with (first
      | (go_at_call 42; refine (stand_1 _).mono ?_; rintro e wa ⟨rfl, hq⟩; subst hq)
      | (go_at_call 53; refine (clientIs_any _ _).mono ?_; rintro e wa ⟨rfl, hq⟩; subst hq; rw [HI.out])
      | (go_at_call 54; refine (countOk_any _ _).mono ?_; rintro e wa ⟨rfl, hq⟩; subst hq; first | rw [HC1.out] | rw [HC2.out])
      | (go_at_call 55; refine (getOk_any i t 1 ed nm L S a1 a2 c1 c2 ws gs C Z a cap es _ (by exact I1.out) (by exact I2.out) hx hy (by exact I3.out) hl SM.out NM.out HT.out).mono ?_; rintro e w1 ⟨rfl, b1⟩; rw [HO.out]; replace X0 := hid (kept X0.out b1); replace B0 := hid (u_cat B0.out b1); replace I1 := hid (I1.out.below b1); replace I2 := hid (I2.out.below b1); replace I3 := hid (I3.out.below b1); replace HT := hid (HT.out.below b1); clear b1 y0 y1 y2 y3 y4 y5 y6 y7 y8 y9 y10 y11; have y0 := box_cell X0.out 0 (v := .int .i64 i) rfl; have y1 := box_cell X0.out 1 (v := .int .i64 t) rfl; have y2 := box_cell X0.out 2 (v := .int .i64 1) rfl; have y3 := box_cell X0.out 3 (v := .string nm) rfl; have y4 := box_cell X0.out 4 (v := .int .i64 ed) rfl; have y5 := box_cell X0.out 5 (v := .int .i64 L) rfl; have y6 := box_cell X0.out 6 (v := .int .i64 S) rfl; have y7 := box_cell X0.out 7 (v := .slice a1 ws.length c1) rfl; have y8 := box_cell X0.out 8 (v := .slice a2 gs.length c2) rfl; have y9 := box_cell X0.out 9 (v := .int .i64 C) rfl; have y10 := box_cell X0.out 10 (v := .int .i64 Z) rfl; have y11 := box_cell X0.out 11 (v := .slice a es.length cap) rfl)
      | (go_at_call 130; refine (fits_1 i t 1 ed nm L S a1 a2 c1 c2 ws gs C Z a cap es _ (by exact I1.out) (by exact I2.out) hx hy (by exact I3.out) hl SM.out NM.out HT.out).mono ?_; rintro e w1 ⟨rfl, b1⟩; rw [HF.out]; replace X0 := hid (kept X0.out b1); replace B0 := hid (u_cat B0.out b1); replace I1 := hid (I1.out.below b1); replace I2 := hid (I2.out.below b1); replace I3 := hid (I3.out.below b1); replace HT := hid (HT.out.below b1); clear b1 y0 y1 y2 y3 y4 y5 y6 y7 y8 y9 y10 y11; have y0 := box_cell X0.out 0 (v := .int .i64 i) rfl; have y1 := box_cell X0.out 1 (v := .int .i64 t) rfl; have y2 := box_cell X0.out 2 (v := .int .i64 1) rfl; have y3 := box_cell X0.out 3 (v := .string nm) rfl; have y4 := box_cell X0.out 4 (v := .int .i64 ed) rfl; have y5 := box_cell X0.out 5 (v := .int .i64 L) rfl; have y6 := box_cell X0.out 6 (v := .int .i64 S) rfl; have y7 := box_cell X0.out 7 (v := .slice a1 ws.length c1) rfl; have y8 := box_cell X0.out 8 (v := .slice a2 gs.length c2) rfl; have y9 := box_cell X0.out 9 (v := .int .i64 C) rfl; have y10 := box_cell X0.out 10 (v := .int .i64 Z) rfl; have y11 := box_cell X0.out 11 (v := .slice a es.length cap) rfl))
    go_ret
    exact ⟨rfl, B0.out⟩
  by_cases k1 : (0 ≤ t ∧ t ≤ 99999)
  case neg =>
    rw [decide_eq_false (show ¬ ((0 ≤ i ∧ i ≤ 3) ∧ (0 ≤ t ∧ t ≤ 99999) ∧ (0 ≤ ed ∧ ed ≤ 99999) ∧ ((ed = 0 ∧ nonP L S ws.length gs.length C Z es.length) ∨ (ed ≠ 0 ∧ getP L S ws gs C Z es)) ∧ ((0 < t ∧ nameB nm = true) ∧ ¬ (getP L S ws gs C Z es ∧ (es.length : Int) = C))) from fun h => by grind)]
    have HI := hid (decide_eq_true k0)
    have HC1 := hid (decide_eq_false k1)
    clear k0 k1
    obtain ⟨W0, hW0⟩ : ∃ W0, W0 = w.alloc (.cells #[.int .i64 i, .int .i64 t, .int .i64 1, .string nm, .int .i64 ed, .int .i64 L, .int .i64 S, .slice a1 ws.length c1, .slice a2 gs.length c2, .int .i64 C, .int .i64 Z, .slice a es.length cap] 40) := ⟨_, rfl⟩
    have X0 := hid (show W0.heap[w.heap.size]? = some (.cells #[.int .i64 i, .int .i64 t, .int .i64 1, .string nm, .int .i64 ed, .int .i64 L, .int .i64 S, .slice a1 ws.length c1, .slice a2 gs.length c2, .int .i64 C, .int .i64 Z, .slice a es.length cap] 40 (0, 0)) by rw [hW0]; exact laid _ _ _)
    have B0 := hid (show Below w.heap.size w W0 by rw [hW0]; exact u_b1 _ _)
    have I1 := hid (ha1.below B0.out)
    have I2 := hid (ha2.below B0.out)
    have I3 := hid (ha.below B0.out)
    have SM := hid hsm
    have NM := hid hnm
    have HT := hid (hT.below B0.out)
    have y0 := box_cell X0.out 0 (v := .int .i64 i) rfl
    have y1 := box_cell X0.out 1 (v := .int .i64 t) rfl
    have y2 := box_cell X0.out 2 (v := .int .i64 1) rfl
    have y3 := box_cell X0.out 3 (v := .string nm) rfl
    have y4 := box_cell X0.out 4 (v := .int .i64 ed) rfl
    have y5 := box_cell X0.out 5 (v := .int .i64 L) rfl
    have y6 := box_cell X0.out 6 (v := .int .i64 S) rfl
    have y7 := box_cell X0.out 7 (v := .slice a1 ws.length c1) rfl
    have y8 := box_cell X0.out 8 (v := .slice a2 gs.length c2) rfl
    have y9 := box_cell X0.out 9 (v := .int .i64 C) rfl
    have y10 := box_cell X0.out 10 (v := .int .i64 Z) rfl
    have y11 := box_cell X0.out 11 (v := .slice a es.length cap) rfl
    clear ha1 ha2 ha hsm hnm hT
    go_enter Tryz.func29, Tryz.ntmps29
    repeat ((fail_if_success (with_reducible show Code.wp _ (Code.region 1 _ _) _ _ _)); (first | go_values | go_skip | go_guarded | go_step | go_upon | go_back | go_simp))
    rw [← hW0]
    clear hW0
    go_wp2_with (first
      | (go_at_call 42; refine (stand_1 _).mono ?_; rintro e wa ⟨rfl, hq⟩; subst hq)
      | (go_at_call 53; refine (clientIs_any _ _).mono ?_; rintro e wa ⟨rfl, hq⟩; subst hq; rw [HI.out])
      | (go_at_call 54; refine (countOk_any _ _).mono ?_; rintro e wa ⟨rfl, hq⟩; subst hq; first | rw [HC1.out] | rw [HC2.out])
      | (go_at_call 55; refine (getOk_any i t 1 ed nm L S a1 a2 c1 c2 ws gs C Z a cap es _ (by exact I1.out) (by exact I2.out) hx hy (by exact I3.out) hl SM.out NM.out HT.out).mono ?_; rintro e w1 ⟨rfl, b1⟩; rw [HO.out]; replace X0 := hid (kept X0.out b1); replace B0 := hid (u_cat B0.out b1); replace I1 := hid (I1.out.below b1); replace I2 := hid (I2.out.below b1); replace I3 := hid (I3.out.below b1); replace HT := hid (HT.out.below b1); clear b1 y0 y1 y2 y3 y4 y5 y6 y7 y8 y9 y10 y11; have y0 := box_cell X0.out 0 (v := .int .i64 i) rfl; have y1 := box_cell X0.out 1 (v := .int .i64 t) rfl; have y2 := box_cell X0.out 2 (v := .int .i64 1) rfl; have y3 := box_cell X0.out 3 (v := .string nm) rfl; have y4 := box_cell X0.out 4 (v := .int .i64 ed) rfl; have y5 := box_cell X0.out 5 (v := .int .i64 L) rfl; have y6 := box_cell X0.out 6 (v := .int .i64 S) rfl; have y7 := box_cell X0.out 7 (v := .slice a1 ws.length c1) rfl; have y8 := box_cell X0.out 8 (v := .slice a2 gs.length c2) rfl; have y9 := box_cell X0.out 9 (v := .int .i64 C) rfl; have y10 := box_cell X0.out 10 (v := .int .i64 Z) rfl; have y11 := box_cell X0.out 11 (v := .slice a es.length cap) rfl)
      | (go_at_call 130; refine (fits_1 i t 1 ed nm L S a1 a2 c1 c2 ws gs C Z a cap es _ (by exact I1.out) (by exact I2.out) hx hy (by exact I3.out) hl SM.out NM.out HT.out).mono ?_; rintro e w1 ⟨rfl, b1⟩; rw [HF.out]; replace X0 := hid (kept X0.out b1); replace B0 := hid (u_cat B0.out b1); replace I1 := hid (I1.out.below b1); replace I2 := hid (I2.out.below b1); replace I3 := hid (I3.out.below b1); replace HT := hid (HT.out.below b1); clear b1 y0 y1 y2 y3 y4 y5 y6 y7 y8 y9 y10 y11; have y0 := box_cell X0.out 0 (v := .int .i64 i) rfl; have y1 := box_cell X0.out 1 (v := .int .i64 t) rfl; have y2 := box_cell X0.out 2 (v := .int .i64 1) rfl; have y3 := box_cell X0.out 3 (v := .string nm) rfl; have y4 := box_cell X0.out 4 (v := .int .i64 ed) rfl; have y5 := box_cell X0.out 5 (v := .int .i64 L) rfl; have y6 := box_cell X0.out 6 (v := .int .i64 S) rfl; have y7 := box_cell X0.out 7 (v := .slice a1 ws.length c1) rfl; have y8 := box_cell X0.out 8 (v := .slice a2 gs.length c2) rfl; have y9 := box_cell X0.out 9 (v := .int .i64 C) rfl; have y10 := box_cell X0.out 10 (v := .int .i64 Z) rfl; have y11 := box_cell X0.out 11 (v := .slice a es.length cap) rfl))
    go_ret
    exact ⟨rfl, B0.out⟩
  by_cases k2 : (0 ≤ ed ∧ ed ≤ 99999)
  case neg =>
    rw [decide_eq_false (show ¬ ((0 ≤ i ∧ i ≤ 3) ∧ (0 ≤ t ∧ t ≤ 99999) ∧ (0 ≤ ed ∧ ed ≤ 99999) ∧ ((ed = 0 ∧ nonP L S ws.length gs.length C Z es.length) ∨ (ed ≠ 0 ∧ getP L S ws gs C Z es)) ∧ ((0 < t ∧ nameB nm = true) ∧ ¬ (getP L S ws gs C Z es ∧ (es.length : Int) = C))) from fun h => by grind)]
    have HI := hid (decide_eq_true k0)
    have HC1 := hid (decide_eq_true k1)
    have HC2 := hid (decide_eq_false k2)
    clear k0 k1 k2
    obtain ⟨W0, hW0⟩ : ∃ W0, W0 = w.alloc (.cells #[.int .i64 i, .int .i64 t, .int .i64 1, .string nm, .int .i64 ed, .int .i64 L, .int .i64 S, .slice a1 ws.length c1, .slice a2 gs.length c2, .int .i64 C, .int .i64 Z, .slice a es.length cap] 40) := ⟨_, rfl⟩
    have X0 := hid (show W0.heap[w.heap.size]? = some (.cells #[.int .i64 i, .int .i64 t, .int .i64 1, .string nm, .int .i64 ed, .int .i64 L, .int .i64 S, .slice a1 ws.length c1, .slice a2 gs.length c2, .int .i64 C, .int .i64 Z, .slice a es.length cap] 40 (0, 0)) by rw [hW0]; exact laid _ _ _)
    have B0 := hid (show Below w.heap.size w W0 by rw [hW0]; exact u_b1 _ _)
    have I1 := hid (ha1.below B0.out)
    have I2 := hid (ha2.below B0.out)
    have I3 := hid (ha.below B0.out)
    have SM := hid hsm
    have NM := hid hnm
    have HT := hid (hT.below B0.out)
    have y0 := box_cell X0.out 0 (v := .int .i64 i) rfl
    have y1 := box_cell X0.out 1 (v := .int .i64 t) rfl
    have y2 := box_cell X0.out 2 (v := .int .i64 1) rfl
    have y3 := box_cell X0.out 3 (v := .string nm) rfl
    have y4 := box_cell X0.out 4 (v := .int .i64 ed) rfl
    have y5 := box_cell X0.out 5 (v := .int .i64 L) rfl
    have y6 := box_cell X0.out 6 (v := .int .i64 S) rfl
    have y7 := box_cell X0.out 7 (v := .slice a1 ws.length c1) rfl
    have y8 := box_cell X0.out 8 (v := .slice a2 gs.length c2) rfl
    have y9 := box_cell X0.out 9 (v := .int .i64 C) rfl
    have y10 := box_cell X0.out 10 (v := .int .i64 Z) rfl
    have y11 := box_cell X0.out 11 (v := .slice a es.length cap) rfl
    clear ha1 ha2 ha hsm hnm hT
    go_enter Tryz.func29, Tryz.ntmps29
    repeat ((fail_if_success (with_reducible show Code.wp _ (Code.region 1 _ _) _ _ _)); (first | go_values | go_skip | go_guarded | go_step | go_upon | go_back | go_simp))
    rw [← hW0]
    clear hW0
    go_wp2_with (first
      | (go_at_call 42; refine (stand_1 _).mono ?_; rintro e wa ⟨rfl, hq⟩; subst hq)
      | (go_at_call 53; refine (clientIs_any _ _).mono ?_; rintro e wa ⟨rfl, hq⟩; subst hq; rw [HI.out])
      | (go_at_call 54; refine (countOk_any _ _).mono ?_; rintro e wa ⟨rfl, hq⟩; subst hq; first | rw [HC1.out] | rw [HC2.out])
      | (go_at_call 55; refine (getOk_any i t 1 ed nm L S a1 a2 c1 c2 ws gs C Z a cap es _ (by exact I1.out) (by exact I2.out) hx hy (by exact I3.out) hl SM.out NM.out HT.out).mono ?_; rintro e w1 ⟨rfl, b1⟩; rw [HO.out]; replace X0 := hid (kept X0.out b1); replace B0 := hid (u_cat B0.out b1); replace I1 := hid (I1.out.below b1); replace I2 := hid (I2.out.below b1); replace I3 := hid (I3.out.below b1); replace HT := hid (HT.out.below b1); clear b1 y0 y1 y2 y3 y4 y5 y6 y7 y8 y9 y10 y11; have y0 := box_cell X0.out 0 (v := .int .i64 i) rfl; have y1 := box_cell X0.out 1 (v := .int .i64 t) rfl; have y2 := box_cell X0.out 2 (v := .int .i64 1) rfl; have y3 := box_cell X0.out 3 (v := .string nm) rfl; have y4 := box_cell X0.out 4 (v := .int .i64 ed) rfl; have y5 := box_cell X0.out 5 (v := .int .i64 L) rfl; have y6 := box_cell X0.out 6 (v := .int .i64 S) rfl; have y7 := box_cell X0.out 7 (v := .slice a1 ws.length c1) rfl; have y8 := box_cell X0.out 8 (v := .slice a2 gs.length c2) rfl; have y9 := box_cell X0.out 9 (v := .int .i64 C) rfl; have y10 := box_cell X0.out 10 (v := .int .i64 Z) rfl; have y11 := box_cell X0.out 11 (v := .slice a es.length cap) rfl)
      | (go_at_call 130; refine (fits_1 i t 1 ed nm L S a1 a2 c1 c2 ws gs C Z a cap es _ (by exact I1.out) (by exact I2.out) hx hy (by exact I3.out) hl SM.out NM.out HT.out).mono ?_; rintro e w1 ⟨rfl, b1⟩; rw [HF.out]; replace X0 := hid (kept X0.out b1); replace B0 := hid (u_cat B0.out b1); replace I1 := hid (I1.out.below b1); replace I2 := hid (I2.out.below b1); replace I3 := hid (I3.out.below b1); replace HT := hid (HT.out.below b1); clear b1 y0 y1 y2 y3 y4 y5 y6 y7 y8 y9 y10 y11; have y0 := box_cell X0.out 0 (v := .int .i64 i) rfl; have y1 := box_cell X0.out 1 (v := .int .i64 t) rfl; have y2 := box_cell X0.out 2 (v := .int .i64 1) rfl; have y3 := box_cell X0.out 3 (v := .string nm) rfl; have y4 := box_cell X0.out 4 (v := .int .i64 ed) rfl; have y5 := box_cell X0.out 5 (v := .int .i64 L) rfl; have y6 := box_cell X0.out 6 (v := .int .i64 S) rfl; have y7 := box_cell X0.out 7 (v := .slice a1 ws.length c1) rfl; have y8 := box_cell X0.out 8 (v := .slice a2 gs.length c2) rfl; have y9 := box_cell X0.out 9 (v := .int .i64 C) rfl; have y10 := box_cell X0.out 10 (v := .int .i64 Z) rfl; have y11 := box_cell X0.out 11 (v := .slice a es.length cap) rfl))
    go_ret
    exact ⟨rfl, B0.out⟩
  by_cases k3 : ((ed = 0 ∧ nonP L S ws.length gs.length C Z es.length) ∨ (ed ≠ 0 ∧ getP L S ws gs C Z es))
  case neg =>
    rw [decide_eq_false (show ¬ ((0 ≤ i ∧ i ≤ 3) ∧ (0 ≤ t ∧ t ≤ 99999) ∧ (0 ≤ ed ∧ ed ≤ 99999) ∧ ((ed = 0 ∧ nonP L S ws.length gs.length C Z es.length) ∨ (ed ≠ 0 ∧ getP L S ws gs C Z es)) ∧ ((0 < t ∧ nameB nm = true) ∧ ¬ (getP L S ws gs C Z es ∧ (es.length : Int) = C))) from fun h => by grind)]
    have HI := hid (decide_eq_true k0)
    have HC1 := hid (decide_eq_true k1)
    have HC2 := hid (decide_eq_true k2)
    have HO := hid (decide_eq_false k3)
    clear k0 k1 k2 k3
    obtain ⟨W0, hW0⟩ : ∃ W0, W0 = w.alloc (.cells #[.int .i64 i, .int .i64 t, .int .i64 1, .string nm, .int .i64 ed, .int .i64 L, .int .i64 S, .slice a1 ws.length c1, .slice a2 gs.length c2, .int .i64 C, .int .i64 Z, .slice a es.length cap] 40) := ⟨_, rfl⟩
    have X0 := hid (show W0.heap[w.heap.size]? = some (.cells #[.int .i64 i, .int .i64 t, .int .i64 1, .string nm, .int .i64 ed, .int .i64 L, .int .i64 S, .slice a1 ws.length c1, .slice a2 gs.length c2, .int .i64 C, .int .i64 Z, .slice a es.length cap] 40 (0, 0)) by rw [hW0]; exact laid _ _ _)
    have B0 := hid (show Below w.heap.size w W0 by rw [hW0]; exact u_b1 _ _)
    have I1 := hid (ha1.below B0.out)
    have I2 := hid (ha2.below B0.out)
    have I3 := hid (ha.below B0.out)
    have SM := hid hsm
    have NM := hid hnm
    have HT := hid (hT.below B0.out)
    have y0 := box_cell X0.out 0 (v := .int .i64 i) rfl
    have y1 := box_cell X0.out 1 (v := .int .i64 t) rfl
    have y2 := box_cell X0.out 2 (v := .int .i64 1) rfl
    have y3 := box_cell X0.out 3 (v := .string nm) rfl
    have y4 := box_cell X0.out 4 (v := .int .i64 ed) rfl
    have y5 := box_cell X0.out 5 (v := .int .i64 L) rfl
    have y6 := box_cell X0.out 6 (v := .int .i64 S) rfl
    have y7 := box_cell X0.out 7 (v := .slice a1 ws.length c1) rfl
    have y8 := box_cell X0.out 8 (v := .slice a2 gs.length c2) rfl
    have y9 := box_cell X0.out 9 (v := .int .i64 C) rfl
    have y10 := box_cell X0.out 10 (v := .int .i64 Z) rfl
    have y11 := box_cell X0.out 11 (v := .slice a es.length cap) rfl
    clear ha1 ha2 ha hsm hnm hT
    go_enter Tryz.func29, Tryz.ntmps29
    repeat ((fail_if_success (with_reducible show Code.wp _ (Code.region 1 _ _) _ _ _)); (first | go_values | go_skip | go_guarded | go_step | go_upon | go_back | go_simp))
    rw [← hW0]
    clear hW0
    go_wp2_with (first
      | (go_at_call 42; refine (stand_1 _).mono ?_; rintro e wa ⟨rfl, hq⟩; subst hq)
      | (go_at_call 53; refine (clientIs_any _ _).mono ?_; rintro e wa ⟨rfl, hq⟩; subst hq; rw [HI.out])
      | (go_at_call 54; refine (countOk_any _ _).mono ?_; rintro e wa ⟨rfl, hq⟩; subst hq; first | rw [HC1.out] | rw [HC2.out])
      | (go_at_call 55; refine (getOk_any i t 1 ed nm L S a1 a2 c1 c2 ws gs C Z a cap es _ (by exact I1.out) (by exact I2.out) hx hy (by exact I3.out) hl SM.out NM.out HT.out).mono ?_; rintro e w1 ⟨rfl, b1⟩; rw [HO.out]; replace X0 := hid (kept X0.out b1); replace B0 := hid (u_cat B0.out b1); replace I1 := hid (I1.out.below b1); replace I2 := hid (I2.out.below b1); replace I3 := hid (I3.out.below b1); replace HT := hid (HT.out.below b1); clear b1 y0 y1 y2 y3 y4 y5 y6 y7 y8 y9 y10 y11; have y0 := box_cell X0.out 0 (v := .int .i64 i) rfl; have y1 := box_cell X0.out 1 (v := .int .i64 t) rfl; have y2 := box_cell X0.out 2 (v := .int .i64 1) rfl; have y3 := box_cell X0.out 3 (v := .string nm) rfl; have y4 := box_cell X0.out 4 (v := .int .i64 ed) rfl; have y5 := box_cell X0.out 5 (v := .int .i64 L) rfl; have y6 := box_cell X0.out 6 (v := .int .i64 S) rfl; have y7 := box_cell X0.out 7 (v := .slice a1 ws.length c1) rfl; have y8 := box_cell X0.out 8 (v := .slice a2 gs.length c2) rfl; have y9 := box_cell X0.out 9 (v := .int .i64 C) rfl; have y10 := box_cell X0.out 10 (v := .int .i64 Z) rfl; have y11 := box_cell X0.out 11 (v := .slice a es.length cap) rfl)
      | (go_at_call 130; refine (fits_1 i t 1 ed nm L S a1 a2 c1 c2 ws gs C Z a cap es _ (by exact I1.out) (by exact I2.out) hx hy (by exact I3.out) hl SM.out NM.out HT.out).mono ?_; rintro e w1 ⟨rfl, b1⟩; rw [HF.out]; replace X0 := hid (kept X0.out b1); replace B0 := hid (u_cat B0.out b1); replace I1 := hid (I1.out.below b1); replace I2 := hid (I2.out.below b1); replace I3 := hid (I3.out.below b1); replace HT := hid (HT.out.below b1); clear b1 y0 y1 y2 y3 y4 y5 y6 y7 y8 y9 y10 y11; have y0 := box_cell X0.out 0 (v := .int .i64 i) rfl; have y1 := box_cell X0.out 1 (v := .int .i64 t) rfl; have y2 := box_cell X0.out 2 (v := .int .i64 1) rfl; have y3 := box_cell X0.out 3 (v := .string nm) rfl; have y4 := box_cell X0.out 4 (v := .int .i64 ed) rfl; have y5 := box_cell X0.out 5 (v := .int .i64 L) rfl; have y6 := box_cell X0.out 6 (v := .int .i64 S) rfl; have y7 := box_cell X0.out 7 (v := .slice a1 ws.length c1) rfl; have y8 := box_cell X0.out 8 (v := .slice a2 gs.length c2) rfl; have y9 := box_cell X0.out 9 (v := .int .i64 C) rfl; have y10 := box_cell X0.out 10 (v := .int .i64 Z) rfl; have y11 := box_cell X0.out 11 (v := .slice a es.length cap) rfl))
    go_ret
    exact ⟨rfl, B0.out⟩
  by_cases k4 : ((0 < t ∧ nameB nm = true) ∧ ¬ (getP L S ws gs C Z es ∧ (es.length : Int) = C))
  case neg =>
    rw [decide_eq_false (show ¬ ((0 ≤ i ∧ i ≤ 3) ∧ (0 ≤ t ∧ t ≤ 99999) ∧ (0 ≤ ed ∧ ed ≤ 99999) ∧ ((ed = 0 ∧ nonP L S ws.length gs.length C Z es.length) ∨ (ed ≠ 0 ∧ getP L S ws gs C Z es)) ∧ ((0 < t ∧ nameB nm = true) ∧ ¬ (getP L S ws gs C Z es ∧ (es.length : Int) = C))) from fun h => by grind)]
    have HI := hid (decide_eq_true k0)
    have HC1 := hid (decide_eq_true k1)
    have HC2 := hid (decide_eq_true k2)
    have HO := hid (decide_eq_true k3)
    have HF := hid (decide_eq_false k4)
    clear k0 k1 k2 k3 k4
    obtain ⟨W0, hW0⟩ : ∃ W0, W0 = w.alloc (.cells #[.int .i64 i, .int .i64 t, .int .i64 1, .string nm, .int .i64 ed, .int .i64 L, .int .i64 S, .slice a1 ws.length c1, .slice a2 gs.length c2, .int .i64 C, .int .i64 Z, .slice a es.length cap] 40) := ⟨_, rfl⟩
    have X0 := hid (show W0.heap[w.heap.size]? = some (.cells #[.int .i64 i, .int .i64 t, .int .i64 1, .string nm, .int .i64 ed, .int .i64 L, .int .i64 S, .slice a1 ws.length c1, .slice a2 gs.length c2, .int .i64 C, .int .i64 Z, .slice a es.length cap] 40 (0, 0)) by rw [hW0]; exact laid _ _ _)
    have B0 := hid (show Below w.heap.size w W0 by rw [hW0]; exact u_b1 _ _)
    have I1 := hid (ha1.below B0.out)
    have I2 := hid (ha2.below B0.out)
    have I3 := hid (ha.below B0.out)
    have SM := hid hsm
    have NM := hid hnm
    have HT := hid (hT.below B0.out)
    have y0 := box_cell X0.out 0 (v := .int .i64 i) rfl
    have y1 := box_cell X0.out 1 (v := .int .i64 t) rfl
    have y2 := box_cell X0.out 2 (v := .int .i64 1) rfl
    have y3 := box_cell X0.out 3 (v := .string nm) rfl
    have y4 := box_cell X0.out 4 (v := .int .i64 ed) rfl
    have y5 := box_cell X0.out 5 (v := .int .i64 L) rfl
    have y6 := box_cell X0.out 6 (v := .int .i64 S) rfl
    have y7 := box_cell X0.out 7 (v := .slice a1 ws.length c1) rfl
    have y8 := box_cell X0.out 8 (v := .slice a2 gs.length c2) rfl
    have y9 := box_cell X0.out 9 (v := .int .i64 C) rfl
    have y10 := box_cell X0.out 10 (v := .int .i64 Z) rfl
    have y11 := box_cell X0.out 11 (v := .slice a es.length cap) rfl
    clear ha1 ha2 ha hsm hnm hT
    go_enter Tryz.func29, Tryz.ntmps29
    repeat ((fail_if_success (with_reducible show Code.wp _ (Code.region 1 _ _) _ _ _)); (first | go_values | go_skip | go_guarded | go_step | go_upon | go_back | go_simp))
    rw [← hW0]
    clear hW0
    go_wp2_with (first
      | (go_at_call 42; refine (stand_1 _).mono ?_; rintro e wa ⟨rfl, hq⟩; subst hq)
      | (go_at_call 53; refine (clientIs_any _ _).mono ?_; rintro e wa ⟨rfl, hq⟩; subst hq; rw [HI.out])
      | (go_at_call 54; refine (countOk_any _ _).mono ?_; rintro e wa ⟨rfl, hq⟩; subst hq; first | rw [HC1.out] | rw [HC2.out])
      | (go_at_call 55; refine (getOk_any i t 1 ed nm L S a1 a2 c1 c2 ws gs C Z a cap es _ (by exact I1.out) (by exact I2.out) hx hy (by exact I3.out) hl SM.out NM.out HT.out).mono ?_; rintro e w1 ⟨rfl, b1⟩; rw [HO.out]; replace X0 := hid (kept X0.out b1); replace B0 := hid (u_cat B0.out b1); replace I1 := hid (I1.out.below b1); replace I2 := hid (I2.out.below b1); replace I3 := hid (I3.out.below b1); replace HT := hid (HT.out.below b1); clear b1 y0 y1 y2 y3 y4 y5 y6 y7 y8 y9 y10 y11; have y0 := box_cell X0.out 0 (v := .int .i64 i) rfl; have y1 := box_cell X0.out 1 (v := .int .i64 t) rfl; have y2 := box_cell X0.out 2 (v := .int .i64 1) rfl; have y3 := box_cell X0.out 3 (v := .string nm) rfl; have y4 := box_cell X0.out 4 (v := .int .i64 ed) rfl; have y5 := box_cell X0.out 5 (v := .int .i64 L) rfl; have y6 := box_cell X0.out 6 (v := .int .i64 S) rfl; have y7 := box_cell X0.out 7 (v := .slice a1 ws.length c1) rfl; have y8 := box_cell X0.out 8 (v := .slice a2 gs.length c2) rfl; have y9 := box_cell X0.out 9 (v := .int .i64 C) rfl; have y10 := box_cell X0.out 10 (v := .int .i64 Z) rfl; have y11 := box_cell X0.out 11 (v := .slice a es.length cap) rfl)
      | (go_at_call 130; refine (fits_1 i t 1 ed nm L S a1 a2 c1 c2 ws gs C Z a cap es _ (by exact I1.out) (by exact I2.out) hx hy (by exact I3.out) hl SM.out NM.out HT.out).mono ?_; rintro e w1 ⟨rfl, b1⟩; rw [HF.out]; replace X0 := hid (kept X0.out b1); replace B0 := hid (u_cat B0.out b1); replace I1 := hid (I1.out.below b1); replace I2 := hid (I2.out.below b1); replace I3 := hid (I3.out.below b1); replace HT := hid (HT.out.below b1); clear b1 y0 y1 y2 y3 y4 y5 y6 y7 y8 y9 y10 y11; have y0 := box_cell X0.out 0 (v := .int .i64 i) rfl; have y1 := box_cell X0.out 1 (v := .int .i64 t) rfl; have y2 := box_cell X0.out 2 (v := .int .i64 1) rfl; have y3 := box_cell X0.out 3 (v := .string nm) rfl; have y4 := box_cell X0.out 4 (v := .int .i64 ed) rfl; have y5 := box_cell X0.out 5 (v := .int .i64 L) rfl; have y6 := box_cell X0.out 6 (v := .int .i64 S) rfl; have y7 := box_cell X0.out 7 (v := .slice a1 ws.length c1) rfl; have y8 := box_cell X0.out 8 (v := .slice a2 gs.length c2) rfl; have y9 := box_cell X0.out 9 (v := .int .i64 C) rfl; have y10 := box_cell X0.out 10 (v := .int .i64 Z) rfl; have y11 := box_cell X0.out 11 (v := .slice a es.length cap) rfl))
    go_ret
    exact ⟨rfl, B0.out⟩
  rw [decide_eq_true (show (0 ≤ i ∧ i ≤ 3) ∧ (0 ≤ t ∧ t ≤ 99999) ∧ (0 ≤ ed ∧ ed ≤ 99999) ∧ ((ed = 0 ∧ nonP L S ws.length gs.length C Z es.length) ∨ (ed ≠ 0 ∧ getP L S ws gs C Z es)) ∧ ((0 < t ∧ nameB nm = true) ∧ ¬ (getP L S ws gs C Z es ∧ (es.length : Int) = C)) by grind)]
  have HI := hid (decide_eq_true k0)
  have HC1 := hid (decide_eq_true k1)
  have HC2 := hid (decide_eq_true k2)
  have HO := hid (decide_eq_true k3)
  have HF := hid (decide_eq_true k4)
  clear k0 k1 k2 k3 k4
  obtain ⟨W0, hW0⟩ : ∃ W0, W0 = w.alloc (.cells #[.int .i64 i, .int .i64 t, .int .i64 1, .string nm, .int .i64 ed, .int .i64 L, .int .i64 S, .slice a1 ws.length c1, .slice a2 gs.length c2, .int .i64 C, .int .i64 Z, .slice a es.length cap] 40) := ⟨_, rfl⟩
  have X0 := hid (show W0.heap[w.heap.size]? = some (.cells #[.int .i64 i, .int .i64 t, .int .i64 1, .string nm, .int .i64 ed, .int .i64 L, .int .i64 S, .slice a1 ws.length c1, .slice a2 gs.length c2, .int .i64 C, .int .i64 Z, .slice a es.length cap] 40 (0, 0)) by rw [hW0]; exact laid _ _ _)
  have B0 := hid (show Below w.heap.size w W0 by rw [hW0]; exact u_b1 _ _)
  have I1 := hid (ha1.below B0.out)
  have I2 := hid (ha2.below B0.out)
  have I3 := hid (ha.below B0.out)
  have SM := hid hsm
  have NM := hid hnm
  have HT := hid (hT.below B0.out)
  have y0 := box_cell X0.out 0 (v := .int .i64 i) rfl
  have y1 := box_cell X0.out 1 (v := .int .i64 t) rfl
  have y2 := box_cell X0.out 2 (v := .int .i64 1) rfl
  have y3 := box_cell X0.out 3 (v := .string nm) rfl
  have y4 := box_cell X0.out 4 (v := .int .i64 ed) rfl
  have y5 := box_cell X0.out 5 (v := .int .i64 L) rfl
  have y6 := box_cell X0.out 6 (v := .int .i64 S) rfl
  have y7 := box_cell X0.out 7 (v := .slice a1 ws.length c1) rfl
  have y8 := box_cell X0.out 8 (v := .slice a2 gs.length c2) rfl
  have y9 := box_cell X0.out 9 (v := .int .i64 C) rfl
  have y10 := box_cell X0.out 10 (v := .int .i64 Z) rfl
  have y11 := box_cell X0.out 11 (v := .slice a es.length cap) rfl
  clear ha1 ha2 ha hsm hnm hT
  go_enter Tryz.func29, Tryz.ntmps29
  repeat ((fail_if_success (with_reducible show Code.wp _ (Code.region 1 _ _) _ _ _)); (first | go_values | go_skip | go_guarded | go_step | go_upon | go_back | go_simp))
  rw [← hW0]
  clear hW0
  go_wp2_with (first
    | (go_at_call 42; refine (stand_1 _).mono ?_; rintro e wa ⟨rfl, hq⟩; subst hq)
    | (go_at_call 53; refine (clientIs_any _ _).mono ?_; rintro e wa ⟨rfl, hq⟩; subst hq; rw [HI.out])
    | (go_at_call 54; refine (countOk_any _ _).mono ?_; rintro e wa ⟨rfl, hq⟩; subst hq; first | rw [HC1.out] | rw [HC2.out])
    | (go_at_call 55; refine (getOk_any i t 1 ed nm L S a1 a2 c1 c2 ws gs C Z a cap es _ (by exact I1.out) (by exact I2.out) hx hy (by exact I3.out) hl SM.out NM.out HT.out).mono ?_; rintro e w1 ⟨rfl, b1⟩; rw [HO.out]; replace X0 := hid (kept X0.out b1); replace B0 := hid (u_cat B0.out b1); replace I1 := hid (I1.out.below b1); replace I2 := hid (I2.out.below b1); replace I3 := hid (I3.out.below b1); replace HT := hid (HT.out.below b1); clear b1 y0 y1 y2 y3 y4 y5 y6 y7 y8 y9 y10 y11; have y0 := box_cell X0.out 0 (v := .int .i64 i) rfl; have y1 := box_cell X0.out 1 (v := .int .i64 t) rfl; have y2 := box_cell X0.out 2 (v := .int .i64 1) rfl; have y3 := box_cell X0.out 3 (v := .string nm) rfl; have y4 := box_cell X0.out 4 (v := .int .i64 ed) rfl; have y5 := box_cell X0.out 5 (v := .int .i64 L) rfl; have y6 := box_cell X0.out 6 (v := .int .i64 S) rfl; have y7 := box_cell X0.out 7 (v := .slice a1 ws.length c1) rfl; have y8 := box_cell X0.out 8 (v := .slice a2 gs.length c2) rfl; have y9 := box_cell X0.out 9 (v := .int .i64 C) rfl; have y10 := box_cell X0.out 10 (v := .int .i64 Z) rfl; have y11 := box_cell X0.out 11 (v := .slice a es.length cap) rfl)
    | (go_at_call 130; refine (fits_1 i t 1 ed nm L S a1 a2 c1 c2 ws gs C Z a cap es _ (by exact I1.out) (by exact I2.out) hx hy (by exact I3.out) hl SM.out NM.out HT.out).mono ?_; rintro e w1 ⟨rfl, b1⟩; rw [HF.out]; replace X0 := hid (kept X0.out b1); replace B0 := hid (u_cat B0.out b1); replace I1 := hid (I1.out.below b1); replace I2 := hid (I2.out.below b1); replace I3 := hid (I3.out.below b1); replace HT := hid (HT.out.below b1); clear b1 y0 y1 y2 y3 y4 y5 y6 y7 y8 y9 y10 y11; have y0 := box_cell X0.out 0 (v := .int .i64 i) rfl; have y1 := box_cell X0.out 1 (v := .int .i64 t) rfl; have y2 := box_cell X0.out 2 (v := .int .i64 1) rfl; have y3 := box_cell X0.out 3 (v := .string nm) rfl; have y4 := box_cell X0.out 4 (v := .int .i64 ed) rfl; have y5 := box_cell X0.out 5 (v := .int .i64 L) rfl; have y6 := box_cell X0.out 6 (v := .int .i64 S) rfl; have y7 := box_cell X0.out 7 (v := .slice a1 ws.length c1) rfl; have y8 := box_cell X0.out 8 (v := .slice a2 gs.length c2) rfl; have y9 := box_cell X0.out 9 (v := .int .i64 C) rfl; have y10 := box_cell X0.out 10 (v := .int .i64 Z) rfl; have y11 := box_cell X0.out 11 (v := .slice a es.length cap) rfl))
  go_ret
  exact ⟨rfl, B0.out⟩
set_option maxHeartbeats 8000000 in
set_option maxRecDepth 100000 in
theorem implCli_2 (i t ed : Int) (nm : ByteArray) (L S : Int) (a1 a2 : Option Addr) (c1 c2 : Nat) (ws gs : List Int) (C Z : Int) (a : Option Addr) (cap : Nat) (es : List EqV) (w : World) (ha1 : IntsAt w a1 ws) (ha2 : IntsAt w a2 gs) (hx : ws.length ≤ 1048576) (hy : gs.length ≤ 1048576) (ha : EqsAt w a es) (hl : es.length ≤ 1048576) (hsm : SmallE es) (hnm : nm.size ≤ maxLen) (hT : Tab w) :
    Calls Tryz.prog 29 #[.agg #[.int .i64 i, .int .i64 t, .int .i64 2, .string nm, .int .i64 ed, .int .i64 L, .int .i64 S, .slice a1 ws.length c1, .slice a2 gs.length c2, .int .i64 C, .int .i64 Z, .slice a es.length cap]] w fun e w' => e = .returned (.bool (decide ((0 ≤ i ∧ i ≤ 3) ∧ (0 ≤ t ∧ t ≤ 99999) ∧ (0 ≤ ed ∧ ed ≤ 99999) ∧ ((ed = 0 ∧ nonP L S ws.length gs.length C Z es.length) ∨ (ed ≠ 0 ∧ getP L S ws gs C Z es)) ∧ ((0 < t ∧ nameB nm = true) ∧ 0 < ed ∧ ¬ (getP L S ws gs C Z es ∧ (es.length : Int) = C))))) ∧ Below w.heap.size w w' := by
  have hm : ∀ w : World, (method 269 93 (.agg #[]) "loop.example/wellhead/impl.fits").run Tryz.prog w = .ok (140, .agg #[]) w := fun _ => by kernel_rfl
  by_cases k0 : (0 ≤ i ∧ i ≤ 3)
  case neg =>
    rw [decide_eq_false (show ¬ ((0 ≤ i ∧ i ≤ 3) ∧ (0 ≤ t ∧ t ≤ 99999) ∧ (0 ≤ ed ∧ ed ≤ 99999) ∧ ((ed = 0 ∧ nonP L S ws.length gs.length C Z es.length) ∨ (ed ≠ 0 ∧ getP L S ws gs C Z es)) ∧ ((0 < t ∧ nameB nm = true) ∧ 0 < ed ∧ ¬ (getP L S ws gs C Z es ∧ (es.length : Int) = C))) from fun h => by grind)]
    have HI := hid (decide_eq_false k0)
    clear k0
    obtain ⟨W0, hW0⟩ : ∃ W0, W0 = w.alloc (.cells #[.int .i64 i, .int .i64 t, .int .i64 2, .string nm, .int .i64 ed, .int .i64 L, .int .i64 S, .slice a1 ws.length c1, .slice a2 gs.length c2, .int .i64 C, .int .i64 Z, .slice a es.length cap] 40) := ⟨_, rfl⟩
    have X0 := hid (show W0.heap[w.heap.size]? = some (.cells #[.int .i64 i, .int .i64 t, .int .i64 2, .string nm, .int .i64 ed, .int .i64 L, .int .i64 S, .slice a1 ws.length c1, .slice a2 gs.length c2, .int .i64 C, .int .i64 Z, .slice a es.length cap] 40 (0, 0)) by rw [hW0]; exact laid _ _ _)
    have B0 := hid (show Below w.heap.size w W0 by rw [hW0]; exact u_b1 _ _)
    have I1 := hid (ha1.below B0.out)
    have I2 := hid (ha2.below B0.out)
    have I3 := hid (ha.below B0.out)
    have SM := hid hsm
    have NM := hid hnm
    have HT := hid (hT.below B0.out)
    have y0 := box_cell X0.out 0 (v := .int .i64 i) rfl
    have y1 := box_cell X0.out 1 (v := .int .i64 t) rfl
    have y2 := box_cell X0.out 2 (v := .int .i64 2) rfl
    have y3 := box_cell X0.out 3 (v := .string nm) rfl
    have y4 := box_cell X0.out 4 (v := .int .i64 ed) rfl
    have y5 := box_cell X0.out 5 (v := .int .i64 L) rfl
    have y6 := box_cell X0.out 6 (v := .int .i64 S) rfl
    have y7 := box_cell X0.out 7 (v := .slice a1 ws.length c1) rfl
    have y8 := box_cell X0.out 8 (v := .slice a2 gs.length c2) rfl
    have y9 := box_cell X0.out 9 (v := .int .i64 C) rfl
    have y10 := box_cell X0.out 10 (v := .int .i64 Z) rfl
    have y11 := box_cell X0.out 11 (v := .slice a es.length cap) rfl
    clear ha1 ha2 ha hsm hnm hT
    go_enter Tryz.func29, Tryz.ntmps29
    repeat ((fail_if_success (with_reducible show Code.wp _ (Code.region 1 _ _) _ _ _)); (first | go_values | go_skip | go_guarded | go_step | go_upon | go_back | go_simp))
    rw [← hW0]
    clear hW0
    go_wp2_with (first
      | (go_at_call 42; refine (stand_2 _).mono ?_; rintro e wa ⟨rfl, hq⟩; subst hq)
      | (go_at_call 53; refine (clientIs_any _ _).mono ?_; rintro e wa ⟨rfl, hq⟩; subst hq; rw [HI.out])
      | (go_at_call 54; refine (countOk_any _ _).mono ?_; rintro e wa ⟨rfl, hq⟩; subst hq; first | rw [HC1.out] | rw [HC2.out])
      | (go_at_call 55; refine (getOk_any i t 2 ed nm L S a1 a2 c1 c2 ws gs C Z a cap es _ (by exact I1.out) (by exact I2.out) hx hy (by exact I3.out) hl SM.out NM.out HT.out).mono ?_; rintro e w1 ⟨rfl, b1⟩; rw [HO.out]; replace X0 := hid (kept X0.out b1); replace B0 := hid (u_cat B0.out b1); replace I1 := hid (I1.out.below b1); replace I2 := hid (I2.out.below b1); replace I3 := hid (I3.out.below b1); replace HT := hid (HT.out.below b1); clear b1 y0 y1 y2 y3 y4 y5 y6 y7 y8 y9 y10 y11; have y0 := box_cell X0.out 0 (v := .int .i64 i) rfl; have y1 := box_cell X0.out 1 (v := .int .i64 t) rfl; have y2 := box_cell X0.out 2 (v := .int .i64 2) rfl; have y3 := box_cell X0.out 3 (v := .string nm) rfl; have y4 := box_cell X0.out 4 (v := .int .i64 ed) rfl; have y5 := box_cell X0.out 5 (v := .int .i64 L) rfl; have y6 := box_cell X0.out 6 (v := .int .i64 S) rfl; have y7 := box_cell X0.out 7 (v := .slice a1 ws.length c1) rfl; have y8 := box_cell X0.out 8 (v := .slice a2 gs.length c2) rfl; have y9 := box_cell X0.out 9 (v := .int .i64 C) rfl; have y10 := box_cell X0.out 10 (v := .int .i64 Z) rfl; have y11 := box_cell X0.out 11 (v := .slice a es.length cap) rfl)
      | (go_at_call 140; refine (fits_2 i t 2 ed nm L S a1 a2 c1 c2 ws gs C Z a cap es _ (by exact I1.out) (by exact I2.out) hx hy (by exact I3.out) hl SM.out NM.out HT.out).mono ?_; rintro e w1 ⟨rfl, b1⟩; rw [HF.out]; replace X0 := hid (kept X0.out b1); replace B0 := hid (u_cat B0.out b1); replace I1 := hid (I1.out.below b1); replace I2 := hid (I2.out.below b1); replace I3 := hid (I3.out.below b1); replace HT := hid (HT.out.below b1); clear b1 y0 y1 y2 y3 y4 y5 y6 y7 y8 y9 y10 y11; have y0 := box_cell X0.out 0 (v := .int .i64 i) rfl; have y1 := box_cell X0.out 1 (v := .int .i64 t) rfl; have y2 := box_cell X0.out 2 (v := .int .i64 2) rfl; have y3 := box_cell X0.out 3 (v := .string nm) rfl; have y4 := box_cell X0.out 4 (v := .int .i64 ed) rfl; have y5 := box_cell X0.out 5 (v := .int .i64 L) rfl; have y6 := box_cell X0.out 6 (v := .int .i64 S) rfl; have y7 := box_cell X0.out 7 (v := .slice a1 ws.length c1) rfl; have y8 := box_cell X0.out 8 (v := .slice a2 gs.length c2) rfl; have y9 := box_cell X0.out 9 (v := .int .i64 C) rfl; have y10 := box_cell X0.out 10 (v := .int .i64 Z) rfl; have y11 := box_cell X0.out 11 (v := .slice a es.length cap) rfl))
    go_ret
    exact ⟨rfl, B0.out⟩
  by_cases k1 : (0 ≤ t ∧ t ≤ 99999)
  case neg =>
    rw [decide_eq_false (show ¬ ((0 ≤ i ∧ i ≤ 3) ∧ (0 ≤ t ∧ t ≤ 99999) ∧ (0 ≤ ed ∧ ed ≤ 99999) ∧ ((ed = 0 ∧ nonP L S ws.length gs.length C Z es.length) ∨ (ed ≠ 0 ∧ getP L S ws gs C Z es)) ∧ ((0 < t ∧ nameB nm = true) ∧ 0 < ed ∧ ¬ (getP L S ws gs C Z es ∧ (es.length : Int) = C))) from fun h => by grind)]
    have HI := hid (decide_eq_true k0)
    have HC1 := hid (decide_eq_false k1)
    clear k0 k1
    obtain ⟨W0, hW0⟩ : ∃ W0, W0 = w.alloc (.cells #[.int .i64 i, .int .i64 t, .int .i64 2, .string nm, .int .i64 ed, .int .i64 L, .int .i64 S, .slice a1 ws.length c1, .slice a2 gs.length c2, .int .i64 C, .int .i64 Z, .slice a es.length cap] 40) := ⟨_, rfl⟩
    have X0 := hid (show W0.heap[w.heap.size]? = some (.cells #[.int .i64 i, .int .i64 t, .int .i64 2, .string nm, .int .i64 ed, .int .i64 L, .int .i64 S, .slice a1 ws.length c1, .slice a2 gs.length c2, .int .i64 C, .int .i64 Z, .slice a es.length cap] 40 (0, 0)) by rw [hW0]; exact laid _ _ _)
    have B0 := hid (show Below w.heap.size w W0 by rw [hW0]; exact u_b1 _ _)
    have I1 := hid (ha1.below B0.out)
    have I2 := hid (ha2.below B0.out)
    have I3 := hid (ha.below B0.out)
    have SM := hid hsm
    have NM := hid hnm
    have HT := hid (hT.below B0.out)
    have y0 := box_cell X0.out 0 (v := .int .i64 i) rfl
    have y1 := box_cell X0.out 1 (v := .int .i64 t) rfl
    have y2 := box_cell X0.out 2 (v := .int .i64 2) rfl
    have y3 := box_cell X0.out 3 (v := .string nm) rfl
    have y4 := box_cell X0.out 4 (v := .int .i64 ed) rfl
    have y5 := box_cell X0.out 5 (v := .int .i64 L) rfl
    have y6 := box_cell X0.out 6 (v := .int .i64 S) rfl
    have y7 := box_cell X0.out 7 (v := .slice a1 ws.length c1) rfl
    have y8 := box_cell X0.out 8 (v := .slice a2 gs.length c2) rfl
    have y9 := box_cell X0.out 9 (v := .int .i64 C) rfl
    have y10 := box_cell X0.out 10 (v := .int .i64 Z) rfl
    have y11 := box_cell X0.out 11 (v := .slice a es.length cap) rfl
    clear ha1 ha2 ha hsm hnm hT
    go_enter Tryz.func29, Tryz.ntmps29
    repeat ((fail_if_success (with_reducible show Code.wp _ (Code.region 1 _ _) _ _ _)); (first | go_values | go_skip | go_guarded | go_step | go_upon | go_back | go_simp))
    rw [← hW0]
    clear hW0
    go_wp2_with (first
      | (go_at_call 42; refine (stand_2 _).mono ?_; rintro e wa ⟨rfl, hq⟩; subst hq)
      | (go_at_call 53; refine (clientIs_any _ _).mono ?_; rintro e wa ⟨rfl, hq⟩; subst hq; rw [HI.out])
      | (go_at_call 54; refine (countOk_any _ _).mono ?_; rintro e wa ⟨rfl, hq⟩; subst hq; first | rw [HC1.out] | rw [HC2.out])
      | (go_at_call 55; refine (getOk_any i t 2 ed nm L S a1 a2 c1 c2 ws gs C Z a cap es _ (by exact I1.out) (by exact I2.out) hx hy (by exact I3.out) hl SM.out NM.out HT.out).mono ?_; rintro e w1 ⟨rfl, b1⟩; rw [HO.out]; replace X0 := hid (kept X0.out b1); replace B0 := hid (u_cat B0.out b1); replace I1 := hid (I1.out.below b1); replace I2 := hid (I2.out.below b1); replace I3 := hid (I3.out.below b1); replace HT := hid (HT.out.below b1); clear b1 y0 y1 y2 y3 y4 y5 y6 y7 y8 y9 y10 y11; have y0 := box_cell X0.out 0 (v := .int .i64 i) rfl; have y1 := box_cell X0.out 1 (v := .int .i64 t) rfl; have y2 := box_cell X0.out 2 (v := .int .i64 2) rfl; have y3 := box_cell X0.out 3 (v := .string nm) rfl; have y4 := box_cell X0.out 4 (v := .int .i64 ed) rfl; have y5 := box_cell X0.out 5 (v := .int .i64 L) rfl; have y6 := box_cell X0.out 6 (v := .int .i64 S) rfl; have y7 := box_cell X0.out 7 (v := .slice a1 ws.length c1) rfl; have y8 := box_cell X0.out 8 (v := .slice a2 gs.length c2) rfl; have y9 := box_cell X0.out 9 (v := .int .i64 C) rfl; have y10 := box_cell X0.out 10 (v := .int .i64 Z) rfl; have y11 := box_cell X0.out 11 (v := .slice a es.length cap) rfl)
      | (go_at_call 140; refine (fits_2 i t 2 ed nm L S a1 a2 c1 c2 ws gs C Z a cap es _ (by exact I1.out) (by exact I2.out) hx hy (by exact I3.out) hl SM.out NM.out HT.out).mono ?_; rintro e w1 ⟨rfl, b1⟩; rw [HF.out]; replace X0 := hid (kept X0.out b1); replace B0 := hid (u_cat B0.out b1); replace I1 := hid (I1.out.below b1); replace I2 := hid (I2.out.below b1); replace I3 := hid (I3.out.below b1); replace HT := hid (HT.out.below b1); clear b1 y0 y1 y2 y3 y4 y5 y6 y7 y8 y9 y10 y11; have y0 := box_cell X0.out 0 (v := .int .i64 i) rfl; have y1 := box_cell X0.out 1 (v := .int .i64 t) rfl; have y2 := box_cell X0.out 2 (v := .int .i64 2) rfl; have y3 := box_cell X0.out 3 (v := .string nm) rfl; have y4 := box_cell X0.out 4 (v := .int .i64 ed) rfl; have y5 := box_cell X0.out 5 (v := .int .i64 L) rfl; have y6 := box_cell X0.out 6 (v := .int .i64 S) rfl; have y7 := box_cell X0.out 7 (v := .slice a1 ws.length c1) rfl; have y8 := box_cell X0.out 8 (v := .slice a2 gs.length c2) rfl; have y9 := box_cell X0.out 9 (v := .int .i64 C) rfl; have y10 := box_cell X0.out 10 (v := .int .i64 Z) rfl; have y11 := box_cell X0.out 11 (v := .slice a es.length cap) rfl))
    go_ret
    exact ⟨rfl, B0.out⟩
  by_cases k2 : (0 ≤ ed ∧ ed ≤ 99999)
  case neg =>
    rw [decide_eq_false (show ¬ ((0 ≤ i ∧ i ≤ 3) ∧ (0 ≤ t ∧ t ≤ 99999) ∧ (0 ≤ ed ∧ ed ≤ 99999) ∧ ((ed = 0 ∧ nonP L S ws.length gs.length C Z es.length) ∨ (ed ≠ 0 ∧ getP L S ws gs C Z es)) ∧ ((0 < t ∧ nameB nm = true) ∧ 0 < ed ∧ ¬ (getP L S ws gs C Z es ∧ (es.length : Int) = C))) from fun h => by grind)]
    have HI := hid (decide_eq_true k0)
    have HC1 := hid (decide_eq_true k1)
    have HC2 := hid (decide_eq_false k2)
    clear k0 k1 k2
    obtain ⟨W0, hW0⟩ : ∃ W0, W0 = w.alloc (.cells #[.int .i64 i, .int .i64 t, .int .i64 2, .string nm, .int .i64 ed, .int .i64 L, .int .i64 S, .slice a1 ws.length c1, .slice a2 gs.length c2, .int .i64 C, .int .i64 Z, .slice a es.length cap] 40) := ⟨_, rfl⟩
    have X0 := hid (show W0.heap[w.heap.size]? = some (.cells #[.int .i64 i, .int .i64 t, .int .i64 2, .string nm, .int .i64 ed, .int .i64 L, .int .i64 S, .slice a1 ws.length c1, .slice a2 gs.length c2, .int .i64 C, .int .i64 Z, .slice a es.length cap] 40 (0, 0)) by rw [hW0]; exact laid _ _ _)
    have B0 := hid (show Below w.heap.size w W0 by rw [hW0]; exact u_b1 _ _)
    have I1 := hid (ha1.below B0.out)
    have I2 := hid (ha2.below B0.out)
    have I3 := hid (ha.below B0.out)
    have SM := hid hsm
    have NM := hid hnm
    have HT := hid (hT.below B0.out)
    have y0 := box_cell X0.out 0 (v := .int .i64 i) rfl
    have y1 := box_cell X0.out 1 (v := .int .i64 t) rfl
    have y2 := box_cell X0.out 2 (v := .int .i64 2) rfl
    have y3 := box_cell X0.out 3 (v := .string nm) rfl
    have y4 := box_cell X0.out 4 (v := .int .i64 ed) rfl
    have y5 := box_cell X0.out 5 (v := .int .i64 L) rfl
    have y6 := box_cell X0.out 6 (v := .int .i64 S) rfl
    have y7 := box_cell X0.out 7 (v := .slice a1 ws.length c1) rfl
    have y8 := box_cell X0.out 8 (v := .slice a2 gs.length c2) rfl
    have y9 := box_cell X0.out 9 (v := .int .i64 C) rfl
    have y10 := box_cell X0.out 10 (v := .int .i64 Z) rfl
    have y11 := box_cell X0.out 11 (v := .slice a es.length cap) rfl
    clear ha1 ha2 ha hsm hnm hT
    go_enter Tryz.func29, Tryz.ntmps29
    repeat ((fail_if_success (with_reducible show Code.wp _ (Code.region 1 _ _) _ _ _)); (first | go_values | go_skip | go_guarded | go_step | go_upon | go_back | go_simp))
    rw [← hW0]
    clear hW0
    go_wp2_with (first
      | (go_at_call 42; refine (stand_2 _).mono ?_; rintro e wa ⟨rfl, hq⟩; subst hq)
      | (go_at_call 53; refine (clientIs_any _ _).mono ?_; rintro e wa ⟨rfl, hq⟩; subst hq; rw [HI.out])
      | (go_at_call 54; refine (countOk_any _ _).mono ?_; rintro e wa ⟨rfl, hq⟩; subst hq; first | rw [HC1.out] | rw [HC2.out])
      | (go_at_call 55; refine (getOk_any i t 2 ed nm L S a1 a2 c1 c2 ws gs C Z a cap es _ (by exact I1.out) (by exact I2.out) hx hy (by exact I3.out) hl SM.out NM.out HT.out).mono ?_; rintro e w1 ⟨rfl, b1⟩; rw [HO.out]; replace X0 := hid (kept X0.out b1); replace B0 := hid (u_cat B0.out b1); replace I1 := hid (I1.out.below b1); replace I2 := hid (I2.out.below b1); replace I3 := hid (I3.out.below b1); replace HT := hid (HT.out.below b1); clear b1 y0 y1 y2 y3 y4 y5 y6 y7 y8 y9 y10 y11; have y0 := box_cell X0.out 0 (v := .int .i64 i) rfl; have y1 := box_cell X0.out 1 (v := .int .i64 t) rfl; have y2 := box_cell X0.out 2 (v := .int .i64 2) rfl; have y3 := box_cell X0.out 3 (v := .string nm) rfl; have y4 := box_cell X0.out 4 (v := .int .i64 ed) rfl; have y5 := box_cell X0.out 5 (v := .int .i64 L) rfl; have y6 := box_cell X0.out 6 (v := .int .i64 S) rfl; have y7 := box_cell X0.out 7 (v := .slice a1 ws.length c1) rfl; have y8 := box_cell X0.out 8 (v := .slice a2 gs.length c2) rfl; have y9 := box_cell X0.out 9 (v := .int .i64 C) rfl; have y10 := box_cell X0.out 10 (v := .int .i64 Z) rfl; have y11 := box_cell X0.out 11 (v := .slice a es.length cap) rfl)
      | (go_at_call 140; refine (fits_2 i t 2 ed nm L S a1 a2 c1 c2 ws gs C Z a cap es _ (by exact I1.out) (by exact I2.out) hx hy (by exact I3.out) hl SM.out NM.out HT.out).mono ?_; rintro e w1 ⟨rfl, b1⟩; rw [HF.out]; replace X0 := hid (kept X0.out b1); replace B0 := hid (u_cat B0.out b1); replace I1 := hid (I1.out.below b1); replace I2 := hid (I2.out.below b1); replace I3 := hid (I3.out.below b1); replace HT := hid (HT.out.below b1); clear b1 y0 y1 y2 y3 y4 y5 y6 y7 y8 y9 y10 y11; have y0 := box_cell X0.out 0 (v := .int .i64 i) rfl; have y1 := box_cell X0.out 1 (v := .int .i64 t) rfl; have y2 := box_cell X0.out 2 (v := .int .i64 2) rfl; have y3 := box_cell X0.out 3 (v := .string nm) rfl; have y4 := box_cell X0.out 4 (v := .int .i64 ed) rfl; have y5 := box_cell X0.out 5 (v := .int .i64 L) rfl; have y6 := box_cell X0.out 6 (v := .int .i64 S) rfl; have y7 := box_cell X0.out 7 (v := .slice a1 ws.length c1) rfl; have y8 := box_cell X0.out 8 (v := .slice a2 gs.length c2) rfl; have y9 := box_cell X0.out 9 (v := .int .i64 C) rfl; have y10 := box_cell X0.out 10 (v := .int .i64 Z) rfl; have y11 := box_cell X0.out 11 (v := .slice a es.length cap) rfl))
    go_ret
    exact ⟨rfl, B0.out⟩
  by_cases k3 : ((ed = 0 ∧ nonP L S ws.length gs.length C Z es.length) ∨ (ed ≠ 0 ∧ getP L S ws gs C Z es))
  case neg =>
    rw [decide_eq_false (show ¬ ((0 ≤ i ∧ i ≤ 3) ∧ (0 ≤ t ∧ t ≤ 99999) ∧ (0 ≤ ed ∧ ed ≤ 99999) ∧ ((ed = 0 ∧ nonP L S ws.length gs.length C Z es.length) ∨ (ed ≠ 0 ∧ getP L S ws gs C Z es)) ∧ ((0 < t ∧ nameB nm = true) ∧ 0 < ed ∧ ¬ (getP L S ws gs C Z es ∧ (es.length : Int) = C))) from fun h => by grind)]
    have HI := hid (decide_eq_true k0)
    have HC1 := hid (decide_eq_true k1)
    have HC2 := hid (decide_eq_true k2)
    have HO := hid (decide_eq_false k3)
    clear k0 k1 k2 k3
    obtain ⟨W0, hW0⟩ : ∃ W0, W0 = w.alloc (.cells #[.int .i64 i, .int .i64 t, .int .i64 2, .string nm, .int .i64 ed, .int .i64 L, .int .i64 S, .slice a1 ws.length c1, .slice a2 gs.length c2, .int .i64 C, .int .i64 Z, .slice a es.length cap] 40) := ⟨_, rfl⟩
    have X0 := hid (show W0.heap[w.heap.size]? = some (.cells #[.int .i64 i, .int .i64 t, .int .i64 2, .string nm, .int .i64 ed, .int .i64 L, .int .i64 S, .slice a1 ws.length c1, .slice a2 gs.length c2, .int .i64 C, .int .i64 Z, .slice a es.length cap] 40 (0, 0)) by rw [hW0]; exact laid _ _ _)
    have B0 := hid (show Below w.heap.size w W0 by rw [hW0]; exact u_b1 _ _)
    have I1 := hid (ha1.below B0.out)
    have I2 := hid (ha2.below B0.out)
    have I3 := hid (ha.below B0.out)
    have SM := hid hsm
    have NM := hid hnm
    have HT := hid (hT.below B0.out)
    have y0 := box_cell X0.out 0 (v := .int .i64 i) rfl
    have y1 := box_cell X0.out 1 (v := .int .i64 t) rfl
    have y2 := box_cell X0.out 2 (v := .int .i64 2) rfl
    have y3 := box_cell X0.out 3 (v := .string nm) rfl
    have y4 := box_cell X0.out 4 (v := .int .i64 ed) rfl
    have y5 := box_cell X0.out 5 (v := .int .i64 L) rfl
    have y6 := box_cell X0.out 6 (v := .int .i64 S) rfl
    have y7 := box_cell X0.out 7 (v := .slice a1 ws.length c1) rfl
    have y8 := box_cell X0.out 8 (v := .slice a2 gs.length c2) rfl
    have y9 := box_cell X0.out 9 (v := .int .i64 C) rfl
    have y10 := box_cell X0.out 10 (v := .int .i64 Z) rfl
    have y11 := box_cell X0.out 11 (v := .slice a es.length cap) rfl
    clear ha1 ha2 ha hsm hnm hT
    go_enter Tryz.func29, Tryz.ntmps29
    repeat ((fail_if_success (with_reducible show Code.wp _ (Code.region 1 _ _) _ _ _)); (first | go_values | go_skip | go_guarded | go_step | go_upon | go_back | go_simp))
    rw [← hW0]
    clear hW0
    go_wp2_with (first
      | (go_at_call 42; refine (stand_2 _).mono ?_; rintro e wa ⟨rfl, hq⟩; subst hq)
      | (go_at_call 53; refine (clientIs_any _ _).mono ?_; rintro e wa ⟨rfl, hq⟩; subst hq; rw [HI.out])
      | (go_at_call 54; refine (countOk_any _ _).mono ?_; rintro e wa ⟨rfl, hq⟩; subst hq; first | rw [HC1.out] | rw [HC2.out])
      | (go_at_call 55; refine (getOk_any i t 2 ed nm L S a1 a2 c1 c2 ws gs C Z a cap es _ (by exact I1.out) (by exact I2.out) hx hy (by exact I3.out) hl SM.out NM.out HT.out).mono ?_; rintro e w1 ⟨rfl, b1⟩; rw [HO.out]; replace X0 := hid (kept X0.out b1); replace B0 := hid (u_cat B0.out b1); replace I1 := hid (I1.out.below b1); replace I2 := hid (I2.out.below b1); replace I3 := hid (I3.out.below b1); replace HT := hid (HT.out.below b1); clear b1 y0 y1 y2 y3 y4 y5 y6 y7 y8 y9 y10 y11; have y0 := box_cell X0.out 0 (v := .int .i64 i) rfl; have y1 := box_cell X0.out 1 (v := .int .i64 t) rfl; have y2 := box_cell X0.out 2 (v := .int .i64 2) rfl; have y3 := box_cell X0.out 3 (v := .string nm) rfl; have y4 := box_cell X0.out 4 (v := .int .i64 ed) rfl; have y5 := box_cell X0.out 5 (v := .int .i64 L) rfl; have y6 := box_cell X0.out 6 (v := .int .i64 S) rfl; have y7 := box_cell X0.out 7 (v := .slice a1 ws.length c1) rfl; have y8 := box_cell X0.out 8 (v := .slice a2 gs.length c2) rfl; have y9 := box_cell X0.out 9 (v := .int .i64 C) rfl; have y10 := box_cell X0.out 10 (v := .int .i64 Z) rfl; have y11 := box_cell X0.out 11 (v := .slice a es.length cap) rfl)
      | (go_at_call 140; refine (fits_2 i t 2 ed nm L S a1 a2 c1 c2 ws gs C Z a cap es _ (by exact I1.out) (by exact I2.out) hx hy (by exact I3.out) hl SM.out NM.out HT.out).mono ?_; rintro e w1 ⟨rfl, b1⟩; rw [HF.out]; replace X0 := hid (kept X0.out b1); replace B0 := hid (u_cat B0.out b1); replace I1 := hid (I1.out.below b1); replace I2 := hid (I2.out.below b1); replace I3 := hid (I3.out.below b1); replace HT := hid (HT.out.below b1); clear b1 y0 y1 y2 y3 y4 y5 y6 y7 y8 y9 y10 y11; have y0 := box_cell X0.out 0 (v := .int .i64 i) rfl; have y1 := box_cell X0.out 1 (v := .int .i64 t) rfl; have y2 := box_cell X0.out 2 (v := .int .i64 2) rfl; have y3 := box_cell X0.out 3 (v := .string nm) rfl; have y4 := box_cell X0.out 4 (v := .int .i64 ed) rfl; have y5 := box_cell X0.out 5 (v := .int .i64 L) rfl; have y6 := box_cell X0.out 6 (v := .int .i64 S) rfl; have y7 := box_cell X0.out 7 (v := .slice a1 ws.length c1) rfl; have y8 := box_cell X0.out 8 (v := .slice a2 gs.length c2) rfl; have y9 := box_cell X0.out 9 (v := .int .i64 C) rfl; have y10 := box_cell X0.out 10 (v := .int .i64 Z) rfl; have y11 := box_cell X0.out 11 (v := .slice a es.length cap) rfl))
    go_ret
    exact ⟨rfl, B0.out⟩
  by_cases k4 : ((0 < t ∧ nameB nm = true) ∧ 0 < ed ∧ ¬ (getP L S ws gs C Z es ∧ (es.length : Int) = C))
  case neg =>
    rw [decide_eq_false (show ¬ ((0 ≤ i ∧ i ≤ 3) ∧ (0 ≤ t ∧ t ≤ 99999) ∧ (0 ≤ ed ∧ ed ≤ 99999) ∧ ((ed = 0 ∧ nonP L S ws.length gs.length C Z es.length) ∨ (ed ≠ 0 ∧ getP L S ws gs C Z es)) ∧ ((0 < t ∧ nameB nm = true) ∧ 0 < ed ∧ ¬ (getP L S ws gs C Z es ∧ (es.length : Int) = C))) from fun h => by grind)]
    have HI := hid (decide_eq_true k0)
    have HC1 := hid (decide_eq_true k1)
    have HC2 := hid (decide_eq_true k2)
    have HO := hid (decide_eq_true k3)
    have HF := hid (decide_eq_false k4)
    clear k0 k1 k2 k3 k4
    obtain ⟨W0, hW0⟩ : ∃ W0, W0 = w.alloc (.cells #[.int .i64 i, .int .i64 t, .int .i64 2, .string nm, .int .i64 ed, .int .i64 L, .int .i64 S, .slice a1 ws.length c1, .slice a2 gs.length c2, .int .i64 C, .int .i64 Z, .slice a es.length cap] 40) := ⟨_, rfl⟩
    have X0 := hid (show W0.heap[w.heap.size]? = some (.cells #[.int .i64 i, .int .i64 t, .int .i64 2, .string nm, .int .i64 ed, .int .i64 L, .int .i64 S, .slice a1 ws.length c1, .slice a2 gs.length c2, .int .i64 C, .int .i64 Z, .slice a es.length cap] 40 (0, 0)) by rw [hW0]; exact laid _ _ _)
    have B0 := hid (show Below w.heap.size w W0 by rw [hW0]; exact u_b1 _ _)
    have I1 := hid (ha1.below B0.out)
    have I2 := hid (ha2.below B0.out)
    have I3 := hid (ha.below B0.out)
    have SM := hid hsm
    have NM := hid hnm
    have HT := hid (hT.below B0.out)
    have y0 := box_cell X0.out 0 (v := .int .i64 i) rfl
    have y1 := box_cell X0.out 1 (v := .int .i64 t) rfl
    have y2 := box_cell X0.out 2 (v := .int .i64 2) rfl
    have y3 := box_cell X0.out 3 (v := .string nm) rfl
    have y4 := box_cell X0.out 4 (v := .int .i64 ed) rfl
    have y5 := box_cell X0.out 5 (v := .int .i64 L) rfl
    have y6 := box_cell X0.out 6 (v := .int .i64 S) rfl
    have y7 := box_cell X0.out 7 (v := .slice a1 ws.length c1) rfl
    have y8 := box_cell X0.out 8 (v := .slice a2 gs.length c2) rfl
    have y9 := box_cell X0.out 9 (v := .int .i64 C) rfl
    have y10 := box_cell X0.out 10 (v := .int .i64 Z) rfl
    have y11 := box_cell X0.out 11 (v := .slice a es.length cap) rfl
    clear ha1 ha2 ha hsm hnm hT
    go_enter Tryz.func29, Tryz.ntmps29
    repeat ((fail_if_success (with_reducible show Code.wp _ (Code.region 1 _ _) _ _ _)); (first | go_values | go_skip | go_guarded | go_step | go_upon | go_back | go_simp))
    rw [← hW0]
    clear hW0
    go_wp2_with (first
      | (go_at_call 42; refine (stand_2 _).mono ?_; rintro e wa ⟨rfl, hq⟩; subst hq)
      | (go_at_call 53; refine (clientIs_any _ _).mono ?_; rintro e wa ⟨rfl, hq⟩; subst hq; rw [HI.out])
      | (go_at_call 54; refine (countOk_any _ _).mono ?_; rintro e wa ⟨rfl, hq⟩; subst hq; first | rw [HC1.out] | rw [HC2.out])
      | (go_at_call 55; refine (getOk_any i t 2 ed nm L S a1 a2 c1 c2 ws gs C Z a cap es _ (by exact I1.out) (by exact I2.out) hx hy (by exact I3.out) hl SM.out NM.out HT.out).mono ?_; rintro e w1 ⟨rfl, b1⟩; rw [HO.out]; replace X0 := hid (kept X0.out b1); replace B0 := hid (u_cat B0.out b1); replace I1 := hid (I1.out.below b1); replace I2 := hid (I2.out.below b1); replace I3 := hid (I3.out.below b1); replace HT := hid (HT.out.below b1); clear b1 y0 y1 y2 y3 y4 y5 y6 y7 y8 y9 y10 y11; have y0 := box_cell X0.out 0 (v := .int .i64 i) rfl; have y1 := box_cell X0.out 1 (v := .int .i64 t) rfl; have y2 := box_cell X0.out 2 (v := .int .i64 2) rfl; have y3 := box_cell X0.out 3 (v := .string nm) rfl; have y4 := box_cell X0.out 4 (v := .int .i64 ed) rfl; have y5 := box_cell X0.out 5 (v := .int .i64 L) rfl; have y6 := box_cell X0.out 6 (v := .int .i64 S) rfl; have y7 := box_cell X0.out 7 (v := .slice a1 ws.length c1) rfl; have y8 := box_cell X0.out 8 (v := .slice a2 gs.length c2) rfl; have y9 := box_cell X0.out 9 (v := .int .i64 C) rfl; have y10 := box_cell X0.out 10 (v := .int .i64 Z) rfl; have y11 := box_cell X0.out 11 (v := .slice a es.length cap) rfl)
      | (go_at_call 140; refine (fits_2 i t 2 ed nm L S a1 a2 c1 c2 ws gs C Z a cap es _ (by exact I1.out) (by exact I2.out) hx hy (by exact I3.out) hl SM.out NM.out HT.out).mono ?_; rintro e w1 ⟨rfl, b1⟩; rw [HF.out]; replace X0 := hid (kept X0.out b1); replace B0 := hid (u_cat B0.out b1); replace I1 := hid (I1.out.below b1); replace I2 := hid (I2.out.below b1); replace I3 := hid (I3.out.below b1); replace HT := hid (HT.out.below b1); clear b1 y0 y1 y2 y3 y4 y5 y6 y7 y8 y9 y10 y11; have y0 := box_cell X0.out 0 (v := .int .i64 i) rfl; have y1 := box_cell X0.out 1 (v := .int .i64 t) rfl; have y2 := box_cell X0.out 2 (v := .int .i64 2) rfl; have y3 := box_cell X0.out 3 (v := .string nm) rfl; have y4 := box_cell X0.out 4 (v := .int .i64 ed) rfl; have y5 := box_cell X0.out 5 (v := .int .i64 L) rfl; have y6 := box_cell X0.out 6 (v := .int .i64 S) rfl; have y7 := box_cell X0.out 7 (v := .slice a1 ws.length c1) rfl; have y8 := box_cell X0.out 8 (v := .slice a2 gs.length c2) rfl; have y9 := box_cell X0.out 9 (v := .int .i64 C) rfl; have y10 := box_cell X0.out 10 (v := .int .i64 Z) rfl; have y11 := box_cell X0.out 11 (v := .slice a es.length cap) rfl))
    go_ret
    exact ⟨rfl, B0.out⟩
  rw [decide_eq_true (show (0 ≤ i ∧ i ≤ 3) ∧ (0 ≤ t ∧ t ≤ 99999) ∧ (0 ≤ ed ∧ ed ≤ 99999) ∧ ((ed = 0 ∧ nonP L S ws.length gs.length C Z es.length) ∨ (ed ≠ 0 ∧ getP L S ws gs C Z es)) ∧ ((0 < t ∧ nameB nm = true) ∧ 0 < ed ∧ ¬ (getP L S ws gs C Z es ∧ (es.length : Int) = C)) by grind)]
  have HI := hid (decide_eq_true k0)
  have HC1 := hid (decide_eq_true k1)
  have HC2 := hid (decide_eq_true k2)
  have HO := hid (decide_eq_true k3)
  have HF := hid (decide_eq_true k4)
  clear k0 k1 k2 k3 k4
  obtain ⟨W0, hW0⟩ : ∃ W0, W0 = w.alloc (.cells #[.int .i64 i, .int .i64 t, .int .i64 2, .string nm, .int .i64 ed, .int .i64 L, .int .i64 S, .slice a1 ws.length c1, .slice a2 gs.length c2, .int .i64 C, .int .i64 Z, .slice a es.length cap] 40) := ⟨_, rfl⟩
  have X0 := hid (show W0.heap[w.heap.size]? = some (.cells #[.int .i64 i, .int .i64 t, .int .i64 2, .string nm, .int .i64 ed, .int .i64 L, .int .i64 S, .slice a1 ws.length c1, .slice a2 gs.length c2, .int .i64 C, .int .i64 Z, .slice a es.length cap] 40 (0, 0)) by rw [hW0]; exact laid _ _ _)
  have B0 := hid (show Below w.heap.size w W0 by rw [hW0]; exact u_b1 _ _)
  have I1 := hid (ha1.below B0.out)
  have I2 := hid (ha2.below B0.out)
  have I3 := hid (ha.below B0.out)
  have SM := hid hsm
  have NM := hid hnm
  have HT := hid (hT.below B0.out)
  have y0 := box_cell X0.out 0 (v := .int .i64 i) rfl
  have y1 := box_cell X0.out 1 (v := .int .i64 t) rfl
  have y2 := box_cell X0.out 2 (v := .int .i64 2) rfl
  have y3 := box_cell X0.out 3 (v := .string nm) rfl
  have y4 := box_cell X0.out 4 (v := .int .i64 ed) rfl
  have y5 := box_cell X0.out 5 (v := .int .i64 L) rfl
  have y6 := box_cell X0.out 6 (v := .int .i64 S) rfl
  have y7 := box_cell X0.out 7 (v := .slice a1 ws.length c1) rfl
  have y8 := box_cell X0.out 8 (v := .slice a2 gs.length c2) rfl
  have y9 := box_cell X0.out 9 (v := .int .i64 C) rfl
  have y10 := box_cell X0.out 10 (v := .int .i64 Z) rfl
  have y11 := box_cell X0.out 11 (v := .slice a es.length cap) rfl
  clear ha1 ha2 ha hsm hnm hT
  go_enter Tryz.func29, Tryz.ntmps29
  repeat ((fail_if_success (with_reducible show Code.wp _ (Code.region 1 _ _) _ _ _)); (first | go_values | go_skip | go_guarded | go_step | go_upon | go_back | go_simp))
  rw [← hW0]
  clear hW0
  go_wp2_with (first
    | (go_at_call 42; refine (stand_2 _).mono ?_; rintro e wa ⟨rfl, hq⟩; subst hq)
    | (go_at_call 53; refine (clientIs_any _ _).mono ?_; rintro e wa ⟨rfl, hq⟩; subst hq; rw [HI.out])
    | (go_at_call 54; refine (countOk_any _ _).mono ?_; rintro e wa ⟨rfl, hq⟩; subst hq; first | rw [HC1.out] | rw [HC2.out])
    | (go_at_call 55; refine (getOk_any i t 2 ed nm L S a1 a2 c1 c2 ws gs C Z a cap es _ (by exact I1.out) (by exact I2.out) hx hy (by exact I3.out) hl SM.out NM.out HT.out).mono ?_; rintro e w1 ⟨rfl, b1⟩; rw [HO.out]; replace X0 := hid (kept X0.out b1); replace B0 := hid (u_cat B0.out b1); replace I1 := hid (I1.out.below b1); replace I2 := hid (I2.out.below b1); replace I3 := hid (I3.out.below b1); replace HT := hid (HT.out.below b1); clear b1 y0 y1 y2 y3 y4 y5 y6 y7 y8 y9 y10 y11; have y0 := box_cell X0.out 0 (v := .int .i64 i) rfl; have y1 := box_cell X0.out 1 (v := .int .i64 t) rfl; have y2 := box_cell X0.out 2 (v := .int .i64 2) rfl; have y3 := box_cell X0.out 3 (v := .string nm) rfl; have y4 := box_cell X0.out 4 (v := .int .i64 ed) rfl; have y5 := box_cell X0.out 5 (v := .int .i64 L) rfl; have y6 := box_cell X0.out 6 (v := .int .i64 S) rfl; have y7 := box_cell X0.out 7 (v := .slice a1 ws.length c1) rfl; have y8 := box_cell X0.out 8 (v := .slice a2 gs.length c2) rfl; have y9 := box_cell X0.out 9 (v := .int .i64 C) rfl; have y10 := box_cell X0.out 10 (v := .int .i64 Z) rfl; have y11 := box_cell X0.out 11 (v := .slice a es.length cap) rfl)
    | (go_at_call 140; refine (fits_2 i t 2 ed nm L S a1 a2 c1 c2 ws gs C Z a cap es _ (by exact I1.out) (by exact I2.out) hx hy (by exact I3.out) hl SM.out NM.out HT.out).mono ?_; rintro e w1 ⟨rfl, b1⟩; rw [HF.out]; replace X0 := hid (kept X0.out b1); replace B0 := hid (u_cat B0.out b1); replace I1 := hid (I1.out.below b1); replace I2 := hid (I2.out.below b1); replace I3 := hid (I3.out.below b1); replace HT := hid (HT.out.below b1); clear b1 y0 y1 y2 y3 y4 y5 y6 y7 y8 y9 y10 y11; have y0 := box_cell X0.out 0 (v := .int .i64 i) rfl; have y1 := box_cell X0.out 1 (v := .int .i64 t) rfl; have y2 := box_cell X0.out 2 (v := .int .i64 2) rfl; have y3 := box_cell X0.out 3 (v := .string nm) rfl; have y4 := box_cell X0.out 4 (v := .int .i64 ed) rfl; have y5 := box_cell X0.out 5 (v := .int .i64 L) rfl; have y6 := box_cell X0.out 6 (v := .int .i64 S) rfl; have y7 := box_cell X0.out 7 (v := .slice a1 ws.length c1) rfl; have y8 := box_cell X0.out 8 (v := .slice a2 gs.length c2) rfl; have y9 := box_cell X0.out 9 (v := .int .i64 C) rfl; have y10 := box_cell X0.out 10 (v := .int .i64 Z) rfl; have y11 := box_cell X0.out 11 (v := .slice a es.length cap) rfl))
  go_ret
  exact ⟨rfl, B0.out⟩
set_option maxHeartbeats 8000000 in
set_option maxRecDepth 100000 in
theorem implCli_3 (i t ed : Int) (nm : ByteArray) (L S : Int) (a1 a2 : Option Addr) (c1 c2 : Nat) (ws gs : List Int) (C Z : Int) (a : Option Addr) (cap : Nat) (es : List EqV) (w : World) (ha1 : IntsAt w a1 ws) (ha2 : IntsAt w a2 gs) (hx : ws.length ≤ 1048576) (hy : gs.length ≤ 1048576) (ha : EqsAt w a es) (hl : es.length ≤ 1048576) (hsm : SmallE es) (hnm : nm.size ≤ maxLen) (hT : Tab w) :
    Calls Tryz.prog 29 #[.agg #[.int .i64 i, .int .i64 t, .int .i64 3, .string nm, .int .i64 ed, .int .i64 L, .int .i64 S, .slice a1 ws.length c1, .slice a2 gs.length c2, .int .i64 C, .int .i64 Z, .slice a es.length cap]] w fun e w' => e = .returned (.bool (decide ((0 ≤ i ∧ i ≤ 3) ∧ (0 ≤ t ∧ t ≤ 99999) ∧ (0 ≤ ed ∧ ed ≤ 99999) ∧ ((ed = 0 ∧ nonP L S ws.length gs.length C Z es.length) ∨ (ed ≠ 0 ∧ getP L S ws gs C Z es)) ∧ ((0 < t ∧ nameB nm = true) ∧ 0 < ed ∧ (getP L S ws gs C Z es ∧ (es.length : Int) = C))))) ∧ Below w.heap.size w w' := by
  have hm : ∀ w : World, (method 269 94 (.agg #[]) "loop.example/wellhead/impl.fits").run Tryz.prog w = .ok (144, .agg #[]) w := fun _ => by kernel_rfl
  by_cases k0 : (0 ≤ i ∧ i ≤ 3)
  case neg =>
    rw [decide_eq_false (show ¬ ((0 ≤ i ∧ i ≤ 3) ∧ (0 ≤ t ∧ t ≤ 99999) ∧ (0 ≤ ed ∧ ed ≤ 99999) ∧ ((ed = 0 ∧ nonP L S ws.length gs.length C Z es.length) ∨ (ed ≠ 0 ∧ getP L S ws gs C Z es)) ∧ ((0 < t ∧ nameB nm = true) ∧ 0 < ed ∧ (getP L S ws gs C Z es ∧ (es.length : Int) = C))) from fun h => by grind)]
    have HI := hid (decide_eq_false k0)
    clear k0
    obtain ⟨W0, hW0⟩ : ∃ W0, W0 = w.alloc (.cells #[.int .i64 i, .int .i64 t, .int .i64 3, .string nm, .int .i64 ed, .int .i64 L, .int .i64 S, .slice a1 ws.length c1, .slice a2 gs.length c2, .int .i64 C, .int .i64 Z, .slice a es.length cap] 40) := ⟨_, rfl⟩
    have X0 := hid (show W0.heap[w.heap.size]? = some (.cells #[.int .i64 i, .int .i64 t, .int .i64 3, .string nm, .int .i64 ed, .int .i64 L, .int .i64 S, .slice a1 ws.length c1, .slice a2 gs.length c2, .int .i64 C, .int .i64 Z, .slice a es.length cap] 40 (0, 0)) by rw [hW0]; exact laid _ _ _)
    have B0 := hid (show Below w.heap.size w W0 by rw [hW0]; exact u_b1 _ _)
    have I1 := hid (ha1.below B0.out)
    have I2 := hid (ha2.below B0.out)
    have I3 := hid (ha.below B0.out)
    have SM := hid hsm
    have NM := hid hnm
    have HT := hid (hT.below B0.out)
    have y0 := box_cell X0.out 0 (v := .int .i64 i) rfl
    have y1 := box_cell X0.out 1 (v := .int .i64 t) rfl
    have y2 := box_cell X0.out 2 (v := .int .i64 3) rfl
    have y3 := box_cell X0.out 3 (v := .string nm) rfl
    have y4 := box_cell X0.out 4 (v := .int .i64 ed) rfl
    have y5 := box_cell X0.out 5 (v := .int .i64 L) rfl
    have y6 := box_cell X0.out 6 (v := .int .i64 S) rfl
    have y7 := box_cell X0.out 7 (v := .slice a1 ws.length c1) rfl
    have y8 := box_cell X0.out 8 (v := .slice a2 gs.length c2) rfl
    have y9 := box_cell X0.out 9 (v := .int .i64 C) rfl
    have y10 := box_cell X0.out 10 (v := .int .i64 Z) rfl
    have y11 := box_cell X0.out 11 (v := .slice a es.length cap) rfl
    clear ha1 ha2 ha hsm hnm hT
    go_enter Tryz.func29, Tryz.ntmps29
    repeat ((fail_if_success (with_reducible show Code.wp _ (Code.region 1 _ _) _ _ _)); (first | go_values | go_skip | go_guarded | go_step | go_upon | go_back | go_simp))
    rw [← hW0]
    clear hW0
    go_wp2_with (first
      | (go_at_call 42; refine (stand_3 _).mono ?_; rintro e wa ⟨rfl, hq⟩; subst hq)
      | (go_at_call 53; refine (clientIs_any _ _).mono ?_; rintro e wa ⟨rfl, hq⟩; subst hq; rw [HI.out])
      | (go_at_call 54; refine (countOk_any _ _).mono ?_; rintro e wa ⟨rfl, hq⟩; subst hq; first | rw [HC1.out] | rw [HC2.out])
      | (go_at_call 55; refine (getOk_any i t 3 ed nm L S a1 a2 c1 c2 ws gs C Z a cap es _ (by exact I1.out) (by exact I2.out) hx hy (by exact I3.out) hl SM.out NM.out HT.out).mono ?_; rintro e w1 ⟨rfl, b1⟩; rw [HO.out]; replace X0 := hid (kept X0.out b1); replace B0 := hid (u_cat B0.out b1); replace I1 := hid (I1.out.below b1); replace I2 := hid (I2.out.below b1); replace I3 := hid (I3.out.below b1); replace HT := hid (HT.out.below b1); clear b1 y0 y1 y2 y3 y4 y5 y6 y7 y8 y9 y10 y11; have y0 := box_cell X0.out 0 (v := .int .i64 i) rfl; have y1 := box_cell X0.out 1 (v := .int .i64 t) rfl; have y2 := box_cell X0.out 2 (v := .int .i64 3) rfl; have y3 := box_cell X0.out 3 (v := .string nm) rfl; have y4 := box_cell X0.out 4 (v := .int .i64 ed) rfl; have y5 := box_cell X0.out 5 (v := .int .i64 L) rfl; have y6 := box_cell X0.out 6 (v := .int .i64 S) rfl; have y7 := box_cell X0.out 7 (v := .slice a1 ws.length c1) rfl; have y8 := box_cell X0.out 8 (v := .slice a2 gs.length c2) rfl; have y9 := box_cell X0.out 9 (v := .int .i64 C) rfl; have y10 := box_cell X0.out 10 (v := .int .i64 Z) rfl; have y11 := box_cell X0.out 11 (v := .slice a es.length cap) rfl)
      | (go_at_call 144; refine (fits_3 i t 3 ed nm L S a1 a2 c1 c2 ws gs C Z a cap es _ (by exact I1.out) (by exact I2.out) hx hy (by exact I3.out) hl SM.out NM.out HT.out).mono ?_; rintro e w1 ⟨rfl, b1⟩; rw [HF.out]; replace X0 := hid (kept X0.out b1); replace B0 := hid (u_cat B0.out b1); replace I1 := hid (I1.out.below b1); replace I2 := hid (I2.out.below b1); replace I3 := hid (I3.out.below b1); replace HT := hid (HT.out.below b1); clear b1 y0 y1 y2 y3 y4 y5 y6 y7 y8 y9 y10 y11; have y0 := box_cell X0.out 0 (v := .int .i64 i) rfl; have y1 := box_cell X0.out 1 (v := .int .i64 t) rfl; have y2 := box_cell X0.out 2 (v := .int .i64 3) rfl; have y3 := box_cell X0.out 3 (v := .string nm) rfl; have y4 := box_cell X0.out 4 (v := .int .i64 ed) rfl; have y5 := box_cell X0.out 5 (v := .int .i64 L) rfl; have y6 := box_cell X0.out 6 (v := .int .i64 S) rfl; have y7 := box_cell X0.out 7 (v := .slice a1 ws.length c1) rfl; have y8 := box_cell X0.out 8 (v := .slice a2 gs.length c2) rfl; have y9 := box_cell X0.out 9 (v := .int .i64 C) rfl; have y10 := box_cell X0.out 10 (v := .int .i64 Z) rfl; have y11 := box_cell X0.out 11 (v := .slice a es.length cap) rfl))
    go_ret
    exact ⟨rfl, B0.out⟩
  by_cases k1 : (0 ≤ t ∧ t ≤ 99999)
  case neg =>
    rw [decide_eq_false (show ¬ ((0 ≤ i ∧ i ≤ 3) ∧ (0 ≤ t ∧ t ≤ 99999) ∧ (0 ≤ ed ∧ ed ≤ 99999) ∧ ((ed = 0 ∧ nonP L S ws.length gs.length C Z es.length) ∨ (ed ≠ 0 ∧ getP L S ws gs C Z es)) ∧ ((0 < t ∧ nameB nm = true) ∧ 0 < ed ∧ (getP L S ws gs C Z es ∧ (es.length : Int) = C))) from fun h => by grind)]
    have HI := hid (decide_eq_true k0)
    have HC1 := hid (decide_eq_false k1)
    clear k0 k1
    obtain ⟨W0, hW0⟩ : ∃ W0, W0 = w.alloc (.cells #[.int .i64 i, .int .i64 t, .int .i64 3, .string nm, .int .i64 ed, .int .i64 L, .int .i64 S, .slice a1 ws.length c1, .slice a2 gs.length c2, .int .i64 C, .int .i64 Z, .slice a es.length cap] 40) := ⟨_, rfl⟩
    have X0 := hid (show W0.heap[w.heap.size]? = some (.cells #[.int .i64 i, .int .i64 t, .int .i64 3, .string nm, .int .i64 ed, .int .i64 L, .int .i64 S, .slice a1 ws.length c1, .slice a2 gs.length c2, .int .i64 C, .int .i64 Z, .slice a es.length cap] 40 (0, 0)) by rw [hW0]; exact laid _ _ _)
    have B0 := hid (show Below w.heap.size w W0 by rw [hW0]; exact u_b1 _ _)
    have I1 := hid (ha1.below B0.out)
    have I2 := hid (ha2.below B0.out)
    have I3 := hid (ha.below B0.out)
    have SM := hid hsm
    have NM := hid hnm
    have HT := hid (hT.below B0.out)
    have y0 := box_cell X0.out 0 (v := .int .i64 i) rfl
    have y1 := box_cell X0.out 1 (v := .int .i64 t) rfl
    have y2 := box_cell X0.out 2 (v := .int .i64 3) rfl
    have y3 := box_cell X0.out 3 (v := .string nm) rfl
    have y4 := box_cell X0.out 4 (v := .int .i64 ed) rfl
    have y5 := box_cell X0.out 5 (v := .int .i64 L) rfl
    have y6 := box_cell X0.out 6 (v := .int .i64 S) rfl
    have y7 := box_cell X0.out 7 (v := .slice a1 ws.length c1) rfl
    have y8 := box_cell X0.out 8 (v := .slice a2 gs.length c2) rfl
    have y9 := box_cell X0.out 9 (v := .int .i64 C) rfl
    have y10 := box_cell X0.out 10 (v := .int .i64 Z) rfl
    have y11 := box_cell X0.out 11 (v := .slice a es.length cap) rfl
    clear ha1 ha2 ha hsm hnm hT
    go_enter Tryz.func29, Tryz.ntmps29
    repeat ((fail_if_success (with_reducible show Code.wp _ (Code.region 1 _ _) _ _ _)); (first | go_values | go_skip | go_guarded | go_step | go_upon | go_back | go_simp))
    rw [← hW0]
    clear hW0
    go_wp2_with (first
      | (go_at_call 42; refine (stand_3 _).mono ?_; rintro e wa ⟨rfl, hq⟩; subst hq)
      | (go_at_call 53; refine (clientIs_any _ _).mono ?_; rintro e wa ⟨rfl, hq⟩; subst hq; rw [HI.out])
      | (go_at_call 54; refine (countOk_any _ _).mono ?_; rintro e wa ⟨rfl, hq⟩; subst hq; first | rw [HC1.out] | rw [HC2.out])
      | (go_at_call 55; refine (getOk_any i t 3 ed nm L S a1 a2 c1 c2 ws gs C Z a cap es _ (by exact I1.out) (by exact I2.out) hx hy (by exact I3.out) hl SM.out NM.out HT.out).mono ?_; rintro e w1 ⟨rfl, b1⟩; rw [HO.out]; replace X0 := hid (kept X0.out b1); replace B0 := hid (u_cat B0.out b1); replace I1 := hid (I1.out.below b1); replace I2 := hid (I2.out.below b1); replace I3 := hid (I3.out.below b1); replace HT := hid (HT.out.below b1); clear b1 y0 y1 y2 y3 y4 y5 y6 y7 y8 y9 y10 y11; have y0 := box_cell X0.out 0 (v := .int .i64 i) rfl; have y1 := box_cell X0.out 1 (v := .int .i64 t) rfl; have y2 := box_cell X0.out 2 (v := .int .i64 3) rfl; have y3 := box_cell X0.out 3 (v := .string nm) rfl; have y4 := box_cell X0.out 4 (v := .int .i64 ed) rfl; have y5 := box_cell X0.out 5 (v := .int .i64 L) rfl; have y6 := box_cell X0.out 6 (v := .int .i64 S) rfl; have y7 := box_cell X0.out 7 (v := .slice a1 ws.length c1) rfl; have y8 := box_cell X0.out 8 (v := .slice a2 gs.length c2) rfl; have y9 := box_cell X0.out 9 (v := .int .i64 C) rfl; have y10 := box_cell X0.out 10 (v := .int .i64 Z) rfl; have y11 := box_cell X0.out 11 (v := .slice a es.length cap) rfl)
      | (go_at_call 144; refine (fits_3 i t 3 ed nm L S a1 a2 c1 c2 ws gs C Z a cap es _ (by exact I1.out) (by exact I2.out) hx hy (by exact I3.out) hl SM.out NM.out HT.out).mono ?_; rintro e w1 ⟨rfl, b1⟩; rw [HF.out]; replace X0 := hid (kept X0.out b1); replace B0 := hid (u_cat B0.out b1); replace I1 := hid (I1.out.below b1); replace I2 := hid (I2.out.below b1); replace I3 := hid (I3.out.below b1); replace HT := hid (HT.out.below b1); clear b1 y0 y1 y2 y3 y4 y5 y6 y7 y8 y9 y10 y11; have y0 := box_cell X0.out 0 (v := .int .i64 i) rfl; have y1 := box_cell X0.out 1 (v := .int .i64 t) rfl; have y2 := box_cell X0.out 2 (v := .int .i64 3) rfl; have y3 := box_cell X0.out 3 (v := .string nm) rfl; have y4 := box_cell X0.out 4 (v := .int .i64 ed) rfl; have y5 := box_cell X0.out 5 (v := .int .i64 L) rfl; have y6 := box_cell X0.out 6 (v := .int .i64 S) rfl; have y7 := box_cell X0.out 7 (v := .slice a1 ws.length c1) rfl; have y8 := box_cell X0.out 8 (v := .slice a2 gs.length c2) rfl; have y9 := box_cell X0.out 9 (v := .int .i64 C) rfl; have y10 := box_cell X0.out 10 (v := .int .i64 Z) rfl; have y11 := box_cell X0.out 11 (v := .slice a es.length cap) rfl))
    go_ret
    exact ⟨rfl, B0.out⟩
  by_cases k2 : (0 ≤ ed ∧ ed ≤ 99999)
  case neg =>
    rw [decide_eq_false (show ¬ ((0 ≤ i ∧ i ≤ 3) ∧ (0 ≤ t ∧ t ≤ 99999) ∧ (0 ≤ ed ∧ ed ≤ 99999) ∧ ((ed = 0 ∧ nonP L S ws.length gs.length C Z es.length) ∨ (ed ≠ 0 ∧ getP L S ws gs C Z es)) ∧ ((0 < t ∧ nameB nm = true) ∧ 0 < ed ∧ (getP L S ws gs C Z es ∧ (es.length : Int) = C))) from fun h => by grind)]
    have HI := hid (decide_eq_true k0)
    have HC1 := hid (decide_eq_true k1)
    have HC2 := hid (decide_eq_false k2)
    clear k0 k1 k2
    obtain ⟨W0, hW0⟩ : ∃ W0, W0 = w.alloc (.cells #[.int .i64 i, .int .i64 t, .int .i64 3, .string nm, .int .i64 ed, .int .i64 L, .int .i64 S, .slice a1 ws.length c1, .slice a2 gs.length c2, .int .i64 C, .int .i64 Z, .slice a es.length cap] 40) := ⟨_, rfl⟩
    have X0 := hid (show W0.heap[w.heap.size]? = some (.cells #[.int .i64 i, .int .i64 t, .int .i64 3, .string nm, .int .i64 ed, .int .i64 L, .int .i64 S, .slice a1 ws.length c1, .slice a2 gs.length c2, .int .i64 C, .int .i64 Z, .slice a es.length cap] 40 (0, 0)) by rw [hW0]; exact laid _ _ _)
    have B0 := hid (show Below w.heap.size w W0 by rw [hW0]; exact u_b1 _ _)
    have I1 := hid (ha1.below B0.out)
    have I2 := hid (ha2.below B0.out)
    have I3 := hid (ha.below B0.out)
    have SM := hid hsm
    have NM := hid hnm
    have HT := hid (hT.below B0.out)
    have y0 := box_cell X0.out 0 (v := .int .i64 i) rfl
    have y1 := box_cell X0.out 1 (v := .int .i64 t) rfl
    have y2 := box_cell X0.out 2 (v := .int .i64 3) rfl
    have y3 := box_cell X0.out 3 (v := .string nm) rfl
    have y4 := box_cell X0.out 4 (v := .int .i64 ed) rfl
    have y5 := box_cell X0.out 5 (v := .int .i64 L) rfl
    have y6 := box_cell X0.out 6 (v := .int .i64 S) rfl
    have y7 := box_cell X0.out 7 (v := .slice a1 ws.length c1) rfl
    have y8 := box_cell X0.out 8 (v := .slice a2 gs.length c2) rfl
    have y9 := box_cell X0.out 9 (v := .int .i64 C) rfl
    have y10 := box_cell X0.out 10 (v := .int .i64 Z) rfl
    have y11 := box_cell X0.out 11 (v := .slice a es.length cap) rfl
    clear ha1 ha2 ha hsm hnm hT
    go_enter Tryz.func29, Tryz.ntmps29
    repeat ((fail_if_success (with_reducible show Code.wp _ (Code.region 1 _ _) _ _ _)); (first | go_values | go_skip | go_guarded | go_step | go_upon | go_back | go_simp))
    rw [← hW0]
    clear hW0
    go_wp2_with (first
      | (go_at_call 42; refine (stand_3 _).mono ?_; rintro e wa ⟨rfl, hq⟩; subst hq)
      | (go_at_call 53; refine (clientIs_any _ _).mono ?_; rintro e wa ⟨rfl, hq⟩; subst hq; rw [HI.out])
      | (go_at_call 54; refine (countOk_any _ _).mono ?_; rintro e wa ⟨rfl, hq⟩; subst hq; first | rw [HC1.out] | rw [HC2.out])
      | (go_at_call 55; refine (getOk_any i t 3 ed nm L S a1 a2 c1 c2 ws gs C Z a cap es _ (by exact I1.out) (by exact I2.out) hx hy (by exact I3.out) hl SM.out NM.out HT.out).mono ?_; rintro e w1 ⟨rfl, b1⟩; rw [HO.out]; replace X0 := hid (kept X0.out b1); replace B0 := hid (u_cat B0.out b1); replace I1 := hid (I1.out.below b1); replace I2 := hid (I2.out.below b1); replace I3 := hid (I3.out.below b1); replace HT := hid (HT.out.below b1); clear b1 y0 y1 y2 y3 y4 y5 y6 y7 y8 y9 y10 y11; have y0 := box_cell X0.out 0 (v := .int .i64 i) rfl; have y1 := box_cell X0.out 1 (v := .int .i64 t) rfl; have y2 := box_cell X0.out 2 (v := .int .i64 3) rfl; have y3 := box_cell X0.out 3 (v := .string nm) rfl; have y4 := box_cell X0.out 4 (v := .int .i64 ed) rfl; have y5 := box_cell X0.out 5 (v := .int .i64 L) rfl; have y6 := box_cell X0.out 6 (v := .int .i64 S) rfl; have y7 := box_cell X0.out 7 (v := .slice a1 ws.length c1) rfl; have y8 := box_cell X0.out 8 (v := .slice a2 gs.length c2) rfl; have y9 := box_cell X0.out 9 (v := .int .i64 C) rfl; have y10 := box_cell X0.out 10 (v := .int .i64 Z) rfl; have y11 := box_cell X0.out 11 (v := .slice a es.length cap) rfl)
      | (go_at_call 144; refine (fits_3 i t 3 ed nm L S a1 a2 c1 c2 ws gs C Z a cap es _ (by exact I1.out) (by exact I2.out) hx hy (by exact I3.out) hl SM.out NM.out HT.out).mono ?_; rintro e w1 ⟨rfl, b1⟩; rw [HF.out]; replace X0 := hid (kept X0.out b1); replace B0 := hid (u_cat B0.out b1); replace I1 := hid (I1.out.below b1); replace I2 := hid (I2.out.below b1); replace I3 := hid (I3.out.below b1); replace HT := hid (HT.out.below b1); clear b1 y0 y1 y2 y3 y4 y5 y6 y7 y8 y9 y10 y11; have y0 := box_cell X0.out 0 (v := .int .i64 i) rfl; have y1 := box_cell X0.out 1 (v := .int .i64 t) rfl; have y2 := box_cell X0.out 2 (v := .int .i64 3) rfl; have y3 := box_cell X0.out 3 (v := .string nm) rfl; have y4 := box_cell X0.out 4 (v := .int .i64 ed) rfl; have y5 := box_cell X0.out 5 (v := .int .i64 L) rfl; have y6 := box_cell X0.out 6 (v := .int .i64 S) rfl; have y7 := box_cell X0.out 7 (v := .slice a1 ws.length c1) rfl; have y8 := box_cell X0.out 8 (v := .slice a2 gs.length c2) rfl; have y9 := box_cell X0.out 9 (v := .int .i64 C) rfl; have y10 := box_cell X0.out 10 (v := .int .i64 Z) rfl; have y11 := box_cell X0.out 11 (v := .slice a es.length cap) rfl))
    go_ret
    exact ⟨rfl, B0.out⟩
  by_cases k3 : ((ed = 0 ∧ nonP L S ws.length gs.length C Z es.length) ∨ (ed ≠ 0 ∧ getP L S ws gs C Z es))
  case neg =>
    rw [decide_eq_false (show ¬ ((0 ≤ i ∧ i ≤ 3) ∧ (0 ≤ t ∧ t ≤ 99999) ∧ (0 ≤ ed ∧ ed ≤ 99999) ∧ ((ed = 0 ∧ nonP L S ws.length gs.length C Z es.length) ∨ (ed ≠ 0 ∧ getP L S ws gs C Z es)) ∧ ((0 < t ∧ nameB nm = true) ∧ 0 < ed ∧ (getP L S ws gs C Z es ∧ (es.length : Int) = C))) from fun h => by grind)]
    have HI := hid (decide_eq_true k0)
    have HC1 := hid (decide_eq_true k1)
    have HC2 := hid (decide_eq_true k2)
    have HO := hid (decide_eq_false k3)
    clear k0 k1 k2 k3
    obtain ⟨W0, hW0⟩ : ∃ W0, W0 = w.alloc (.cells #[.int .i64 i, .int .i64 t, .int .i64 3, .string nm, .int .i64 ed, .int .i64 L, .int .i64 S, .slice a1 ws.length c1, .slice a2 gs.length c2, .int .i64 C, .int .i64 Z, .slice a es.length cap] 40) := ⟨_, rfl⟩
    have X0 := hid (show W0.heap[w.heap.size]? = some (.cells #[.int .i64 i, .int .i64 t, .int .i64 3, .string nm, .int .i64 ed, .int .i64 L, .int .i64 S, .slice a1 ws.length c1, .slice a2 gs.length c2, .int .i64 C, .int .i64 Z, .slice a es.length cap] 40 (0, 0)) by rw [hW0]; exact laid _ _ _)
    have B0 := hid (show Below w.heap.size w W0 by rw [hW0]; exact u_b1 _ _)
    have I1 := hid (ha1.below B0.out)
    have I2 := hid (ha2.below B0.out)
    have I3 := hid (ha.below B0.out)
    have SM := hid hsm
    have NM := hid hnm
    have HT := hid (hT.below B0.out)
    have y0 := box_cell X0.out 0 (v := .int .i64 i) rfl
    have y1 := box_cell X0.out 1 (v := .int .i64 t) rfl
    have y2 := box_cell X0.out 2 (v := .int .i64 3) rfl
    have y3 := box_cell X0.out 3 (v := .string nm) rfl
    have y4 := box_cell X0.out 4 (v := .int .i64 ed) rfl
    have y5 := box_cell X0.out 5 (v := .int .i64 L) rfl
    have y6 := box_cell X0.out 6 (v := .int .i64 S) rfl
    have y7 := box_cell X0.out 7 (v := .slice a1 ws.length c1) rfl
    have y8 := box_cell X0.out 8 (v := .slice a2 gs.length c2) rfl
    have y9 := box_cell X0.out 9 (v := .int .i64 C) rfl
    have y10 := box_cell X0.out 10 (v := .int .i64 Z) rfl
    have y11 := box_cell X0.out 11 (v := .slice a es.length cap) rfl
    clear ha1 ha2 ha hsm hnm hT
    go_enter Tryz.func29, Tryz.ntmps29
    repeat ((fail_if_success (with_reducible show Code.wp _ (Code.region 1 _ _) _ _ _)); (first | go_values | go_skip | go_guarded | go_step | go_upon | go_back | go_simp))
    rw [← hW0]
    clear hW0
    go_wp2_with (first
      | (go_at_call 42; refine (stand_3 _).mono ?_; rintro e wa ⟨rfl, hq⟩; subst hq)
      | (go_at_call 53; refine (clientIs_any _ _).mono ?_; rintro e wa ⟨rfl, hq⟩; subst hq; rw [HI.out])
      | (go_at_call 54; refine (countOk_any _ _).mono ?_; rintro e wa ⟨rfl, hq⟩; subst hq; first | rw [HC1.out] | rw [HC2.out])
      | (go_at_call 55; refine (getOk_any i t 3 ed nm L S a1 a2 c1 c2 ws gs C Z a cap es _ (by exact I1.out) (by exact I2.out) hx hy (by exact I3.out) hl SM.out NM.out HT.out).mono ?_; rintro e w1 ⟨rfl, b1⟩; rw [HO.out]; replace X0 := hid (kept X0.out b1); replace B0 := hid (u_cat B0.out b1); replace I1 := hid (I1.out.below b1); replace I2 := hid (I2.out.below b1); replace I3 := hid (I3.out.below b1); replace HT := hid (HT.out.below b1); clear b1 y0 y1 y2 y3 y4 y5 y6 y7 y8 y9 y10 y11; have y0 := box_cell X0.out 0 (v := .int .i64 i) rfl; have y1 := box_cell X0.out 1 (v := .int .i64 t) rfl; have y2 := box_cell X0.out 2 (v := .int .i64 3) rfl; have y3 := box_cell X0.out 3 (v := .string nm) rfl; have y4 := box_cell X0.out 4 (v := .int .i64 ed) rfl; have y5 := box_cell X0.out 5 (v := .int .i64 L) rfl; have y6 := box_cell X0.out 6 (v := .int .i64 S) rfl; have y7 := box_cell X0.out 7 (v := .slice a1 ws.length c1) rfl; have y8 := box_cell X0.out 8 (v := .slice a2 gs.length c2) rfl; have y9 := box_cell X0.out 9 (v := .int .i64 C) rfl; have y10 := box_cell X0.out 10 (v := .int .i64 Z) rfl; have y11 := box_cell X0.out 11 (v := .slice a es.length cap) rfl)
      | (go_at_call 144; refine (fits_3 i t 3 ed nm L S a1 a2 c1 c2 ws gs C Z a cap es _ (by exact I1.out) (by exact I2.out) hx hy (by exact I3.out) hl SM.out NM.out HT.out).mono ?_; rintro e w1 ⟨rfl, b1⟩; rw [HF.out]; replace X0 := hid (kept X0.out b1); replace B0 := hid (u_cat B0.out b1); replace I1 := hid (I1.out.below b1); replace I2 := hid (I2.out.below b1); replace I3 := hid (I3.out.below b1); replace HT := hid (HT.out.below b1); clear b1 y0 y1 y2 y3 y4 y5 y6 y7 y8 y9 y10 y11; have y0 := box_cell X0.out 0 (v := .int .i64 i) rfl; have y1 := box_cell X0.out 1 (v := .int .i64 t) rfl; have y2 := box_cell X0.out 2 (v := .int .i64 3) rfl; have y3 := box_cell X0.out 3 (v := .string nm) rfl; have y4 := box_cell X0.out 4 (v := .int .i64 ed) rfl; have y5 := box_cell X0.out 5 (v := .int .i64 L) rfl; have y6 := box_cell X0.out 6 (v := .int .i64 S) rfl; have y7 := box_cell X0.out 7 (v := .slice a1 ws.length c1) rfl; have y8 := box_cell X0.out 8 (v := .slice a2 gs.length c2) rfl; have y9 := box_cell X0.out 9 (v := .int .i64 C) rfl; have y10 := box_cell X0.out 10 (v := .int .i64 Z) rfl; have y11 := box_cell X0.out 11 (v := .slice a es.length cap) rfl))
    go_ret
    exact ⟨rfl, B0.out⟩
  by_cases k4 : ((0 < t ∧ nameB nm = true) ∧ 0 < ed ∧ (getP L S ws gs C Z es ∧ (es.length : Int) = C))
  case neg =>
    rw [decide_eq_false (show ¬ ((0 ≤ i ∧ i ≤ 3) ∧ (0 ≤ t ∧ t ≤ 99999) ∧ (0 ≤ ed ∧ ed ≤ 99999) ∧ ((ed = 0 ∧ nonP L S ws.length gs.length C Z es.length) ∨ (ed ≠ 0 ∧ getP L S ws gs C Z es)) ∧ ((0 < t ∧ nameB nm = true) ∧ 0 < ed ∧ (getP L S ws gs C Z es ∧ (es.length : Int) = C))) from fun h => by grind)]
    have HI := hid (decide_eq_true k0)
    have HC1 := hid (decide_eq_true k1)
    have HC2 := hid (decide_eq_true k2)
    have HO := hid (decide_eq_true k3)
    have HF := hid (decide_eq_false k4)
    clear k0 k1 k2 k3 k4
    obtain ⟨W0, hW0⟩ : ∃ W0, W0 = w.alloc (.cells #[.int .i64 i, .int .i64 t, .int .i64 3, .string nm, .int .i64 ed, .int .i64 L, .int .i64 S, .slice a1 ws.length c1, .slice a2 gs.length c2, .int .i64 C, .int .i64 Z, .slice a es.length cap] 40) := ⟨_, rfl⟩
    have X0 := hid (show W0.heap[w.heap.size]? = some (.cells #[.int .i64 i, .int .i64 t, .int .i64 3, .string nm, .int .i64 ed, .int .i64 L, .int .i64 S, .slice a1 ws.length c1, .slice a2 gs.length c2, .int .i64 C, .int .i64 Z, .slice a es.length cap] 40 (0, 0)) by rw [hW0]; exact laid _ _ _)
    have B0 := hid (show Below w.heap.size w W0 by rw [hW0]; exact u_b1 _ _)
    have I1 := hid (ha1.below B0.out)
    have I2 := hid (ha2.below B0.out)
    have I3 := hid (ha.below B0.out)
    have SM := hid hsm
    have NM := hid hnm
    have HT := hid (hT.below B0.out)
    have y0 := box_cell X0.out 0 (v := .int .i64 i) rfl
    have y1 := box_cell X0.out 1 (v := .int .i64 t) rfl
    have y2 := box_cell X0.out 2 (v := .int .i64 3) rfl
    have y3 := box_cell X0.out 3 (v := .string nm) rfl
    have y4 := box_cell X0.out 4 (v := .int .i64 ed) rfl
    have y5 := box_cell X0.out 5 (v := .int .i64 L) rfl
    have y6 := box_cell X0.out 6 (v := .int .i64 S) rfl
    have y7 := box_cell X0.out 7 (v := .slice a1 ws.length c1) rfl
    have y8 := box_cell X0.out 8 (v := .slice a2 gs.length c2) rfl
    have y9 := box_cell X0.out 9 (v := .int .i64 C) rfl
    have y10 := box_cell X0.out 10 (v := .int .i64 Z) rfl
    have y11 := box_cell X0.out 11 (v := .slice a es.length cap) rfl
    clear ha1 ha2 ha hsm hnm hT
    go_enter Tryz.func29, Tryz.ntmps29
    repeat ((fail_if_success (with_reducible show Code.wp _ (Code.region 1 _ _) _ _ _)); (first | go_values | go_skip | go_guarded | go_step | go_upon | go_back | go_simp))
    rw [← hW0]
    clear hW0
    go_wp2_with (first
      | (go_at_call 42; refine (stand_3 _).mono ?_; rintro e wa ⟨rfl, hq⟩; subst hq)
      | (go_at_call 53; refine (clientIs_any _ _).mono ?_; rintro e wa ⟨rfl, hq⟩; subst hq; rw [HI.out])
      | (go_at_call 54; refine (countOk_any _ _).mono ?_; rintro e wa ⟨rfl, hq⟩; subst hq; first | rw [HC1.out] | rw [HC2.out])
      | (go_at_call 55; refine (getOk_any i t 3 ed nm L S a1 a2 c1 c2 ws gs C Z a cap es _ (by exact I1.out) (by exact I2.out) hx hy (by exact I3.out) hl SM.out NM.out HT.out).mono ?_; rintro e w1 ⟨rfl, b1⟩; rw [HO.out]; replace X0 := hid (kept X0.out b1); replace B0 := hid (u_cat B0.out b1); replace I1 := hid (I1.out.below b1); replace I2 := hid (I2.out.below b1); replace I3 := hid (I3.out.below b1); replace HT := hid (HT.out.below b1); clear b1 y0 y1 y2 y3 y4 y5 y6 y7 y8 y9 y10 y11; have y0 := box_cell X0.out 0 (v := .int .i64 i) rfl; have y1 := box_cell X0.out 1 (v := .int .i64 t) rfl; have y2 := box_cell X0.out 2 (v := .int .i64 3) rfl; have y3 := box_cell X0.out 3 (v := .string nm) rfl; have y4 := box_cell X0.out 4 (v := .int .i64 ed) rfl; have y5 := box_cell X0.out 5 (v := .int .i64 L) rfl; have y6 := box_cell X0.out 6 (v := .int .i64 S) rfl; have y7 := box_cell X0.out 7 (v := .slice a1 ws.length c1) rfl; have y8 := box_cell X0.out 8 (v := .slice a2 gs.length c2) rfl; have y9 := box_cell X0.out 9 (v := .int .i64 C) rfl; have y10 := box_cell X0.out 10 (v := .int .i64 Z) rfl; have y11 := box_cell X0.out 11 (v := .slice a es.length cap) rfl)
      | (go_at_call 144; refine (fits_3 i t 3 ed nm L S a1 a2 c1 c2 ws gs C Z a cap es _ (by exact I1.out) (by exact I2.out) hx hy (by exact I3.out) hl SM.out NM.out HT.out).mono ?_; rintro e w1 ⟨rfl, b1⟩; rw [HF.out]; replace X0 := hid (kept X0.out b1); replace B0 := hid (u_cat B0.out b1); replace I1 := hid (I1.out.below b1); replace I2 := hid (I2.out.below b1); replace I3 := hid (I3.out.below b1); replace HT := hid (HT.out.below b1); clear b1 y0 y1 y2 y3 y4 y5 y6 y7 y8 y9 y10 y11; have y0 := box_cell X0.out 0 (v := .int .i64 i) rfl; have y1 := box_cell X0.out 1 (v := .int .i64 t) rfl; have y2 := box_cell X0.out 2 (v := .int .i64 3) rfl; have y3 := box_cell X0.out 3 (v := .string nm) rfl; have y4 := box_cell X0.out 4 (v := .int .i64 ed) rfl; have y5 := box_cell X0.out 5 (v := .int .i64 L) rfl; have y6 := box_cell X0.out 6 (v := .int .i64 S) rfl; have y7 := box_cell X0.out 7 (v := .slice a1 ws.length c1) rfl; have y8 := box_cell X0.out 8 (v := .slice a2 gs.length c2) rfl; have y9 := box_cell X0.out 9 (v := .int .i64 C) rfl; have y10 := box_cell X0.out 10 (v := .int .i64 Z) rfl; have y11 := box_cell X0.out 11 (v := .slice a es.length cap) rfl))
    go_ret
    exact ⟨rfl, B0.out⟩
  rw [decide_eq_true (show (0 ≤ i ∧ i ≤ 3) ∧ (0 ≤ t ∧ t ≤ 99999) ∧ (0 ≤ ed ∧ ed ≤ 99999) ∧ ((ed = 0 ∧ nonP L S ws.length gs.length C Z es.length) ∨ (ed ≠ 0 ∧ getP L S ws gs C Z es)) ∧ ((0 < t ∧ nameB nm = true) ∧ 0 < ed ∧ (getP L S ws gs C Z es ∧ (es.length : Int) = C)) by grind)]
  have HI := hid (decide_eq_true k0)
  have HC1 := hid (decide_eq_true k1)
  have HC2 := hid (decide_eq_true k2)
  have HO := hid (decide_eq_true k3)
  have HF := hid (decide_eq_true k4)
  clear k0 k1 k2 k3 k4
  obtain ⟨W0, hW0⟩ : ∃ W0, W0 = w.alloc (.cells #[.int .i64 i, .int .i64 t, .int .i64 3, .string nm, .int .i64 ed, .int .i64 L, .int .i64 S, .slice a1 ws.length c1, .slice a2 gs.length c2, .int .i64 C, .int .i64 Z, .slice a es.length cap] 40) := ⟨_, rfl⟩
  have X0 := hid (show W0.heap[w.heap.size]? = some (.cells #[.int .i64 i, .int .i64 t, .int .i64 3, .string nm, .int .i64 ed, .int .i64 L, .int .i64 S, .slice a1 ws.length c1, .slice a2 gs.length c2, .int .i64 C, .int .i64 Z, .slice a es.length cap] 40 (0, 0)) by rw [hW0]; exact laid _ _ _)
  have B0 := hid (show Below w.heap.size w W0 by rw [hW0]; exact u_b1 _ _)
  have I1 := hid (ha1.below B0.out)
  have I2 := hid (ha2.below B0.out)
  have I3 := hid (ha.below B0.out)
  have SM := hid hsm
  have NM := hid hnm
  have HT := hid (hT.below B0.out)
  have y0 := box_cell X0.out 0 (v := .int .i64 i) rfl
  have y1 := box_cell X0.out 1 (v := .int .i64 t) rfl
  have y2 := box_cell X0.out 2 (v := .int .i64 3) rfl
  have y3 := box_cell X0.out 3 (v := .string nm) rfl
  have y4 := box_cell X0.out 4 (v := .int .i64 ed) rfl
  have y5 := box_cell X0.out 5 (v := .int .i64 L) rfl
  have y6 := box_cell X0.out 6 (v := .int .i64 S) rfl
  have y7 := box_cell X0.out 7 (v := .slice a1 ws.length c1) rfl
  have y8 := box_cell X0.out 8 (v := .slice a2 gs.length c2) rfl
  have y9 := box_cell X0.out 9 (v := .int .i64 C) rfl
  have y10 := box_cell X0.out 10 (v := .int .i64 Z) rfl
  have y11 := box_cell X0.out 11 (v := .slice a es.length cap) rfl
  clear ha1 ha2 ha hsm hnm hT
  go_enter Tryz.func29, Tryz.ntmps29
  repeat ((fail_if_success (with_reducible show Code.wp _ (Code.region 1 _ _) _ _ _)); (first | go_values | go_skip | go_guarded | go_step | go_upon | go_back | go_simp))
  rw [← hW0]
  clear hW0
  go_wp2_with (first
    | (go_at_call 42; refine (stand_3 _).mono ?_; rintro e wa ⟨rfl, hq⟩; subst hq)
    | (go_at_call 53; refine (clientIs_any _ _).mono ?_; rintro e wa ⟨rfl, hq⟩; subst hq; rw [HI.out])
    | (go_at_call 54; refine (countOk_any _ _).mono ?_; rintro e wa ⟨rfl, hq⟩; subst hq; first | rw [HC1.out] | rw [HC2.out])
    | (go_at_call 55; refine (getOk_any i t 3 ed nm L S a1 a2 c1 c2 ws gs C Z a cap es _ (by exact I1.out) (by exact I2.out) hx hy (by exact I3.out) hl SM.out NM.out HT.out).mono ?_; rintro e w1 ⟨rfl, b1⟩; rw [HO.out]; replace X0 := hid (kept X0.out b1); replace B0 := hid (u_cat B0.out b1); replace I1 := hid (I1.out.below b1); replace I2 := hid (I2.out.below b1); replace I3 := hid (I3.out.below b1); replace HT := hid (HT.out.below b1); clear b1 y0 y1 y2 y3 y4 y5 y6 y7 y8 y9 y10 y11; have y0 := box_cell X0.out 0 (v := .int .i64 i) rfl; have y1 := box_cell X0.out 1 (v := .int .i64 t) rfl; have y2 := box_cell X0.out 2 (v := .int .i64 3) rfl; have y3 := box_cell X0.out 3 (v := .string nm) rfl; have y4 := box_cell X0.out 4 (v := .int .i64 ed) rfl; have y5 := box_cell X0.out 5 (v := .int .i64 L) rfl; have y6 := box_cell X0.out 6 (v := .int .i64 S) rfl; have y7 := box_cell X0.out 7 (v := .slice a1 ws.length c1) rfl; have y8 := box_cell X0.out 8 (v := .slice a2 gs.length c2) rfl; have y9 := box_cell X0.out 9 (v := .int .i64 C) rfl; have y10 := box_cell X0.out 10 (v := .int .i64 Z) rfl; have y11 := box_cell X0.out 11 (v := .slice a es.length cap) rfl)
    | (go_at_call 144; refine (fits_3 i t 3 ed nm L S a1 a2 c1 c2 ws gs C Z a cap es _ (by exact I1.out) (by exact I2.out) hx hy (by exact I3.out) hl SM.out NM.out HT.out).mono ?_; rintro e w1 ⟨rfl, b1⟩; rw [HF.out]; replace X0 := hid (kept X0.out b1); replace B0 := hid (u_cat B0.out b1); replace I1 := hid (I1.out.below b1); replace I2 := hid (I2.out.below b1); replace I3 := hid (I3.out.below b1); replace HT := hid (HT.out.below b1); clear b1 y0 y1 y2 y3 y4 y5 y6 y7 y8 y9 y10 y11; have y0 := box_cell X0.out 0 (v := .int .i64 i) rfl; have y1 := box_cell X0.out 1 (v := .int .i64 t) rfl; have y2 := box_cell X0.out 2 (v := .int .i64 3) rfl; have y3 := box_cell X0.out 3 (v := .string nm) rfl; have y4 := box_cell X0.out 4 (v := .int .i64 ed) rfl; have y5 := box_cell X0.out 5 (v := .int .i64 L) rfl; have y6 := box_cell X0.out 6 (v := .int .i64 S) rfl; have y7 := box_cell X0.out 7 (v := .slice a1 ws.length c1) rfl; have y8 := box_cell X0.out 8 (v := .slice a2 gs.length c2) rfl; have y9 := box_cell X0.out 9 (v := .int .i64 C) rfl; have y10 := box_cell X0.out 10 (v := .int .i64 Z) rfl; have y11 := box_cell X0.out 11 (v := .slice a es.length cap) rfl))
  go_ret
  exact ⟨rfl, B0.out⟩
set_option maxHeartbeats 8000000 in
set_option maxRecDepth 100000 in
theorem implCli_4 (i t ed : Int) (nm : ByteArray) (L S : Int) (a1 a2 : Option Addr) (c1 c2 : Nat) (ws gs : List Int) (C Z : Int) (a : Option Addr) (cap : Nat) (es : List EqV) (w : World) (ha1 : IntsAt w a1 ws) (ha2 : IntsAt w a2 gs) (hx : ws.length ≤ 1048576) (hy : gs.length ≤ 1048576) (ha : EqsAt w a es) (hl : es.length ≤ 1048576) (hsm : SmallE es) (hnm : nm.size ≤ maxLen) (hT : Tab w) :
    Calls Tryz.prog 29 #[.agg #[.int .i64 i, .int .i64 t, .int .i64 4, .string nm, .int .i64 ed, .int .i64 L, .int .i64 S, .slice a1 ws.length c1, .slice a2 gs.length c2, .int .i64 C, .int .i64 Z, .slice a es.length cap]] w fun e w' => e = .returned (.bool (decide ((0 ≤ i ∧ i ≤ 3) ∧ (0 ≤ t ∧ t ≤ 99999) ∧ (0 ≤ ed ∧ ed ≤ 99999) ∧ ((ed = 0 ∧ nonP L S ws.length gs.length C Z es.length) ∨ (ed ≠ 0 ∧ getP L S ws gs C Z es)) ∧ ((0 < t ∧ nameB nm = true) ∧ ¬ (getP L S ws gs C Z es ∧ (es.length : Int) = C))))) ∧ Below w.heap.size w w' := by
  have hm : ∀ w : World, (method 269 95 (.agg #[]) "loop.example/wellhead/impl.fits").run Tryz.prog w = .ok (148, .agg #[]) w := fun _ => by kernel_rfl
  by_cases k0 : (0 ≤ i ∧ i ≤ 3)
  case neg =>
    rw [decide_eq_false (show ¬ ((0 ≤ i ∧ i ≤ 3) ∧ (0 ≤ t ∧ t ≤ 99999) ∧ (0 ≤ ed ∧ ed ≤ 99999) ∧ ((ed = 0 ∧ nonP L S ws.length gs.length C Z es.length) ∨ (ed ≠ 0 ∧ getP L S ws gs C Z es)) ∧ ((0 < t ∧ nameB nm = true) ∧ ¬ (getP L S ws gs C Z es ∧ (es.length : Int) = C))) from fun h => by grind)]
    have HI := hid (decide_eq_false k0)
    clear k0
    obtain ⟨W0, hW0⟩ : ∃ W0, W0 = w.alloc (.cells #[.int .i64 i, .int .i64 t, .int .i64 4, .string nm, .int .i64 ed, .int .i64 L, .int .i64 S, .slice a1 ws.length c1, .slice a2 gs.length c2, .int .i64 C, .int .i64 Z, .slice a es.length cap] 40) := ⟨_, rfl⟩
    have X0 := hid (show W0.heap[w.heap.size]? = some (.cells #[.int .i64 i, .int .i64 t, .int .i64 4, .string nm, .int .i64 ed, .int .i64 L, .int .i64 S, .slice a1 ws.length c1, .slice a2 gs.length c2, .int .i64 C, .int .i64 Z, .slice a es.length cap] 40 (0, 0)) by rw [hW0]; exact laid _ _ _)
    have B0 := hid (show Below w.heap.size w W0 by rw [hW0]; exact u_b1 _ _)
    have I1 := hid (ha1.below B0.out)
    have I2 := hid (ha2.below B0.out)
    have I3 := hid (ha.below B0.out)
    have SM := hid hsm
    have NM := hid hnm
    have HT := hid (hT.below B0.out)
    have y0 := box_cell X0.out 0 (v := .int .i64 i) rfl
    have y1 := box_cell X0.out 1 (v := .int .i64 t) rfl
    have y2 := box_cell X0.out 2 (v := .int .i64 4) rfl
    have y3 := box_cell X0.out 3 (v := .string nm) rfl
    have y4 := box_cell X0.out 4 (v := .int .i64 ed) rfl
    have y5 := box_cell X0.out 5 (v := .int .i64 L) rfl
    have y6 := box_cell X0.out 6 (v := .int .i64 S) rfl
    have y7 := box_cell X0.out 7 (v := .slice a1 ws.length c1) rfl
    have y8 := box_cell X0.out 8 (v := .slice a2 gs.length c2) rfl
    have y9 := box_cell X0.out 9 (v := .int .i64 C) rfl
    have y10 := box_cell X0.out 10 (v := .int .i64 Z) rfl
    have y11 := box_cell X0.out 11 (v := .slice a es.length cap) rfl
    clear ha1 ha2 ha hsm hnm hT
    go_enter Tryz.func29, Tryz.ntmps29
    repeat ((fail_if_success (with_reducible show Code.wp _ (Code.region 1 _ _) _ _ _)); (first | go_values | go_skip | go_guarded | go_step | go_upon | go_back | go_simp))
    rw [← hW0]
    clear hW0
    go_wp2_with (first
      | (go_at_call 42; refine (stand_4 _).mono ?_; rintro e wa ⟨rfl, hq⟩; subst hq)
      | (go_at_call 53; refine (clientIs_any _ _).mono ?_; rintro e wa ⟨rfl, hq⟩; subst hq; rw [HI.out])
      | (go_at_call 54; refine (countOk_any _ _).mono ?_; rintro e wa ⟨rfl, hq⟩; subst hq; first | rw [HC1.out] | rw [HC2.out])
      | (go_at_call 55; refine (getOk_any i t 4 ed nm L S a1 a2 c1 c2 ws gs C Z a cap es _ (by exact I1.out) (by exact I2.out) hx hy (by exact I3.out) hl SM.out NM.out HT.out).mono ?_; rintro e w1 ⟨rfl, b1⟩; rw [HO.out]; replace X0 := hid (kept X0.out b1); replace B0 := hid (u_cat B0.out b1); replace I1 := hid (I1.out.below b1); replace I2 := hid (I2.out.below b1); replace I3 := hid (I3.out.below b1); replace HT := hid (HT.out.below b1); clear b1 y0 y1 y2 y3 y4 y5 y6 y7 y8 y9 y10 y11; have y0 := box_cell X0.out 0 (v := .int .i64 i) rfl; have y1 := box_cell X0.out 1 (v := .int .i64 t) rfl; have y2 := box_cell X0.out 2 (v := .int .i64 4) rfl; have y3 := box_cell X0.out 3 (v := .string nm) rfl; have y4 := box_cell X0.out 4 (v := .int .i64 ed) rfl; have y5 := box_cell X0.out 5 (v := .int .i64 L) rfl; have y6 := box_cell X0.out 6 (v := .int .i64 S) rfl; have y7 := box_cell X0.out 7 (v := .slice a1 ws.length c1) rfl; have y8 := box_cell X0.out 8 (v := .slice a2 gs.length c2) rfl; have y9 := box_cell X0.out 9 (v := .int .i64 C) rfl; have y10 := box_cell X0.out 10 (v := .int .i64 Z) rfl; have y11 := box_cell X0.out 11 (v := .slice a es.length cap) rfl)
      | (go_at_call 148; refine (fits_4 i t 4 ed nm L S a1 a2 c1 c2 ws gs C Z a cap es _ (by exact I1.out) (by exact I2.out) hx hy (by exact I3.out) hl SM.out NM.out HT.out).mono ?_; rintro e w1 ⟨rfl, b1⟩; rw [HF.out]; replace X0 := hid (kept X0.out b1); replace B0 := hid (u_cat B0.out b1); replace I1 := hid (I1.out.below b1); replace I2 := hid (I2.out.below b1); replace I3 := hid (I3.out.below b1); replace HT := hid (HT.out.below b1); clear b1 y0 y1 y2 y3 y4 y5 y6 y7 y8 y9 y10 y11; have y0 := box_cell X0.out 0 (v := .int .i64 i) rfl; have y1 := box_cell X0.out 1 (v := .int .i64 t) rfl; have y2 := box_cell X0.out 2 (v := .int .i64 4) rfl; have y3 := box_cell X0.out 3 (v := .string nm) rfl; have y4 := box_cell X0.out 4 (v := .int .i64 ed) rfl; have y5 := box_cell X0.out 5 (v := .int .i64 L) rfl; have y6 := box_cell X0.out 6 (v := .int .i64 S) rfl; have y7 := box_cell X0.out 7 (v := .slice a1 ws.length c1) rfl; have y8 := box_cell X0.out 8 (v := .slice a2 gs.length c2) rfl; have y9 := box_cell X0.out 9 (v := .int .i64 C) rfl; have y10 := box_cell X0.out 10 (v := .int .i64 Z) rfl; have y11 := box_cell X0.out 11 (v := .slice a es.length cap) rfl))
    go_ret
    exact ⟨rfl, B0.out⟩
  by_cases k1 : (0 ≤ t ∧ t ≤ 99999)
  case neg =>
    rw [decide_eq_false (show ¬ ((0 ≤ i ∧ i ≤ 3) ∧ (0 ≤ t ∧ t ≤ 99999) ∧ (0 ≤ ed ∧ ed ≤ 99999) ∧ ((ed = 0 ∧ nonP L S ws.length gs.length C Z es.length) ∨ (ed ≠ 0 ∧ getP L S ws gs C Z es)) ∧ ((0 < t ∧ nameB nm = true) ∧ ¬ (getP L S ws gs C Z es ∧ (es.length : Int) = C))) from fun h => by grind)]
    have HI := hid (decide_eq_true k0)
    have HC1 := hid (decide_eq_false k1)
    clear k0 k1
    obtain ⟨W0, hW0⟩ : ∃ W0, W0 = w.alloc (.cells #[.int .i64 i, .int .i64 t, .int .i64 4, .string nm, .int .i64 ed, .int .i64 L, .int .i64 S, .slice a1 ws.length c1, .slice a2 gs.length c2, .int .i64 C, .int .i64 Z, .slice a es.length cap] 40) := ⟨_, rfl⟩
    have X0 := hid (show W0.heap[w.heap.size]? = some (.cells #[.int .i64 i, .int .i64 t, .int .i64 4, .string nm, .int .i64 ed, .int .i64 L, .int .i64 S, .slice a1 ws.length c1, .slice a2 gs.length c2, .int .i64 C, .int .i64 Z, .slice a es.length cap] 40 (0, 0)) by rw [hW0]; exact laid _ _ _)
    have B0 := hid (show Below w.heap.size w W0 by rw [hW0]; exact u_b1 _ _)
    have I1 := hid (ha1.below B0.out)
    have I2 := hid (ha2.below B0.out)
    have I3 := hid (ha.below B0.out)
    have SM := hid hsm
    have NM := hid hnm
    have HT := hid (hT.below B0.out)
    have y0 := box_cell X0.out 0 (v := .int .i64 i) rfl
    have y1 := box_cell X0.out 1 (v := .int .i64 t) rfl
    have y2 := box_cell X0.out 2 (v := .int .i64 4) rfl
    have y3 := box_cell X0.out 3 (v := .string nm) rfl
    have y4 := box_cell X0.out 4 (v := .int .i64 ed) rfl
    have y5 := box_cell X0.out 5 (v := .int .i64 L) rfl
    have y6 := box_cell X0.out 6 (v := .int .i64 S) rfl
    have y7 := box_cell X0.out 7 (v := .slice a1 ws.length c1) rfl
    have y8 := box_cell X0.out 8 (v := .slice a2 gs.length c2) rfl
    have y9 := box_cell X0.out 9 (v := .int .i64 C) rfl
    have y10 := box_cell X0.out 10 (v := .int .i64 Z) rfl
    have y11 := box_cell X0.out 11 (v := .slice a es.length cap) rfl
    clear ha1 ha2 ha hsm hnm hT
    go_enter Tryz.func29, Tryz.ntmps29
    repeat ((fail_if_success (with_reducible show Code.wp _ (Code.region 1 _ _) _ _ _)); (first | go_values | go_skip | go_guarded | go_step | go_upon | go_back | go_simp))
    rw [← hW0]
    clear hW0
    go_wp2_with (first
      | (go_at_call 42; refine (stand_4 _).mono ?_; rintro e wa ⟨rfl, hq⟩; subst hq)
      | (go_at_call 53; refine (clientIs_any _ _).mono ?_; rintro e wa ⟨rfl, hq⟩; subst hq; rw [HI.out])
      | (go_at_call 54; refine (countOk_any _ _).mono ?_; rintro e wa ⟨rfl, hq⟩; subst hq; first | rw [HC1.out] | rw [HC2.out])
      | (go_at_call 55; refine (getOk_any i t 4 ed nm L S a1 a2 c1 c2 ws gs C Z a cap es _ (by exact I1.out) (by exact I2.out) hx hy (by exact I3.out) hl SM.out NM.out HT.out).mono ?_; rintro e w1 ⟨rfl, b1⟩; rw [HO.out]; replace X0 := hid (kept X0.out b1); replace B0 := hid (u_cat B0.out b1); replace I1 := hid (I1.out.below b1); replace I2 := hid (I2.out.below b1); replace I3 := hid (I3.out.below b1); replace HT := hid (HT.out.below b1); clear b1 y0 y1 y2 y3 y4 y5 y6 y7 y8 y9 y10 y11; have y0 := box_cell X0.out 0 (v := .int .i64 i) rfl; have y1 := box_cell X0.out 1 (v := .int .i64 t) rfl; have y2 := box_cell X0.out 2 (v := .int .i64 4) rfl; have y3 := box_cell X0.out 3 (v := .string nm) rfl; have y4 := box_cell X0.out 4 (v := .int .i64 ed) rfl; have y5 := box_cell X0.out 5 (v := .int .i64 L) rfl; have y6 := box_cell X0.out 6 (v := .int .i64 S) rfl; have y7 := box_cell X0.out 7 (v := .slice a1 ws.length c1) rfl; have y8 := box_cell X0.out 8 (v := .slice a2 gs.length c2) rfl; have y9 := box_cell X0.out 9 (v := .int .i64 C) rfl; have y10 := box_cell X0.out 10 (v := .int .i64 Z) rfl; have y11 := box_cell X0.out 11 (v := .slice a es.length cap) rfl)
      | (go_at_call 148; refine (fits_4 i t 4 ed nm L S a1 a2 c1 c2 ws gs C Z a cap es _ (by exact I1.out) (by exact I2.out) hx hy (by exact I3.out) hl SM.out NM.out HT.out).mono ?_; rintro e w1 ⟨rfl, b1⟩; rw [HF.out]; replace X0 := hid (kept X0.out b1); replace B0 := hid (u_cat B0.out b1); replace I1 := hid (I1.out.below b1); replace I2 := hid (I2.out.below b1); replace I3 := hid (I3.out.below b1); replace HT := hid (HT.out.below b1); clear b1 y0 y1 y2 y3 y4 y5 y6 y7 y8 y9 y10 y11; have y0 := box_cell X0.out 0 (v := .int .i64 i) rfl; have y1 := box_cell X0.out 1 (v := .int .i64 t) rfl; have y2 := box_cell X0.out 2 (v := .int .i64 4) rfl; have y3 := box_cell X0.out 3 (v := .string nm) rfl; have y4 := box_cell X0.out 4 (v := .int .i64 ed) rfl; have y5 := box_cell X0.out 5 (v := .int .i64 L) rfl; have y6 := box_cell X0.out 6 (v := .int .i64 S) rfl; have y7 := box_cell X0.out 7 (v := .slice a1 ws.length c1) rfl; have y8 := box_cell X0.out 8 (v := .slice a2 gs.length c2) rfl; have y9 := box_cell X0.out 9 (v := .int .i64 C) rfl; have y10 := box_cell X0.out 10 (v := .int .i64 Z) rfl; have y11 := box_cell X0.out 11 (v := .slice a es.length cap) rfl))
    go_ret
    exact ⟨rfl, B0.out⟩
  by_cases k2 : (0 ≤ ed ∧ ed ≤ 99999)
  case neg =>
    rw [decide_eq_false (show ¬ ((0 ≤ i ∧ i ≤ 3) ∧ (0 ≤ t ∧ t ≤ 99999) ∧ (0 ≤ ed ∧ ed ≤ 99999) ∧ ((ed = 0 ∧ nonP L S ws.length gs.length C Z es.length) ∨ (ed ≠ 0 ∧ getP L S ws gs C Z es)) ∧ ((0 < t ∧ nameB nm = true) ∧ ¬ (getP L S ws gs C Z es ∧ (es.length : Int) = C))) from fun h => by grind)]
    have HI := hid (decide_eq_true k0)
    have HC1 := hid (decide_eq_true k1)
    have HC2 := hid (decide_eq_false k2)
    clear k0 k1 k2
    obtain ⟨W0, hW0⟩ : ∃ W0, W0 = w.alloc (.cells #[.int .i64 i, .int .i64 t, .int .i64 4, .string nm, .int .i64 ed, .int .i64 L, .int .i64 S, .slice a1 ws.length c1, .slice a2 gs.length c2, .int .i64 C, .int .i64 Z, .slice a es.length cap] 40) := ⟨_, rfl⟩
    have X0 := hid (show W0.heap[w.heap.size]? = some (.cells #[.int .i64 i, .int .i64 t, .int .i64 4, .string nm, .int .i64 ed, .int .i64 L, .int .i64 S, .slice a1 ws.length c1, .slice a2 gs.length c2, .int .i64 C, .int .i64 Z, .slice a es.length cap] 40 (0, 0)) by rw [hW0]; exact laid _ _ _)
    have B0 := hid (show Below w.heap.size w W0 by rw [hW0]; exact u_b1 _ _)
    have I1 := hid (ha1.below B0.out)
    have I2 := hid (ha2.below B0.out)
    have I3 := hid (ha.below B0.out)
    have SM := hid hsm
    have NM := hid hnm
    have HT := hid (hT.below B0.out)
    have y0 := box_cell X0.out 0 (v := .int .i64 i) rfl
    have y1 := box_cell X0.out 1 (v := .int .i64 t) rfl
    have y2 := box_cell X0.out 2 (v := .int .i64 4) rfl
    have y3 := box_cell X0.out 3 (v := .string nm) rfl
    have y4 := box_cell X0.out 4 (v := .int .i64 ed) rfl
    have y5 := box_cell X0.out 5 (v := .int .i64 L) rfl
    have y6 := box_cell X0.out 6 (v := .int .i64 S) rfl
    have y7 := box_cell X0.out 7 (v := .slice a1 ws.length c1) rfl
    have y8 := box_cell X0.out 8 (v := .slice a2 gs.length c2) rfl
    have y9 := box_cell X0.out 9 (v := .int .i64 C) rfl
    have y10 := box_cell X0.out 10 (v := .int .i64 Z) rfl
    have y11 := box_cell X0.out 11 (v := .slice a es.length cap) rfl
    clear ha1 ha2 ha hsm hnm hT
    go_enter Tryz.func29, Tryz.ntmps29
    repeat ((fail_if_success (with_reducible show Code.wp _ (Code.region 1 _ _) _ _ _)); (first | go_values | go_skip | go_guarded | go_step | go_upon | go_back | go_simp))
    rw [← hW0]
    clear hW0
    go_wp2_with (first
      | (go_at_call 42; refine (stand_4 _).mono ?_; rintro e wa ⟨rfl, hq⟩; subst hq)
      | (go_at_call 53; refine (clientIs_any _ _).mono ?_; rintro e wa ⟨rfl, hq⟩; subst hq; rw [HI.out])
      | (go_at_call 54; refine (countOk_any _ _).mono ?_; rintro e wa ⟨rfl, hq⟩; subst hq; first | rw [HC1.out] | rw [HC2.out])
      | (go_at_call 55; refine (getOk_any i t 4 ed nm L S a1 a2 c1 c2 ws gs C Z a cap es _ (by exact I1.out) (by exact I2.out) hx hy (by exact I3.out) hl SM.out NM.out HT.out).mono ?_; rintro e w1 ⟨rfl, b1⟩; rw [HO.out]; replace X0 := hid (kept X0.out b1); replace B0 := hid (u_cat B0.out b1); replace I1 := hid (I1.out.below b1); replace I2 := hid (I2.out.below b1); replace I3 := hid (I3.out.below b1); replace HT := hid (HT.out.below b1); clear b1 y0 y1 y2 y3 y4 y5 y6 y7 y8 y9 y10 y11; have y0 := box_cell X0.out 0 (v := .int .i64 i) rfl; have y1 := box_cell X0.out 1 (v := .int .i64 t) rfl; have y2 := box_cell X0.out 2 (v := .int .i64 4) rfl; have y3 := box_cell X0.out 3 (v := .string nm) rfl; have y4 := box_cell X0.out 4 (v := .int .i64 ed) rfl; have y5 := box_cell X0.out 5 (v := .int .i64 L) rfl; have y6 := box_cell X0.out 6 (v := .int .i64 S) rfl; have y7 := box_cell X0.out 7 (v := .slice a1 ws.length c1) rfl; have y8 := box_cell X0.out 8 (v := .slice a2 gs.length c2) rfl; have y9 := box_cell X0.out 9 (v := .int .i64 C) rfl; have y10 := box_cell X0.out 10 (v := .int .i64 Z) rfl; have y11 := box_cell X0.out 11 (v := .slice a es.length cap) rfl)
      | (go_at_call 148; refine (fits_4 i t 4 ed nm L S a1 a2 c1 c2 ws gs C Z a cap es _ (by exact I1.out) (by exact I2.out) hx hy (by exact I3.out) hl SM.out NM.out HT.out).mono ?_; rintro e w1 ⟨rfl, b1⟩; rw [HF.out]; replace X0 := hid (kept X0.out b1); replace B0 := hid (u_cat B0.out b1); replace I1 := hid (I1.out.below b1); replace I2 := hid (I2.out.below b1); replace I3 := hid (I3.out.below b1); replace HT := hid (HT.out.below b1); clear b1 y0 y1 y2 y3 y4 y5 y6 y7 y8 y9 y10 y11; have y0 := box_cell X0.out 0 (v := .int .i64 i) rfl; have y1 := box_cell X0.out 1 (v := .int .i64 t) rfl; have y2 := box_cell X0.out 2 (v := .int .i64 4) rfl; have y3 := box_cell X0.out 3 (v := .string nm) rfl; have y4 := box_cell X0.out 4 (v := .int .i64 ed) rfl; have y5 := box_cell X0.out 5 (v := .int .i64 L) rfl; have y6 := box_cell X0.out 6 (v := .int .i64 S) rfl; have y7 := box_cell X0.out 7 (v := .slice a1 ws.length c1) rfl; have y8 := box_cell X0.out 8 (v := .slice a2 gs.length c2) rfl; have y9 := box_cell X0.out 9 (v := .int .i64 C) rfl; have y10 := box_cell X0.out 10 (v := .int .i64 Z) rfl; have y11 := box_cell X0.out 11 (v := .slice a es.length cap) rfl))
    go_ret
    exact ⟨rfl, B0.out⟩
  by_cases k3 : ((ed = 0 ∧ nonP L S ws.length gs.length C Z es.length) ∨ (ed ≠ 0 ∧ getP L S ws gs C Z es))
  case neg =>
    rw [decide_eq_false (show ¬ ((0 ≤ i ∧ i ≤ 3) ∧ (0 ≤ t ∧ t ≤ 99999) ∧ (0 ≤ ed ∧ ed ≤ 99999) ∧ ((ed = 0 ∧ nonP L S ws.length gs.length C Z es.length) ∨ (ed ≠ 0 ∧ getP L S ws gs C Z es)) ∧ ((0 < t ∧ nameB nm = true) ∧ ¬ (getP L S ws gs C Z es ∧ (es.length : Int) = C))) from fun h => by grind)]
    have HI := hid (decide_eq_true k0)
    have HC1 := hid (decide_eq_true k1)
    have HC2 := hid (decide_eq_true k2)
    have HO := hid (decide_eq_false k3)
    clear k0 k1 k2 k3
    obtain ⟨W0, hW0⟩ : ∃ W0, W0 = w.alloc (.cells #[.int .i64 i, .int .i64 t, .int .i64 4, .string nm, .int .i64 ed, .int .i64 L, .int .i64 S, .slice a1 ws.length c1, .slice a2 gs.length c2, .int .i64 C, .int .i64 Z, .slice a es.length cap] 40) := ⟨_, rfl⟩
    have X0 := hid (show W0.heap[w.heap.size]? = some (.cells #[.int .i64 i, .int .i64 t, .int .i64 4, .string nm, .int .i64 ed, .int .i64 L, .int .i64 S, .slice a1 ws.length c1, .slice a2 gs.length c2, .int .i64 C, .int .i64 Z, .slice a es.length cap] 40 (0, 0)) by rw [hW0]; exact laid _ _ _)
    have B0 := hid (show Below w.heap.size w W0 by rw [hW0]; exact u_b1 _ _)
    have I1 := hid (ha1.below B0.out)
    have I2 := hid (ha2.below B0.out)
    have I3 := hid (ha.below B0.out)
    have SM := hid hsm
    have NM := hid hnm
    have HT := hid (hT.below B0.out)
    have y0 := box_cell X0.out 0 (v := .int .i64 i) rfl
    have y1 := box_cell X0.out 1 (v := .int .i64 t) rfl
    have y2 := box_cell X0.out 2 (v := .int .i64 4) rfl
    have y3 := box_cell X0.out 3 (v := .string nm) rfl
    have y4 := box_cell X0.out 4 (v := .int .i64 ed) rfl
    have y5 := box_cell X0.out 5 (v := .int .i64 L) rfl
    have y6 := box_cell X0.out 6 (v := .int .i64 S) rfl
    have y7 := box_cell X0.out 7 (v := .slice a1 ws.length c1) rfl
    have y8 := box_cell X0.out 8 (v := .slice a2 gs.length c2) rfl
    have y9 := box_cell X0.out 9 (v := .int .i64 C) rfl
    have y10 := box_cell X0.out 10 (v := .int .i64 Z) rfl
    have y11 := box_cell X0.out 11 (v := .slice a es.length cap) rfl
    clear ha1 ha2 ha hsm hnm hT
    go_enter Tryz.func29, Tryz.ntmps29
    repeat ((fail_if_success (with_reducible show Code.wp _ (Code.region 1 _ _) _ _ _)); (first | go_values | go_skip | go_guarded | go_step | go_upon | go_back | go_simp))
    rw [← hW0]
    clear hW0
    go_wp2_with (first
      | (go_at_call 42; refine (stand_4 _).mono ?_; rintro e wa ⟨rfl, hq⟩; subst hq)
      | (go_at_call 53; refine (clientIs_any _ _).mono ?_; rintro e wa ⟨rfl, hq⟩; subst hq; rw [HI.out])
      | (go_at_call 54; refine (countOk_any _ _).mono ?_; rintro e wa ⟨rfl, hq⟩; subst hq; first | rw [HC1.out] | rw [HC2.out])
      | (go_at_call 55; refine (getOk_any i t 4 ed nm L S a1 a2 c1 c2 ws gs C Z a cap es _ (by exact I1.out) (by exact I2.out) hx hy (by exact I3.out) hl SM.out NM.out HT.out).mono ?_; rintro e w1 ⟨rfl, b1⟩; rw [HO.out]; replace X0 := hid (kept X0.out b1); replace B0 := hid (u_cat B0.out b1); replace I1 := hid (I1.out.below b1); replace I2 := hid (I2.out.below b1); replace I3 := hid (I3.out.below b1); replace HT := hid (HT.out.below b1); clear b1 y0 y1 y2 y3 y4 y5 y6 y7 y8 y9 y10 y11; have y0 := box_cell X0.out 0 (v := .int .i64 i) rfl; have y1 := box_cell X0.out 1 (v := .int .i64 t) rfl; have y2 := box_cell X0.out 2 (v := .int .i64 4) rfl; have y3 := box_cell X0.out 3 (v := .string nm) rfl; have y4 := box_cell X0.out 4 (v := .int .i64 ed) rfl; have y5 := box_cell X0.out 5 (v := .int .i64 L) rfl; have y6 := box_cell X0.out 6 (v := .int .i64 S) rfl; have y7 := box_cell X0.out 7 (v := .slice a1 ws.length c1) rfl; have y8 := box_cell X0.out 8 (v := .slice a2 gs.length c2) rfl; have y9 := box_cell X0.out 9 (v := .int .i64 C) rfl; have y10 := box_cell X0.out 10 (v := .int .i64 Z) rfl; have y11 := box_cell X0.out 11 (v := .slice a es.length cap) rfl)
      | (go_at_call 148; refine (fits_4 i t 4 ed nm L S a1 a2 c1 c2 ws gs C Z a cap es _ (by exact I1.out) (by exact I2.out) hx hy (by exact I3.out) hl SM.out NM.out HT.out).mono ?_; rintro e w1 ⟨rfl, b1⟩; rw [HF.out]; replace X0 := hid (kept X0.out b1); replace B0 := hid (u_cat B0.out b1); replace I1 := hid (I1.out.below b1); replace I2 := hid (I2.out.below b1); replace I3 := hid (I3.out.below b1); replace HT := hid (HT.out.below b1); clear b1 y0 y1 y2 y3 y4 y5 y6 y7 y8 y9 y10 y11; have y0 := box_cell X0.out 0 (v := .int .i64 i) rfl; have y1 := box_cell X0.out 1 (v := .int .i64 t) rfl; have y2 := box_cell X0.out 2 (v := .int .i64 4) rfl; have y3 := box_cell X0.out 3 (v := .string nm) rfl; have y4 := box_cell X0.out 4 (v := .int .i64 ed) rfl; have y5 := box_cell X0.out 5 (v := .int .i64 L) rfl; have y6 := box_cell X0.out 6 (v := .int .i64 S) rfl; have y7 := box_cell X0.out 7 (v := .slice a1 ws.length c1) rfl; have y8 := box_cell X0.out 8 (v := .slice a2 gs.length c2) rfl; have y9 := box_cell X0.out 9 (v := .int .i64 C) rfl; have y10 := box_cell X0.out 10 (v := .int .i64 Z) rfl; have y11 := box_cell X0.out 11 (v := .slice a es.length cap) rfl))
    go_ret
    exact ⟨rfl, B0.out⟩
  by_cases k4 : ((0 < t ∧ nameB nm = true) ∧ ¬ (getP L S ws gs C Z es ∧ (es.length : Int) = C))
  case neg =>
    rw [decide_eq_false (show ¬ ((0 ≤ i ∧ i ≤ 3) ∧ (0 ≤ t ∧ t ≤ 99999) ∧ (0 ≤ ed ∧ ed ≤ 99999) ∧ ((ed = 0 ∧ nonP L S ws.length gs.length C Z es.length) ∨ (ed ≠ 0 ∧ getP L S ws gs C Z es)) ∧ ((0 < t ∧ nameB nm = true) ∧ ¬ (getP L S ws gs C Z es ∧ (es.length : Int) = C))) from fun h => by grind)]
    have HI := hid (decide_eq_true k0)
    have HC1 := hid (decide_eq_true k1)
    have HC2 := hid (decide_eq_true k2)
    have HO := hid (decide_eq_true k3)
    have HF := hid (decide_eq_false k4)
    clear k0 k1 k2 k3 k4
    obtain ⟨W0, hW0⟩ : ∃ W0, W0 = w.alloc (.cells #[.int .i64 i, .int .i64 t, .int .i64 4, .string nm, .int .i64 ed, .int .i64 L, .int .i64 S, .slice a1 ws.length c1, .slice a2 gs.length c2, .int .i64 C, .int .i64 Z, .slice a es.length cap] 40) := ⟨_, rfl⟩
    have X0 := hid (show W0.heap[w.heap.size]? = some (.cells #[.int .i64 i, .int .i64 t, .int .i64 4, .string nm, .int .i64 ed, .int .i64 L, .int .i64 S, .slice a1 ws.length c1, .slice a2 gs.length c2, .int .i64 C, .int .i64 Z, .slice a es.length cap] 40 (0, 0)) by rw [hW0]; exact laid _ _ _)
    have B0 := hid (show Below w.heap.size w W0 by rw [hW0]; exact u_b1 _ _)
    have I1 := hid (ha1.below B0.out)
    have I2 := hid (ha2.below B0.out)
    have I3 := hid (ha.below B0.out)
    have SM := hid hsm
    have NM := hid hnm
    have HT := hid (hT.below B0.out)
    have y0 := box_cell X0.out 0 (v := .int .i64 i) rfl
    have y1 := box_cell X0.out 1 (v := .int .i64 t) rfl
    have y2 := box_cell X0.out 2 (v := .int .i64 4) rfl
    have y3 := box_cell X0.out 3 (v := .string nm) rfl
    have y4 := box_cell X0.out 4 (v := .int .i64 ed) rfl
    have y5 := box_cell X0.out 5 (v := .int .i64 L) rfl
    have y6 := box_cell X0.out 6 (v := .int .i64 S) rfl
    have y7 := box_cell X0.out 7 (v := .slice a1 ws.length c1) rfl
    have y8 := box_cell X0.out 8 (v := .slice a2 gs.length c2) rfl
    have y9 := box_cell X0.out 9 (v := .int .i64 C) rfl
    have y10 := box_cell X0.out 10 (v := .int .i64 Z) rfl
    have y11 := box_cell X0.out 11 (v := .slice a es.length cap) rfl
    clear ha1 ha2 ha hsm hnm hT
    go_enter Tryz.func29, Tryz.ntmps29
    repeat ((fail_if_success (with_reducible show Code.wp _ (Code.region 1 _ _) _ _ _)); (first | go_values | go_skip | go_guarded | go_step | go_upon | go_back | go_simp))
    rw [← hW0]
    clear hW0
    go_wp2_with (first
      | (go_at_call 42; refine (stand_4 _).mono ?_; rintro e wa ⟨rfl, hq⟩; subst hq)
      | (go_at_call 53; refine (clientIs_any _ _).mono ?_; rintro e wa ⟨rfl, hq⟩; subst hq; rw [HI.out])
      | (go_at_call 54; refine (countOk_any _ _).mono ?_; rintro e wa ⟨rfl, hq⟩; subst hq; first | rw [HC1.out] | rw [HC2.out])
      | (go_at_call 55; refine (getOk_any i t 4 ed nm L S a1 a2 c1 c2 ws gs C Z a cap es _ (by exact I1.out) (by exact I2.out) hx hy (by exact I3.out) hl SM.out NM.out HT.out).mono ?_; rintro e w1 ⟨rfl, b1⟩; rw [HO.out]; replace X0 := hid (kept X0.out b1); replace B0 := hid (u_cat B0.out b1); replace I1 := hid (I1.out.below b1); replace I2 := hid (I2.out.below b1); replace I3 := hid (I3.out.below b1); replace HT := hid (HT.out.below b1); clear b1 y0 y1 y2 y3 y4 y5 y6 y7 y8 y9 y10 y11; have y0 := box_cell X0.out 0 (v := .int .i64 i) rfl; have y1 := box_cell X0.out 1 (v := .int .i64 t) rfl; have y2 := box_cell X0.out 2 (v := .int .i64 4) rfl; have y3 := box_cell X0.out 3 (v := .string nm) rfl; have y4 := box_cell X0.out 4 (v := .int .i64 ed) rfl; have y5 := box_cell X0.out 5 (v := .int .i64 L) rfl; have y6 := box_cell X0.out 6 (v := .int .i64 S) rfl; have y7 := box_cell X0.out 7 (v := .slice a1 ws.length c1) rfl; have y8 := box_cell X0.out 8 (v := .slice a2 gs.length c2) rfl; have y9 := box_cell X0.out 9 (v := .int .i64 C) rfl; have y10 := box_cell X0.out 10 (v := .int .i64 Z) rfl; have y11 := box_cell X0.out 11 (v := .slice a es.length cap) rfl)
      | (go_at_call 148; refine (fits_4 i t 4 ed nm L S a1 a2 c1 c2 ws gs C Z a cap es _ (by exact I1.out) (by exact I2.out) hx hy (by exact I3.out) hl SM.out NM.out HT.out).mono ?_; rintro e w1 ⟨rfl, b1⟩; rw [HF.out]; replace X0 := hid (kept X0.out b1); replace B0 := hid (u_cat B0.out b1); replace I1 := hid (I1.out.below b1); replace I2 := hid (I2.out.below b1); replace I3 := hid (I3.out.below b1); replace HT := hid (HT.out.below b1); clear b1 y0 y1 y2 y3 y4 y5 y6 y7 y8 y9 y10 y11; have y0 := box_cell X0.out 0 (v := .int .i64 i) rfl; have y1 := box_cell X0.out 1 (v := .int .i64 t) rfl; have y2 := box_cell X0.out 2 (v := .int .i64 4) rfl; have y3 := box_cell X0.out 3 (v := .string nm) rfl; have y4 := box_cell X0.out 4 (v := .int .i64 ed) rfl; have y5 := box_cell X0.out 5 (v := .int .i64 L) rfl; have y6 := box_cell X0.out 6 (v := .int .i64 S) rfl; have y7 := box_cell X0.out 7 (v := .slice a1 ws.length c1) rfl; have y8 := box_cell X0.out 8 (v := .slice a2 gs.length c2) rfl; have y9 := box_cell X0.out 9 (v := .int .i64 C) rfl; have y10 := box_cell X0.out 10 (v := .int .i64 Z) rfl; have y11 := box_cell X0.out 11 (v := .slice a es.length cap) rfl))
    go_ret
    exact ⟨rfl, B0.out⟩
  rw [decide_eq_true (show (0 ≤ i ∧ i ≤ 3) ∧ (0 ≤ t ∧ t ≤ 99999) ∧ (0 ≤ ed ∧ ed ≤ 99999) ∧ ((ed = 0 ∧ nonP L S ws.length gs.length C Z es.length) ∨ (ed ≠ 0 ∧ getP L S ws gs C Z es)) ∧ ((0 < t ∧ nameB nm = true) ∧ ¬ (getP L S ws gs C Z es ∧ (es.length : Int) = C)) by grind)]
  have HI := hid (decide_eq_true k0)
  have HC1 := hid (decide_eq_true k1)
  have HC2 := hid (decide_eq_true k2)
  have HO := hid (decide_eq_true k3)
  have HF := hid (decide_eq_true k4)
  clear k0 k1 k2 k3 k4
  obtain ⟨W0, hW0⟩ : ∃ W0, W0 = w.alloc (.cells #[.int .i64 i, .int .i64 t, .int .i64 4, .string nm, .int .i64 ed, .int .i64 L, .int .i64 S, .slice a1 ws.length c1, .slice a2 gs.length c2, .int .i64 C, .int .i64 Z, .slice a es.length cap] 40) := ⟨_, rfl⟩
  have X0 := hid (show W0.heap[w.heap.size]? = some (.cells #[.int .i64 i, .int .i64 t, .int .i64 4, .string nm, .int .i64 ed, .int .i64 L, .int .i64 S, .slice a1 ws.length c1, .slice a2 gs.length c2, .int .i64 C, .int .i64 Z, .slice a es.length cap] 40 (0, 0)) by rw [hW0]; exact laid _ _ _)
  have B0 := hid (show Below w.heap.size w W0 by rw [hW0]; exact u_b1 _ _)
  have I1 := hid (ha1.below B0.out)
  have I2 := hid (ha2.below B0.out)
  have I3 := hid (ha.below B0.out)
  have SM := hid hsm
  have NM := hid hnm
  have HT := hid (hT.below B0.out)
  have y0 := box_cell X0.out 0 (v := .int .i64 i) rfl
  have y1 := box_cell X0.out 1 (v := .int .i64 t) rfl
  have y2 := box_cell X0.out 2 (v := .int .i64 4) rfl
  have y3 := box_cell X0.out 3 (v := .string nm) rfl
  have y4 := box_cell X0.out 4 (v := .int .i64 ed) rfl
  have y5 := box_cell X0.out 5 (v := .int .i64 L) rfl
  have y6 := box_cell X0.out 6 (v := .int .i64 S) rfl
  have y7 := box_cell X0.out 7 (v := .slice a1 ws.length c1) rfl
  have y8 := box_cell X0.out 8 (v := .slice a2 gs.length c2) rfl
  have y9 := box_cell X0.out 9 (v := .int .i64 C) rfl
  have y10 := box_cell X0.out 10 (v := .int .i64 Z) rfl
  have y11 := box_cell X0.out 11 (v := .slice a es.length cap) rfl
  clear ha1 ha2 ha hsm hnm hT
  go_enter Tryz.func29, Tryz.ntmps29
  repeat ((fail_if_success (with_reducible show Code.wp _ (Code.region 1 _ _) _ _ _)); (first | go_values | go_skip | go_guarded | go_step | go_upon | go_back | go_simp))
  rw [← hW0]
  clear hW0
  go_wp2_with (first
    | (go_at_call 42; refine (stand_4 _).mono ?_; rintro e wa ⟨rfl, hq⟩; subst hq)
    | (go_at_call 53; refine (clientIs_any _ _).mono ?_; rintro e wa ⟨rfl, hq⟩; subst hq; rw [HI.out])
    | (go_at_call 54; refine (countOk_any _ _).mono ?_; rintro e wa ⟨rfl, hq⟩; subst hq; first | rw [HC1.out] | rw [HC2.out])
    | (go_at_call 55; refine (getOk_any i t 4 ed nm L S a1 a2 c1 c2 ws gs C Z a cap es _ (by exact I1.out) (by exact I2.out) hx hy (by exact I3.out) hl SM.out NM.out HT.out).mono ?_; rintro e w1 ⟨rfl, b1⟩; rw [HO.out]; replace X0 := hid (kept X0.out b1); replace B0 := hid (u_cat B0.out b1); replace I1 := hid (I1.out.below b1); replace I2 := hid (I2.out.below b1); replace I3 := hid (I3.out.below b1); replace HT := hid (HT.out.below b1); clear b1 y0 y1 y2 y3 y4 y5 y6 y7 y8 y9 y10 y11; have y0 := box_cell X0.out 0 (v := .int .i64 i) rfl; have y1 := box_cell X0.out 1 (v := .int .i64 t) rfl; have y2 := box_cell X0.out 2 (v := .int .i64 4) rfl; have y3 := box_cell X0.out 3 (v := .string nm) rfl; have y4 := box_cell X0.out 4 (v := .int .i64 ed) rfl; have y5 := box_cell X0.out 5 (v := .int .i64 L) rfl; have y6 := box_cell X0.out 6 (v := .int .i64 S) rfl; have y7 := box_cell X0.out 7 (v := .slice a1 ws.length c1) rfl; have y8 := box_cell X0.out 8 (v := .slice a2 gs.length c2) rfl; have y9 := box_cell X0.out 9 (v := .int .i64 C) rfl; have y10 := box_cell X0.out 10 (v := .int .i64 Z) rfl; have y11 := box_cell X0.out 11 (v := .slice a es.length cap) rfl)
    | (go_at_call 148; refine (fits_4 i t 4 ed nm L S a1 a2 c1 c2 ws gs C Z a cap es _ (by exact I1.out) (by exact I2.out) hx hy (by exact I3.out) hl SM.out NM.out HT.out).mono ?_; rintro e w1 ⟨rfl, b1⟩; rw [HF.out]; replace X0 := hid (kept X0.out b1); replace B0 := hid (u_cat B0.out b1); replace I1 := hid (I1.out.below b1); replace I2 := hid (I2.out.below b1); replace I3 := hid (I3.out.below b1); replace HT := hid (HT.out.below b1); clear b1 y0 y1 y2 y3 y4 y5 y6 y7 y8 y9 y10 y11; have y0 := box_cell X0.out 0 (v := .int .i64 i) rfl; have y1 := box_cell X0.out 1 (v := .int .i64 t) rfl; have y2 := box_cell X0.out 2 (v := .int .i64 4) rfl; have y3 := box_cell X0.out 3 (v := .string nm) rfl; have y4 := box_cell X0.out 4 (v := .int .i64 ed) rfl; have y5 := box_cell X0.out 5 (v := .int .i64 L) rfl; have y6 := box_cell X0.out 6 (v := .int .i64 S) rfl; have y7 := box_cell X0.out 7 (v := .slice a1 ws.length c1) rfl; have y8 := box_cell X0.out 8 (v := .slice a2 gs.length c2) rfl; have y9 := box_cell X0.out 9 (v := .int .i64 C) rfl; have y10 := box_cell X0.out 10 (v := .int .i64 Z) rfl; have y11 := box_cell X0.out 11 (v := .slice a es.length cap) rfl))
  go_ret
  exact ⟨rfl, B0.out⟩
end Go.Proofs.YtbakicgdloakgaaGreatDoor
