/- A client that is ok, by the model. -/
import Derived.Test.YtbakicgdloakgaaGreatDoorG10
import Derived.Test.YtbakicgdloakgaaGreatDoorG25
import Derived.Test.YtbakicgdloakgaaGreatDoorG0
import Derived.Test.YtbakicgdloakgaaGreatDoorG1
namespace Go.Proofs.YtbakicgdloakgaaGreatDoor
open Go.ChangeShapes Go.WideShapes Go.ChangeAt Go.RowKit Go.Sort Go.Shelf
attribute [local go_sem] Oper.semAt_some

/-- A client that is ok. -/
def cliP (i t s ed : Int) (nm : ByteArray) (non get done : Prop) : Prop :=
  (0 ≤ i ∧ i ≤ 3) ∧ (0 ≤ t ∧ t ≤ 99999) ∧ (0 ≤ s ∧ s ≤ 4) ∧ (0 ≤ ed ∧ ed ≤ 99999) ∧ (ed = 0 → non) ∧ (0 < ed → get) ∧ (s = 0 → nm = ⟨#[]⟩ ∧ ed = 0) ∧ (s ≠ 0 → t ≠ 0 ∧ nameB nm = true) ∧ (s = 2 → 0 < ed ∧ ¬ done) ∧ (s = 3 → 0 < ed ∧ done) ∧ ((s = 1 ∨ s = 4) → ed = 0 ∨ ¬ done)
instance (i t s ed : Int) (nm : ByteArray) (non get done : Prop) [Decidable non] [Decidable get] [Decidable done] : Decidable (cliP i t s ed nm non get done) := by unfold cliP; infer_instance

set_option maxHeartbeats 4000000 in
set_option maxRecDepth 100000 in
theorem specCli_i (s : Int) (ed : Int) (i t : Int) (nm : ByteArray) (L S : Int) (a1 a2 : Option Addr) (c1 c2 : Nat) (ws gs : List Int) (C Z : Int) (a : Option Addr) (cap : Nat) (es : List EqV) (w : World) (ha1 : IntsAt w a1 ws) (ha2 : IntsAt w a2 gs) (_hx : ws.length ≤ 1048576) (_hy : gs.length ≤ 1048576) (ha : EqsAt w a es) (_hl : es.length ≤ 1048576) (hsm : SmallE es) (hnm : nm.size ≤ maxLen) (hi : i < 0 ∨ 3 < i) :
    Calls Tryz.prog 24 #[.agg #[.int .i64 i, .int .i64 t, .int .i64 s, .string nm, .int .i64 ed, .int .i64 L, .int .i64 S, .slice a1 ws.length c1, .slice a2 gs.length c2, .int .i64 C, .int .i64 Z, .slice a es.length cap]] w fun e w' => e = .returned (.bool false) ∧ Below w.heap.size w w' := by
  obtain ⟨W0, hW0⟩ : ∃ W0, W0 = w.alloc (.cells #[.int .i64 i, .int .i64 t, .int .i64 s, .string nm, .int .i64 ed, .int .i64 L, .int .i64 S, .slice a1 ws.length c1, .slice a2 gs.length c2, .int .i64 C, .int .i64 Z, .slice a es.length cap] 40) := ⟨_, rfl⟩
  have X0 := hid (show W0.heap[w.heap.size]? = some (.cells #[.int .i64 i, .int .i64 t, .int .i64 s, .string nm, .int .i64 ed, .int .i64 L, .int .i64 S, .slice a1 ws.length c1, .slice a2 gs.length c2, .int .i64 C, .int .i64 Z, .slice a es.length cap] 40 (0, 0)) by rw [hW0]; exact laid _ _ _)
  have B0 := hid (show Below w.heap.size w W0 by rw [hW0]; exact u_b1 _ _)
  have I1 := hid (ha1.below B0.out)
  have I2 := hid (ha2.below B0.out)
  have I3 := hid (ha.below B0.out)
  have SM := hid hsm
  have NM := hid hnm
  have y0 := box_cell X0.out 0 (v := .int .i64 i) rfl
  have y1 := box_cell X0.out 1 (v := .int .i64 t) rfl
  have y2 := box_cell X0.out 2 (v := .int .i64 s) rfl
  have y3 := box_cell X0.out 3 (v := .string nm) rfl
  have y4 := box_cell X0.out 4 (v := .int .i64 ed) rfl
  have y5 := box_cell X0.out 5 (v := .int .i64 L) rfl
  have y6 := box_cell X0.out 6 (v := .int .i64 S) rfl
  have y7 := box_cell X0.out 7 (v := .slice a1 ws.length c1) rfl
  have y8 := box_cell X0.out 8 (v := .slice a2 gs.length c2) rfl
  have y9 := box_cell X0.out 9 (v := .int .i64 C) rfl
  have y10 := box_cell X0.out 10 (v := .int .i64 Z) rfl
  have y11 := box_cell X0.out 11 (v := .slice a es.length cap) rfl
  clear ha1 ha2 ha hsm hnm
  go_enter Tryz.func24, Tryz.ntmps24
  repeat ((fail_if_success (with_reducible show Code.wp _ (Code.region 1 _ _) _ _ _)); (first | go_values | go_skip | go_guarded | go_step | go_upon | go_back | go_simp))
  rw [← hW0]
  clear hW0
  go_wp2_with (first
    | (go_at_call 46; refine (l1In_yes _ _ _ _ (by omega)).mono ?_; rintro e wa ⟨rfl, hq⟩; subst hq)
    | (go_at_call 46; refine (l1In_no _ _ _ _ (by omega)).mono ?_; rintro e wa ⟨rfl, hq⟩; subst hq))
  go_ret
  exact ⟨rfl, B0.out⟩
set_option maxHeartbeats 4000000 in
set_option maxRecDepth 100000 in
theorem specCli_t (s : Int) (ed : Int) (i t : Int) (nm : ByteArray) (L S : Int) (a1 a2 : Option Addr) (c1 c2 : Nat) (ws gs : List Int) (C Z : Int) (a : Option Addr) (cap : Nat) (es : List EqV) (w : World) (ha1 : IntsAt w a1 ws) (ha2 : IntsAt w a2 gs) (_hx : ws.length ≤ 1048576) (_hy : gs.length ≤ 1048576) (ha : EqsAt w a es) (_hl : es.length ≤ 1048576) (hsm : SmallE es) (hnm : nm.size ≤ maxLen) (hi : 0 ≤ i ∧ i ≤ 3) (ht : t < 0 ∨ 99999 < t) :
    Calls Tryz.prog 24 #[.agg #[.int .i64 i, .int .i64 t, .int .i64 s, .string nm, .int .i64 ed, .int .i64 L, .int .i64 S, .slice a1 ws.length c1, .slice a2 gs.length c2, .int .i64 C, .int .i64 Z, .slice a es.length cap]] w fun e w' => e = .returned (.bool false) ∧ Below w.heap.size w w' := by
  obtain ⟨W0, hW0⟩ : ∃ W0, W0 = w.alloc (.cells #[.int .i64 i, .int .i64 t, .int .i64 s, .string nm, .int .i64 ed, .int .i64 L, .int .i64 S, .slice a1 ws.length c1, .slice a2 gs.length c2, .int .i64 C, .int .i64 Z, .slice a es.length cap] 40) := ⟨_, rfl⟩
  have X0 := hid (show W0.heap[w.heap.size]? = some (.cells #[.int .i64 i, .int .i64 t, .int .i64 s, .string nm, .int .i64 ed, .int .i64 L, .int .i64 S, .slice a1 ws.length c1, .slice a2 gs.length c2, .int .i64 C, .int .i64 Z, .slice a es.length cap] 40 (0, 0)) by rw [hW0]; exact laid _ _ _)
  have B0 := hid (show Below w.heap.size w W0 by rw [hW0]; exact u_b1 _ _)
  have I1 := hid (ha1.below B0.out)
  have I2 := hid (ha2.below B0.out)
  have I3 := hid (ha.below B0.out)
  have SM := hid hsm
  have NM := hid hnm
  have y0 := box_cell X0.out 0 (v := .int .i64 i) rfl
  have y1 := box_cell X0.out 1 (v := .int .i64 t) rfl
  have y2 := box_cell X0.out 2 (v := .int .i64 s) rfl
  have y3 := box_cell X0.out 3 (v := .string nm) rfl
  have y4 := box_cell X0.out 4 (v := .int .i64 ed) rfl
  have y5 := box_cell X0.out 5 (v := .int .i64 L) rfl
  have y6 := box_cell X0.out 6 (v := .int .i64 S) rfl
  have y7 := box_cell X0.out 7 (v := .slice a1 ws.length c1) rfl
  have y8 := box_cell X0.out 8 (v := .slice a2 gs.length c2) rfl
  have y9 := box_cell X0.out 9 (v := .int .i64 C) rfl
  have y10 := box_cell X0.out 10 (v := .int .i64 Z) rfl
  have y11 := box_cell X0.out 11 (v := .slice a es.length cap) rfl
  clear ha1 ha2 ha hsm hnm
  go_enter Tryz.func24, Tryz.ntmps24
  repeat ((fail_if_success (with_reducible show Code.wp _ (Code.region 1 _ _) _ _ _)); (first | go_values | go_skip | go_guarded | go_step | go_upon | go_back | go_simp))
  rw [← hW0]
  clear hW0
  go_wp2_with (first
    | (go_at_call 46; refine (l1In_yes _ _ _ _ (by omega)).mono ?_; rintro e wa ⟨rfl, hq⟩; subst hq)
    | (go_at_call 46; refine (l1In_no _ _ _ _ (by omega)).mono ?_; rintro e wa ⟨rfl, hq⟩; subst hq))
  go_ret
  exact ⟨rfl, B0.out⟩
set_option maxHeartbeats 4000000 in
set_option maxRecDepth 100000 in
theorem specCli_s (s : Int) (ed : Int) (i t : Int) (nm : ByteArray) (L S : Int) (a1 a2 : Option Addr) (c1 c2 : Nat) (ws gs : List Int) (C Z : Int) (a : Option Addr) (cap : Nat) (es : List EqV) (w : World) (ha1 : IntsAt w a1 ws) (ha2 : IntsAt w a2 gs) (_hx : ws.length ≤ 1048576) (_hy : gs.length ≤ 1048576) (ha : EqsAt w a es) (_hl : es.length ≤ 1048576) (hsm : SmallE es) (hnm : nm.size ≤ maxLen) (hi : 0 ≤ i ∧ i ≤ 3) (ht : 0 ≤ t ∧ t ≤ 99999) (hs : s < 0 ∨ 4 < s) :
    Calls Tryz.prog 24 #[.agg #[.int .i64 i, .int .i64 t, .int .i64 s, .string nm, .int .i64 ed, .int .i64 L, .int .i64 S, .slice a1 ws.length c1, .slice a2 gs.length c2, .int .i64 C, .int .i64 Z, .slice a es.length cap]] w fun e w' => e = .returned (.bool false) ∧ Below w.heap.size w w' := by
  obtain ⟨W0, hW0⟩ : ∃ W0, W0 = w.alloc (.cells #[.int .i64 i, .int .i64 t, .int .i64 s, .string nm, .int .i64 ed, .int .i64 L, .int .i64 S, .slice a1 ws.length c1, .slice a2 gs.length c2, .int .i64 C, .int .i64 Z, .slice a es.length cap] 40) := ⟨_, rfl⟩
  have X0 := hid (show W0.heap[w.heap.size]? = some (.cells #[.int .i64 i, .int .i64 t, .int .i64 s, .string nm, .int .i64 ed, .int .i64 L, .int .i64 S, .slice a1 ws.length c1, .slice a2 gs.length c2, .int .i64 C, .int .i64 Z, .slice a es.length cap] 40 (0, 0)) by rw [hW0]; exact laid _ _ _)
  have B0 := hid (show Below w.heap.size w W0 by rw [hW0]; exact u_b1 _ _)
  have I1 := hid (ha1.below B0.out)
  have I2 := hid (ha2.below B0.out)
  have I3 := hid (ha.below B0.out)
  have SM := hid hsm
  have NM := hid hnm
  have y0 := box_cell X0.out 0 (v := .int .i64 i) rfl
  have y1 := box_cell X0.out 1 (v := .int .i64 t) rfl
  have y2 := box_cell X0.out 2 (v := .int .i64 s) rfl
  have y3 := box_cell X0.out 3 (v := .string nm) rfl
  have y4 := box_cell X0.out 4 (v := .int .i64 ed) rfl
  have y5 := box_cell X0.out 5 (v := .int .i64 L) rfl
  have y6 := box_cell X0.out 6 (v := .int .i64 S) rfl
  have y7 := box_cell X0.out 7 (v := .slice a1 ws.length c1) rfl
  have y8 := box_cell X0.out 8 (v := .slice a2 gs.length c2) rfl
  have y9 := box_cell X0.out 9 (v := .int .i64 C) rfl
  have y10 := box_cell X0.out 10 (v := .int .i64 Z) rfl
  have y11 := box_cell X0.out 11 (v := .slice a es.length cap) rfl
  clear ha1 ha2 ha hsm hnm
  go_enter Tryz.func24, Tryz.ntmps24
  repeat ((fail_if_success (with_reducible show Code.wp _ (Code.region 1 _ _) _ _ _)); (first | go_values | go_skip | go_guarded | go_step | go_upon | go_back | go_simp))
  rw [← hW0]
  clear hW0
  go_wp2_with (first
    | (go_at_call 46; refine (l1In_yes _ _ _ _ (by omega)).mono ?_; rintro e wa ⟨rfl, hq⟩; subst hq)
    | (go_at_call 46; refine (l1In_no _ _ _ _ (by omega)).mono ?_; rintro e wa ⟨rfl, hq⟩; subst hq))
  go_ret
  exact ⟨rfl, B0.out⟩
set_option maxHeartbeats 4000000 in
set_option maxRecDepth 100000 in
theorem specCli_e (s : Int) (ed : Int) (i t : Int) (nm : ByteArray) (L S : Int) (a1 a2 : Option Addr) (c1 c2 : Nat) (ws gs : List Int) (C Z : Int) (a : Option Addr) (cap : Nat) (es : List EqV) (w : World) (ha1 : IntsAt w a1 ws) (ha2 : IntsAt w a2 gs) (_hx : ws.length ≤ 1048576) (_hy : gs.length ≤ 1048576) (ha : EqsAt w a es) (_hl : es.length ≤ 1048576) (hsm : SmallE es) (hnm : nm.size ≤ maxLen) (hi : 0 ≤ i ∧ i ≤ 3) (ht : 0 ≤ t ∧ t ≤ 99999) (hs : 0 ≤ s ∧ s ≤ 4) (he : ed < 0 ∨ 99999 < ed) :
    Calls Tryz.prog 24 #[.agg #[.int .i64 i, .int .i64 t, .int .i64 s, .string nm, .int .i64 ed, .int .i64 L, .int .i64 S, .slice a1 ws.length c1, .slice a2 gs.length c2, .int .i64 C, .int .i64 Z, .slice a es.length cap]] w fun e w' => e = .returned (.bool false) ∧ Below w.heap.size w w' := by
  obtain ⟨W0, hW0⟩ : ∃ W0, W0 = w.alloc (.cells #[.int .i64 i, .int .i64 t, .int .i64 s, .string nm, .int .i64 ed, .int .i64 L, .int .i64 S, .slice a1 ws.length c1, .slice a2 gs.length c2, .int .i64 C, .int .i64 Z, .slice a es.length cap] 40) := ⟨_, rfl⟩
  have X0 := hid (show W0.heap[w.heap.size]? = some (.cells #[.int .i64 i, .int .i64 t, .int .i64 s, .string nm, .int .i64 ed, .int .i64 L, .int .i64 S, .slice a1 ws.length c1, .slice a2 gs.length c2, .int .i64 C, .int .i64 Z, .slice a es.length cap] 40 (0, 0)) by rw [hW0]; exact laid _ _ _)
  have B0 := hid (show Below w.heap.size w W0 by rw [hW0]; exact u_b1 _ _)
  have I1 := hid (ha1.below B0.out)
  have I2 := hid (ha2.below B0.out)
  have I3 := hid (ha.below B0.out)
  have SM := hid hsm
  have NM := hid hnm
  have y0 := box_cell X0.out 0 (v := .int .i64 i) rfl
  have y1 := box_cell X0.out 1 (v := .int .i64 t) rfl
  have y2 := box_cell X0.out 2 (v := .int .i64 s) rfl
  have y3 := box_cell X0.out 3 (v := .string nm) rfl
  have y4 := box_cell X0.out 4 (v := .int .i64 ed) rfl
  have y5 := box_cell X0.out 5 (v := .int .i64 L) rfl
  have y6 := box_cell X0.out 6 (v := .int .i64 S) rfl
  have y7 := box_cell X0.out 7 (v := .slice a1 ws.length c1) rfl
  have y8 := box_cell X0.out 8 (v := .slice a2 gs.length c2) rfl
  have y9 := box_cell X0.out 9 (v := .int .i64 C) rfl
  have y10 := box_cell X0.out 10 (v := .int .i64 Z) rfl
  have y11 := box_cell X0.out 11 (v := .slice a es.length cap) rfl
  clear ha1 ha2 ha hsm hnm
  go_enter Tryz.func24, Tryz.ntmps24
  repeat ((fail_if_success (with_reducible show Code.wp _ (Code.region 1 _ _) _ _ _)); (first | go_values | go_skip | go_guarded | go_step | go_upon | go_back | go_simp))
  rw [← hW0]
  clear hW0
  go_wp2_with (first
    | (go_at_call 46; refine (l1In_yes _ _ _ _ (by omega)).mono ?_; rintro e wa ⟨rfl, hq⟩; subst hq)
    | (go_at_call 46; refine (l1In_no _ _ _ _ (by omega)).mono ?_; rintro e wa ⟨rfl, hq⟩; subst hq))
  go_ret
  exact ⟨rfl, B0.out⟩
set_option maxHeartbeats 4000000 in
set_option maxRecDepth 100000 in
theorem specCli_n (s : Int) (i t : Int) (nm : ByteArray) (L S : Int) (a1 a2 : Option Addr) (c1 c2 : Nat) (ws gs : List Int) (C Z : Int) (a : Option Addr) (cap : Nat) (es : List EqV) (w : World) (ha1 : IntsAt w a1 ws) (ha2 : IntsAt w a2 gs) (_hx : ws.length ≤ 1048576) (_hy : gs.length ≤ 1048576) (ha : EqsAt w a es) (_hl : es.length ≤ 1048576) (hsm : SmallE es) (hnm : nm.size ≤ maxLen) (hi : 0 ≤ i ∧ i ≤ 3) (ht : 0 ≤ t ∧ t ≤ 99999) (hs : 0 ≤ s ∧ s ≤ 4) (hHN : ¬ (nonP L S ws.length gs.length C Z es.length)) :
    Calls Tryz.prog 24 #[.agg #[.int .i64 i, .int .i64 t, .int .i64 s, .string nm, .int .i64 0, .int .i64 L, .int .i64 S, .slice a1 ws.length c1, .slice a2 gs.length c2, .int .i64 C, .int .i64 Z, .slice a es.length cap]] w fun e w' => e = .returned (.bool false) ∧ Below w.heap.size w w' := by
  obtain ⟨W0, hW0⟩ : ∃ W0, W0 = w.alloc (.cells #[.int .i64 i, .int .i64 t, .int .i64 s, .string nm, .int .i64 0, .int .i64 L, .int .i64 S, .slice a1 ws.length c1, .slice a2 gs.length c2, .int .i64 C, .int .i64 Z, .slice a es.length cap] 40) := ⟨_, rfl⟩
  have X0 := hid (show W0.heap[w.heap.size]? = some (.cells #[.int .i64 i, .int .i64 t, .int .i64 s, .string nm, .int .i64 0, .int .i64 L, .int .i64 S, .slice a1 ws.length c1, .slice a2 gs.length c2, .int .i64 C, .int .i64 Z, .slice a es.length cap] 40 (0, 0)) by rw [hW0]; exact laid _ _ _)
  have B0 := hid (show Below w.heap.size w W0 by rw [hW0]; exact u_b1 _ _)
  have I1 := hid (ha1.below B0.out)
  have I2 := hid (ha2.below B0.out)
  have I3 := hid (ha.below B0.out)
  have SM := hid hsm
  have NM := hid hnm
  have y0 := box_cell X0.out 0 (v := .int .i64 i) rfl
  have y1 := box_cell X0.out 1 (v := .int .i64 t) rfl
  have y2 := box_cell X0.out 2 (v := .int .i64 s) rfl
  have y3 := box_cell X0.out 3 (v := .string nm) rfl
  have y4 := box_cell X0.out 4 (v := .int .i64 0) rfl
  have y5 := box_cell X0.out 5 (v := .int .i64 L) rfl
  have y6 := box_cell X0.out 6 (v := .int .i64 S) rfl
  have y7 := box_cell X0.out 7 (v := .slice a1 ws.length c1) rfl
  have y8 := box_cell X0.out 8 (v := .slice a2 gs.length c2) rfl
  have y9 := box_cell X0.out 9 (v := .int .i64 C) rfl
  have y10 := box_cell X0.out 10 (v := .int .i64 Z) rfl
  have y11 := box_cell X0.out 11 (v := .slice a es.length cap) rfl
  have HN := hid (decide_eq_false (p := nonP L S ws.length gs.length C Z es.length) hHN)
  clear ha1 ha2 ha hsm hnm
  go_enter Tryz.func24, Tryz.ntmps24
  repeat ((fail_if_success (with_reducible show Code.wp _ (Code.region 1 _ _) _ _ _)); (first | go_values | go_skip | go_guarded | go_step | go_upon | go_back | go_simp))
  rw [← hW0]
  clear hW0
  go_wp2_with (first
    | (go_at_call 46; refine (l1In_yes _ _ _ _ (by omega)).mono ?_; rintro e wa ⟨rfl, hq⟩; subst hq)
    | (go_at_call 46; refine (l1In_no _ _ _ _ (by omega)).mono ?_; rintro e wa ⟨rfl, hq⟩; subst hq)
    | (go_at_call 47; refine (l13None_any i t s nm 0 L S a1 a2 a ws.length gs.length es.length c1 c2 cap C Z _).mono ?_; rintro e w1 ⟨rfl, b1⟩; rw [HN.out]; replace X0 := hid (kept X0.out b1); replace B0 := hid (u_cat B0.out b1); replace I1 := hid (I1.out.below b1); replace I2 := hid (I2.out.below b1); replace I3 := hid (I3.out.below b1); clear b1 y0 y1 y2 y3 y4 y5 y6 y7 y8 y9 y10 y11; have y0 := box_cell X0.out 0 (v := .int .i64 i) rfl; have y1 := box_cell X0.out 1 (v := .int .i64 t) rfl; have y2 := box_cell X0.out 2 (v := .int .i64 s) rfl; have y3 := box_cell X0.out 3 (v := .string nm) rfl; have y4 := box_cell X0.out 4 (v := .int .i64 0) rfl; have y5 := box_cell X0.out 5 (v := .int .i64 L) rfl; have y6 := box_cell X0.out 6 (v := .int .i64 S) rfl; have y7 := box_cell X0.out 7 (v := .slice a1 ws.length c1) rfl; have y8 := box_cell X0.out 8 (v := .slice a2 gs.length c2) rfl; have y9 := box_cell X0.out 9 (v := .int .i64 C) rfl; have y10 := box_cell X0.out 10 (v := .int .i64 Z) rfl; have y11 := box_cell X0.out 11 (v := .slice a es.length cap) rfl))
  go_ret
  exact ⟨rfl, B0.out⟩
set_option maxHeartbeats 4000000 in
set_option maxRecDepth 100000 in
theorem specCli_g (s : Int) (ed : Int) (i t : Int) (nm : ByteArray) (L S : Int) (a1 a2 : Option Addr) (c1 c2 : Nat) (ws gs : List Int) (C Z : Int) (a : Option Addr) (cap : Nat) (es : List EqV) (w : World) (ha1 : IntsAt w a1 ws) (ha2 : IntsAt w a2 gs) (hx : ws.length ≤ 1048576) (hy : gs.length ≤ 1048576) (ha : EqsAt w a es) (hl : es.length ≤ 1048576) (hsm : SmallE es) (hnm : nm.size ≤ maxLen) (hi : 0 ≤ i ∧ i ≤ 3) (ht : 0 ≤ t ∧ t ≤ 99999) (hs : 0 ≤ s ∧ s ≤ 4) (he : 0 < ed ∧ ed ≤ 99999) (hHG : ¬ (getP L S ws gs C Z es)) :
    Calls Tryz.prog 24 #[.agg #[.int .i64 i, .int .i64 t, .int .i64 s, .string nm, .int .i64 ed, .int .i64 L, .int .i64 S, .slice a1 ws.length c1, .slice a2 gs.length c2, .int .i64 C, .int .i64 Z, .slice a es.length cap]] w fun e w' => e = .returned (.bool false) ∧ Below w.heap.size w w' := by
  obtain ⟨W0, hW0⟩ : ∃ W0, W0 = w.alloc (.cells #[.int .i64 i, .int .i64 t, .int .i64 s, .string nm, .int .i64 ed, .int .i64 L, .int .i64 S, .slice a1 ws.length c1, .slice a2 gs.length c2, .int .i64 C, .int .i64 Z, .slice a es.length cap] 40) := ⟨_, rfl⟩
  have X0 := hid (show W0.heap[w.heap.size]? = some (.cells #[.int .i64 i, .int .i64 t, .int .i64 s, .string nm, .int .i64 ed, .int .i64 L, .int .i64 S, .slice a1 ws.length c1, .slice a2 gs.length c2, .int .i64 C, .int .i64 Z, .slice a es.length cap] 40 (0, 0)) by rw [hW0]; exact laid _ _ _)
  have B0 := hid (show Below w.heap.size w W0 by rw [hW0]; exact u_b1 _ _)
  have I1 := hid (ha1.below B0.out)
  have I2 := hid (ha2.below B0.out)
  have I3 := hid (ha.below B0.out)
  have SM := hid hsm
  have NM := hid hnm
  have y0 := box_cell X0.out 0 (v := .int .i64 i) rfl
  have y1 := box_cell X0.out 1 (v := .int .i64 t) rfl
  have y2 := box_cell X0.out 2 (v := .int .i64 s) rfl
  have y3 := box_cell X0.out 3 (v := .string nm) rfl
  have y4 := box_cell X0.out 4 (v := .int .i64 ed) rfl
  have y5 := box_cell X0.out 5 (v := .int .i64 L) rfl
  have y6 := box_cell X0.out 6 (v := .int .i64 S) rfl
  have y7 := box_cell X0.out 7 (v := .slice a1 ws.length c1) rfl
  have y8 := box_cell X0.out 8 (v := .slice a2 gs.length c2) rfl
  have y9 := box_cell X0.out 9 (v := .int .i64 C) rfl
  have y10 := box_cell X0.out 10 (v := .int .i64 Z) rfl
  have y11 := box_cell X0.out 11 (v := .slice a es.length cap) rfl
  have be : (ed == 0) = false := beq_eq_false_iff_ne.2 (by omega)
  have bg : decide (0 < ed) = true := decide_eq_true (by omega)
  have bg2 : (0 < ed) = True := eq_true (by omega)
  have HG := hid (decide_eq_false (p := getP L S ws gs C Z es) hHG)
  clear ha1 ha2 ha hsm hnm
  go_enter Tryz.func24, Tryz.ntmps24
  repeat ((fail_if_success (with_reducible show Code.wp _ (Code.region 1 _ _) _ _ _)); (first | go_values | go_skip | go_guarded | go_step | go_upon | go_back | go_simp))
  rw [← hW0]
  clear hW0
  go_wp2_with (first
    | (go_at_call 46; refine (l1In_yes _ _ _ _ (by omega)).mono ?_; rintro e wa ⟨rfl, hq⟩; subst hq)
    | (go_at_call 46; refine (l1In_no _ _ _ _ (by omega)).mono ?_; rintro e wa ⟨rfl, hq⟩; subst hq)
    | (go_at_call 48; refine (specGetOk_any L S a1 a2 c1 c2 ws gs C Z a cap es _ (by exact I1.out) (by exact I2.out) hx hy (by exact I3.out) hl SM.out).mono ?_; rintro e w1 ⟨rfl, b1⟩; rw [HG.out]; replace X0 := hid (kept X0.out b1); replace B0 := hid (u_cat B0.out b1); replace I1 := hid (I1.out.below b1); replace I2 := hid (I2.out.below b1); replace I3 := hid (I3.out.below b1); clear b1 y0 y1 y2 y3 y4 y5 y6 y7 y8 y9 y10 y11; have y0 := box_cell X0.out 0 (v := .int .i64 i) rfl; have y1 := box_cell X0.out 1 (v := .int .i64 t) rfl; have y2 := box_cell X0.out 2 (v := .int .i64 s) rfl; have y3 := box_cell X0.out 3 (v := .string nm) rfl; have y4 := box_cell X0.out 4 (v := .int .i64 ed) rfl; have y5 := box_cell X0.out 5 (v := .int .i64 L) rfl; have y6 := box_cell X0.out 6 (v := .int .i64 S) rfl; have y7 := box_cell X0.out 7 (v := .slice a1 ws.length c1) rfl; have y8 := box_cell X0.out 8 (v := .slice a2 gs.length c2) rfl; have y9 := box_cell X0.out 9 (v := .int .i64 C) rfl; have y10 := box_cell X0.out 10 (v := .int .i64 Z) rfl; have y11 := box_cell X0.out 11 (v := .slice a es.length cap) rfl))
  go_ret
  exact ⟨rfl, B0.out⟩
set_option maxHeartbeats 4000000 in
set_option maxRecDepth 100000 in
theorem specCli_0pn (ed : Int) (i t : Int) (nm : ByteArray) (L S : Int) (a1 a2 : Option Addr) (c1 c2 : Nat) (ws gs : List Int) (C Z : Int) (a : Option Addr) (cap : Nat) (es : List EqV) (w : World) (ha1 : IntsAt w a1 ws) (ha2 : IntsAt w a2 gs) (hx : ws.length ≤ 1048576) (hy : gs.length ≤ 1048576) (ha : EqsAt w a es) (hl : es.length ≤ 1048576) (hsm : SmallE es) (hnm : nm.size ≤ maxLen) (hi : 0 ≤ i ∧ i ≤ 3) (ht : 0 ≤ t ∧ t ≤ 99999) (he : 0 < ed ∧ ed ≤ 99999) (hHG : getP L S ws gs C Z es) (hne : nm ≠ ⟨#[]⟩) :
    Calls Tryz.prog 24 #[.agg #[.int .i64 i, .int .i64 t, .int .i64 0, .string nm, .int .i64 ed, .int .i64 L, .int .i64 S, .slice a1 ws.length c1, .slice a2 gs.length c2, .int .i64 C, .int .i64 Z, .slice a es.length cap]] w fun e w' => e = .returned (.bool false) ∧ Below w.heap.size w w' := by
  obtain ⟨W0, hW0⟩ : ∃ W0, W0 = w.alloc (.cells #[.int .i64 i, .int .i64 t, .int .i64 0, .string nm, .int .i64 ed, .int .i64 L, .int .i64 S, .slice a1 ws.length c1, .slice a2 gs.length c2, .int .i64 C, .int .i64 Z, .slice a es.length cap] 40) := ⟨_, rfl⟩
  have X0 := hid (show W0.heap[w.heap.size]? = some (.cells #[.int .i64 i, .int .i64 t, .int .i64 0, .string nm, .int .i64 ed, .int .i64 L, .int .i64 S, .slice a1 ws.length c1, .slice a2 gs.length c2, .int .i64 C, .int .i64 Z, .slice a es.length cap] 40 (0, 0)) by rw [hW0]; exact laid _ _ _)
  have B0 := hid (show Below w.heap.size w W0 by rw [hW0]; exact u_b1 _ _)
  have I1 := hid (ha1.below B0.out)
  have I2 := hid (ha2.below B0.out)
  have I3 := hid (ha.below B0.out)
  have SM := hid hsm
  have NM := hid hnm
  have y0 := box_cell X0.out 0 (v := .int .i64 i) rfl
  have y1 := box_cell X0.out 1 (v := .int .i64 t) rfl
  have y2 := box_cell X0.out 2 (v := .int .i64 0) rfl
  have y3 := box_cell X0.out 3 (v := .string nm) rfl
  have y4 := box_cell X0.out 4 (v := .int .i64 ed) rfl
  have y5 := box_cell X0.out 5 (v := .int .i64 L) rfl
  have y6 := box_cell X0.out 6 (v := .int .i64 S) rfl
  have y7 := box_cell X0.out 7 (v := .slice a1 ws.length c1) rfl
  have y8 := box_cell X0.out 8 (v := .slice a2 gs.length c2) rfl
  have y9 := box_cell X0.out 9 (v := .int .i64 C) rfl
  have y10 := box_cell X0.out 10 (v := .int .i64 Z) rfl
  have y11 := box_cell X0.out 11 (v := .slice a es.length cap) rfl
  have be : (ed == 0) = false := beq_eq_false_iff_ne.2 (by omega)
  have bg : decide (0 < ed) = true := decide_eq_true (by omega)
  have bg2 : (0 < ed) = True := eq_true (by omega)
  have HG := hid (decide_eq_true (p := getP L S ws gs C Z es) hHG)
  have hnl := ne_toList hne
  clear ha1 ha2 ha hsm hnm
  go_enter Tryz.func24, Tryz.ntmps24
  repeat ((fail_if_success (with_reducible show Code.wp _ (Code.region 1 _ _) _ _ _)); (first | go_values | go_skip | go_guarded | go_step | go_upon | go_back | go_simp))
  rw [← hW0]
  clear hW0
  go_wp2_with (first
    | (go_at_call 46; refine (l1In_yes _ _ _ _ (by omega)).mono ?_; rintro e wa ⟨rfl, hq⟩; subst hq)
    | (go_at_call 46; refine (l1In_no _ _ _ _ (by omega)).mono ?_; rintro e wa ⟨rfl, hq⟩; subst hq)
    | (go_at_call 48; refine (specGetOk_any L S a1 a2 c1 c2 ws gs C Z a cap es _ (by exact I1.out) (by exact I2.out) hx hy (by exact I3.out) hl SM.out).mono ?_; rintro e w1 ⟨rfl, b1⟩; rw [HG.out]; replace X0 := hid (kept X0.out b1); replace B0 := hid (u_cat B0.out b1); replace I1 := hid (I1.out.below b1); replace I2 := hid (I2.out.below b1); replace I3 := hid (I3.out.below b1); clear b1 y0 y1 y2 y3 y4 y5 y6 y7 y8 y9 y10 y11; have y0 := box_cell X0.out 0 (v := .int .i64 i) rfl; have y1 := box_cell X0.out 1 (v := .int .i64 t) rfl; have y2 := box_cell X0.out 2 (v := .int .i64 0) rfl; have y3 := box_cell X0.out 3 (v := .string nm) rfl; have y4 := box_cell X0.out 4 (v := .int .i64 ed) rfl; have y5 := box_cell X0.out 5 (v := .int .i64 L) rfl; have y6 := box_cell X0.out 6 (v := .int .i64 S) rfl; have y7 := box_cell X0.out 7 (v := .slice a1 ws.length c1) rfl; have y8 := box_cell X0.out 8 (v := .slice a2 gs.length c2) rfl; have y9 := box_cell X0.out 9 (v := .int .i64 C) rfl; have y10 := box_cell X0.out 10 (v := .int .i64 Z) rfl; have y11 := box_cell X0.out 11 (v := .slice a es.length cap) rfl))
  all_goals first | (exact absurd (by assumption) hnl) | (go_ret; exact ⟨rfl, B0.out⟩)
set_option maxHeartbeats 4000000 in
set_option maxRecDepth 100000 in
theorem specCli_0py (ed : Int) (i t : Int) (nm : ByteArray) (L S : Int) (a1 a2 : Option Addr) (c1 c2 : Nat) (ws gs : List Int) (C Z : Int) (a : Option Addr) (cap : Nat) (es : List EqV) (w : World) (ha1 : IntsAt w a1 ws) (ha2 : IntsAt w a2 gs) (hx : ws.length ≤ 1048576) (hy : gs.length ≤ 1048576) (ha : EqsAt w a es) (hl : es.length ≤ 1048576) (hsm : SmallE es) (hnm : nm.size ≤ maxLen) (hi : 0 ≤ i ∧ i ≤ 3) (ht : 0 ≤ t ∧ t ≤ 99999) (he : 0 < ed ∧ ed ≤ 99999) (hHG : getP L S ws gs C Z es) :
    Calls Tryz.prog 24 #[.agg #[.int .i64 i, .int .i64 t, .int .i64 0, .string ⟨#[]⟩, .int .i64 ed, .int .i64 L, .int .i64 S, .slice a1 ws.length c1, .slice a2 gs.length c2, .int .i64 C, .int .i64 Z, .slice a es.length cap]] w fun e w' => e = .returned (.bool false) ∧ Below w.heap.size w w' := by
  obtain ⟨W0, hW0⟩ : ∃ W0, W0 = w.alloc (.cells #[.int .i64 i, .int .i64 t, .int .i64 0, .string ⟨#[]⟩, .int .i64 ed, .int .i64 L, .int .i64 S, .slice a1 ws.length c1, .slice a2 gs.length c2, .int .i64 C, .int .i64 Z, .slice a es.length cap] 40) := ⟨_, rfl⟩
  have X0 := hid (show W0.heap[w.heap.size]? = some (.cells #[.int .i64 i, .int .i64 t, .int .i64 0, .string ⟨#[]⟩, .int .i64 ed, .int .i64 L, .int .i64 S, .slice a1 ws.length c1, .slice a2 gs.length c2, .int .i64 C, .int .i64 Z, .slice a es.length cap] 40 (0, 0)) by rw [hW0]; exact laid _ _ _)
  have B0 := hid (show Below w.heap.size w W0 by rw [hW0]; exact u_b1 _ _)
  have I1 := hid (ha1.below B0.out)
  have I2 := hid (ha2.below B0.out)
  have I3 := hid (ha.below B0.out)
  have SM := hid hsm
  have NM := hid hnm
  have y0 := box_cell X0.out 0 (v := .int .i64 i) rfl
  have y1 := box_cell X0.out 1 (v := .int .i64 t) rfl
  have y2 := box_cell X0.out 2 (v := .int .i64 0) rfl
  have y3 := box_cell X0.out 3 (v := .string ⟨#[]⟩) rfl
  have y4 := box_cell X0.out 4 (v := .int .i64 ed) rfl
  have y5 := box_cell X0.out 5 (v := .int .i64 L) rfl
  have y6 := box_cell X0.out 6 (v := .int .i64 S) rfl
  have y7 := box_cell X0.out 7 (v := .slice a1 ws.length c1) rfl
  have y8 := box_cell X0.out 8 (v := .slice a2 gs.length c2) rfl
  have y9 := box_cell X0.out 9 (v := .int .i64 C) rfl
  have y10 := box_cell X0.out 10 (v := .int .i64 Z) rfl
  have y11 := box_cell X0.out 11 (v := .slice a es.length cap) rfl
  have be : (ed == 0) = false := beq_eq_false_iff_ne.2 (by omega)
  have bg : decide (0 < ed) = true := decide_eq_true (by omega)
  have bg2 : (0 < ed) = True := eq_true (by omega)
  have HG := hid (decide_eq_true (p := getP L S ws gs C Z es) hHG)
  clear ha1 ha2 ha hsm hnm
  go_enter Tryz.func24, Tryz.ntmps24
  repeat ((fail_if_success (with_reducible show Code.wp _ (Code.region 1 _ _) _ _ _)); (first | go_values | go_skip | go_guarded | go_step | go_upon | go_back | go_simp))
  rw [← hW0]
  clear hW0
  go_wp2_with (first
    | (go_at_call 46; refine (l1In_yes _ _ _ _ (by omega)).mono ?_; rintro e wa ⟨rfl, hq⟩; subst hq)
    | (go_at_call 46; refine (l1In_no _ _ _ _ (by omega)).mono ?_; rintro e wa ⟨rfl, hq⟩; subst hq)
    | (go_at_call 48; refine (specGetOk_any L S a1 a2 c1 c2 ws gs C Z a cap es _ (by exact I1.out) (by exact I2.out) hx hy (by exact I3.out) hl SM.out).mono ?_; rintro e w1 ⟨rfl, b1⟩; rw [HG.out]; replace X0 := hid (kept X0.out b1); replace B0 := hid (u_cat B0.out b1); replace I1 := hid (I1.out.below b1); replace I2 := hid (I2.out.below b1); replace I3 := hid (I3.out.below b1); clear b1 y0 y1 y2 y3 y4 y5 y6 y7 y8 y9 y10 y11; have y0 := box_cell X0.out 0 (v := .int .i64 i) rfl; have y1 := box_cell X0.out 1 (v := .int .i64 t) rfl; have y2 := box_cell X0.out 2 (v := .int .i64 0) rfl; have y3 := box_cell X0.out 3 (v := .string ⟨#[]⟩) rfl; have y4 := box_cell X0.out 4 (v := .int .i64 ed) rfl; have y5 := box_cell X0.out 5 (v := .int .i64 L) rfl; have y6 := box_cell X0.out 6 (v := .int .i64 S) rfl; have y7 := box_cell X0.out 7 (v := .slice a1 ws.length c1) rfl; have y8 := box_cell X0.out 8 (v := .slice a2 gs.length c2) rfl; have y9 := box_cell X0.out 9 (v := .int .i64 C) rfl; have y10 := box_cell X0.out 10 (v := .int .i64 Z) rfl; have y11 := box_cell X0.out 11 (v := .slice a es.length cap) rfl))
  go_ret
  exact ⟨rfl, B0.out⟩
set_option maxHeartbeats 4000000 in
set_option maxRecDepth 100000 in
theorem specCli_1pt (ed : Int) (i _t : Int) (nm : ByteArray) (L S : Int) (a1 a2 : Option Addr) (c1 c2 : Nat) (ws gs : List Int) (C Z : Int) (a : Option Addr) (cap : Nat) (es : List EqV) (w : World) (ha1 : IntsAt w a1 ws) (ha2 : IntsAt w a2 gs) (hx : ws.length ≤ 1048576) (hy : gs.length ≤ 1048576) (ha : EqsAt w a es) (hl : es.length ≤ 1048576) (hsm : SmallE es) (hnm : nm.size ≤ maxLen) (hi : 0 ≤ i ∧ i ≤ 3)  (he : 0 < ed ∧ ed ≤ 99999) (hHG : getP L S ws gs C Z es) :
    Calls Tryz.prog 24 #[.agg #[.int .i64 i, .int .i64 (0 : Int), .int .i64 1, .string nm, .int .i64 ed, .int .i64 L, .int .i64 S, .slice a1 ws.length c1, .slice a2 gs.length c2, .int .i64 C, .int .i64 Z, .slice a es.length cap]] w fun e w' => e = .returned (.bool false) ∧ Below w.heap.size w w' := by
  obtain ⟨W0, hW0⟩ : ∃ W0, W0 = w.alloc (.cells #[.int .i64 i, .int .i64 (0 : Int), .int .i64 1, .string nm, .int .i64 ed, .int .i64 L, .int .i64 S, .slice a1 ws.length c1, .slice a2 gs.length c2, .int .i64 C, .int .i64 Z, .slice a es.length cap] 40) := ⟨_, rfl⟩
  have X0 := hid (show W0.heap[w.heap.size]? = some (.cells #[.int .i64 i, .int .i64 (0 : Int), .int .i64 1, .string nm, .int .i64 ed, .int .i64 L, .int .i64 S, .slice a1 ws.length c1, .slice a2 gs.length c2, .int .i64 C, .int .i64 Z, .slice a es.length cap] 40 (0, 0)) by rw [hW0]; exact laid _ _ _)
  have B0 := hid (show Below w.heap.size w W0 by rw [hW0]; exact u_b1 _ _)
  have I1 := hid (ha1.below B0.out)
  have I2 := hid (ha2.below B0.out)
  have I3 := hid (ha.below B0.out)
  have SM := hid hsm
  have NM := hid hnm
  have y0 := box_cell X0.out 0 (v := .int .i64 i) rfl
  have y1 := box_cell X0.out 1 (v := .int .i64 (0 : Int)) rfl
  have y2 := box_cell X0.out 2 (v := .int .i64 1) rfl
  have y3 := box_cell X0.out 3 (v := .string nm) rfl
  have y4 := box_cell X0.out 4 (v := .int .i64 ed) rfl
  have y5 := box_cell X0.out 5 (v := .int .i64 L) rfl
  have y6 := box_cell X0.out 6 (v := .int .i64 S) rfl
  have y7 := box_cell X0.out 7 (v := .slice a1 ws.length c1) rfl
  have y8 := box_cell X0.out 8 (v := .slice a2 gs.length c2) rfl
  have y9 := box_cell X0.out 9 (v := .int .i64 C) rfl
  have y10 := box_cell X0.out 10 (v := .int .i64 Z) rfl
  have y11 := box_cell X0.out 11 (v := .slice a es.length cap) rfl
  have be : (ed == 0) = false := beq_eq_false_iff_ne.2 (by omega)
  have bg : decide (0 < ed) = true := decide_eq_true (by omega)
  have bg2 : (0 < ed) = True := eq_true (by omega)
  have HG := hid (decide_eq_true (p := getP L S ws gs C Z es) hHG)
  clear ha1 ha2 ha hsm hnm
  go_enter Tryz.func24, Tryz.ntmps24
  repeat ((fail_if_success (with_reducible show Code.wp _ (Code.region 1 _ _) _ _ _)); (first | go_values | go_skip | go_guarded | go_step | go_upon | go_back | go_simp))
  rw [← hW0]
  clear hW0
  go_wp2_with (first
    | (go_at_call 46; refine (l1In_yes _ _ _ _ (by omega)).mono ?_; rintro e wa ⟨rfl, hq⟩; subst hq)
    | (go_at_call 46; refine (l1In_no _ _ _ _ (by omega)).mono ?_; rintro e wa ⟨rfl, hq⟩; subst hq)
    | (go_at_call 48; refine (specGetOk_any L S a1 a2 c1 c2 ws gs C Z a cap es _ (by exact I1.out) (by exact I2.out) hx hy (by exact I3.out) hl SM.out).mono ?_; rintro e w1 ⟨rfl, b1⟩; rw [HG.out]; replace X0 := hid (kept X0.out b1); replace B0 := hid (u_cat B0.out b1); replace I1 := hid (I1.out.below b1); replace I2 := hid (I2.out.below b1); replace I3 := hid (I3.out.below b1); clear b1 y0 y1 y2 y3 y4 y5 y6 y7 y8 y9 y10 y11; have y0 := box_cell X0.out 0 (v := .int .i64 i) rfl; have y1 := box_cell X0.out 1 (v := .int .i64 (0 : Int)) rfl; have y2 := box_cell X0.out 2 (v := .int .i64 1) rfl; have y3 := box_cell X0.out 3 (v := .string nm) rfl; have y4 := box_cell X0.out 4 (v := .int .i64 ed) rfl; have y5 := box_cell X0.out 5 (v := .int .i64 L) rfl; have y6 := box_cell X0.out 6 (v := .int .i64 S) rfl; have y7 := box_cell X0.out 7 (v := .slice a1 ws.length c1) rfl; have y8 := box_cell X0.out 8 (v := .slice a2 gs.length c2) rfl; have y9 := box_cell X0.out 9 (v := .int .i64 C) rfl; have y10 := box_cell X0.out 10 (v := .int .i64 Z) rfl; have y11 := box_cell X0.out 11 (v := .slice a es.length cap) rfl))
  go_ret
  exact ⟨rfl, B0.out⟩
set_option maxHeartbeats 4000000 in
set_option maxRecDepth 100000 in
theorem specCli_1pm (ed : Int) (i t : Int) (nm : ByteArray) (L S : Int) (a1 a2 : Option Addr) (c1 c2 : Nat) (ws gs : List Int) (C Z : Int) (a : Option Addr) (cap : Nat) (es : List EqV) (w : World) (ha1 : IntsAt w a1 ws) (ha2 : IntsAt w a2 gs) (hx : ws.length ≤ 1048576) (hy : gs.length ≤ 1048576) (ha : EqsAt w a es) (hl : es.length ≤ 1048576) (hsm : SmallE es) (hnm : nm.size ≤ maxLen) (hi : 0 ≤ i ∧ i ≤ 3) (ht : 1 ≤ t ∧ t ≤ 99999) (he : 0 < ed ∧ ed ≤ 99999) (hHG : getP L S ws gs C Z es) (hHM : nameB nm = false) :
    Calls Tryz.prog 24 #[.agg #[.int .i64 i, .int .i64 t, .int .i64 1, .string nm, .int .i64 ed, .int .i64 L, .int .i64 S, .slice a1 ws.length c1, .slice a2 gs.length c2, .int .i64 C, .int .i64 Z, .slice a es.length cap]] w fun e w' => e = .returned (.bool false) ∧ Below w.heap.size w w' := by
  obtain ⟨W0, hW0⟩ : ∃ W0, W0 = w.alloc (.cells #[.int .i64 i, .int .i64 t, .int .i64 1, .string nm, .int .i64 ed, .int .i64 L, .int .i64 S, .slice a1 ws.length c1, .slice a2 gs.length c2, .int .i64 C, .int .i64 Z, .slice a es.length cap] 40) := ⟨_, rfl⟩
  have X0 := hid (show W0.heap[w.heap.size]? = some (.cells #[.int .i64 i, .int .i64 t, .int .i64 1, .string nm, .int .i64 ed, .int .i64 L, .int .i64 S, .slice a1 ws.length c1, .slice a2 gs.length c2, .int .i64 C, .int .i64 Z, .slice a es.length cap] 40 (0, 0)) by rw [hW0]; exact laid _ _ _)
  have B0 := hid (show Below w.heap.size w W0 by rw [hW0]; exact u_b1 _ _)
  have I1 := hid (ha1.below B0.out)
  have I2 := hid (ha2.below B0.out)
  have I3 := hid (ha.below B0.out)
  have SM := hid hsm
  have NM := hid hnm
  have y0 := box_cell X0.out 0 (v := .int .i64 i) rfl
  have y1 := box_cell X0.out 1 (v := .int .i64 t) rfl
  have y2 := box_cell X0.out 2 (v := .int .i64 1) rfl
  have y3 := box_cell X0.out 3 (v := .string nm) rfl
  have y4 := box_cell X0.out 4 (v := .int .i64 ed) rfl
  have y5 := box_cell X0.out 5 (v := .int .i64 L) rfl
  have y6 := box_cell X0.out 6 (v := .int .i64 S) rfl
  have y7 := box_cell X0.out 7 (v := .slice a1 ws.length c1) rfl
  have y8 := box_cell X0.out 8 (v := .slice a2 gs.length c2) rfl
  have y9 := box_cell X0.out 9 (v := .int .i64 C) rfl
  have y10 := box_cell X0.out 10 (v := .int .i64 Z) rfl
  have y11 := box_cell X0.out 11 (v := .slice a es.length cap) rfl
  have be : (ed == 0) = false := beq_eq_false_iff_ne.2 (by omega)
  have bg : decide (0 < ed) = true := decide_eq_true (by omega)
  have bg2 : (0 < ed) = True := eq_true (by omega)
  have HG := hid (decide_eq_true (p := getP L S ws gs C Z es) hHG)
  have bt : (t == 0) = false := beq_eq_false_iff_ne.2 (by omega)
  have HM := hid hHM
  clear ha1 ha2 ha hsm hnm
  go_enter Tryz.func24, Tryz.ntmps24
  repeat ((fail_if_success (with_reducible show Code.wp _ (Code.region 1 _ _) _ _ _)); (first | go_values | go_skip | go_guarded | go_step | go_upon | go_back | go_simp))
  rw [← hW0]
  clear hW0
  go_wp2_with (first
    | (go_at_call 46; refine (l1In_yes _ _ _ _ (by omega)).mono ?_; rintro e wa ⟨rfl, hq⟩; subst hq)
    | (go_at_call 46; refine (l1In_no _ _ _ _ (by omega)).mono ?_; rintro e wa ⟨rfl, hq⟩; subst hq)
    | (go_at_call 25; refine (specNameOk nm _ NM.out).mono ?_; rintro e wa ⟨rfl, hq⟩; subst hq; rw [HM.out])
    | (go_at_call 48; refine (specGetOk_any L S a1 a2 c1 c2 ws gs C Z a cap es _ (by exact I1.out) (by exact I2.out) hx hy (by exact I3.out) hl SM.out).mono ?_; rintro e w1 ⟨rfl, b1⟩; rw [HG.out]; replace X0 := hid (kept X0.out b1); replace B0 := hid (u_cat B0.out b1); replace I1 := hid (I1.out.below b1); replace I2 := hid (I2.out.below b1); replace I3 := hid (I3.out.below b1); clear b1 y0 y1 y2 y3 y4 y5 y6 y7 y8 y9 y10 y11; have y0 := box_cell X0.out 0 (v := .int .i64 i) rfl; have y1 := box_cell X0.out 1 (v := .int .i64 t) rfl; have y2 := box_cell X0.out 2 (v := .int .i64 1) rfl; have y3 := box_cell X0.out 3 (v := .string nm) rfl; have y4 := box_cell X0.out 4 (v := .int .i64 ed) rfl; have y5 := box_cell X0.out 5 (v := .int .i64 L) rfl; have y6 := box_cell X0.out 6 (v := .int .i64 S) rfl; have y7 := box_cell X0.out 7 (v := .slice a1 ws.length c1) rfl; have y8 := box_cell X0.out 8 (v := .slice a2 gs.length c2) rfl; have y9 := box_cell X0.out 9 (v := .int .i64 C) rfl; have y10 := box_cell X0.out 10 (v := .int .i64 Z) rfl; have y11 := box_cell X0.out 11 (v := .slice a es.length cap) rfl))
  go_ret
  exact ⟨rfl, B0.out⟩
set_option maxHeartbeats 4000000 in
set_option maxRecDepth 100000 in
theorem specCli_1pd (ed : Int) (i t : Int) (nm : ByteArray) (L S : Int) (a1 a2 : Option Addr) (c1 c2 : Nat) (ws gs : List Int) (C Z : Int) (a : Option Addr) (cap : Nat) (es : List EqV) (w : World) (ha1 : IntsAt w a1 ws) (ha2 : IntsAt w a2 gs) (hx : ws.length ≤ 1048576) (hy : gs.length ≤ 1048576) (ha : EqsAt w a es) (hl : es.length ≤ 1048576) (hsm : SmallE es) (hnm : nm.size ≤ maxLen) (hi : 0 ≤ i ∧ i ≤ 3) (ht : 1 ≤ t ∧ t ≤ 99999) (he : 0 < ed ∧ ed ≤ 99999) (hHG : getP L S ws gs C Z es) (hHM : nameB nm = true) (hHD : getP L S ws gs C Z es ∧ (es.length : Int) = C) :
    Calls Tryz.prog 24 #[.agg #[.int .i64 i, .int .i64 t, .int .i64 1, .string nm, .int .i64 ed, .int .i64 L, .int .i64 S, .slice a1 ws.length c1, .slice a2 gs.length c2, .int .i64 C, .int .i64 Z, .slice a es.length cap]] w fun e w' => e = .returned (.bool false) ∧ Below w.heap.size w w' := by
  obtain ⟨W0, hW0⟩ : ∃ W0, W0 = w.alloc (.cells #[.int .i64 i, .int .i64 t, .int .i64 1, .string nm, .int .i64 ed, .int .i64 L, .int .i64 S, .slice a1 ws.length c1, .slice a2 gs.length c2, .int .i64 C, .int .i64 Z, .slice a es.length cap] 40) := ⟨_, rfl⟩
  have X0 := hid (show W0.heap[w.heap.size]? = some (.cells #[.int .i64 i, .int .i64 t, .int .i64 1, .string nm, .int .i64 ed, .int .i64 L, .int .i64 S, .slice a1 ws.length c1, .slice a2 gs.length c2, .int .i64 C, .int .i64 Z, .slice a es.length cap] 40 (0, 0)) by rw [hW0]; exact laid _ _ _)
  have B0 := hid (show Below w.heap.size w W0 by rw [hW0]; exact u_b1 _ _)
  have I1 := hid (ha1.below B0.out)
  have I2 := hid (ha2.below B0.out)
  have I3 := hid (ha.below B0.out)
  have SM := hid hsm
  have NM := hid hnm
  have y0 := box_cell X0.out 0 (v := .int .i64 i) rfl
  have y1 := box_cell X0.out 1 (v := .int .i64 t) rfl
  have y2 := box_cell X0.out 2 (v := .int .i64 1) rfl
  have y3 := box_cell X0.out 3 (v := .string nm) rfl
  have y4 := box_cell X0.out 4 (v := .int .i64 ed) rfl
  have y5 := box_cell X0.out 5 (v := .int .i64 L) rfl
  have y6 := box_cell X0.out 6 (v := .int .i64 S) rfl
  have y7 := box_cell X0.out 7 (v := .slice a1 ws.length c1) rfl
  have y8 := box_cell X0.out 8 (v := .slice a2 gs.length c2) rfl
  have y9 := box_cell X0.out 9 (v := .int .i64 C) rfl
  have y10 := box_cell X0.out 10 (v := .int .i64 Z) rfl
  have y11 := box_cell X0.out 11 (v := .slice a es.length cap) rfl
  have be : (ed == 0) = false := beq_eq_false_iff_ne.2 (by omega)
  have bg : decide (0 < ed) = true := decide_eq_true (by omega)
  have bg2 : (0 < ed) = True := eq_true (by omega)
  have HG := hid (decide_eq_true (p := getP L S ws gs C Z es) hHG)
  have bt : (t == 0) = false := beq_eq_false_iff_ne.2 (by omega)
  have HM := hid hHM
  have HD := hid (decide_eq_true (p := getP L S ws gs C Z es ∧ (es.length : Int) = C) hHD)
  clear ha1 ha2 ha hsm hnm
  go_enter Tryz.func24, Tryz.ntmps24
  repeat ((fail_if_success (with_reducible show Code.wp _ (Code.region 1 _ _) _ _ _)); (first | go_values | go_skip | go_guarded | go_step | go_upon | go_back | go_simp))
  rw [← hW0]
  clear hW0
  go_wp2_with (first
    | (go_at_call 46; refine (l1In_yes _ _ _ _ (by omega)).mono ?_; rintro e wa ⟨rfl, hq⟩; subst hq)
    | (go_at_call 46; refine (l1In_no _ _ _ _ (by omega)).mono ?_; rintro e wa ⟨rfl, hq⟩; subst hq)
    | (go_at_call 25; refine (specNameOk nm _ NM.out).mono ?_; rintro e wa ⟨rfl, hq⟩; subst hq; rw [HM.out])
    | (go_at_call 48; refine (specGetOk_any L S a1 a2 c1 c2 ws gs C Z a cap es _ (by exact I1.out) (by exact I2.out) hx hy (by exact I3.out) hl SM.out).mono ?_; rintro e w1 ⟨rfl, b1⟩; rw [HG.out]; replace X0 := hid (kept X0.out b1); replace B0 := hid (u_cat B0.out b1); replace I1 := hid (I1.out.below b1); replace I2 := hid (I2.out.below b1); replace I3 := hid (I3.out.below b1); clear b1 y0 y1 y2 y3 y4 y5 y6 y7 y8 y9 y10 y11; have y0 := box_cell X0.out 0 (v := .int .i64 i) rfl; have y1 := box_cell X0.out 1 (v := .int .i64 t) rfl; have y2 := box_cell X0.out 2 (v := .int .i64 1) rfl; have y3 := box_cell X0.out 3 (v := .string nm) rfl; have y4 := box_cell X0.out 4 (v := .int .i64 ed) rfl; have y5 := box_cell X0.out 5 (v := .int .i64 L) rfl; have y6 := box_cell X0.out 6 (v := .int .i64 S) rfl; have y7 := box_cell X0.out 7 (v := .slice a1 ws.length c1) rfl; have y8 := box_cell X0.out 8 (v := .slice a2 gs.length c2) rfl; have y9 := box_cell X0.out 9 (v := .int .i64 C) rfl; have y10 := box_cell X0.out 10 (v := .int .i64 Z) rfl; have y11 := box_cell X0.out 11 (v := .slice a es.length cap) rfl)
    | (go_at_call 49; refine (specGetDone_any L S a1 a2 c1 c2 ws gs C Z a cap es _ (by exact I1.out) (by exact I2.out) hx hy (by exact I3.out) hl SM.out).mono ?_; rintro e w1 ⟨rfl, b1⟩; rw [HD.out]; replace X0 := hid (kept X0.out b1); replace B0 := hid (u_cat B0.out b1); replace I1 := hid (I1.out.below b1); replace I2 := hid (I2.out.below b1); replace I3 := hid (I3.out.below b1); clear b1 y0 y1 y2 y3 y4 y5 y6 y7 y8 y9 y10 y11; have y0 := box_cell X0.out 0 (v := .int .i64 i) rfl; have y1 := box_cell X0.out 1 (v := .int .i64 t) rfl; have y2 := box_cell X0.out 2 (v := .int .i64 1) rfl; have y3 := box_cell X0.out 3 (v := .string nm) rfl; have y4 := box_cell X0.out 4 (v := .int .i64 ed) rfl; have y5 := box_cell X0.out 5 (v := .int .i64 L) rfl; have y6 := box_cell X0.out 6 (v := .int .i64 S) rfl; have y7 := box_cell X0.out 7 (v := .slice a1 ws.length c1) rfl; have y8 := box_cell X0.out 8 (v := .slice a2 gs.length c2) rfl; have y9 := box_cell X0.out 9 (v := .int .i64 C) rfl; have y10 := box_cell X0.out 10 (v := .int .i64 Z) rfl; have y11 := box_cell X0.out 11 (v := .slice a es.length cap) rfl))
  go_ret
  exact ⟨rfl, B0.out⟩
set_option maxHeartbeats 4000000 in
set_option maxRecDepth 100000 in
theorem specCli_1pn (ed : Int) (i t : Int) (nm : ByteArray) (L S : Int) (a1 a2 : Option Addr) (c1 c2 : Nat) (ws gs : List Int) (C Z : Int) (a : Option Addr) (cap : Nat) (es : List EqV) (w : World) (ha1 : IntsAt w a1 ws) (ha2 : IntsAt w a2 gs) (hx : ws.length ≤ 1048576) (hy : gs.length ≤ 1048576) (ha : EqsAt w a es) (hl : es.length ≤ 1048576) (hsm : SmallE es) (hnm : nm.size ≤ maxLen) (hi : 0 ≤ i ∧ i ≤ 3) (ht : 1 ≤ t ∧ t ≤ 99999) (he : 0 < ed ∧ ed ≤ 99999) (hHG : getP L S ws gs C Z es) (hHM : nameB nm = true) (hHD : ¬ (getP L S ws gs C Z es ∧ (es.length : Int) = C)) :
    Calls Tryz.prog 24 #[.agg #[.int .i64 i, .int .i64 t, .int .i64 1, .string nm, .int .i64 ed, .int .i64 L, .int .i64 S, .slice a1 ws.length c1, .slice a2 gs.length c2, .int .i64 C, .int .i64 Z, .slice a es.length cap]] w fun e w' => e = .returned (.bool true) ∧ Below w.heap.size w w' := by
  obtain ⟨W0, hW0⟩ : ∃ W0, W0 = w.alloc (.cells #[.int .i64 i, .int .i64 t, .int .i64 1, .string nm, .int .i64 ed, .int .i64 L, .int .i64 S, .slice a1 ws.length c1, .slice a2 gs.length c2, .int .i64 C, .int .i64 Z, .slice a es.length cap] 40) := ⟨_, rfl⟩
  have X0 := hid (show W0.heap[w.heap.size]? = some (.cells #[.int .i64 i, .int .i64 t, .int .i64 1, .string nm, .int .i64 ed, .int .i64 L, .int .i64 S, .slice a1 ws.length c1, .slice a2 gs.length c2, .int .i64 C, .int .i64 Z, .slice a es.length cap] 40 (0, 0)) by rw [hW0]; exact laid _ _ _)
  have B0 := hid (show Below w.heap.size w W0 by rw [hW0]; exact u_b1 _ _)
  have I1 := hid (ha1.below B0.out)
  have I2 := hid (ha2.below B0.out)
  have I3 := hid (ha.below B0.out)
  have SM := hid hsm
  have NM := hid hnm
  have y0 := box_cell X0.out 0 (v := .int .i64 i) rfl
  have y1 := box_cell X0.out 1 (v := .int .i64 t) rfl
  have y2 := box_cell X0.out 2 (v := .int .i64 1) rfl
  have y3 := box_cell X0.out 3 (v := .string nm) rfl
  have y4 := box_cell X0.out 4 (v := .int .i64 ed) rfl
  have y5 := box_cell X0.out 5 (v := .int .i64 L) rfl
  have y6 := box_cell X0.out 6 (v := .int .i64 S) rfl
  have y7 := box_cell X0.out 7 (v := .slice a1 ws.length c1) rfl
  have y8 := box_cell X0.out 8 (v := .slice a2 gs.length c2) rfl
  have y9 := box_cell X0.out 9 (v := .int .i64 C) rfl
  have y10 := box_cell X0.out 10 (v := .int .i64 Z) rfl
  have y11 := box_cell X0.out 11 (v := .slice a es.length cap) rfl
  have be : (ed == 0) = false := beq_eq_false_iff_ne.2 (by omega)
  have bg : decide (0 < ed) = true := decide_eq_true (by omega)
  have bg2 : (0 < ed) = True := eq_true (by omega)
  have HG := hid (decide_eq_true (p := getP L S ws gs C Z es) hHG)
  have bt : (t == 0) = false := beq_eq_false_iff_ne.2 (by omega)
  have HM := hid hHM
  have HD := hid (decide_eq_false (p := getP L S ws gs C Z es ∧ (es.length : Int) = C) hHD)
  clear ha1 ha2 ha hsm hnm
  go_enter Tryz.func24, Tryz.ntmps24
  repeat ((fail_if_success (with_reducible show Code.wp _ (Code.region 1 _ _) _ _ _)); (first | go_values | go_skip | go_guarded | go_step | go_upon | go_back | go_simp))
  rw [← hW0]
  clear hW0
  go_wp2_with (first
    | (go_at_call 46; refine (l1In_yes _ _ _ _ (by omega)).mono ?_; rintro e wa ⟨rfl, hq⟩; subst hq)
    | (go_at_call 46; refine (l1In_no _ _ _ _ (by omega)).mono ?_; rintro e wa ⟨rfl, hq⟩; subst hq)
    | (go_at_call 25; refine (specNameOk nm _ NM.out).mono ?_; rintro e wa ⟨rfl, hq⟩; subst hq; rw [HM.out])
    | (go_at_call 48; refine (specGetOk_any L S a1 a2 c1 c2 ws gs C Z a cap es _ (by exact I1.out) (by exact I2.out) hx hy (by exact I3.out) hl SM.out).mono ?_; rintro e w1 ⟨rfl, b1⟩; rw [HG.out]; replace X0 := hid (kept X0.out b1); replace B0 := hid (u_cat B0.out b1); replace I1 := hid (I1.out.below b1); replace I2 := hid (I2.out.below b1); replace I3 := hid (I3.out.below b1); clear b1 y0 y1 y2 y3 y4 y5 y6 y7 y8 y9 y10 y11; have y0 := box_cell X0.out 0 (v := .int .i64 i) rfl; have y1 := box_cell X0.out 1 (v := .int .i64 t) rfl; have y2 := box_cell X0.out 2 (v := .int .i64 1) rfl; have y3 := box_cell X0.out 3 (v := .string nm) rfl; have y4 := box_cell X0.out 4 (v := .int .i64 ed) rfl; have y5 := box_cell X0.out 5 (v := .int .i64 L) rfl; have y6 := box_cell X0.out 6 (v := .int .i64 S) rfl; have y7 := box_cell X0.out 7 (v := .slice a1 ws.length c1) rfl; have y8 := box_cell X0.out 8 (v := .slice a2 gs.length c2) rfl; have y9 := box_cell X0.out 9 (v := .int .i64 C) rfl; have y10 := box_cell X0.out 10 (v := .int .i64 Z) rfl; have y11 := box_cell X0.out 11 (v := .slice a es.length cap) rfl)
    | (go_at_call 49; refine (specGetDone_any L S a1 a2 c1 c2 ws gs C Z a cap es _ (by exact I1.out) (by exact I2.out) hx hy (by exact I3.out) hl SM.out).mono ?_; rintro e w1 ⟨rfl, b1⟩; rw [HD.out]; replace X0 := hid (kept X0.out b1); replace B0 := hid (u_cat B0.out b1); replace I1 := hid (I1.out.below b1); replace I2 := hid (I2.out.below b1); replace I3 := hid (I3.out.below b1); clear b1 y0 y1 y2 y3 y4 y5 y6 y7 y8 y9 y10 y11; have y0 := box_cell X0.out 0 (v := .int .i64 i) rfl; have y1 := box_cell X0.out 1 (v := .int .i64 t) rfl; have y2 := box_cell X0.out 2 (v := .int .i64 1) rfl; have y3 := box_cell X0.out 3 (v := .string nm) rfl; have y4 := box_cell X0.out 4 (v := .int .i64 ed) rfl; have y5 := box_cell X0.out 5 (v := .int .i64 L) rfl; have y6 := box_cell X0.out 6 (v := .int .i64 S) rfl; have y7 := box_cell X0.out 7 (v := .slice a1 ws.length c1) rfl; have y8 := box_cell X0.out 8 (v := .slice a2 gs.length c2) rfl; have y9 := box_cell X0.out 9 (v := .int .i64 C) rfl; have y10 := box_cell X0.out 10 (v := .int .i64 Z) rfl; have y11 := box_cell X0.out 11 (v := .slice a es.length cap) rfl))
  go_ret
  exact ⟨rfl, B0.out⟩
set_option maxHeartbeats 4000000 in
set_option maxRecDepth 100000 in
theorem specCli_2pt (ed : Int) (i _t : Int) (nm : ByteArray) (L S : Int) (a1 a2 : Option Addr) (c1 c2 : Nat) (ws gs : List Int) (C Z : Int) (a : Option Addr) (cap : Nat) (es : List EqV) (w : World) (ha1 : IntsAt w a1 ws) (ha2 : IntsAt w a2 gs) (hx : ws.length ≤ 1048576) (hy : gs.length ≤ 1048576) (ha : EqsAt w a es) (hl : es.length ≤ 1048576) (hsm : SmallE es) (hnm : nm.size ≤ maxLen) (hi : 0 ≤ i ∧ i ≤ 3)  (he : 0 < ed ∧ ed ≤ 99999) (hHG : getP L S ws gs C Z es) :
    Calls Tryz.prog 24 #[.agg #[.int .i64 i, .int .i64 (0 : Int), .int .i64 2, .string nm, .int .i64 ed, .int .i64 L, .int .i64 S, .slice a1 ws.length c1, .slice a2 gs.length c2, .int .i64 C, .int .i64 Z, .slice a es.length cap]] w fun e w' => e = .returned (.bool false) ∧ Below w.heap.size w w' := by
  obtain ⟨W0, hW0⟩ : ∃ W0, W0 = w.alloc (.cells #[.int .i64 i, .int .i64 (0 : Int), .int .i64 2, .string nm, .int .i64 ed, .int .i64 L, .int .i64 S, .slice a1 ws.length c1, .slice a2 gs.length c2, .int .i64 C, .int .i64 Z, .slice a es.length cap] 40) := ⟨_, rfl⟩
  have X0 := hid (show W0.heap[w.heap.size]? = some (.cells #[.int .i64 i, .int .i64 (0 : Int), .int .i64 2, .string nm, .int .i64 ed, .int .i64 L, .int .i64 S, .slice a1 ws.length c1, .slice a2 gs.length c2, .int .i64 C, .int .i64 Z, .slice a es.length cap] 40 (0, 0)) by rw [hW0]; exact laid _ _ _)
  have B0 := hid (show Below w.heap.size w W0 by rw [hW0]; exact u_b1 _ _)
  have I1 := hid (ha1.below B0.out)
  have I2 := hid (ha2.below B0.out)
  have I3 := hid (ha.below B0.out)
  have SM := hid hsm
  have NM := hid hnm
  have y0 := box_cell X0.out 0 (v := .int .i64 i) rfl
  have y1 := box_cell X0.out 1 (v := .int .i64 (0 : Int)) rfl
  have y2 := box_cell X0.out 2 (v := .int .i64 2) rfl
  have y3 := box_cell X0.out 3 (v := .string nm) rfl
  have y4 := box_cell X0.out 4 (v := .int .i64 ed) rfl
  have y5 := box_cell X0.out 5 (v := .int .i64 L) rfl
  have y6 := box_cell X0.out 6 (v := .int .i64 S) rfl
  have y7 := box_cell X0.out 7 (v := .slice a1 ws.length c1) rfl
  have y8 := box_cell X0.out 8 (v := .slice a2 gs.length c2) rfl
  have y9 := box_cell X0.out 9 (v := .int .i64 C) rfl
  have y10 := box_cell X0.out 10 (v := .int .i64 Z) rfl
  have y11 := box_cell X0.out 11 (v := .slice a es.length cap) rfl
  have be : (ed == 0) = false := beq_eq_false_iff_ne.2 (by omega)
  have bg : decide (0 < ed) = true := decide_eq_true (by omega)
  have bg2 : (0 < ed) = True := eq_true (by omega)
  have HG := hid (decide_eq_true (p := getP L S ws gs C Z es) hHG)
  clear ha1 ha2 ha hsm hnm
  go_enter Tryz.func24, Tryz.ntmps24
  repeat ((fail_if_success (with_reducible show Code.wp _ (Code.region 1 _ _) _ _ _)); (first | go_values | go_skip | go_guarded | go_step | go_upon | go_back | go_simp))
  rw [← hW0]
  clear hW0
  go_wp2_with (first
    | (go_at_call 46; refine (l1In_yes _ _ _ _ (by omega)).mono ?_; rintro e wa ⟨rfl, hq⟩; subst hq)
    | (go_at_call 46; refine (l1In_no _ _ _ _ (by omega)).mono ?_; rintro e wa ⟨rfl, hq⟩; subst hq)
    | (go_at_call 48; refine (specGetOk_any L S a1 a2 c1 c2 ws gs C Z a cap es _ (by exact I1.out) (by exact I2.out) hx hy (by exact I3.out) hl SM.out).mono ?_; rintro e w1 ⟨rfl, b1⟩; rw [HG.out]; replace X0 := hid (kept X0.out b1); replace B0 := hid (u_cat B0.out b1); replace I1 := hid (I1.out.below b1); replace I2 := hid (I2.out.below b1); replace I3 := hid (I3.out.below b1); clear b1 y0 y1 y2 y3 y4 y5 y6 y7 y8 y9 y10 y11; have y0 := box_cell X0.out 0 (v := .int .i64 i) rfl; have y1 := box_cell X0.out 1 (v := .int .i64 (0 : Int)) rfl; have y2 := box_cell X0.out 2 (v := .int .i64 2) rfl; have y3 := box_cell X0.out 3 (v := .string nm) rfl; have y4 := box_cell X0.out 4 (v := .int .i64 ed) rfl; have y5 := box_cell X0.out 5 (v := .int .i64 L) rfl; have y6 := box_cell X0.out 6 (v := .int .i64 S) rfl; have y7 := box_cell X0.out 7 (v := .slice a1 ws.length c1) rfl; have y8 := box_cell X0.out 8 (v := .slice a2 gs.length c2) rfl; have y9 := box_cell X0.out 9 (v := .int .i64 C) rfl; have y10 := box_cell X0.out 10 (v := .int .i64 Z) rfl; have y11 := box_cell X0.out 11 (v := .slice a es.length cap) rfl))
  go_ret
  exact ⟨rfl, B0.out⟩
set_option maxHeartbeats 4000000 in
set_option maxRecDepth 100000 in
theorem specCli_2pm (ed : Int) (i t : Int) (nm : ByteArray) (L S : Int) (a1 a2 : Option Addr) (c1 c2 : Nat) (ws gs : List Int) (C Z : Int) (a : Option Addr) (cap : Nat) (es : List EqV) (w : World) (ha1 : IntsAt w a1 ws) (ha2 : IntsAt w a2 gs) (hx : ws.length ≤ 1048576) (hy : gs.length ≤ 1048576) (ha : EqsAt w a es) (hl : es.length ≤ 1048576) (hsm : SmallE es) (hnm : nm.size ≤ maxLen) (hi : 0 ≤ i ∧ i ≤ 3) (ht : 1 ≤ t ∧ t ≤ 99999) (he : 0 < ed ∧ ed ≤ 99999) (hHG : getP L S ws gs C Z es) (hHM : nameB nm = false) :
    Calls Tryz.prog 24 #[.agg #[.int .i64 i, .int .i64 t, .int .i64 2, .string nm, .int .i64 ed, .int .i64 L, .int .i64 S, .slice a1 ws.length c1, .slice a2 gs.length c2, .int .i64 C, .int .i64 Z, .slice a es.length cap]] w fun e w' => e = .returned (.bool false) ∧ Below w.heap.size w w' := by
  obtain ⟨W0, hW0⟩ : ∃ W0, W0 = w.alloc (.cells #[.int .i64 i, .int .i64 t, .int .i64 2, .string nm, .int .i64 ed, .int .i64 L, .int .i64 S, .slice a1 ws.length c1, .slice a2 gs.length c2, .int .i64 C, .int .i64 Z, .slice a es.length cap] 40) := ⟨_, rfl⟩
  have X0 := hid (show W0.heap[w.heap.size]? = some (.cells #[.int .i64 i, .int .i64 t, .int .i64 2, .string nm, .int .i64 ed, .int .i64 L, .int .i64 S, .slice a1 ws.length c1, .slice a2 gs.length c2, .int .i64 C, .int .i64 Z, .slice a es.length cap] 40 (0, 0)) by rw [hW0]; exact laid _ _ _)
  have B0 := hid (show Below w.heap.size w W0 by rw [hW0]; exact u_b1 _ _)
  have I1 := hid (ha1.below B0.out)
  have I2 := hid (ha2.below B0.out)
  have I3 := hid (ha.below B0.out)
  have SM := hid hsm
  have NM := hid hnm
  have y0 := box_cell X0.out 0 (v := .int .i64 i) rfl
  have y1 := box_cell X0.out 1 (v := .int .i64 t) rfl
  have y2 := box_cell X0.out 2 (v := .int .i64 2) rfl
  have y3 := box_cell X0.out 3 (v := .string nm) rfl
  have y4 := box_cell X0.out 4 (v := .int .i64 ed) rfl
  have y5 := box_cell X0.out 5 (v := .int .i64 L) rfl
  have y6 := box_cell X0.out 6 (v := .int .i64 S) rfl
  have y7 := box_cell X0.out 7 (v := .slice a1 ws.length c1) rfl
  have y8 := box_cell X0.out 8 (v := .slice a2 gs.length c2) rfl
  have y9 := box_cell X0.out 9 (v := .int .i64 C) rfl
  have y10 := box_cell X0.out 10 (v := .int .i64 Z) rfl
  have y11 := box_cell X0.out 11 (v := .slice a es.length cap) rfl
  have be : (ed == 0) = false := beq_eq_false_iff_ne.2 (by omega)
  have bg : decide (0 < ed) = true := decide_eq_true (by omega)
  have bg2 : (0 < ed) = True := eq_true (by omega)
  have HG := hid (decide_eq_true (p := getP L S ws gs C Z es) hHG)
  have bt : (t == 0) = false := beq_eq_false_iff_ne.2 (by omega)
  have HM := hid hHM
  clear ha1 ha2 ha hsm hnm
  go_enter Tryz.func24, Tryz.ntmps24
  repeat ((fail_if_success (with_reducible show Code.wp _ (Code.region 1 _ _) _ _ _)); (first | go_values | go_skip | go_guarded | go_step | go_upon | go_back | go_simp))
  rw [← hW0]
  clear hW0
  go_wp2_with (first
    | (go_at_call 46; refine (l1In_yes _ _ _ _ (by omega)).mono ?_; rintro e wa ⟨rfl, hq⟩; subst hq)
    | (go_at_call 46; refine (l1In_no _ _ _ _ (by omega)).mono ?_; rintro e wa ⟨rfl, hq⟩; subst hq)
    | (go_at_call 25; refine (specNameOk nm _ NM.out).mono ?_; rintro e wa ⟨rfl, hq⟩; subst hq; rw [HM.out])
    | (go_at_call 48; refine (specGetOk_any L S a1 a2 c1 c2 ws gs C Z a cap es _ (by exact I1.out) (by exact I2.out) hx hy (by exact I3.out) hl SM.out).mono ?_; rintro e w1 ⟨rfl, b1⟩; rw [HG.out]; replace X0 := hid (kept X0.out b1); replace B0 := hid (u_cat B0.out b1); replace I1 := hid (I1.out.below b1); replace I2 := hid (I2.out.below b1); replace I3 := hid (I3.out.below b1); clear b1 y0 y1 y2 y3 y4 y5 y6 y7 y8 y9 y10 y11; have y0 := box_cell X0.out 0 (v := .int .i64 i) rfl; have y1 := box_cell X0.out 1 (v := .int .i64 t) rfl; have y2 := box_cell X0.out 2 (v := .int .i64 2) rfl; have y3 := box_cell X0.out 3 (v := .string nm) rfl; have y4 := box_cell X0.out 4 (v := .int .i64 ed) rfl; have y5 := box_cell X0.out 5 (v := .int .i64 L) rfl; have y6 := box_cell X0.out 6 (v := .int .i64 S) rfl; have y7 := box_cell X0.out 7 (v := .slice a1 ws.length c1) rfl; have y8 := box_cell X0.out 8 (v := .slice a2 gs.length c2) rfl; have y9 := box_cell X0.out 9 (v := .int .i64 C) rfl; have y10 := box_cell X0.out 10 (v := .int .i64 Z) rfl; have y11 := box_cell X0.out 11 (v := .slice a es.length cap) rfl))
  go_ret
  exact ⟨rfl, B0.out⟩
set_option maxHeartbeats 4000000 in
set_option maxRecDepth 100000 in
theorem specCli_2pd (ed : Int) (i t : Int) (nm : ByteArray) (L S : Int) (a1 a2 : Option Addr) (c1 c2 : Nat) (ws gs : List Int) (C Z : Int) (a : Option Addr) (cap : Nat) (es : List EqV) (w : World) (ha1 : IntsAt w a1 ws) (ha2 : IntsAt w a2 gs) (hx : ws.length ≤ 1048576) (hy : gs.length ≤ 1048576) (ha : EqsAt w a es) (hl : es.length ≤ 1048576) (hsm : SmallE es) (hnm : nm.size ≤ maxLen) (hi : 0 ≤ i ∧ i ≤ 3) (ht : 1 ≤ t ∧ t ≤ 99999) (he : 0 < ed ∧ ed ≤ 99999) (hHG : getP L S ws gs C Z es) (hHM : nameB nm = true) (hHD : getP L S ws gs C Z es ∧ (es.length : Int) = C) :
    Calls Tryz.prog 24 #[.agg #[.int .i64 i, .int .i64 t, .int .i64 2, .string nm, .int .i64 ed, .int .i64 L, .int .i64 S, .slice a1 ws.length c1, .slice a2 gs.length c2, .int .i64 C, .int .i64 Z, .slice a es.length cap]] w fun e w' => e = .returned (.bool false) ∧ Below w.heap.size w w' := by
  obtain ⟨W0, hW0⟩ : ∃ W0, W0 = w.alloc (.cells #[.int .i64 i, .int .i64 t, .int .i64 2, .string nm, .int .i64 ed, .int .i64 L, .int .i64 S, .slice a1 ws.length c1, .slice a2 gs.length c2, .int .i64 C, .int .i64 Z, .slice a es.length cap] 40) := ⟨_, rfl⟩
  have X0 := hid (show W0.heap[w.heap.size]? = some (.cells #[.int .i64 i, .int .i64 t, .int .i64 2, .string nm, .int .i64 ed, .int .i64 L, .int .i64 S, .slice a1 ws.length c1, .slice a2 gs.length c2, .int .i64 C, .int .i64 Z, .slice a es.length cap] 40 (0, 0)) by rw [hW0]; exact laid _ _ _)
  have B0 := hid (show Below w.heap.size w W0 by rw [hW0]; exact u_b1 _ _)
  have I1 := hid (ha1.below B0.out)
  have I2 := hid (ha2.below B0.out)
  have I3 := hid (ha.below B0.out)
  have SM := hid hsm
  have NM := hid hnm
  have y0 := box_cell X0.out 0 (v := .int .i64 i) rfl
  have y1 := box_cell X0.out 1 (v := .int .i64 t) rfl
  have y2 := box_cell X0.out 2 (v := .int .i64 2) rfl
  have y3 := box_cell X0.out 3 (v := .string nm) rfl
  have y4 := box_cell X0.out 4 (v := .int .i64 ed) rfl
  have y5 := box_cell X0.out 5 (v := .int .i64 L) rfl
  have y6 := box_cell X0.out 6 (v := .int .i64 S) rfl
  have y7 := box_cell X0.out 7 (v := .slice a1 ws.length c1) rfl
  have y8 := box_cell X0.out 8 (v := .slice a2 gs.length c2) rfl
  have y9 := box_cell X0.out 9 (v := .int .i64 C) rfl
  have y10 := box_cell X0.out 10 (v := .int .i64 Z) rfl
  have y11 := box_cell X0.out 11 (v := .slice a es.length cap) rfl
  have be : (ed == 0) = false := beq_eq_false_iff_ne.2 (by omega)
  have bg : decide (0 < ed) = true := decide_eq_true (by omega)
  have bg2 : (0 < ed) = True := eq_true (by omega)
  have HG := hid (decide_eq_true (p := getP L S ws gs C Z es) hHG)
  have bt : (t == 0) = false := beq_eq_false_iff_ne.2 (by omega)
  have HM := hid hHM
  have HD := hid (decide_eq_true (p := getP L S ws gs C Z es ∧ (es.length : Int) = C) hHD)
  clear ha1 ha2 ha hsm hnm
  go_enter Tryz.func24, Tryz.ntmps24
  repeat ((fail_if_success (with_reducible show Code.wp _ (Code.region 1 _ _) _ _ _)); (first | go_values | go_skip | go_guarded | go_step | go_upon | go_back | go_simp))
  rw [← hW0]
  clear hW0
  go_wp2_with (first
    | (go_at_call 46; refine (l1In_yes _ _ _ _ (by omega)).mono ?_; rintro e wa ⟨rfl, hq⟩; subst hq)
    | (go_at_call 46; refine (l1In_no _ _ _ _ (by omega)).mono ?_; rintro e wa ⟨rfl, hq⟩; subst hq)
    | (go_at_call 25; refine (specNameOk nm _ NM.out).mono ?_; rintro e wa ⟨rfl, hq⟩; subst hq; rw [HM.out])
    | (go_at_call 48; refine (specGetOk_any L S a1 a2 c1 c2 ws gs C Z a cap es _ (by exact I1.out) (by exact I2.out) hx hy (by exact I3.out) hl SM.out).mono ?_; rintro e w1 ⟨rfl, b1⟩; rw [HG.out]; replace X0 := hid (kept X0.out b1); replace B0 := hid (u_cat B0.out b1); replace I1 := hid (I1.out.below b1); replace I2 := hid (I2.out.below b1); replace I3 := hid (I3.out.below b1); clear b1 y0 y1 y2 y3 y4 y5 y6 y7 y8 y9 y10 y11; have y0 := box_cell X0.out 0 (v := .int .i64 i) rfl; have y1 := box_cell X0.out 1 (v := .int .i64 t) rfl; have y2 := box_cell X0.out 2 (v := .int .i64 2) rfl; have y3 := box_cell X0.out 3 (v := .string nm) rfl; have y4 := box_cell X0.out 4 (v := .int .i64 ed) rfl; have y5 := box_cell X0.out 5 (v := .int .i64 L) rfl; have y6 := box_cell X0.out 6 (v := .int .i64 S) rfl; have y7 := box_cell X0.out 7 (v := .slice a1 ws.length c1) rfl; have y8 := box_cell X0.out 8 (v := .slice a2 gs.length c2) rfl; have y9 := box_cell X0.out 9 (v := .int .i64 C) rfl; have y10 := box_cell X0.out 10 (v := .int .i64 Z) rfl; have y11 := box_cell X0.out 11 (v := .slice a es.length cap) rfl)
    | (go_at_call 49; refine (specGetDone_any L S a1 a2 c1 c2 ws gs C Z a cap es _ (by exact I1.out) (by exact I2.out) hx hy (by exact I3.out) hl SM.out).mono ?_; rintro e w1 ⟨rfl, b1⟩; rw [HD.out]; replace X0 := hid (kept X0.out b1); replace B0 := hid (u_cat B0.out b1); replace I1 := hid (I1.out.below b1); replace I2 := hid (I2.out.below b1); replace I3 := hid (I3.out.below b1); clear b1 y0 y1 y2 y3 y4 y5 y6 y7 y8 y9 y10 y11; have y0 := box_cell X0.out 0 (v := .int .i64 i) rfl; have y1 := box_cell X0.out 1 (v := .int .i64 t) rfl; have y2 := box_cell X0.out 2 (v := .int .i64 2) rfl; have y3 := box_cell X0.out 3 (v := .string nm) rfl; have y4 := box_cell X0.out 4 (v := .int .i64 ed) rfl; have y5 := box_cell X0.out 5 (v := .int .i64 L) rfl; have y6 := box_cell X0.out 6 (v := .int .i64 S) rfl; have y7 := box_cell X0.out 7 (v := .slice a1 ws.length c1) rfl; have y8 := box_cell X0.out 8 (v := .slice a2 gs.length c2) rfl; have y9 := box_cell X0.out 9 (v := .int .i64 C) rfl; have y10 := box_cell X0.out 10 (v := .int .i64 Z) rfl; have y11 := box_cell X0.out 11 (v := .slice a es.length cap) rfl))
  go_ret
  exact ⟨rfl, B0.out⟩
set_option maxHeartbeats 4000000 in
set_option maxRecDepth 100000 in
theorem specCli_2pn (ed : Int) (i t : Int) (nm : ByteArray) (L S : Int) (a1 a2 : Option Addr) (c1 c2 : Nat) (ws gs : List Int) (C Z : Int) (a : Option Addr) (cap : Nat) (es : List EqV) (w : World) (ha1 : IntsAt w a1 ws) (ha2 : IntsAt w a2 gs) (hx : ws.length ≤ 1048576) (hy : gs.length ≤ 1048576) (ha : EqsAt w a es) (hl : es.length ≤ 1048576) (hsm : SmallE es) (hnm : nm.size ≤ maxLen) (hi : 0 ≤ i ∧ i ≤ 3) (ht : 1 ≤ t ∧ t ≤ 99999) (he : 0 < ed ∧ ed ≤ 99999) (hHG : getP L S ws gs C Z es) (hHM : nameB nm = true) (hHD : ¬ (getP L S ws gs C Z es ∧ (es.length : Int) = C)) :
    Calls Tryz.prog 24 #[.agg #[.int .i64 i, .int .i64 t, .int .i64 2, .string nm, .int .i64 ed, .int .i64 L, .int .i64 S, .slice a1 ws.length c1, .slice a2 gs.length c2, .int .i64 C, .int .i64 Z, .slice a es.length cap]] w fun e w' => e = .returned (.bool true) ∧ Below w.heap.size w w' := by
  obtain ⟨W0, hW0⟩ : ∃ W0, W0 = w.alloc (.cells #[.int .i64 i, .int .i64 t, .int .i64 2, .string nm, .int .i64 ed, .int .i64 L, .int .i64 S, .slice a1 ws.length c1, .slice a2 gs.length c2, .int .i64 C, .int .i64 Z, .slice a es.length cap] 40) := ⟨_, rfl⟩
  have X0 := hid (show W0.heap[w.heap.size]? = some (.cells #[.int .i64 i, .int .i64 t, .int .i64 2, .string nm, .int .i64 ed, .int .i64 L, .int .i64 S, .slice a1 ws.length c1, .slice a2 gs.length c2, .int .i64 C, .int .i64 Z, .slice a es.length cap] 40 (0, 0)) by rw [hW0]; exact laid _ _ _)
  have B0 := hid (show Below w.heap.size w W0 by rw [hW0]; exact u_b1 _ _)
  have I1 := hid (ha1.below B0.out)
  have I2 := hid (ha2.below B0.out)
  have I3 := hid (ha.below B0.out)
  have SM := hid hsm
  have NM := hid hnm
  have y0 := box_cell X0.out 0 (v := .int .i64 i) rfl
  have y1 := box_cell X0.out 1 (v := .int .i64 t) rfl
  have y2 := box_cell X0.out 2 (v := .int .i64 2) rfl
  have y3 := box_cell X0.out 3 (v := .string nm) rfl
  have y4 := box_cell X0.out 4 (v := .int .i64 ed) rfl
  have y5 := box_cell X0.out 5 (v := .int .i64 L) rfl
  have y6 := box_cell X0.out 6 (v := .int .i64 S) rfl
  have y7 := box_cell X0.out 7 (v := .slice a1 ws.length c1) rfl
  have y8 := box_cell X0.out 8 (v := .slice a2 gs.length c2) rfl
  have y9 := box_cell X0.out 9 (v := .int .i64 C) rfl
  have y10 := box_cell X0.out 10 (v := .int .i64 Z) rfl
  have y11 := box_cell X0.out 11 (v := .slice a es.length cap) rfl
  have be : (ed == 0) = false := beq_eq_false_iff_ne.2 (by omega)
  have bg : decide (0 < ed) = true := decide_eq_true (by omega)
  have bg2 : (0 < ed) = True := eq_true (by omega)
  have HG := hid (decide_eq_true (p := getP L S ws gs C Z es) hHG)
  have bt : (t == 0) = false := beq_eq_false_iff_ne.2 (by omega)
  have HM := hid hHM
  have HD := hid (decide_eq_false (p := getP L S ws gs C Z es ∧ (es.length : Int) = C) hHD)
  clear ha1 ha2 ha hsm hnm
  go_enter Tryz.func24, Tryz.ntmps24
  repeat ((fail_if_success (with_reducible show Code.wp _ (Code.region 1 _ _) _ _ _)); (first | go_values | go_skip | go_guarded | go_step | go_upon | go_back | go_simp))
  rw [← hW0]
  clear hW0
  go_wp2_with (first
    | (go_at_call 46; refine (l1In_yes _ _ _ _ (by omega)).mono ?_; rintro e wa ⟨rfl, hq⟩; subst hq)
    | (go_at_call 46; refine (l1In_no _ _ _ _ (by omega)).mono ?_; rintro e wa ⟨rfl, hq⟩; subst hq)
    | (go_at_call 25; refine (specNameOk nm _ NM.out).mono ?_; rintro e wa ⟨rfl, hq⟩; subst hq; rw [HM.out])
    | (go_at_call 48; refine (specGetOk_any L S a1 a2 c1 c2 ws gs C Z a cap es _ (by exact I1.out) (by exact I2.out) hx hy (by exact I3.out) hl SM.out).mono ?_; rintro e w1 ⟨rfl, b1⟩; rw [HG.out]; replace X0 := hid (kept X0.out b1); replace B0 := hid (u_cat B0.out b1); replace I1 := hid (I1.out.below b1); replace I2 := hid (I2.out.below b1); replace I3 := hid (I3.out.below b1); clear b1 y0 y1 y2 y3 y4 y5 y6 y7 y8 y9 y10 y11; have y0 := box_cell X0.out 0 (v := .int .i64 i) rfl; have y1 := box_cell X0.out 1 (v := .int .i64 t) rfl; have y2 := box_cell X0.out 2 (v := .int .i64 2) rfl; have y3 := box_cell X0.out 3 (v := .string nm) rfl; have y4 := box_cell X0.out 4 (v := .int .i64 ed) rfl; have y5 := box_cell X0.out 5 (v := .int .i64 L) rfl; have y6 := box_cell X0.out 6 (v := .int .i64 S) rfl; have y7 := box_cell X0.out 7 (v := .slice a1 ws.length c1) rfl; have y8 := box_cell X0.out 8 (v := .slice a2 gs.length c2) rfl; have y9 := box_cell X0.out 9 (v := .int .i64 C) rfl; have y10 := box_cell X0.out 10 (v := .int .i64 Z) rfl; have y11 := box_cell X0.out 11 (v := .slice a es.length cap) rfl)
    | (go_at_call 49; refine (specGetDone_any L S a1 a2 c1 c2 ws gs C Z a cap es _ (by exact I1.out) (by exact I2.out) hx hy (by exact I3.out) hl SM.out).mono ?_; rintro e w1 ⟨rfl, b1⟩; rw [HD.out]; replace X0 := hid (kept X0.out b1); replace B0 := hid (u_cat B0.out b1); replace I1 := hid (I1.out.below b1); replace I2 := hid (I2.out.below b1); replace I3 := hid (I3.out.below b1); clear b1 y0 y1 y2 y3 y4 y5 y6 y7 y8 y9 y10 y11; have y0 := box_cell X0.out 0 (v := .int .i64 i) rfl; have y1 := box_cell X0.out 1 (v := .int .i64 t) rfl; have y2 := box_cell X0.out 2 (v := .int .i64 2) rfl; have y3 := box_cell X0.out 3 (v := .string nm) rfl; have y4 := box_cell X0.out 4 (v := .int .i64 ed) rfl; have y5 := box_cell X0.out 5 (v := .int .i64 L) rfl; have y6 := box_cell X0.out 6 (v := .int .i64 S) rfl; have y7 := box_cell X0.out 7 (v := .slice a1 ws.length c1) rfl; have y8 := box_cell X0.out 8 (v := .slice a2 gs.length c2) rfl; have y9 := box_cell X0.out 9 (v := .int .i64 C) rfl; have y10 := box_cell X0.out 10 (v := .int .i64 Z) rfl; have y11 := box_cell X0.out 11 (v := .slice a es.length cap) rfl))
  go_ret
  exact ⟨rfl, B0.out⟩
set_option maxHeartbeats 4000000 in
set_option maxRecDepth 100000 in
theorem specCli_3pt (ed : Int) (i _t : Int) (nm : ByteArray) (L S : Int) (a1 a2 : Option Addr) (c1 c2 : Nat) (ws gs : List Int) (C Z : Int) (a : Option Addr) (cap : Nat) (es : List EqV) (w : World) (ha1 : IntsAt w a1 ws) (ha2 : IntsAt w a2 gs) (hx : ws.length ≤ 1048576) (hy : gs.length ≤ 1048576) (ha : EqsAt w a es) (hl : es.length ≤ 1048576) (hsm : SmallE es) (hnm : nm.size ≤ maxLen) (hi : 0 ≤ i ∧ i ≤ 3)  (he : 0 < ed ∧ ed ≤ 99999) (hHG : getP L S ws gs C Z es) :
    Calls Tryz.prog 24 #[.agg #[.int .i64 i, .int .i64 (0 : Int), .int .i64 3, .string nm, .int .i64 ed, .int .i64 L, .int .i64 S, .slice a1 ws.length c1, .slice a2 gs.length c2, .int .i64 C, .int .i64 Z, .slice a es.length cap]] w fun e w' => e = .returned (.bool false) ∧ Below w.heap.size w w' := by
  obtain ⟨W0, hW0⟩ : ∃ W0, W0 = w.alloc (.cells #[.int .i64 i, .int .i64 (0 : Int), .int .i64 3, .string nm, .int .i64 ed, .int .i64 L, .int .i64 S, .slice a1 ws.length c1, .slice a2 gs.length c2, .int .i64 C, .int .i64 Z, .slice a es.length cap] 40) := ⟨_, rfl⟩
  have X0 := hid (show W0.heap[w.heap.size]? = some (.cells #[.int .i64 i, .int .i64 (0 : Int), .int .i64 3, .string nm, .int .i64 ed, .int .i64 L, .int .i64 S, .slice a1 ws.length c1, .slice a2 gs.length c2, .int .i64 C, .int .i64 Z, .slice a es.length cap] 40 (0, 0)) by rw [hW0]; exact laid _ _ _)
  have B0 := hid (show Below w.heap.size w W0 by rw [hW0]; exact u_b1 _ _)
  have I1 := hid (ha1.below B0.out)
  have I2 := hid (ha2.below B0.out)
  have I3 := hid (ha.below B0.out)
  have SM := hid hsm
  have NM := hid hnm
  have y0 := box_cell X0.out 0 (v := .int .i64 i) rfl
  have y1 := box_cell X0.out 1 (v := .int .i64 (0 : Int)) rfl
  have y2 := box_cell X0.out 2 (v := .int .i64 3) rfl
  have y3 := box_cell X0.out 3 (v := .string nm) rfl
  have y4 := box_cell X0.out 4 (v := .int .i64 ed) rfl
  have y5 := box_cell X0.out 5 (v := .int .i64 L) rfl
  have y6 := box_cell X0.out 6 (v := .int .i64 S) rfl
  have y7 := box_cell X0.out 7 (v := .slice a1 ws.length c1) rfl
  have y8 := box_cell X0.out 8 (v := .slice a2 gs.length c2) rfl
  have y9 := box_cell X0.out 9 (v := .int .i64 C) rfl
  have y10 := box_cell X0.out 10 (v := .int .i64 Z) rfl
  have y11 := box_cell X0.out 11 (v := .slice a es.length cap) rfl
  have be : (ed == 0) = false := beq_eq_false_iff_ne.2 (by omega)
  have bg : decide (0 < ed) = true := decide_eq_true (by omega)
  have bg2 : (0 < ed) = True := eq_true (by omega)
  have HG := hid (decide_eq_true (p := getP L S ws gs C Z es) hHG)
  clear ha1 ha2 ha hsm hnm
  go_enter Tryz.func24, Tryz.ntmps24
  repeat ((fail_if_success (with_reducible show Code.wp _ (Code.region 1 _ _) _ _ _)); (first | go_values | go_skip | go_guarded | go_step | go_upon | go_back | go_simp))
  rw [← hW0]
  clear hW0
  go_wp2_with (first
    | (go_at_call 46; refine (l1In_yes _ _ _ _ (by omega)).mono ?_; rintro e wa ⟨rfl, hq⟩; subst hq)
    | (go_at_call 46; refine (l1In_no _ _ _ _ (by omega)).mono ?_; rintro e wa ⟨rfl, hq⟩; subst hq)
    | (go_at_call 48; refine (specGetOk_any L S a1 a2 c1 c2 ws gs C Z a cap es _ (by exact I1.out) (by exact I2.out) hx hy (by exact I3.out) hl SM.out).mono ?_; rintro e w1 ⟨rfl, b1⟩; rw [HG.out]; replace X0 := hid (kept X0.out b1); replace B0 := hid (u_cat B0.out b1); replace I1 := hid (I1.out.below b1); replace I2 := hid (I2.out.below b1); replace I3 := hid (I3.out.below b1); clear b1 y0 y1 y2 y3 y4 y5 y6 y7 y8 y9 y10 y11; have y0 := box_cell X0.out 0 (v := .int .i64 i) rfl; have y1 := box_cell X0.out 1 (v := .int .i64 (0 : Int)) rfl; have y2 := box_cell X0.out 2 (v := .int .i64 3) rfl; have y3 := box_cell X0.out 3 (v := .string nm) rfl; have y4 := box_cell X0.out 4 (v := .int .i64 ed) rfl; have y5 := box_cell X0.out 5 (v := .int .i64 L) rfl; have y6 := box_cell X0.out 6 (v := .int .i64 S) rfl; have y7 := box_cell X0.out 7 (v := .slice a1 ws.length c1) rfl; have y8 := box_cell X0.out 8 (v := .slice a2 gs.length c2) rfl; have y9 := box_cell X0.out 9 (v := .int .i64 C) rfl; have y10 := box_cell X0.out 10 (v := .int .i64 Z) rfl; have y11 := box_cell X0.out 11 (v := .slice a es.length cap) rfl))
  go_ret
  exact ⟨rfl, B0.out⟩
set_option maxHeartbeats 4000000 in
set_option maxRecDepth 100000 in
theorem specCli_3pm (ed : Int) (i t : Int) (nm : ByteArray) (L S : Int) (a1 a2 : Option Addr) (c1 c2 : Nat) (ws gs : List Int) (C Z : Int) (a : Option Addr) (cap : Nat) (es : List EqV) (w : World) (ha1 : IntsAt w a1 ws) (ha2 : IntsAt w a2 gs) (hx : ws.length ≤ 1048576) (hy : gs.length ≤ 1048576) (ha : EqsAt w a es) (hl : es.length ≤ 1048576) (hsm : SmallE es) (hnm : nm.size ≤ maxLen) (hi : 0 ≤ i ∧ i ≤ 3) (ht : 1 ≤ t ∧ t ≤ 99999) (he : 0 < ed ∧ ed ≤ 99999) (hHG : getP L S ws gs C Z es) (hHM : nameB nm = false) :
    Calls Tryz.prog 24 #[.agg #[.int .i64 i, .int .i64 t, .int .i64 3, .string nm, .int .i64 ed, .int .i64 L, .int .i64 S, .slice a1 ws.length c1, .slice a2 gs.length c2, .int .i64 C, .int .i64 Z, .slice a es.length cap]] w fun e w' => e = .returned (.bool false) ∧ Below w.heap.size w w' := by
  obtain ⟨W0, hW0⟩ : ∃ W0, W0 = w.alloc (.cells #[.int .i64 i, .int .i64 t, .int .i64 3, .string nm, .int .i64 ed, .int .i64 L, .int .i64 S, .slice a1 ws.length c1, .slice a2 gs.length c2, .int .i64 C, .int .i64 Z, .slice a es.length cap] 40) := ⟨_, rfl⟩
  have X0 := hid (show W0.heap[w.heap.size]? = some (.cells #[.int .i64 i, .int .i64 t, .int .i64 3, .string nm, .int .i64 ed, .int .i64 L, .int .i64 S, .slice a1 ws.length c1, .slice a2 gs.length c2, .int .i64 C, .int .i64 Z, .slice a es.length cap] 40 (0, 0)) by rw [hW0]; exact laid _ _ _)
  have B0 := hid (show Below w.heap.size w W0 by rw [hW0]; exact u_b1 _ _)
  have I1 := hid (ha1.below B0.out)
  have I2 := hid (ha2.below B0.out)
  have I3 := hid (ha.below B0.out)
  have SM := hid hsm
  have NM := hid hnm
  have y0 := box_cell X0.out 0 (v := .int .i64 i) rfl
  have y1 := box_cell X0.out 1 (v := .int .i64 t) rfl
  have y2 := box_cell X0.out 2 (v := .int .i64 3) rfl
  have y3 := box_cell X0.out 3 (v := .string nm) rfl
  have y4 := box_cell X0.out 4 (v := .int .i64 ed) rfl
  have y5 := box_cell X0.out 5 (v := .int .i64 L) rfl
  have y6 := box_cell X0.out 6 (v := .int .i64 S) rfl
  have y7 := box_cell X0.out 7 (v := .slice a1 ws.length c1) rfl
  have y8 := box_cell X0.out 8 (v := .slice a2 gs.length c2) rfl
  have y9 := box_cell X0.out 9 (v := .int .i64 C) rfl
  have y10 := box_cell X0.out 10 (v := .int .i64 Z) rfl
  have y11 := box_cell X0.out 11 (v := .slice a es.length cap) rfl
  have be : (ed == 0) = false := beq_eq_false_iff_ne.2 (by omega)
  have bg : decide (0 < ed) = true := decide_eq_true (by omega)
  have bg2 : (0 < ed) = True := eq_true (by omega)
  have HG := hid (decide_eq_true (p := getP L S ws gs C Z es) hHG)
  have bt : (t == 0) = false := beq_eq_false_iff_ne.2 (by omega)
  have HM := hid hHM
  clear ha1 ha2 ha hsm hnm
  go_enter Tryz.func24, Tryz.ntmps24
  repeat ((fail_if_success (with_reducible show Code.wp _ (Code.region 1 _ _) _ _ _)); (first | go_values | go_skip | go_guarded | go_step | go_upon | go_back | go_simp))
  rw [← hW0]
  clear hW0
  go_wp2_with (first
    | (go_at_call 46; refine (l1In_yes _ _ _ _ (by omega)).mono ?_; rintro e wa ⟨rfl, hq⟩; subst hq)
    | (go_at_call 46; refine (l1In_no _ _ _ _ (by omega)).mono ?_; rintro e wa ⟨rfl, hq⟩; subst hq)
    | (go_at_call 25; refine (specNameOk nm _ NM.out).mono ?_; rintro e wa ⟨rfl, hq⟩; subst hq; rw [HM.out])
    | (go_at_call 48; refine (specGetOk_any L S a1 a2 c1 c2 ws gs C Z a cap es _ (by exact I1.out) (by exact I2.out) hx hy (by exact I3.out) hl SM.out).mono ?_; rintro e w1 ⟨rfl, b1⟩; rw [HG.out]; replace X0 := hid (kept X0.out b1); replace B0 := hid (u_cat B0.out b1); replace I1 := hid (I1.out.below b1); replace I2 := hid (I2.out.below b1); replace I3 := hid (I3.out.below b1); clear b1 y0 y1 y2 y3 y4 y5 y6 y7 y8 y9 y10 y11; have y0 := box_cell X0.out 0 (v := .int .i64 i) rfl; have y1 := box_cell X0.out 1 (v := .int .i64 t) rfl; have y2 := box_cell X0.out 2 (v := .int .i64 3) rfl; have y3 := box_cell X0.out 3 (v := .string nm) rfl; have y4 := box_cell X0.out 4 (v := .int .i64 ed) rfl; have y5 := box_cell X0.out 5 (v := .int .i64 L) rfl; have y6 := box_cell X0.out 6 (v := .int .i64 S) rfl; have y7 := box_cell X0.out 7 (v := .slice a1 ws.length c1) rfl; have y8 := box_cell X0.out 8 (v := .slice a2 gs.length c2) rfl; have y9 := box_cell X0.out 9 (v := .int .i64 C) rfl; have y10 := box_cell X0.out 10 (v := .int .i64 Z) rfl; have y11 := box_cell X0.out 11 (v := .slice a es.length cap) rfl))
  go_ret
  exact ⟨rfl, B0.out⟩
set_option maxHeartbeats 4000000 in
set_option maxRecDepth 100000 in
theorem specCli_3pd (ed : Int) (i t : Int) (nm : ByteArray) (L S : Int) (a1 a2 : Option Addr) (c1 c2 : Nat) (ws gs : List Int) (C Z : Int) (a : Option Addr) (cap : Nat) (es : List EqV) (w : World) (ha1 : IntsAt w a1 ws) (ha2 : IntsAt w a2 gs) (hx : ws.length ≤ 1048576) (hy : gs.length ≤ 1048576) (ha : EqsAt w a es) (hl : es.length ≤ 1048576) (hsm : SmallE es) (hnm : nm.size ≤ maxLen) (hi : 0 ≤ i ∧ i ≤ 3) (ht : 1 ≤ t ∧ t ≤ 99999) (he : 0 < ed ∧ ed ≤ 99999) (hHG : getP L S ws gs C Z es) (hHM : nameB nm = true) (hHD : getP L S ws gs C Z es ∧ (es.length : Int) = C) :
    Calls Tryz.prog 24 #[.agg #[.int .i64 i, .int .i64 t, .int .i64 3, .string nm, .int .i64 ed, .int .i64 L, .int .i64 S, .slice a1 ws.length c1, .slice a2 gs.length c2, .int .i64 C, .int .i64 Z, .slice a es.length cap]] w fun e w' => e = .returned (.bool true) ∧ Below w.heap.size w w' := by
  obtain ⟨W0, hW0⟩ : ∃ W0, W0 = w.alloc (.cells #[.int .i64 i, .int .i64 t, .int .i64 3, .string nm, .int .i64 ed, .int .i64 L, .int .i64 S, .slice a1 ws.length c1, .slice a2 gs.length c2, .int .i64 C, .int .i64 Z, .slice a es.length cap] 40) := ⟨_, rfl⟩
  have X0 := hid (show W0.heap[w.heap.size]? = some (.cells #[.int .i64 i, .int .i64 t, .int .i64 3, .string nm, .int .i64 ed, .int .i64 L, .int .i64 S, .slice a1 ws.length c1, .slice a2 gs.length c2, .int .i64 C, .int .i64 Z, .slice a es.length cap] 40 (0, 0)) by rw [hW0]; exact laid _ _ _)
  have B0 := hid (show Below w.heap.size w W0 by rw [hW0]; exact u_b1 _ _)
  have I1 := hid (ha1.below B0.out)
  have I2 := hid (ha2.below B0.out)
  have I3 := hid (ha.below B0.out)
  have SM := hid hsm
  have NM := hid hnm
  have y0 := box_cell X0.out 0 (v := .int .i64 i) rfl
  have y1 := box_cell X0.out 1 (v := .int .i64 t) rfl
  have y2 := box_cell X0.out 2 (v := .int .i64 3) rfl
  have y3 := box_cell X0.out 3 (v := .string nm) rfl
  have y4 := box_cell X0.out 4 (v := .int .i64 ed) rfl
  have y5 := box_cell X0.out 5 (v := .int .i64 L) rfl
  have y6 := box_cell X0.out 6 (v := .int .i64 S) rfl
  have y7 := box_cell X0.out 7 (v := .slice a1 ws.length c1) rfl
  have y8 := box_cell X0.out 8 (v := .slice a2 gs.length c2) rfl
  have y9 := box_cell X0.out 9 (v := .int .i64 C) rfl
  have y10 := box_cell X0.out 10 (v := .int .i64 Z) rfl
  have y11 := box_cell X0.out 11 (v := .slice a es.length cap) rfl
  have be : (ed == 0) = false := beq_eq_false_iff_ne.2 (by omega)
  have bg : decide (0 < ed) = true := decide_eq_true (by omega)
  have bg2 : (0 < ed) = True := eq_true (by omega)
  have HG := hid (decide_eq_true (p := getP L S ws gs C Z es) hHG)
  have bt : (t == 0) = false := beq_eq_false_iff_ne.2 (by omega)
  have HM := hid hHM
  have HD := hid (decide_eq_true (p := getP L S ws gs C Z es ∧ (es.length : Int) = C) hHD)
  clear ha1 ha2 ha hsm hnm
  go_enter Tryz.func24, Tryz.ntmps24
  repeat ((fail_if_success (with_reducible show Code.wp _ (Code.region 1 _ _) _ _ _)); (first | go_values | go_skip | go_guarded | go_step | go_upon | go_back | go_simp))
  rw [← hW0]
  clear hW0
  go_wp2_with (first
    | (go_at_call 46; refine (l1In_yes _ _ _ _ (by omega)).mono ?_; rintro e wa ⟨rfl, hq⟩; subst hq)
    | (go_at_call 46; refine (l1In_no _ _ _ _ (by omega)).mono ?_; rintro e wa ⟨rfl, hq⟩; subst hq)
    | (go_at_call 25; refine (specNameOk nm _ NM.out).mono ?_; rintro e wa ⟨rfl, hq⟩; subst hq; rw [HM.out])
    | (go_at_call 48; refine (specGetOk_any L S a1 a2 c1 c2 ws gs C Z a cap es _ (by exact I1.out) (by exact I2.out) hx hy (by exact I3.out) hl SM.out).mono ?_; rintro e w1 ⟨rfl, b1⟩; rw [HG.out]; replace X0 := hid (kept X0.out b1); replace B0 := hid (u_cat B0.out b1); replace I1 := hid (I1.out.below b1); replace I2 := hid (I2.out.below b1); replace I3 := hid (I3.out.below b1); clear b1 y0 y1 y2 y3 y4 y5 y6 y7 y8 y9 y10 y11; have y0 := box_cell X0.out 0 (v := .int .i64 i) rfl; have y1 := box_cell X0.out 1 (v := .int .i64 t) rfl; have y2 := box_cell X0.out 2 (v := .int .i64 3) rfl; have y3 := box_cell X0.out 3 (v := .string nm) rfl; have y4 := box_cell X0.out 4 (v := .int .i64 ed) rfl; have y5 := box_cell X0.out 5 (v := .int .i64 L) rfl; have y6 := box_cell X0.out 6 (v := .int .i64 S) rfl; have y7 := box_cell X0.out 7 (v := .slice a1 ws.length c1) rfl; have y8 := box_cell X0.out 8 (v := .slice a2 gs.length c2) rfl; have y9 := box_cell X0.out 9 (v := .int .i64 C) rfl; have y10 := box_cell X0.out 10 (v := .int .i64 Z) rfl; have y11 := box_cell X0.out 11 (v := .slice a es.length cap) rfl)
    | (go_at_call 49; refine (specGetDone_any L S a1 a2 c1 c2 ws gs C Z a cap es _ (by exact I1.out) (by exact I2.out) hx hy (by exact I3.out) hl SM.out).mono ?_; rintro e w1 ⟨rfl, b1⟩; rw [HD.out]; replace X0 := hid (kept X0.out b1); replace B0 := hid (u_cat B0.out b1); replace I1 := hid (I1.out.below b1); replace I2 := hid (I2.out.below b1); replace I3 := hid (I3.out.below b1); clear b1 y0 y1 y2 y3 y4 y5 y6 y7 y8 y9 y10 y11; have y0 := box_cell X0.out 0 (v := .int .i64 i) rfl; have y1 := box_cell X0.out 1 (v := .int .i64 t) rfl; have y2 := box_cell X0.out 2 (v := .int .i64 3) rfl; have y3 := box_cell X0.out 3 (v := .string nm) rfl; have y4 := box_cell X0.out 4 (v := .int .i64 ed) rfl; have y5 := box_cell X0.out 5 (v := .int .i64 L) rfl; have y6 := box_cell X0.out 6 (v := .int .i64 S) rfl; have y7 := box_cell X0.out 7 (v := .slice a1 ws.length c1) rfl; have y8 := box_cell X0.out 8 (v := .slice a2 gs.length c2) rfl; have y9 := box_cell X0.out 9 (v := .int .i64 C) rfl; have y10 := box_cell X0.out 10 (v := .int .i64 Z) rfl; have y11 := box_cell X0.out 11 (v := .slice a es.length cap) rfl))
  go_ret
  exact ⟨rfl, B0.out⟩
set_option maxHeartbeats 4000000 in
set_option maxRecDepth 100000 in
theorem specCli_3pn (ed : Int) (i t : Int) (nm : ByteArray) (L S : Int) (a1 a2 : Option Addr) (c1 c2 : Nat) (ws gs : List Int) (C Z : Int) (a : Option Addr) (cap : Nat) (es : List EqV) (w : World) (ha1 : IntsAt w a1 ws) (ha2 : IntsAt w a2 gs) (hx : ws.length ≤ 1048576) (hy : gs.length ≤ 1048576) (ha : EqsAt w a es) (hl : es.length ≤ 1048576) (hsm : SmallE es) (hnm : nm.size ≤ maxLen) (hi : 0 ≤ i ∧ i ≤ 3) (ht : 1 ≤ t ∧ t ≤ 99999) (he : 0 < ed ∧ ed ≤ 99999) (hHG : getP L S ws gs C Z es) (hHM : nameB nm = true) (hHD : ¬ (getP L S ws gs C Z es ∧ (es.length : Int) = C)) :
    Calls Tryz.prog 24 #[.agg #[.int .i64 i, .int .i64 t, .int .i64 3, .string nm, .int .i64 ed, .int .i64 L, .int .i64 S, .slice a1 ws.length c1, .slice a2 gs.length c2, .int .i64 C, .int .i64 Z, .slice a es.length cap]] w fun e w' => e = .returned (.bool false) ∧ Below w.heap.size w w' := by
  obtain ⟨W0, hW0⟩ : ∃ W0, W0 = w.alloc (.cells #[.int .i64 i, .int .i64 t, .int .i64 3, .string nm, .int .i64 ed, .int .i64 L, .int .i64 S, .slice a1 ws.length c1, .slice a2 gs.length c2, .int .i64 C, .int .i64 Z, .slice a es.length cap] 40) := ⟨_, rfl⟩
  have X0 := hid (show W0.heap[w.heap.size]? = some (.cells #[.int .i64 i, .int .i64 t, .int .i64 3, .string nm, .int .i64 ed, .int .i64 L, .int .i64 S, .slice a1 ws.length c1, .slice a2 gs.length c2, .int .i64 C, .int .i64 Z, .slice a es.length cap] 40 (0, 0)) by rw [hW0]; exact laid _ _ _)
  have B0 := hid (show Below w.heap.size w W0 by rw [hW0]; exact u_b1 _ _)
  have I1 := hid (ha1.below B0.out)
  have I2 := hid (ha2.below B0.out)
  have I3 := hid (ha.below B0.out)
  have SM := hid hsm
  have NM := hid hnm
  have y0 := box_cell X0.out 0 (v := .int .i64 i) rfl
  have y1 := box_cell X0.out 1 (v := .int .i64 t) rfl
  have y2 := box_cell X0.out 2 (v := .int .i64 3) rfl
  have y3 := box_cell X0.out 3 (v := .string nm) rfl
  have y4 := box_cell X0.out 4 (v := .int .i64 ed) rfl
  have y5 := box_cell X0.out 5 (v := .int .i64 L) rfl
  have y6 := box_cell X0.out 6 (v := .int .i64 S) rfl
  have y7 := box_cell X0.out 7 (v := .slice a1 ws.length c1) rfl
  have y8 := box_cell X0.out 8 (v := .slice a2 gs.length c2) rfl
  have y9 := box_cell X0.out 9 (v := .int .i64 C) rfl
  have y10 := box_cell X0.out 10 (v := .int .i64 Z) rfl
  have y11 := box_cell X0.out 11 (v := .slice a es.length cap) rfl
  have be : (ed == 0) = false := beq_eq_false_iff_ne.2 (by omega)
  have bg : decide (0 < ed) = true := decide_eq_true (by omega)
  have bg2 : (0 < ed) = True := eq_true (by omega)
  have HG := hid (decide_eq_true (p := getP L S ws gs C Z es) hHG)
  have bt : (t == 0) = false := beq_eq_false_iff_ne.2 (by omega)
  have HM := hid hHM
  have HD := hid (decide_eq_false (p := getP L S ws gs C Z es ∧ (es.length : Int) = C) hHD)
  clear ha1 ha2 ha hsm hnm
  go_enter Tryz.func24, Tryz.ntmps24
  repeat ((fail_if_success (with_reducible show Code.wp _ (Code.region 1 _ _) _ _ _)); (first | go_values | go_skip | go_guarded | go_step | go_upon | go_back | go_simp))
  rw [← hW0]
  clear hW0
  go_wp2_with (first
    | (go_at_call 46; refine (l1In_yes _ _ _ _ (by omega)).mono ?_; rintro e wa ⟨rfl, hq⟩; subst hq)
    | (go_at_call 46; refine (l1In_no _ _ _ _ (by omega)).mono ?_; rintro e wa ⟨rfl, hq⟩; subst hq)
    | (go_at_call 25; refine (specNameOk nm _ NM.out).mono ?_; rintro e wa ⟨rfl, hq⟩; subst hq; rw [HM.out])
    | (go_at_call 48; refine (specGetOk_any L S a1 a2 c1 c2 ws gs C Z a cap es _ (by exact I1.out) (by exact I2.out) hx hy (by exact I3.out) hl SM.out).mono ?_; rintro e w1 ⟨rfl, b1⟩; rw [HG.out]; replace X0 := hid (kept X0.out b1); replace B0 := hid (u_cat B0.out b1); replace I1 := hid (I1.out.below b1); replace I2 := hid (I2.out.below b1); replace I3 := hid (I3.out.below b1); clear b1 y0 y1 y2 y3 y4 y5 y6 y7 y8 y9 y10 y11; have y0 := box_cell X0.out 0 (v := .int .i64 i) rfl; have y1 := box_cell X0.out 1 (v := .int .i64 t) rfl; have y2 := box_cell X0.out 2 (v := .int .i64 3) rfl; have y3 := box_cell X0.out 3 (v := .string nm) rfl; have y4 := box_cell X0.out 4 (v := .int .i64 ed) rfl; have y5 := box_cell X0.out 5 (v := .int .i64 L) rfl; have y6 := box_cell X0.out 6 (v := .int .i64 S) rfl; have y7 := box_cell X0.out 7 (v := .slice a1 ws.length c1) rfl; have y8 := box_cell X0.out 8 (v := .slice a2 gs.length c2) rfl; have y9 := box_cell X0.out 9 (v := .int .i64 C) rfl; have y10 := box_cell X0.out 10 (v := .int .i64 Z) rfl; have y11 := box_cell X0.out 11 (v := .slice a es.length cap) rfl)
    | (go_at_call 49; refine (specGetDone_any L S a1 a2 c1 c2 ws gs C Z a cap es _ (by exact I1.out) (by exact I2.out) hx hy (by exact I3.out) hl SM.out).mono ?_; rintro e w1 ⟨rfl, b1⟩; rw [HD.out]; replace X0 := hid (kept X0.out b1); replace B0 := hid (u_cat B0.out b1); replace I1 := hid (I1.out.below b1); replace I2 := hid (I2.out.below b1); replace I3 := hid (I3.out.below b1); clear b1 y0 y1 y2 y3 y4 y5 y6 y7 y8 y9 y10 y11; have y0 := box_cell X0.out 0 (v := .int .i64 i) rfl; have y1 := box_cell X0.out 1 (v := .int .i64 t) rfl; have y2 := box_cell X0.out 2 (v := .int .i64 3) rfl; have y3 := box_cell X0.out 3 (v := .string nm) rfl; have y4 := box_cell X0.out 4 (v := .int .i64 ed) rfl; have y5 := box_cell X0.out 5 (v := .int .i64 L) rfl; have y6 := box_cell X0.out 6 (v := .int .i64 S) rfl; have y7 := box_cell X0.out 7 (v := .slice a1 ws.length c1) rfl; have y8 := box_cell X0.out 8 (v := .slice a2 gs.length c2) rfl; have y9 := box_cell X0.out 9 (v := .int .i64 C) rfl; have y10 := box_cell X0.out 10 (v := .int .i64 Z) rfl; have y11 := box_cell X0.out 11 (v := .slice a es.length cap) rfl))
  go_ret
  exact ⟨rfl, B0.out⟩
set_option maxHeartbeats 4000000 in
set_option maxRecDepth 100000 in
theorem specCli_4pt (ed : Int) (i _t : Int) (nm : ByteArray) (L S : Int) (a1 a2 : Option Addr) (c1 c2 : Nat) (ws gs : List Int) (C Z : Int) (a : Option Addr) (cap : Nat) (es : List EqV) (w : World) (ha1 : IntsAt w a1 ws) (ha2 : IntsAt w a2 gs) (hx : ws.length ≤ 1048576) (hy : gs.length ≤ 1048576) (ha : EqsAt w a es) (hl : es.length ≤ 1048576) (hsm : SmallE es) (hnm : nm.size ≤ maxLen) (hi : 0 ≤ i ∧ i ≤ 3)  (he : 0 < ed ∧ ed ≤ 99999) (hHG : getP L S ws gs C Z es) :
    Calls Tryz.prog 24 #[.agg #[.int .i64 i, .int .i64 (0 : Int), .int .i64 4, .string nm, .int .i64 ed, .int .i64 L, .int .i64 S, .slice a1 ws.length c1, .slice a2 gs.length c2, .int .i64 C, .int .i64 Z, .slice a es.length cap]] w fun e w' => e = .returned (.bool false) ∧ Below w.heap.size w w' := by
  obtain ⟨W0, hW0⟩ : ∃ W0, W0 = w.alloc (.cells #[.int .i64 i, .int .i64 (0 : Int), .int .i64 4, .string nm, .int .i64 ed, .int .i64 L, .int .i64 S, .slice a1 ws.length c1, .slice a2 gs.length c2, .int .i64 C, .int .i64 Z, .slice a es.length cap] 40) := ⟨_, rfl⟩
  have X0 := hid (show W0.heap[w.heap.size]? = some (.cells #[.int .i64 i, .int .i64 (0 : Int), .int .i64 4, .string nm, .int .i64 ed, .int .i64 L, .int .i64 S, .slice a1 ws.length c1, .slice a2 gs.length c2, .int .i64 C, .int .i64 Z, .slice a es.length cap] 40 (0, 0)) by rw [hW0]; exact laid _ _ _)
  have B0 := hid (show Below w.heap.size w W0 by rw [hW0]; exact u_b1 _ _)
  have I1 := hid (ha1.below B0.out)
  have I2 := hid (ha2.below B0.out)
  have I3 := hid (ha.below B0.out)
  have SM := hid hsm
  have NM := hid hnm
  have y0 := box_cell X0.out 0 (v := .int .i64 i) rfl
  have y1 := box_cell X0.out 1 (v := .int .i64 (0 : Int)) rfl
  have y2 := box_cell X0.out 2 (v := .int .i64 4) rfl
  have y3 := box_cell X0.out 3 (v := .string nm) rfl
  have y4 := box_cell X0.out 4 (v := .int .i64 ed) rfl
  have y5 := box_cell X0.out 5 (v := .int .i64 L) rfl
  have y6 := box_cell X0.out 6 (v := .int .i64 S) rfl
  have y7 := box_cell X0.out 7 (v := .slice a1 ws.length c1) rfl
  have y8 := box_cell X0.out 8 (v := .slice a2 gs.length c2) rfl
  have y9 := box_cell X0.out 9 (v := .int .i64 C) rfl
  have y10 := box_cell X0.out 10 (v := .int .i64 Z) rfl
  have y11 := box_cell X0.out 11 (v := .slice a es.length cap) rfl
  have be : (ed == 0) = false := beq_eq_false_iff_ne.2 (by omega)
  have bg : decide (0 < ed) = true := decide_eq_true (by omega)
  have bg2 : (0 < ed) = True := eq_true (by omega)
  have HG := hid (decide_eq_true (p := getP L S ws gs C Z es) hHG)
  clear ha1 ha2 ha hsm hnm
  go_enter Tryz.func24, Tryz.ntmps24
  repeat ((fail_if_success (with_reducible show Code.wp _ (Code.region 1 _ _) _ _ _)); (first | go_values | go_skip | go_guarded | go_step | go_upon | go_back | go_simp))
  rw [← hW0]
  clear hW0
  go_wp2_with (first
    | (go_at_call 46; refine (l1In_yes _ _ _ _ (by omega)).mono ?_; rintro e wa ⟨rfl, hq⟩; subst hq)
    | (go_at_call 46; refine (l1In_no _ _ _ _ (by omega)).mono ?_; rintro e wa ⟨rfl, hq⟩; subst hq)
    | (go_at_call 48; refine (specGetOk_any L S a1 a2 c1 c2 ws gs C Z a cap es _ (by exact I1.out) (by exact I2.out) hx hy (by exact I3.out) hl SM.out).mono ?_; rintro e w1 ⟨rfl, b1⟩; rw [HG.out]; replace X0 := hid (kept X0.out b1); replace B0 := hid (u_cat B0.out b1); replace I1 := hid (I1.out.below b1); replace I2 := hid (I2.out.below b1); replace I3 := hid (I3.out.below b1); clear b1 y0 y1 y2 y3 y4 y5 y6 y7 y8 y9 y10 y11; have y0 := box_cell X0.out 0 (v := .int .i64 i) rfl; have y1 := box_cell X0.out 1 (v := .int .i64 (0 : Int)) rfl; have y2 := box_cell X0.out 2 (v := .int .i64 4) rfl; have y3 := box_cell X0.out 3 (v := .string nm) rfl; have y4 := box_cell X0.out 4 (v := .int .i64 ed) rfl; have y5 := box_cell X0.out 5 (v := .int .i64 L) rfl; have y6 := box_cell X0.out 6 (v := .int .i64 S) rfl; have y7 := box_cell X0.out 7 (v := .slice a1 ws.length c1) rfl; have y8 := box_cell X0.out 8 (v := .slice a2 gs.length c2) rfl; have y9 := box_cell X0.out 9 (v := .int .i64 C) rfl; have y10 := box_cell X0.out 10 (v := .int .i64 Z) rfl; have y11 := box_cell X0.out 11 (v := .slice a es.length cap) rfl))
  go_ret
  exact ⟨rfl, B0.out⟩
set_option maxHeartbeats 4000000 in
set_option maxRecDepth 100000 in
theorem specCli_4pm (ed : Int) (i t : Int) (nm : ByteArray) (L S : Int) (a1 a2 : Option Addr) (c1 c2 : Nat) (ws gs : List Int) (C Z : Int) (a : Option Addr) (cap : Nat) (es : List EqV) (w : World) (ha1 : IntsAt w a1 ws) (ha2 : IntsAt w a2 gs) (hx : ws.length ≤ 1048576) (hy : gs.length ≤ 1048576) (ha : EqsAt w a es) (hl : es.length ≤ 1048576) (hsm : SmallE es) (hnm : nm.size ≤ maxLen) (hi : 0 ≤ i ∧ i ≤ 3) (ht : 1 ≤ t ∧ t ≤ 99999) (he : 0 < ed ∧ ed ≤ 99999) (hHG : getP L S ws gs C Z es) (hHM : nameB nm = false) :
    Calls Tryz.prog 24 #[.agg #[.int .i64 i, .int .i64 t, .int .i64 4, .string nm, .int .i64 ed, .int .i64 L, .int .i64 S, .slice a1 ws.length c1, .slice a2 gs.length c2, .int .i64 C, .int .i64 Z, .slice a es.length cap]] w fun e w' => e = .returned (.bool false) ∧ Below w.heap.size w w' := by
  obtain ⟨W0, hW0⟩ : ∃ W0, W0 = w.alloc (.cells #[.int .i64 i, .int .i64 t, .int .i64 4, .string nm, .int .i64 ed, .int .i64 L, .int .i64 S, .slice a1 ws.length c1, .slice a2 gs.length c2, .int .i64 C, .int .i64 Z, .slice a es.length cap] 40) := ⟨_, rfl⟩
  have X0 := hid (show W0.heap[w.heap.size]? = some (.cells #[.int .i64 i, .int .i64 t, .int .i64 4, .string nm, .int .i64 ed, .int .i64 L, .int .i64 S, .slice a1 ws.length c1, .slice a2 gs.length c2, .int .i64 C, .int .i64 Z, .slice a es.length cap] 40 (0, 0)) by rw [hW0]; exact laid _ _ _)
  have B0 := hid (show Below w.heap.size w W0 by rw [hW0]; exact u_b1 _ _)
  have I1 := hid (ha1.below B0.out)
  have I2 := hid (ha2.below B0.out)
  have I3 := hid (ha.below B0.out)
  have SM := hid hsm
  have NM := hid hnm
  have y0 := box_cell X0.out 0 (v := .int .i64 i) rfl
  have y1 := box_cell X0.out 1 (v := .int .i64 t) rfl
  have y2 := box_cell X0.out 2 (v := .int .i64 4) rfl
  have y3 := box_cell X0.out 3 (v := .string nm) rfl
  have y4 := box_cell X0.out 4 (v := .int .i64 ed) rfl
  have y5 := box_cell X0.out 5 (v := .int .i64 L) rfl
  have y6 := box_cell X0.out 6 (v := .int .i64 S) rfl
  have y7 := box_cell X0.out 7 (v := .slice a1 ws.length c1) rfl
  have y8 := box_cell X0.out 8 (v := .slice a2 gs.length c2) rfl
  have y9 := box_cell X0.out 9 (v := .int .i64 C) rfl
  have y10 := box_cell X0.out 10 (v := .int .i64 Z) rfl
  have y11 := box_cell X0.out 11 (v := .slice a es.length cap) rfl
  have be : (ed == 0) = false := beq_eq_false_iff_ne.2 (by omega)
  have bg : decide (0 < ed) = true := decide_eq_true (by omega)
  have bg2 : (0 < ed) = True := eq_true (by omega)
  have HG := hid (decide_eq_true (p := getP L S ws gs C Z es) hHG)
  have bt : (t == 0) = false := beq_eq_false_iff_ne.2 (by omega)
  have HM := hid hHM
  clear ha1 ha2 ha hsm hnm
  go_enter Tryz.func24, Tryz.ntmps24
  repeat ((fail_if_success (with_reducible show Code.wp _ (Code.region 1 _ _) _ _ _)); (first | go_values | go_skip | go_guarded | go_step | go_upon | go_back | go_simp))
  rw [← hW0]
  clear hW0
  go_wp2_with (first
    | (go_at_call 46; refine (l1In_yes _ _ _ _ (by omega)).mono ?_; rintro e wa ⟨rfl, hq⟩; subst hq)
    | (go_at_call 46; refine (l1In_no _ _ _ _ (by omega)).mono ?_; rintro e wa ⟨rfl, hq⟩; subst hq)
    | (go_at_call 25; refine (specNameOk nm _ NM.out).mono ?_; rintro e wa ⟨rfl, hq⟩; subst hq; rw [HM.out])
    | (go_at_call 48; refine (specGetOk_any L S a1 a2 c1 c2 ws gs C Z a cap es _ (by exact I1.out) (by exact I2.out) hx hy (by exact I3.out) hl SM.out).mono ?_; rintro e w1 ⟨rfl, b1⟩; rw [HG.out]; replace X0 := hid (kept X0.out b1); replace B0 := hid (u_cat B0.out b1); replace I1 := hid (I1.out.below b1); replace I2 := hid (I2.out.below b1); replace I3 := hid (I3.out.below b1); clear b1 y0 y1 y2 y3 y4 y5 y6 y7 y8 y9 y10 y11; have y0 := box_cell X0.out 0 (v := .int .i64 i) rfl; have y1 := box_cell X0.out 1 (v := .int .i64 t) rfl; have y2 := box_cell X0.out 2 (v := .int .i64 4) rfl; have y3 := box_cell X0.out 3 (v := .string nm) rfl; have y4 := box_cell X0.out 4 (v := .int .i64 ed) rfl; have y5 := box_cell X0.out 5 (v := .int .i64 L) rfl; have y6 := box_cell X0.out 6 (v := .int .i64 S) rfl; have y7 := box_cell X0.out 7 (v := .slice a1 ws.length c1) rfl; have y8 := box_cell X0.out 8 (v := .slice a2 gs.length c2) rfl; have y9 := box_cell X0.out 9 (v := .int .i64 C) rfl; have y10 := box_cell X0.out 10 (v := .int .i64 Z) rfl; have y11 := box_cell X0.out 11 (v := .slice a es.length cap) rfl))
  go_ret
  exact ⟨rfl, B0.out⟩
set_option maxHeartbeats 4000000 in
set_option maxRecDepth 100000 in
theorem specCli_4pd (ed : Int) (i t : Int) (nm : ByteArray) (L S : Int) (a1 a2 : Option Addr) (c1 c2 : Nat) (ws gs : List Int) (C Z : Int) (a : Option Addr) (cap : Nat) (es : List EqV) (w : World) (ha1 : IntsAt w a1 ws) (ha2 : IntsAt w a2 gs) (hx : ws.length ≤ 1048576) (hy : gs.length ≤ 1048576) (ha : EqsAt w a es) (hl : es.length ≤ 1048576) (hsm : SmallE es) (hnm : nm.size ≤ maxLen) (hi : 0 ≤ i ∧ i ≤ 3) (ht : 1 ≤ t ∧ t ≤ 99999) (he : 0 < ed ∧ ed ≤ 99999) (hHG : getP L S ws gs C Z es) (hHM : nameB nm = true) (hHD : getP L S ws gs C Z es ∧ (es.length : Int) = C) :
    Calls Tryz.prog 24 #[.agg #[.int .i64 i, .int .i64 t, .int .i64 4, .string nm, .int .i64 ed, .int .i64 L, .int .i64 S, .slice a1 ws.length c1, .slice a2 gs.length c2, .int .i64 C, .int .i64 Z, .slice a es.length cap]] w fun e w' => e = .returned (.bool false) ∧ Below w.heap.size w w' := by
  obtain ⟨W0, hW0⟩ : ∃ W0, W0 = w.alloc (.cells #[.int .i64 i, .int .i64 t, .int .i64 4, .string nm, .int .i64 ed, .int .i64 L, .int .i64 S, .slice a1 ws.length c1, .slice a2 gs.length c2, .int .i64 C, .int .i64 Z, .slice a es.length cap] 40) := ⟨_, rfl⟩
  have X0 := hid (show W0.heap[w.heap.size]? = some (.cells #[.int .i64 i, .int .i64 t, .int .i64 4, .string nm, .int .i64 ed, .int .i64 L, .int .i64 S, .slice a1 ws.length c1, .slice a2 gs.length c2, .int .i64 C, .int .i64 Z, .slice a es.length cap] 40 (0, 0)) by rw [hW0]; exact laid _ _ _)
  have B0 := hid (show Below w.heap.size w W0 by rw [hW0]; exact u_b1 _ _)
  have I1 := hid (ha1.below B0.out)
  have I2 := hid (ha2.below B0.out)
  have I3 := hid (ha.below B0.out)
  have SM := hid hsm
  have NM := hid hnm
  have y0 := box_cell X0.out 0 (v := .int .i64 i) rfl
  have y1 := box_cell X0.out 1 (v := .int .i64 t) rfl
  have y2 := box_cell X0.out 2 (v := .int .i64 4) rfl
  have y3 := box_cell X0.out 3 (v := .string nm) rfl
  have y4 := box_cell X0.out 4 (v := .int .i64 ed) rfl
  have y5 := box_cell X0.out 5 (v := .int .i64 L) rfl
  have y6 := box_cell X0.out 6 (v := .int .i64 S) rfl
  have y7 := box_cell X0.out 7 (v := .slice a1 ws.length c1) rfl
  have y8 := box_cell X0.out 8 (v := .slice a2 gs.length c2) rfl
  have y9 := box_cell X0.out 9 (v := .int .i64 C) rfl
  have y10 := box_cell X0.out 10 (v := .int .i64 Z) rfl
  have y11 := box_cell X0.out 11 (v := .slice a es.length cap) rfl
  have be : (ed == 0) = false := beq_eq_false_iff_ne.2 (by omega)
  have bg : decide (0 < ed) = true := decide_eq_true (by omega)
  have bg2 : (0 < ed) = True := eq_true (by omega)
  have HG := hid (decide_eq_true (p := getP L S ws gs C Z es) hHG)
  have bt : (t == 0) = false := beq_eq_false_iff_ne.2 (by omega)
  have HM := hid hHM
  have HD := hid (decide_eq_true (p := getP L S ws gs C Z es ∧ (es.length : Int) = C) hHD)
  clear ha1 ha2 ha hsm hnm
  go_enter Tryz.func24, Tryz.ntmps24
  repeat ((fail_if_success (with_reducible show Code.wp _ (Code.region 1 _ _) _ _ _)); (first | go_values | go_skip | go_guarded | go_step | go_upon | go_back | go_simp))
  rw [← hW0]
  clear hW0
  go_wp2_with (first
    | (go_at_call 46; refine (l1In_yes _ _ _ _ (by omega)).mono ?_; rintro e wa ⟨rfl, hq⟩; subst hq)
    | (go_at_call 46; refine (l1In_no _ _ _ _ (by omega)).mono ?_; rintro e wa ⟨rfl, hq⟩; subst hq)
    | (go_at_call 25; refine (specNameOk nm _ NM.out).mono ?_; rintro e wa ⟨rfl, hq⟩; subst hq; rw [HM.out])
    | (go_at_call 48; refine (specGetOk_any L S a1 a2 c1 c2 ws gs C Z a cap es _ (by exact I1.out) (by exact I2.out) hx hy (by exact I3.out) hl SM.out).mono ?_; rintro e w1 ⟨rfl, b1⟩; rw [HG.out]; replace X0 := hid (kept X0.out b1); replace B0 := hid (u_cat B0.out b1); replace I1 := hid (I1.out.below b1); replace I2 := hid (I2.out.below b1); replace I3 := hid (I3.out.below b1); clear b1 y0 y1 y2 y3 y4 y5 y6 y7 y8 y9 y10 y11; have y0 := box_cell X0.out 0 (v := .int .i64 i) rfl; have y1 := box_cell X0.out 1 (v := .int .i64 t) rfl; have y2 := box_cell X0.out 2 (v := .int .i64 4) rfl; have y3 := box_cell X0.out 3 (v := .string nm) rfl; have y4 := box_cell X0.out 4 (v := .int .i64 ed) rfl; have y5 := box_cell X0.out 5 (v := .int .i64 L) rfl; have y6 := box_cell X0.out 6 (v := .int .i64 S) rfl; have y7 := box_cell X0.out 7 (v := .slice a1 ws.length c1) rfl; have y8 := box_cell X0.out 8 (v := .slice a2 gs.length c2) rfl; have y9 := box_cell X0.out 9 (v := .int .i64 C) rfl; have y10 := box_cell X0.out 10 (v := .int .i64 Z) rfl; have y11 := box_cell X0.out 11 (v := .slice a es.length cap) rfl)
    | (go_at_call 49; refine (specGetDone_any L S a1 a2 c1 c2 ws gs C Z a cap es _ (by exact I1.out) (by exact I2.out) hx hy (by exact I3.out) hl SM.out).mono ?_; rintro e w1 ⟨rfl, b1⟩; rw [HD.out]; replace X0 := hid (kept X0.out b1); replace B0 := hid (u_cat B0.out b1); replace I1 := hid (I1.out.below b1); replace I2 := hid (I2.out.below b1); replace I3 := hid (I3.out.below b1); clear b1 y0 y1 y2 y3 y4 y5 y6 y7 y8 y9 y10 y11; have y0 := box_cell X0.out 0 (v := .int .i64 i) rfl; have y1 := box_cell X0.out 1 (v := .int .i64 t) rfl; have y2 := box_cell X0.out 2 (v := .int .i64 4) rfl; have y3 := box_cell X0.out 3 (v := .string nm) rfl; have y4 := box_cell X0.out 4 (v := .int .i64 ed) rfl; have y5 := box_cell X0.out 5 (v := .int .i64 L) rfl; have y6 := box_cell X0.out 6 (v := .int .i64 S) rfl; have y7 := box_cell X0.out 7 (v := .slice a1 ws.length c1) rfl; have y8 := box_cell X0.out 8 (v := .slice a2 gs.length c2) rfl; have y9 := box_cell X0.out 9 (v := .int .i64 C) rfl; have y10 := box_cell X0.out 10 (v := .int .i64 Z) rfl; have y11 := box_cell X0.out 11 (v := .slice a es.length cap) rfl))
  go_ret
  exact ⟨rfl, B0.out⟩
set_option maxHeartbeats 4000000 in
set_option maxRecDepth 100000 in
theorem specCli_4pn (ed : Int) (i t : Int) (nm : ByteArray) (L S : Int) (a1 a2 : Option Addr) (c1 c2 : Nat) (ws gs : List Int) (C Z : Int) (a : Option Addr) (cap : Nat) (es : List EqV) (w : World) (ha1 : IntsAt w a1 ws) (ha2 : IntsAt w a2 gs) (hx : ws.length ≤ 1048576) (hy : gs.length ≤ 1048576) (ha : EqsAt w a es) (hl : es.length ≤ 1048576) (hsm : SmallE es) (hnm : nm.size ≤ maxLen) (hi : 0 ≤ i ∧ i ≤ 3) (ht : 1 ≤ t ∧ t ≤ 99999) (he : 0 < ed ∧ ed ≤ 99999) (hHG : getP L S ws gs C Z es) (hHM : nameB nm = true) (hHD : ¬ (getP L S ws gs C Z es ∧ (es.length : Int) = C)) :
    Calls Tryz.prog 24 #[.agg #[.int .i64 i, .int .i64 t, .int .i64 4, .string nm, .int .i64 ed, .int .i64 L, .int .i64 S, .slice a1 ws.length c1, .slice a2 gs.length c2, .int .i64 C, .int .i64 Z, .slice a es.length cap]] w fun e w' => e = .returned (.bool true) ∧ Below w.heap.size w w' := by
  obtain ⟨W0, hW0⟩ : ∃ W0, W0 = w.alloc (.cells #[.int .i64 i, .int .i64 t, .int .i64 4, .string nm, .int .i64 ed, .int .i64 L, .int .i64 S, .slice a1 ws.length c1, .slice a2 gs.length c2, .int .i64 C, .int .i64 Z, .slice a es.length cap] 40) := ⟨_, rfl⟩
  have X0 := hid (show W0.heap[w.heap.size]? = some (.cells #[.int .i64 i, .int .i64 t, .int .i64 4, .string nm, .int .i64 ed, .int .i64 L, .int .i64 S, .slice a1 ws.length c1, .slice a2 gs.length c2, .int .i64 C, .int .i64 Z, .slice a es.length cap] 40 (0, 0)) by rw [hW0]; exact laid _ _ _)
  have B0 := hid (show Below w.heap.size w W0 by rw [hW0]; exact u_b1 _ _)
  have I1 := hid (ha1.below B0.out)
  have I2 := hid (ha2.below B0.out)
  have I3 := hid (ha.below B0.out)
  have SM := hid hsm
  have NM := hid hnm
  have y0 := box_cell X0.out 0 (v := .int .i64 i) rfl
  have y1 := box_cell X0.out 1 (v := .int .i64 t) rfl
  have y2 := box_cell X0.out 2 (v := .int .i64 4) rfl
  have y3 := box_cell X0.out 3 (v := .string nm) rfl
  have y4 := box_cell X0.out 4 (v := .int .i64 ed) rfl
  have y5 := box_cell X0.out 5 (v := .int .i64 L) rfl
  have y6 := box_cell X0.out 6 (v := .int .i64 S) rfl
  have y7 := box_cell X0.out 7 (v := .slice a1 ws.length c1) rfl
  have y8 := box_cell X0.out 8 (v := .slice a2 gs.length c2) rfl
  have y9 := box_cell X0.out 9 (v := .int .i64 C) rfl
  have y10 := box_cell X0.out 10 (v := .int .i64 Z) rfl
  have y11 := box_cell X0.out 11 (v := .slice a es.length cap) rfl
  have be : (ed == 0) = false := beq_eq_false_iff_ne.2 (by omega)
  have bg : decide (0 < ed) = true := decide_eq_true (by omega)
  have bg2 : (0 < ed) = True := eq_true (by omega)
  have HG := hid (decide_eq_true (p := getP L S ws gs C Z es) hHG)
  have bt : (t == 0) = false := beq_eq_false_iff_ne.2 (by omega)
  have HM := hid hHM
  have HD := hid (decide_eq_false (p := getP L S ws gs C Z es ∧ (es.length : Int) = C) hHD)
  clear ha1 ha2 ha hsm hnm
  go_enter Tryz.func24, Tryz.ntmps24
  repeat ((fail_if_success (with_reducible show Code.wp _ (Code.region 1 _ _) _ _ _)); (first | go_values | go_skip | go_guarded | go_step | go_upon | go_back | go_simp))
  rw [← hW0]
  clear hW0
  go_wp2_with (first
    | (go_at_call 46; refine (l1In_yes _ _ _ _ (by omega)).mono ?_; rintro e wa ⟨rfl, hq⟩; subst hq)
    | (go_at_call 46; refine (l1In_no _ _ _ _ (by omega)).mono ?_; rintro e wa ⟨rfl, hq⟩; subst hq)
    | (go_at_call 25; refine (specNameOk nm _ NM.out).mono ?_; rintro e wa ⟨rfl, hq⟩; subst hq; rw [HM.out])
    | (go_at_call 48; refine (specGetOk_any L S a1 a2 c1 c2 ws gs C Z a cap es _ (by exact I1.out) (by exact I2.out) hx hy (by exact I3.out) hl SM.out).mono ?_; rintro e w1 ⟨rfl, b1⟩; rw [HG.out]; replace X0 := hid (kept X0.out b1); replace B0 := hid (u_cat B0.out b1); replace I1 := hid (I1.out.below b1); replace I2 := hid (I2.out.below b1); replace I3 := hid (I3.out.below b1); clear b1 y0 y1 y2 y3 y4 y5 y6 y7 y8 y9 y10 y11; have y0 := box_cell X0.out 0 (v := .int .i64 i) rfl; have y1 := box_cell X0.out 1 (v := .int .i64 t) rfl; have y2 := box_cell X0.out 2 (v := .int .i64 4) rfl; have y3 := box_cell X0.out 3 (v := .string nm) rfl; have y4 := box_cell X0.out 4 (v := .int .i64 ed) rfl; have y5 := box_cell X0.out 5 (v := .int .i64 L) rfl; have y6 := box_cell X0.out 6 (v := .int .i64 S) rfl; have y7 := box_cell X0.out 7 (v := .slice a1 ws.length c1) rfl; have y8 := box_cell X0.out 8 (v := .slice a2 gs.length c2) rfl; have y9 := box_cell X0.out 9 (v := .int .i64 C) rfl; have y10 := box_cell X0.out 10 (v := .int .i64 Z) rfl; have y11 := box_cell X0.out 11 (v := .slice a es.length cap) rfl)
    | (go_at_call 49; refine (specGetDone_any L S a1 a2 c1 c2 ws gs C Z a cap es _ (by exact I1.out) (by exact I2.out) hx hy (by exact I3.out) hl SM.out).mono ?_; rintro e w1 ⟨rfl, b1⟩; rw [HD.out]; replace X0 := hid (kept X0.out b1); replace B0 := hid (u_cat B0.out b1); replace I1 := hid (I1.out.below b1); replace I2 := hid (I2.out.below b1); replace I3 := hid (I3.out.below b1); clear b1 y0 y1 y2 y3 y4 y5 y6 y7 y8 y9 y10 y11; have y0 := box_cell X0.out 0 (v := .int .i64 i) rfl; have y1 := box_cell X0.out 1 (v := .int .i64 t) rfl; have y2 := box_cell X0.out 2 (v := .int .i64 4) rfl; have y3 := box_cell X0.out 3 (v := .string nm) rfl; have y4 := box_cell X0.out 4 (v := .int .i64 ed) rfl; have y5 := box_cell X0.out 5 (v := .int .i64 L) rfl; have y6 := box_cell X0.out 6 (v := .int .i64 S) rfl; have y7 := box_cell X0.out 7 (v := .slice a1 ws.length c1) rfl; have y8 := box_cell X0.out 8 (v := .slice a2 gs.length c2) rfl; have y9 := box_cell X0.out 9 (v := .int .i64 C) rfl; have y10 := box_cell X0.out 10 (v := .int .i64 Z) rfl; have y11 := box_cell X0.out 11 (v := .slice a es.length cap) rfl))
  go_ret
  exact ⟨rfl, B0.out⟩
set_option maxHeartbeats 4000000 in
set_option maxRecDepth 100000 in
theorem specCli_0zn (i t : Int) (nm : ByteArray) (L S : Int) (a1 a2 : Option Addr) (c1 c2 : Nat) (ws gs : List Int) (C Z : Int) (a : Option Addr) (cap : Nat) (es : List EqV) (w : World) (ha1 : IntsAt w a1 ws) (ha2 : IntsAt w a2 gs) (_hx : ws.length ≤ 1048576) (_hy : gs.length ≤ 1048576) (ha : EqsAt w a es) (_hl : es.length ≤ 1048576) (hsm : SmallE es) (hnm : nm.size ≤ maxLen) (hi : 0 ≤ i ∧ i ≤ 3) (ht : 0 ≤ t ∧ t ≤ 99999) (hHN : nonP L S ws.length gs.length C Z es.length) (hne : nm ≠ ⟨#[]⟩) :
    Calls Tryz.prog 24 #[.agg #[.int .i64 i, .int .i64 t, .int .i64 0, .string nm, .int .i64 0, .int .i64 L, .int .i64 S, .slice a1 ws.length c1, .slice a2 gs.length c2, .int .i64 C, .int .i64 Z, .slice a es.length cap]] w fun e w' => e = .returned (.bool false) ∧ Below w.heap.size w w' := by
  obtain ⟨W0, hW0⟩ : ∃ W0, W0 = w.alloc (.cells #[.int .i64 i, .int .i64 t, .int .i64 0, .string nm, .int .i64 0, .int .i64 L, .int .i64 S, .slice a1 ws.length c1, .slice a2 gs.length c2, .int .i64 C, .int .i64 Z, .slice a es.length cap] 40) := ⟨_, rfl⟩
  have X0 := hid (show W0.heap[w.heap.size]? = some (.cells #[.int .i64 i, .int .i64 t, .int .i64 0, .string nm, .int .i64 0, .int .i64 L, .int .i64 S, .slice a1 ws.length c1, .slice a2 gs.length c2, .int .i64 C, .int .i64 Z, .slice a es.length cap] 40 (0, 0)) by rw [hW0]; exact laid _ _ _)
  have B0 := hid (show Below w.heap.size w W0 by rw [hW0]; exact u_b1 _ _)
  have I1 := hid (ha1.below B0.out)
  have I2 := hid (ha2.below B0.out)
  have I3 := hid (ha.below B0.out)
  have SM := hid hsm
  have NM := hid hnm
  have y0 := box_cell X0.out 0 (v := .int .i64 i) rfl
  have y1 := box_cell X0.out 1 (v := .int .i64 t) rfl
  have y2 := box_cell X0.out 2 (v := .int .i64 0) rfl
  have y3 := box_cell X0.out 3 (v := .string nm) rfl
  have y4 := box_cell X0.out 4 (v := .int .i64 0) rfl
  have y5 := box_cell X0.out 5 (v := .int .i64 L) rfl
  have y6 := box_cell X0.out 6 (v := .int .i64 S) rfl
  have y7 := box_cell X0.out 7 (v := .slice a1 ws.length c1) rfl
  have y8 := box_cell X0.out 8 (v := .slice a2 gs.length c2) rfl
  have y9 := box_cell X0.out 9 (v := .int .i64 C) rfl
  have y10 := box_cell X0.out 10 (v := .int .i64 Z) rfl
  have y11 := box_cell X0.out 11 (v := .slice a es.length cap) rfl
  have HN := hid (decide_eq_true (p := nonP L S ws.length gs.length C Z es.length) hHN)
  have hnl := ne_toList hne
  clear ha1 ha2 ha hsm hnm
  go_enter Tryz.func24, Tryz.ntmps24
  repeat ((fail_if_success (with_reducible show Code.wp _ (Code.region 1 _ _) _ _ _)); (first | go_values | go_skip | go_guarded | go_step | go_upon | go_back | go_simp))
  rw [← hW0]
  clear hW0
  go_wp2_with (first
    | (go_at_call 46; refine (l1In_yes _ _ _ _ (by omega)).mono ?_; rintro e wa ⟨rfl, hq⟩; subst hq)
    | (go_at_call 46; refine (l1In_no _ _ _ _ (by omega)).mono ?_; rintro e wa ⟨rfl, hq⟩; subst hq)
    | (go_at_call 47; refine (l13None_any i t 0 nm 0 L S a1 a2 a ws.length gs.length es.length c1 c2 cap C Z _).mono ?_; rintro e w1 ⟨rfl, b1⟩; rw [HN.out]; replace X0 := hid (kept X0.out b1); replace B0 := hid (u_cat B0.out b1); replace I1 := hid (I1.out.below b1); replace I2 := hid (I2.out.below b1); replace I3 := hid (I3.out.below b1); clear b1 y0 y1 y2 y3 y4 y5 y6 y7 y8 y9 y10 y11; have y0 := box_cell X0.out 0 (v := .int .i64 i) rfl; have y1 := box_cell X0.out 1 (v := .int .i64 t) rfl; have y2 := box_cell X0.out 2 (v := .int .i64 0) rfl; have y3 := box_cell X0.out 3 (v := .string nm) rfl; have y4 := box_cell X0.out 4 (v := .int .i64 0) rfl; have y5 := box_cell X0.out 5 (v := .int .i64 L) rfl; have y6 := box_cell X0.out 6 (v := .int .i64 S) rfl; have y7 := box_cell X0.out 7 (v := .slice a1 ws.length c1) rfl; have y8 := box_cell X0.out 8 (v := .slice a2 gs.length c2) rfl; have y9 := box_cell X0.out 9 (v := .int .i64 C) rfl; have y10 := box_cell X0.out 10 (v := .int .i64 Z) rfl; have y11 := box_cell X0.out 11 (v := .slice a es.length cap) rfl))
  all_goals first | (exact absurd (by assumption) hnl) | (go_ret; exact ⟨rfl, B0.out⟩)
set_option maxHeartbeats 4000000 in
set_option maxRecDepth 100000 in
theorem specCli_0zy (i t : Int) (nm : ByteArray) (L S : Int) (a1 a2 : Option Addr) (c1 c2 : Nat) (ws gs : List Int) (C Z : Int) (a : Option Addr) (cap : Nat) (es : List EqV) (w : World) (ha1 : IntsAt w a1 ws) (ha2 : IntsAt w a2 gs) (_hx : ws.length ≤ 1048576) (_hy : gs.length ≤ 1048576) (ha : EqsAt w a es) (_hl : es.length ≤ 1048576) (hsm : SmallE es) (hnm : nm.size ≤ maxLen) (hi : 0 ≤ i ∧ i ≤ 3) (ht : 0 ≤ t ∧ t ≤ 99999) (hHN : nonP L S ws.length gs.length C Z es.length) :
    Calls Tryz.prog 24 #[.agg #[.int .i64 i, .int .i64 t, .int .i64 0, .string ⟨#[]⟩, .int .i64 0, .int .i64 L, .int .i64 S, .slice a1 ws.length c1, .slice a2 gs.length c2, .int .i64 C, .int .i64 Z, .slice a es.length cap]] w fun e w' => e = .returned (.bool true) ∧ Below w.heap.size w w' := by
  obtain ⟨W0, hW0⟩ : ∃ W0, W0 = w.alloc (.cells #[.int .i64 i, .int .i64 t, .int .i64 0, .string ⟨#[]⟩, .int .i64 0, .int .i64 L, .int .i64 S, .slice a1 ws.length c1, .slice a2 gs.length c2, .int .i64 C, .int .i64 Z, .slice a es.length cap] 40) := ⟨_, rfl⟩
  have X0 := hid (show W0.heap[w.heap.size]? = some (.cells #[.int .i64 i, .int .i64 t, .int .i64 0, .string ⟨#[]⟩, .int .i64 0, .int .i64 L, .int .i64 S, .slice a1 ws.length c1, .slice a2 gs.length c2, .int .i64 C, .int .i64 Z, .slice a es.length cap] 40 (0, 0)) by rw [hW0]; exact laid _ _ _)
  have B0 := hid (show Below w.heap.size w W0 by rw [hW0]; exact u_b1 _ _)
  have I1 := hid (ha1.below B0.out)
  have I2 := hid (ha2.below B0.out)
  have I3 := hid (ha.below B0.out)
  have SM := hid hsm
  have NM := hid hnm
  have y0 := box_cell X0.out 0 (v := .int .i64 i) rfl
  have y1 := box_cell X0.out 1 (v := .int .i64 t) rfl
  have y2 := box_cell X0.out 2 (v := .int .i64 0) rfl
  have y3 := box_cell X0.out 3 (v := .string ⟨#[]⟩) rfl
  have y4 := box_cell X0.out 4 (v := .int .i64 0) rfl
  have y5 := box_cell X0.out 5 (v := .int .i64 L) rfl
  have y6 := box_cell X0.out 6 (v := .int .i64 S) rfl
  have y7 := box_cell X0.out 7 (v := .slice a1 ws.length c1) rfl
  have y8 := box_cell X0.out 8 (v := .slice a2 gs.length c2) rfl
  have y9 := box_cell X0.out 9 (v := .int .i64 C) rfl
  have y10 := box_cell X0.out 10 (v := .int .i64 Z) rfl
  have y11 := box_cell X0.out 11 (v := .slice a es.length cap) rfl
  have HN := hid (decide_eq_true (p := nonP L S ws.length gs.length C Z es.length) hHN)
  clear ha1 ha2 ha hsm hnm
  go_enter Tryz.func24, Tryz.ntmps24
  repeat ((fail_if_success (with_reducible show Code.wp _ (Code.region 1 _ _) _ _ _)); (first | go_values | go_skip | go_guarded | go_step | go_upon | go_back | go_simp))
  rw [← hW0]
  clear hW0
  go_wp2_with (first
    | (go_at_call 46; refine (l1In_yes _ _ _ _ (by omega)).mono ?_; rintro e wa ⟨rfl, hq⟩; subst hq)
    | (go_at_call 46; refine (l1In_no _ _ _ _ (by omega)).mono ?_; rintro e wa ⟨rfl, hq⟩; subst hq)
    | (go_at_call 47; refine (l13None_any i t 0 ⟨#[]⟩ 0 L S a1 a2 a ws.length gs.length es.length c1 c2 cap C Z _).mono ?_; rintro e w1 ⟨rfl, b1⟩; rw [HN.out]; replace X0 := hid (kept X0.out b1); replace B0 := hid (u_cat B0.out b1); replace I1 := hid (I1.out.below b1); replace I2 := hid (I2.out.below b1); replace I3 := hid (I3.out.below b1); clear b1 y0 y1 y2 y3 y4 y5 y6 y7 y8 y9 y10 y11; have y0 := box_cell X0.out 0 (v := .int .i64 i) rfl; have y1 := box_cell X0.out 1 (v := .int .i64 t) rfl; have y2 := box_cell X0.out 2 (v := .int .i64 0) rfl; have y3 := box_cell X0.out 3 (v := .string ⟨#[]⟩) rfl; have y4 := box_cell X0.out 4 (v := .int .i64 0) rfl; have y5 := box_cell X0.out 5 (v := .int .i64 L) rfl; have y6 := box_cell X0.out 6 (v := .int .i64 S) rfl; have y7 := box_cell X0.out 7 (v := .slice a1 ws.length c1) rfl; have y8 := box_cell X0.out 8 (v := .slice a2 gs.length c2) rfl; have y9 := box_cell X0.out 9 (v := .int .i64 C) rfl; have y10 := box_cell X0.out 10 (v := .int .i64 Z) rfl; have y11 := box_cell X0.out 11 (v := .slice a es.length cap) rfl))
  go_ret
  exact ⟨rfl, B0.out⟩
set_option maxHeartbeats 4000000 in
set_option maxRecDepth 100000 in
theorem specCli_1zt (i _t : Int) (nm : ByteArray) (L S : Int) (a1 a2 : Option Addr) (c1 c2 : Nat) (ws gs : List Int) (C Z : Int) (a : Option Addr) (cap : Nat) (es : List EqV) (w : World) (ha1 : IntsAt w a1 ws) (ha2 : IntsAt w a2 gs) (_hx : ws.length ≤ 1048576) (_hy : gs.length ≤ 1048576) (ha : EqsAt w a es) (_hl : es.length ≤ 1048576) (hsm : SmallE es) (hnm : nm.size ≤ maxLen) (hi : 0 ≤ i ∧ i ≤ 3)  (hHN : nonP L S ws.length gs.length C Z es.length) :
    Calls Tryz.prog 24 #[.agg #[.int .i64 i, .int .i64 (0 : Int), .int .i64 1, .string nm, .int .i64 0, .int .i64 L, .int .i64 S, .slice a1 ws.length c1, .slice a2 gs.length c2, .int .i64 C, .int .i64 Z, .slice a es.length cap]] w fun e w' => e = .returned (.bool false) ∧ Below w.heap.size w w' := by
  obtain ⟨W0, hW0⟩ : ∃ W0, W0 = w.alloc (.cells #[.int .i64 i, .int .i64 (0 : Int), .int .i64 1, .string nm, .int .i64 0, .int .i64 L, .int .i64 S, .slice a1 ws.length c1, .slice a2 gs.length c2, .int .i64 C, .int .i64 Z, .slice a es.length cap] 40) := ⟨_, rfl⟩
  have X0 := hid (show W0.heap[w.heap.size]? = some (.cells #[.int .i64 i, .int .i64 (0 : Int), .int .i64 1, .string nm, .int .i64 0, .int .i64 L, .int .i64 S, .slice a1 ws.length c1, .slice a2 gs.length c2, .int .i64 C, .int .i64 Z, .slice a es.length cap] 40 (0, 0)) by rw [hW0]; exact laid _ _ _)
  have B0 := hid (show Below w.heap.size w W0 by rw [hW0]; exact u_b1 _ _)
  have I1 := hid (ha1.below B0.out)
  have I2 := hid (ha2.below B0.out)
  have I3 := hid (ha.below B0.out)
  have SM := hid hsm
  have NM := hid hnm
  have y0 := box_cell X0.out 0 (v := .int .i64 i) rfl
  have y1 := box_cell X0.out 1 (v := .int .i64 (0 : Int)) rfl
  have y2 := box_cell X0.out 2 (v := .int .i64 1) rfl
  have y3 := box_cell X0.out 3 (v := .string nm) rfl
  have y4 := box_cell X0.out 4 (v := .int .i64 0) rfl
  have y5 := box_cell X0.out 5 (v := .int .i64 L) rfl
  have y6 := box_cell X0.out 6 (v := .int .i64 S) rfl
  have y7 := box_cell X0.out 7 (v := .slice a1 ws.length c1) rfl
  have y8 := box_cell X0.out 8 (v := .slice a2 gs.length c2) rfl
  have y9 := box_cell X0.out 9 (v := .int .i64 C) rfl
  have y10 := box_cell X0.out 10 (v := .int .i64 Z) rfl
  have y11 := box_cell X0.out 11 (v := .slice a es.length cap) rfl
  have HN := hid (decide_eq_true (p := nonP L S ws.length gs.length C Z es.length) hHN)
  clear ha1 ha2 ha hsm hnm
  go_enter Tryz.func24, Tryz.ntmps24
  repeat ((fail_if_success (with_reducible show Code.wp _ (Code.region 1 _ _) _ _ _)); (first | go_values | go_skip | go_guarded | go_step | go_upon | go_back | go_simp))
  rw [← hW0]
  clear hW0
  go_wp2_with (first
    | (go_at_call 46; refine (l1In_yes _ _ _ _ (by omega)).mono ?_; rintro e wa ⟨rfl, hq⟩; subst hq)
    | (go_at_call 46; refine (l1In_no _ _ _ _ (by omega)).mono ?_; rintro e wa ⟨rfl, hq⟩; subst hq)
    | (go_at_call 47; refine (l13None_any i 0 1 nm 0 L S a1 a2 a ws.length gs.length es.length c1 c2 cap C Z _).mono ?_; rintro e w1 ⟨rfl, b1⟩; rw [HN.out]; replace X0 := hid (kept X0.out b1); replace B0 := hid (u_cat B0.out b1); replace I1 := hid (I1.out.below b1); replace I2 := hid (I2.out.below b1); replace I3 := hid (I3.out.below b1); clear b1 y0 y1 y2 y3 y4 y5 y6 y7 y8 y9 y10 y11; have y0 := box_cell X0.out 0 (v := .int .i64 i) rfl; have y1 := box_cell X0.out 1 (v := .int .i64 (0 : Int)) rfl; have y2 := box_cell X0.out 2 (v := .int .i64 1) rfl; have y3 := box_cell X0.out 3 (v := .string nm) rfl; have y4 := box_cell X0.out 4 (v := .int .i64 0) rfl; have y5 := box_cell X0.out 5 (v := .int .i64 L) rfl; have y6 := box_cell X0.out 6 (v := .int .i64 S) rfl; have y7 := box_cell X0.out 7 (v := .slice a1 ws.length c1) rfl; have y8 := box_cell X0.out 8 (v := .slice a2 gs.length c2) rfl; have y9 := box_cell X0.out 9 (v := .int .i64 C) rfl; have y10 := box_cell X0.out 10 (v := .int .i64 Z) rfl; have y11 := box_cell X0.out 11 (v := .slice a es.length cap) rfl))
  go_ret
  exact ⟨rfl, B0.out⟩
set_option maxHeartbeats 4000000 in
set_option maxRecDepth 100000 in
theorem specCli_1zm (i t : Int) (nm : ByteArray) (L S : Int) (a1 a2 : Option Addr) (c1 c2 : Nat) (ws gs : List Int) (C Z : Int) (a : Option Addr) (cap : Nat) (es : List EqV) (w : World) (ha1 : IntsAt w a1 ws) (ha2 : IntsAt w a2 gs) (_hx : ws.length ≤ 1048576) (_hy : gs.length ≤ 1048576) (ha : EqsAt w a es) (_hl : es.length ≤ 1048576) (hsm : SmallE es) (hnm : nm.size ≤ maxLen) (hi : 0 ≤ i ∧ i ≤ 3) (ht : 1 ≤ t ∧ t ≤ 99999) (hHN : nonP L S ws.length gs.length C Z es.length) (hHM : nameB nm = false) :
    Calls Tryz.prog 24 #[.agg #[.int .i64 i, .int .i64 t, .int .i64 1, .string nm, .int .i64 0, .int .i64 L, .int .i64 S, .slice a1 ws.length c1, .slice a2 gs.length c2, .int .i64 C, .int .i64 Z, .slice a es.length cap]] w fun e w' => e = .returned (.bool false) ∧ Below w.heap.size w w' := by
  obtain ⟨W0, hW0⟩ : ∃ W0, W0 = w.alloc (.cells #[.int .i64 i, .int .i64 t, .int .i64 1, .string nm, .int .i64 0, .int .i64 L, .int .i64 S, .slice a1 ws.length c1, .slice a2 gs.length c2, .int .i64 C, .int .i64 Z, .slice a es.length cap] 40) := ⟨_, rfl⟩
  have X0 := hid (show W0.heap[w.heap.size]? = some (.cells #[.int .i64 i, .int .i64 t, .int .i64 1, .string nm, .int .i64 0, .int .i64 L, .int .i64 S, .slice a1 ws.length c1, .slice a2 gs.length c2, .int .i64 C, .int .i64 Z, .slice a es.length cap] 40 (0, 0)) by rw [hW0]; exact laid _ _ _)
  have B0 := hid (show Below w.heap.size w W0 by rw [hW0]; exact u_b1 _ _)
  have I1 := hid (ha1.below B0.out)
  have I2 := hid (ha2.below B0.out)
  have I3 := hid (ha.below B0.out)
  have SM := hid hsm
  have NM := hid hnm
  have y0 := box_cell X0.out 0 (v := .int .i64 i) rfl
  have y1 := box_cell X0.out 1 (v := .int .i64 t) rfl
  have y2 := box_cell X0.out 2 (v := .int .i64 1) rfl
  have y3 := box_cell X0.out 3 (v := .string nm) rfl
  have y4 := box_cell X0.out 4 (v := .int .i64 0) rfl
  have y5 := box_cell X0.out 5 (v := .int .i64 L) rfl
  have y6 := box_cell X0.out 6 (v := .int .i64 S) rfl
  have y7 := box_cell X0.out 7 (v := .slice a1 ws.length c1) rfl
  have y8 := box_cell X0.out 8 (v := .slice a2 gs.length c2) rfl
  have y9 := box_cell X0.out 9 (v := .int .i64 C) rfl
  have y10 := box_cell X0.out 10 (v := .int .i64 Z) rfl
  have y11 := box_cell X0.out 11 (v := .slice a es.length cap) rfl
  have HN := hid (decide_eq_true (p := nonP L S ws.length gs.length C Z es.length) hHN)
  have bt : (t == 0) = false := beq_eq_false_iff_ne.2 (by omega)
  have HM := hid hHM
  clear ha1 ha2 ha hsm hnm
  go_enter Tryz.func24, Tryz.ntmps24
  repeat ((fail_if_success (with_reducible show Code.wp _ (Code.region 1 _ _) _ _ _)); (first | go_values | go_skip | go_guarded | go_step | go_upon | go_back | go_simp))
  rw [← hW0]
  clear hW0
  go_wp2_with (first
    | (go_at_call 46; refine (l1In_yes _ _ _ _ (by omega)).mono ?_; rintro e wa ⟨rfl, hq⟩; subst hq)
    | (go_at_call 46; refine (l1In_no _ _ _ _ (by omega)).mono ?_; rintro e wa ⟨rfl, hq⟩; subst hq)
    | (go_at_call 25; refine (specNameOk nm _ NM.out).mono ?_; rintro e wa ⟨rfl, hq⟩; subst hq; rw [HM.out])
    | (go_at_call 47; refine (l13None_any i t 1 nm 0 L S a1 a2 a ws.length gs.length es.length c1 c2 cap C Z _).mono ?_; rintro e w1 ⟨rfl, b1⟩; rw [HN.out]; replace X0 := hid (kept X0.out b1); replace B0 := hid (u_cat B0.out b1); replace I1 := hid (I1.out.below b1); replace I2 := hid (I2.out.below b1); replace I3 := hid (I3.out.below b1); clear b1 y0 y1 y2 y3 y4 y5 y6 y7 y8 y9 y10 y11; have y0 := box_cell X0.out 0 (v := .int .i64 i) rfl; have y1 := box_cell X0.out 1 (v := .int .i64 t) rfl; have y2 := box_cell X0.out 2 (v := .int .i64 1) rfl; have y3 := box_cell X0.out 3 (v := .string nm) rfl; have y4 := box_cell X0.out 4 (v := .int .i64 0) rfl; have y5 := box_cell X0.out 5 (v := .int .i64 L) rfl; have y6 := box_cell X0.out 6 (v := .int .i64 S) rfl; have y7 := box_cell X0.out 7 (v := .slice a1 ws.length c1) rfl; have y8 := box_cell X0.out 8 (v := .slice a2 gs.length c2) rfl; have y9 := box_cell X0.out 9 (v := .int .i64 C) rfl; have y10 := box_cell X0.out 10 (v := .int .i64 Z) rfl; have y11 := box_cell X0.out 11 (v := .slice a es.length cap) rfl))
  go_ret
  exact ⟨rfl, B0.out⟩
set_option maxHeartbeats 4000000 in
set_option maxRecDepth 100000 in
theorem specCli_1z (i t : Int) (nm : ByteArray) (L S : Int) (a1 a2 : Option Addr) (c1 c2 : Nat) (ws gs : List Int) (C Z : Int) (a : Option Addr) (cap : Nat) (es : List EqV) (w : World) (ha1 : IntsAt w a1 ws) (ha2 : IntsAt w a2 gs) (_hx : ws.length ≤ 1048576) (_hy : gs.length ≤ 1048576) (ha : EqsAt w a es) (_hl : es.length ≤ 1048576) (hsm : SmallE es) (hnm : nm.size ≤ maxLen) (hi : 0 ≤ i ∧ i ≤ 3) (ht : 1 ≤ t ∧ t ≤ 99999) (hHN : nonP L S ws.length gs.length C Z es.length) (hHM : nameB nm = true) :
    Calls Tryz.prog 24 #[.agg #[.int .i64 i, .int .i64 t, .int .i64 1, .string nm, .int .i64 0, .int .i64 L, .int .i64 S, .slice a1 ws.length c1, .slice a2 gs.length c2, .int .i64 C, .int .i64 Z, .slice a es.length cap]] w fun e w' => e = .returned (.bool true) ∧ Below w.heap.size w w' := by
  obtain ⟨W0, hW0⟩ : ∃ W0, W0 = w.alloc (.cells #[.int .i64 i, .int .i64 t, .int .i64 1, .string nm, .int .i64 0, .int .i64 L, .int .i64 S, .slice a1 ws.length c1, .slice a2 gs.length c2, .int .i64 C, .int .i64 Z, .slice a es.length cap] 40) := ⟨_, rfl⟩
  have X0 := hid (show W0.heap[w.heap.size]? = some (.cells #[.int .i64 i, .int .i64 t, .int .i64 1, .string nm, .int .i64 0, .int .i64 L, .int .i64 S, .slice a1 ws.length c1, .slice a2 gs.length c2, .int .i64 C, .int .i64 Z, .slice a es.length cap] 40 (0, 0)) by rw [hW0]; exact laid _ _ _)
  have B0 := hid (show Below w.heap.size w W0 by rw [hW0]; exact u_b1 _ _)
  have I1 := hid (ha1.below B0.out)
  have I2 := hid (ha2.below B0.out)
  have I3 := hid (ha.below B0.out)
  have SM := hid hsm
  have NM := hid hnm
  have y0 := box_cell X0.out 0 (v := .int .i64 i) rfl
  have y1 := box_cell X0.out 1 (v := .int .i64 t) rfl
  have y2 := box_cell X0.out 2 (v := .int .i64 1) rfl
  have y3 := box_cell X0.out 3 (v := .string nm) rfl
  have y4 := box_cell X0.out 4 (v := .int .i64 0) rfl
  have y5 := box_cell X0.out 5 (v := .int .i64 L) rfl
  have y6 := box_cell X0.out 6 (v := .int .i64 S) rfl
  have y7 := box_cell X0.out 7 (v := .slice a1 ws.length c1) rfl
  have y8 := box_cell X0.out 8 (v := .slice a2 gs.length c2) rfl
  have y9 := box_cell X0.out 9 (v := .int .i64 C) rfl
  have y10 := box_cell X0.out 10 (v := .int .i64 Z) rfl
  have y11 := box_cell X0.out 11 (v := .slice a es.length cap) rfl
  have HN := hid (decide_eq_true (p := nonP L S ws.length gs.length C Z es.length) hHN)
  have bt : (t == 0) = false := beq_eq_false_iff_ne.2 (by omega)
  have HM := hid hHM
  clear ha1 ha2 ha hsm hnm
  go_enter Tryz.func24, Tryz.ntmps24
  repeat ((fail_if_success (with_reducible show Code.wp _ (Code.region 1 _ _) _ _ _)); (first | go_values | go_skip | go_guarded | go_step | go_upon | go_back | go_simp))
  rw [← hW0]
  clear hW0
  go_wp2_with (first
    | (go_at_call 46; refine (l1In_yes _ _ _ _ (by omega)).mono ?_; rintro e wa ⟨rfl, hq⟩; subst hq)
    | (go_at_call 46; refine (l1In_no _ _ _ _ (by omega)).mono ?_; rintro e wa ⟨rfl, hq⟩; subst hq)
    | (go_at_call 25; refine (specNameOk nm _ NM.out).mono ?_; rintro e wa ⟨rfl, hq⟩; subst hq; rw [HM.out])
    | (go_at_call 47; refine (l13None_any i t 1 nm 0 L S a1 a2 a ws.length gs.length es.length c1 c2 cap C Z _).mono ?_; rintro e w1 ⟨rfl, b1⟩; rw [HN.out]; replace X0 := hid (kept X0.out b1); replace B0 := hid (u_cat B0.out b1); replace I1 := hid (I1.out.below b1); replace I2 := hid (I2.out.below b1); replace I3 := hid (I3.out.below b1); clear b1 y0 y1 y2 y3 y4 y5 y6 y7 y8 y9 y10 y11; have y0 := box_cell X0.out 0 (v := .int .i64 i) rfl; have y1 := box_cell X0.out 1 (v := .int .i64 t) rfl; have y2 := box_cell X0.out 2 (v := .int .i64 1) rfl; have y3 := box_cell X0.out 3 (v := .string nm) rfl; have y4 := box_cell X0.out 4 (v := .int .i64 0) rfl; have y5 := box_cell X0.out 5 (v := .int .i64 L) rfl; have y6 := box_cell X0.out 6 (v := .int .i64 S) rfl; have y7 := box_cell X0.out 7 (v := .slice a1 ws.length c1) rfl; have y8 := box_cell X0.out 8 (v := .slice a2 gs.length c2) rfl; have y9 := box_cell X0.out 9 (v := .int .i64 C) rfl; have y10 := box_cell X0.out 10 (v := .int .i64 Z) rfl; have y11 := box_cell X0.out 11 (v := .slice a es.length cap) rfl))
  go_ret
  exact ⟨rfl, B0.out⟩
set_option maxHeartbeats 4000000 in
set_option maxRecDepth 100000 in
theorem specCli_2zt (i _t : Int) (nm : ByteArray) (L S : Int) (a1 a2 : Option Addr) (c1 c2 : Nat) (ws gs : List Int) (C Z : Int) (a : Option Addr) (cap : Nat) (es : List EqV) (w : World) (ha1 : IntsAt w a1 ws) (ha2 : IntsAt w a2 gs) (_hx : ws.length ≤ 1048576) (_hy : gs.length ≤ 1048576) (ha : EqsAt w a es) (_hl : es.length ≤ 1048576) (hsm : SmallE es) (hnm : nm.size ≤ maxLen) (hi : 0 ≤ i ∧ i ≤ 3)  (hHN : nonP L S ws.length gs.length C Z es.length) :
    Calls Tryz.prog 24 #[.agg #[.int .i64 i, .int .i64 (0 : Int), .int .i64 2, .string nm, .int .i64 0, .int .i64 L, .int .i64 S, .slice a1 ws.length c1, .slice a2 gs.length c2, .int .i64 C, .int .i64 Z, .slice a es.length cap]] w fun e w' => e = .returned (.bool false) ∧ Below w.heap.size w w' := by
  obtain ⟨W0, hW0⟩ : ∃ W0, W0 = w.alloc (.cells #[.int .i64 i, .int .i64 (0 : Int), .int .i64 2, .string nm, .int .i64 0, .int .i64 L, .int .i64 S, .slice a1 ws.length c1, .slice a2 gs.length c2, .int .i64 C, .int .i64 Z, .slice a es.length cap] 40) := ⟨_, rfl⟩
  have X0 := hid (show W0.heap[w.heap.size]? = some (.cells #[.int .i64 i, .int .i64 (0 : Int), .int .i64 2, .string nm, .int .i64 0, .int .i64 L, .int .i64 S, .slice a1 ws.length c1, .slice a2 gs.length c2, .int .i64 C, .int .i64 Z, .slice a es.length cap] 40 (0, 0)) by rw [hW0]; exact laid _ _ _)
  have B0 := hid (show Below w.heap.size w W0 by rw [hW0]; exact u_b1 _ _)
  have I1 := hid (ha1.below B0.out)
  have I2 := hid (ha2.below B0.out)
  have I3 := hid (ha.below B0.out)
  have SM := hid hsm
  have NM := hid hnm
  have y0 := box_cell X0.out 0 (v := .int .i64 i) rfl
  have y1 := box_cell X0.out 1 (v := .int .i64 (0 : Int)) rfl
  have y2 := box_cell X0.out 2 (v := .int .i64 2) rfl
  have y3 := box_cell X0.out 3 (v := .string nm) rfl
  have y4 := box_cell X0.out 4 (v := .int .i64 0) rfl
  have y5 := box_cell X0.out 5 (v := .int .i64 L) rfl
  have y6 := box_cell X0.out 6 (v := .int .i64 S) rfl
  have y7 := box_cell X0.out 7 (v := .slice a1 ws.length c1) rfl
  have y8 := box_cell X0.out 8 (v := .slice a2 gs.length c2) rfl
  have y9 := box_cell X0.out 9 (v := .int .i64 C) rfl
  have y10 := box_cell X0.out 10 (v := .int .i64 Z) rfl
  have y11 := box_cell X0.out 11 (v := .slice a es.length cap) rfl
  have HN := hid (decide_eq_true (p := nonP L S ws.length gs.length C Z es.length) hHN)
  clear ha1 ha2 ha hsm hnm
  go_enter Tryz.func24, Tryz.ntmps24
  repeat ((fail_if_success (with_reducible show Code.wp _ (Code.region 1 _ _) _ _ _)); (first | go_values | go_skip | go_guarded | go_step | go_upon | go_back | go_simp))
  rw [← hW0]
  clear hW0
  go_wp2_with (first
    | (go_at_call 46; refine (l1In_yes _ _ _ _ (by omega)).mono ?_; rintro e wa ⟨rfl, hq⟩; subst hq)
    | (go_at_call 46; refine (l1In_no _ _ _ _ (by omega)).mono ?_; rintro e wa ⟨rfl, hq⟩; subst hq)
    | (go_at_call 47; refine (l13None_any i 0 2 nm 0 L S a1 a2 a ws.length gs.length es.length c1 c2 cap C Z _).mono ?_; rintro e w1 ⟨rfl, b1⟩; rw [HN.out]; replace X0 := hid (kept X0.out b1); replace B0 := hid (u_cat B0.out b1); replace I1 := hid (I1.out.below b1); replace I2 := hid (I2.out.below b1); replace I3 := hid (I3.out.below b1); clear b1 y0 y1 y2 y3 y4 y5 y6 y7 y8 y9 y10 y11; have y0 := box_cell X0.out 0 (v := .int .i64 i) rfl; have y1 := box_cell X0.out 1 (v := .int .i64 (0 : Int)) rfl; have y2 := box_cell X0.out 2 (v := .int .i64 2) rfl; have y3 := box_cell X0.out 3 (v := .string nm) rfl; have y4 := box_cell X0.out 4 (v := .int .i64 0) rfl; have y5 := box_cell X0.out 5 (v := .int .i64 L) rfl; have y6 := box_cell X0.out 6 (v := .int .i64 S) rfl; have y7 := box_cell X0.out 7 (v := .slice a1 ws.length c1) rfl; have y8 := box_cell X0.out 8 (v := .slice a2 gs.length c2) rfl; have y9 := box_cell X0.out 9 (v := .int .i64 C) rfl; have y10 := box_cell X0.out 10 (v := .int .i64 Z) rfl; have y11 := box_cell X0.out 11 (v := .slice a es.length cap) rfl))
  go_ret
  exact ⟨rfl, B0.out⟩
set_option maxHeartbeats 4000000 in
set_option maxRecDepth 100000 in
theorem specCli_2zm (i t : Int) (nm : ByteArray) (L S : Int) (a1 a2 : Option Addr) (c1 c2 : Nat) (ws gs : List Int) (C Z : Int) (a : Option Addr) (cap : Nat) (es : List EqV) (w : World) (ha1 : IntsAt w a1 ws) (ha2 : IntsAt w a2 gs) (_hx : ws.length ≤ 1048576) (_hy : gs.length ≤ 1048576) (ha : EqsAt w a es) (_hl : es.length ≤ 1048576) (hsm : SmallE es) (hnm : nm.size ≤ maxLen) (hi : 0 ≤ i ∧ i ≤ 3) (ht : 1 ≤ t ∧ t ≤ 99999) (hHN : nonP L S ws.length gs.length C Z es.length) (hHM : nameB nm = false) :
    Calls Tryz.prog 24 #[.agg #[.int .i64 i, .int .i64 t, .int .i64 2, .string nm, .int .i64 0, .int .i64 L, .int .i64 S, .slice a1 ws.length c1, .slice a2 gs.length c2, .int .i64 C, .int .i64 Z, .slice a es.length cap]] w fun e w' => e = .returned (.bool false) ∧ Below w.heap.size w w' := by
  obtain ⟨W0, hW0⟩ : ∃ W0, W0 = w.alloc (.cells #[.int .i64 i, .int .i64 t, .int .i64 2, .string nm, .int .i64 0, .int .i64 L, .int .i64 S, .slice a1 ws.length c1, .slice a2 gs.length c2, .int .i64 C, .int .i64 Z, .slice a es.length cap] 40) := ⟨_, rfl⟩
  have X0 := hid (show W0.heap[w.heap.size]? = some (.cells #[.int .i64 i, .int .i64 t, .int .i64 2, .string nm, .int .i64 0, .int .i64 L, .int .i64 S, .slice a1 ws.length c1, .slice a2 gs.length c2, .int .i64 C, .int .i64 Z, .slice a es.length cap] 40 (0, 0)) by rw [hW0]; exact laid _ _ _)
  have B0 := hid (show Below w.heap.size w W0 by rw [hW0]; exact u_b1 _ _)
  have I1 := hid (ha1.below B0.out)
  have I2 := hid (ha2.below B0.out)
  have I3 := hid (ha.below B0.out)
  have SM := hid hsm
  have NM := hid hnm
  have y0 := box_cell X0.out 0 (v := .int .i64 i) rfl
  have y1 := box_cell X0.out 1 (v := .int .i64 t) rfl
  have y2 := box_cell X0.out 2 (v := .int .i64 2) rfl
  have y3 := box_cell X0.out 3 (v := .string nm) rfl
  have y4 := box_cell X0.out 4 (v := .int .i64 0) rfl
  have y5 := box_cell X0.out 5 (v := .int .i64 L) rfl
  have y6 := box_cell X0.out 6 (v := .int .i64 S) rfl
  have y7 := box_cell X0.out 7 (v := .slice a1 ws.length c1) rfl
  have y8 := box_cell X0.out 8 (v := .slice a2 gs.length c2) rfl
  have y9 := box_cell X0.out 9 (v := .int .i64 C) rfl
  have y10 := box_cell X0.out 10 (v := .int .i64 Z) rfl
  have y11 := box_cell X0.out 11 (v := .slice a es.length cap) rfl
  have HN := hid (decide_eq_true (p := nonP L S ws.length gs.length C Z es.length) hHN)
  have bt : (t == 0) = false := beq_eq_false_iff_ne.2 (by omega)
  have HM := hid hHM
  clear ha1 ha2 ha hsm hnm
  go_enter Tryz.func24, Tryz.ntmps24
  repeat ((fail_if_success (with_reducible show Code.wp _ (Code.region 1 _ _) _ _ _)); (first | go_values | go_skip | go_guarded | go_step | go_upon | go_back | go_simp))
  rw [← hW0]
  clear hW0
  go_wp2_with (first
    | (go_at_call 46; refine (l1In_yes _ _ _ _ (by omega)).mono ?_; rintro e wa ⟨rfl, hq⟩; subst hq)
    | (go_at_call 46; refine (l1In_no _ _ _ _ (by omega)).mono ?_; rintro e wa ⟨rfl, hq⟩; subst hq)
    | (go_at_call 25; refine (specNameOk nm _ NM.out).mono ?_; rintro e wa ⟨rfl, hq⟩; subst hq; rw [HM.out])
    | (go_at_call 47; refine (l13None_any i t 2 nm 0 L S a1 a2 a ws.length gs.length es.length c1 c2 cap C Z _).mono ?_; rintro e w1 ⟨rfl, b1⟩; rw [HN.out]; replace X0 := hid (kept X0.out b1); replace B0 := hid (u_cat B0.out b1); replace I1 := hid (I1.out.below b1); replace I2 := hid (I2.out.below b1); replace I3 := hid (I3.out.below b1); clear b1 y0 y1 y2 y3 y4 y5 y6 y7 y8 y9 y10 y11; have y0 := box_cell X0.out 0 (v := .int .i64 i) rfl; have y1 := box_cell X0.out 1 (v := .int .i64 t) rfl; have y2 := box_cell X0.out 2 (v := .int .i64 2) rfl; have y3 := box_cell X0.out 3 (v := .string nm) rfl; have y4 := box_cell X0.out 4 (v := .int .i64 0) rfl; have y5 := box_cell X0.out 5 (v := .int .i64 L) rfl; have y6 := box_cell X0.out 6 (v := .int .i64 S) rfl; have y7 := box_cell X0.out 7 (v := .slice a1 ws.length c1) rfl; have y8 := box_cell X0.out 8 (v := .slice a2 gs.length c2) rfl; have y9 := box_cell X0.out 9 (v := .int .i64 C) rfl; have y10 := box_cell X0.out 10 (v := .int .i64 Z) rfl; have y11 := box_cell X0.out 11 (v := .slice a es.length cap) rfl))
  go_ret
  exact ⟨rfl, B0.out⟩
set_option maxHeartbeats 4000000 in
set_option maxRecDepth 100000 in
theorem specCli_2z (i t : Int) (nm : ByteArray) (L S : Int) (a1 a2 : Option Addr) (c1 c2 : Nat) (ws gs : List Int) (C Z : Int) (a : Option Addr) (cap : Nat) (es : List EqV) (w : World) (ha1 : IntsAt w a1 ws) (ha2 : IntsAt w a2 gs) (_hx : ws.length ≤ 1048576) (_hy : gs.length ≤ 1048576) (ha : EqsAt w a es) (_hl : es.length ≤ 1048576) (hsm : SmallE es) (hnm : nm.size ≤ maxLen) (hi : 0 ≤ i ∧ i ≤ 3) (ht : 1 ≤ t ∧ t ≤ 99999) (hHN : nonP L S ws.length gs.length C Z es.length) (hHM : nameB nm = true) :
    Calls Tryz.prog 24 #[.agg #[.int .i64 i, .int .i64 t, .int .i64 2, .string nm, .int .i64 0, .int .i64 L, .int .i64 S, .slice a1 ws.length c1, .slice a2 gs.length c2, .int .i64 C, .int .i64 Z, .slice a es.length cap]] w fun e w' => e = .returned (.bool false) ∧ Below w.heap.size w w' := by
  obtain ⟨W0, hW0⟩ : ∃ W0, W0 = w.alloc (.cells #[.int .i64 i, .int .i64 t, .int .i64 2, .string nm, .int .i64 0, .int .i64 L, .int .i64 S, .slice a1 ws.length c1, .slice a2 gs.length c2, .int .i64 C, .int .i64 Z, .slice a es.length cap] 40) := ⟨_, rfl⟩
  have X0 := hid (show W0.heap[w.heap.size]? = some (.cells #[.int .i64 i, .int .i64 t, .int .i64 2, .string nm, .int .i64 0, .int .i64 L, .int .i64 S, .slice a1 ws.length c1, .slice a2 gs.length c2, .int .i64 C, .int .i64 Z, .slice a es.length cap] 40 (0, 0)) by rw [hW0]; exact laid _ _ _)
  have B0 := hid (show Below w.heap.size w W0 by rw [hW0]; exact u_b1 _ _)
  have I1 := hid (ha1.below B0.out)
  have I2 := hid (ha2.below B0.out)
  have I3 := hid (ha.below B0.out)
  have SM := hid hsm
  have NM := hid hnm
  have y0 := box_cell X0.out 0 (v := .int .i64 i) rfl
  have y1 := box_cell X0.out 1 (v := .int .i64 t) rfl
  have y2 := box_cell X0.out 2 (v := .int .i64 2) rfl
  have y3 := box_cell X0.out 3 (v := .string nm) rfl
  have y4 := box_cell X0.out 4 (v := .int .i64 0) rfl
  have y5 := box_cell X0.out 5 (v := .int .i64 L) rfl
  have y6 := box_cell X0.out 6 (v := .int .i64 S) rfl
  have y7 := box_cell X0.out 7 (v := .slice a1 ws.length c1) rfl
  have y8 := box_cell X0.out 8 (v := .slice a2 gs.length c2) rfl
  have y9 := box_cell X0.out 9 (v := .int .i64 C) rfl
  have y10 := box_cell X0.out 10 (v := .int .i64 Z) rfl
  have y11 := box_cell X0.out 11 (v := .slice a es.length cap) rfl
  have HN := hid (decide_eq_true (p := nonP L S ws.length gs.length C Z es.length) hHN)
  have bt : (t == 0) = false := beq_eq_false_iff_ne.2 (by omega)
  have HM := hid hHM
  clear ha1 ha2 ha hsm hnm
  go_enter Tryz.func24, Tryz.ntmps24
  repeat ((fail_if_success (with_reducible show Code.wp _ (Code.region 1 _ _) _ _ _)); (first | go_values | go_skip | go_guarded | go_step | go_upon | go_back | go_simp))
  rw [← hW0]
  clear hW0
  go_wp2_with (first
    | (go_at_call 46; refine (l1In_yes _ _ _ _ (by omega)).mono ?_; rintro e wa ⟨rfl, hq⟩; subst hq)
    | (go_at_call 46; refine (l1In_no _ _ _ _ (by omega)).mono ?_; rintro e wa ⟨rfl, hq⟩; subst hq)
    | (go_at_call 25; refine (specNameOk nm _ NM.out).mono ?_; rintro e wa ⟨rfl, hq⟩; subst hq; rw [HM.out])
    | (go_at_call 47; refine (l13None_any i t 2 nm 0 L S a1 a2 a ws.length gs.length es.length c1 c2 cap C Z _).mono ?_; rintro e w1 ⟨rfl, b1⟩; rw [HN.out]; replace X0 := hid (kept X0.out b1); replace B0 := hid (u_cat B0.out b1); replace I1 := hid (I1.out.below b1); replace I2 := hid (I2.out.below b1); replace I3 := hid (I3.out.below b1); clear b1 y0 y1 y2 y3 y4 y5 y6 y7 y8 y9 y10 y11; have y0 := box_cell X0.out 0 (v := .int .i64 i) rfl; have y1 := box_cell X0.out 1 (v := .int .i64 t) rfl; have y2 := box_cell X0.out 2 (v := .int .i64 2) rfl; have y3 := box_cell X0.out 3 (v := .string nm) rfl; have y4 := box_cell X0.out 4 (v := .int .i64 0) rfl; have y5 := box_cell X0.out 5 (v := .int .i64 L) rfl; have y6 := box_cell X0.out 6 (v := .int .i64 S) rfl; have y7 := box_cell X0.out 7 (v := .slice a1 ws.length c1) rfl; have y8 := box_cell X0.out 8 (v := .slice a2 gs.length c2) rfl; have y9 := box_cell X0.out 9 (v := .int .i64 C) rfl; have y10 := box_cell X0.out 10 (v := .int .i64 Z) rfl; have y11 := box_cell X0.out 11 (v := .slice a es.length cap) rfl))
  go_ret
  exact ⟨rfl, B0.out⟩
set_option maxHeartbeats 4000000 in
set_option maxRecDepth 100000 in
theorem specCli_3zt (i _t : Int) (nm : ByteArray) (L S : Int) (a1 a2 : Option Addr) (c1 c2 : Nat) (ws gs : List Int) (C Z : Int) (a : Option Addr) (cap : Nat) (es : List EqV) (w : World) (ha1 : IntsAt w a1 ws) (ha2 : IntsAt w a2 gs) (_hx : ws.length ≤ 1048576) (_hy : gs.length ≤ 1048576) (ha : EqsAt w a es) (_hl : es.length ≤ 1048576) (hsm : SmallE es) (hnm : nm.size ≤ maxLen) (hi : 0 ≤ i ∧ i ≤ 3)  (hHN : nonP L S ws.length gs.length C Z es.length) :
    Calls Tryz.prog 24 #[.agg #[.int .i64 i, .int .i64 (0 : Int), .int .i64 3, .string nm, .int .i64 0, .int .i64 L, .int .i64 S, .slice a1 ws.length c1, .slice a2 gs.length c2, .int .i64 C, .int .i64 Z, .slice a es.length cap]] w fun e w' => e = .returned (.bool false) ∧ Below w.heap.size w w' := by
  obtain ⟨W0, hW0⟩ : ∃ W0, W0 = w.alloc (.cells #[.int .i64 i, .int .i64 (0 : Int), .int .i64 3, .string nm, .int .i64 0, .int .i64 L, .int .i64 S, .slice a1 ws.length c1, .slice a2 gs.length c2, .int .i64 C, .int .i64 Z, .slice a es.length cap] 40) := ⟨_, rfl⟩
  have X0 := hid (show W0.heap[w.heap.size]? = some (.cells #[.int .i64 i, .int .i64 (0 : Int), .int .i64 3, .string nm, .int .i64 0, .int .i64 L, .int .i64 S, .slice a1 ws.length c1, .slice a2 gs.length c2, .int .i64 C, .int .i64 Z, .slice a es.length cap] 40 (0, 0)) by rw [hW0]; exact laid _ _ _)
  have B0 := hid (show Below w.heap.size w W0 by rw [hW0]; exact u_b1 _ _)
  have I1 := hid (ha1.below B0.out)
  have I2 := hid (ha2.below B0.out)
  have I3 := hid (ha.below B0.out)
  have SM := hid hsm
  have NM := hid hnm
  have y0 := box_cell X0.out 0 (v := .int .i64 i) rfl
  have y1 := box_cell X0.out 1 (v := .int .i64 (0 : Int)) rfl
  have y2 := box_cell X0.out 2 (v := .int .i64 3) rfl
  have y3 := box_cell X0.out 3 (v := .string nm) rfl
  have y4 := box_cell X0.out 4 (v := .int .i64 0) rfl
  have y5 := box_cell X0.out 5 (v := .int .i64 L) rfl
  have y6 := box_cell X0.out 6 (v := .int .i64 S) rfl
  have y7 := box_cell X0.out 7 (v := .slice a1 ws.length c1) rfl
  have y8 := box_cell X0.out 8 (v := .slice a2 gs.length c2) rfl
  have y9 := box_cell X0.out 9 (v := .int .i64 C) rfl
  have y10 := box_cell X0.out 10 (v := .int .i64 Z) rfl
  have y11 := box_cell X0.out 11 (v := .slice a es.length cap) rfl
  have HN := hid (decide_eq_true (p := nonP L S ws.length gs.length C Z es.length) hHN)
  clear ha1 ha2 ha hsm hnm
  go_enter Tryz.func24, Tryz.ntmps24
  repeat ((fail_if_success (with_reducible show Code.wp _ (Code.region 1 _ _) _ _ _)); (first | go_values | go_skip | go_guarded | go_step | go_upon | go_back | go_simp))
  rw [← hW0]
  clear hW0
  go_wp2_with (first
    | (go_at_call 46; refine (l1In_yes _ _ _ _ (by omega)).mono ?_; rintro e wa ⟨rfl, hq⟩; subst hq)
    | (go_at_call 46; refine (l1In_no _ _ _ _ (by omega)).mono ?_; rintro e wa ⟨rfl, hq⟩; subst hq)
    | (go_at_call 47; refine (l13None_any i 0 3 nm 0 L S a1 a2 a ws.length gs.length es.length c1 c2 cap C Z _).mono ?_; rintro e w1 ⟨rfl, b1⟩; rw [HN.out]; replace X0 := hid (kept X0.out b1); replace B0 := hid (u_cat B0.out b1); replace I1 := hid (I1.out.below b1); replace I2 := hid (I2.out.below b1); replace I3 := hid (I3.out.below b1); clear b1 y0 y1 y2 y3 y4 y5 y6 y7 y8 y9 y10 y11; have y0 := box_cell X0.out 0 (v := .int .i64 i) rfl; have y1 := box_cell X0.out 1 (v := .int .i64 (0 : Int)) rfl; have y2 := box_cell X0.out 2 (v := .int .i64 3) rfl; have y3 := box_cell X0.out 3 (v := .string nm) rfl; have y4 := box_cell X0.out 4 (v := .int .i64 0) rfl; have y5 := box_cell X0.out 5 (v := .int .i64 L) rfl; have y6 := box_cell X0.out 6 (v := .int .i64 S) rfl; have y7 := box_cell X0.out 7 (v := .slice a1 ws.length c1) rfl; have y8 := box_cell X0.out 8 (v := .slice a2 gs.length c2) rfl; have y9 := box_cell X0.out 9 (v := .int .i64 C) rfl; have y10 := box_cell X0.out 10 (v := .int .i64 Z) rfl; have y11 := box_cell X0.out 11 (v := .slice a es.length cap) rfl))
  go_ret
  exact ⟨rfl, B0.out⟩
set_option maxHeartbeats 4000000 in
set_option maxRecDepth 100000 in
theorem specCli_3zm (i t : Int) (nm : ByteArray) (L S : Int) (a1 a2 : Option Addr) (c1 c2 : Nat) (ws gs : List Int) (C Z : Int) (a : Option Addr) (cap : Nat) (es : List EqV) (w : World) (ha1 : IntsAt w a1 ws) (ha2 : IntsAt w a2 gs) (_hx : ws.length ≤ 1048576) (_hy : gs.length ≤ 1048576) (ha : EqsAt w a es) (_hl : es.length ≤ 1048576) (hsm : SmallE es) (hnm : nm.size ≤ maxLen) (hi : 0 ≤ i ∧ i ≤ 3) (ht : 1 ≤ t ∧ t ≤ 99999) (hHN : nonP L S ws.length gs.length C Z es.length) (hHM : nameB nm = false) :
    Calls Tryz.prog 24 #[.agg #[.int .i64 i, .int .i64 t, .int .i64 3, .string nm, .int .i64 0, .int .i64 L, .int .i64 S, .slice a1 ws.length c1, .slice a2 gs.length c2, .int .i64 C, .int .i64 Z, .slice a es.length cap]] w fun e w' => e = .returned (.bool false) ∧ Below w.heap.size w w' := by
  obtain ⟨W0, hW0⟩ : ∃ W0, W0 = w.alloc (.cells #[.int .i64 i, .int .i64 t, .int .i64 3, .string nm, .int .i64 0, .int .i64 L, .int .i64 S, .slice a1 ws.length c1, .slice a2 gs.length c2, .int .i64 C, .int .i64 Z, .slice a es.length cap] 40) := ⟨_, rfl⟩
  have X0 := hid (show W0.heap[w.heap.size]? = some (.cells #[.int .i64 i, .int .i64 t, .int .i64 3, .string nm, .int .i64 0, .int .i64 L, .int .i64 S, .slice a1 ws.length c1, .slice a2 gs.length c2, .int .i64 C, .int .i64 Z, .slice a es.length cap] 40 (0, 0)) by rw [hW0]; exact laid _ _ _)
  have B0 := hid (show Below w.heap.size w W0 by rw [hW0]; exact u_b1 _ _)
  have I1 := hid (ha1.below B0.out)
  have I2 := hid (ha2.below B0.out)
  have I3 := hid (ha.below B0.out)
  have SM := hid hsm
  have NM := hid hnm
  have y0 := box_cell X0.out 0 (v := .int .i64 i) rfl
  have y1 := box_cell X0.out 1 (v := .int .i64 t) rfl
  have y2 := box_cell X0.out 2 (v := .int .i64 3) rfl
  have y3 := box_cell X0.out 3 (v := .string nm) rfl
  have y4 := box_cell X0.out 4 (v := .int .i64 0) rfl
  have y5 := box_cell X0.out 5 (v := .int .i64 L) rfl
  have y6 := box_cell X0.out 6 (v := .int .i64 S) rfl
  have y7 := box_cell X0.out 7 (v := .slice a1 ws.length c1) rfl
  have y8 := box_cell X0.out 8 (v := .slice a2 gs.length c2) rfl
  have y9 := box_cell X0.out 9 (v := .int .i64 C) rfl
  have y10 := box_cell X0.out 10 (v := .int .i64 Z) rfl
  have y11 := box_cell X0.out 11 (v := .slice a es.length cap) rfl
  have HN := hid (decide_eq_true (p := nonP L S ws.length gs.length C Z es.length) hHN)
  have bt : (t == 0) = false := beq_eq_false_iff_ne.2 (by omega)
  have HM := hid hHM
  clear ha1 ha2 ha hsm hnm
  go_enter Tryz.func24, Tryz.ntmps24
  repeat ((fail_if_success (with_reducible show Code.wp _ (Code.region 1 _ _) _ _ _)); (first | go_values | go_skip | go_guarded | go_step | go_upon | go_back | go_simp))
  rw [← hW0]
  clear hW0
  go_wp2_with (first
    | (go_at_call 46; refine (l1In_yes _ _ _ _ (by omega)).mono ?_; rintro e wa ⟨rfl, hq⟩; subst hq)
    | (go_at_call 46; refine (l1In_no _ _ _ _ (by omega)).mono ?_; rintro e wa ⟨rfl, hq⟩; subst hq)
    | (go_at_call 25; refine (specNameOk nm _ NM.out).mono ?_; rintro e wa ⟨rfl, hq⟩; subst hq; rw [HM.out])
    | (go_at_call 47; refine (l13None_any i t 3 nm 0 L S a1 a2 a ws.length gs.length es.length c1 c2 cap C Z _).mono ?_; rintro e w1 ⟨rfl, b1⟩; rw [HN.out]; replace X0 := hid (kept X0.out b1); replace B0 := hid (u_cat B0.out b1); replace I1 := hid (I1.out.below b1); replace I2 := hid (I2.out.below b1); replace I3 := hid (I3.out.below b1); clear b1 y0 y1 y2 y3 y4 y5 y6 y7 y8 y9 y10 y11; have y0 := box_cell X0.out 0 (v := .int .i64 i) rfl; have y1 := box_cell X0.out 1 (v := .int .i64 t) rfl; have y2 := box_cell X0.out 2 (v := .int .i64 3) rfl; have y3 := box_cell X0.out 3 (v := .string nm) rfl; have y4 := box_cell X0.out 4 (v := .int .i64 0) rfl; have y5 := box_cell X0.out 5 (v := .int .i64 L) rfl; have y6 := box_cell X0.out 6 (v := .int .i64 S) rfl; have y7 := box_cell X0.out 7 (v := .slice a1 ws.length c1) rfl; have y8 := box_cell X0.out 8 (v := .slice a2 gs.length c2) rfl; have y9 := box_cell X0.out 9 (v := .int .i64 C) rfl; have y10 := box_cell X0.out 10 (v := .int .i64 Z) rfl; have y11 := box_cell X0.out 11 (v := .slice a es.length cap) rfl))
  go_ret
  exact ⟨rfl, B0.out⟩
set_option maxHeartbeats 4000000 in
set_option maxRecDepth 100000 in
theorem specCli_3z (i t : Int) (nm : ByteArray) (L S : Int) (a1 a2 : Option Addr) (c1 c2 : Nat) (ws gs : List Int) (C Z : Int) (a : Option Addr) (cap : Nat) (es : List EqV) (w : World) (ha1 : IntsAt w a1 ws) (ha2 : IntsAt w a2 gs) (_hx : ws.length ≤ 1048576) (_hy : gs.length ≤ 1048576) (ha : EqsAt w a es) (_hl : es.length ≤ 1048576) (hsm : SmallE es) (hnm : nm.size ≤ maxLen) (hi : 0 ≤ i ∧ i ≤ 3) (ht : 1 ≤ t ∧ t ≤ 99999) (hHN : nonP L S ws.length gs.length C Z es.length) (hHM : nameB nm = true) :
    Calls Tryz.prog 24 #[.agg #[.int .i64 i, .int .i64 t, .int .i64 3, .string nm, .int .i64 0, .int .i64 L, .int .i64 S, .slice a1 ws.length c1, .slice a2 gs.length c2, .int .i64 C, .int .i64 Z, .slice a es.length cap]] w fun e w' => e = .returned (.bool false) ∧ Below w.heap.size w w' := by
  obtain ⟨W0, hW0⟩ : ∃ W0, W0 = w.alloc (.cells #[.int .i64 i, .int .i64 t, .int .i64 3, .string nm, .int .i64 0, .int .i64 L, .int .i64 S, .slice a1 ws.length c1, .slice a2 gs.length c2, .int .i64 C, .int .i64 Z, .slice a es.length cap] 40) := ⟨_, rfl⟩
  have X0 := hid (show W0.heap[w.heap.size]? = some (.cells #[.int .i64 i, .int .i64 t, .int .i64 3, .string nm, .int .i64 0, .int .i64 L, .int .i64 S, .slice a1 ws.length c1, .slice a2 gs.length c2, .int .i64 C, .int .i64 Z, .slice a es.length cap] 40 (0, 0)) by rw [hW0]; exact laid _ _ _)
  have B0 := hid (show Below w.heap.size w W0 by rw [hW0]; exact u_b1 _ _)
  have I1 := hid (ha1.below B0.out)
  have I2 := hid (ha2.below B0.out)
  have I3 := hid (ha.below B0.out)
  have SM := hid hsm
  have NM := hid hnm
  have y0 := box_cell X0.out 0 (v := .int .i64 i) rfl
  have y1 := box_cell X0.out 1 (v := .int .i64 t) rfl
  have y2 := box_cell X0.out 2 (v := .int .i64 3) rfl
  have y3 := box_cell X0.out 3 (v := .string nm) rfl
  have y4 := box_cell X0.out 4 (v := .int .i64 0) rfl
  have y5 := box_cell X0.out 5 (v := .int .i64 L) rfl
  have y6 := box_cell X0.out 6 (v := .int .i64 S) rfl
  have y7 := box_cell X0.out 7 (v := .slice a1 ws.length c1) rfl
  have y8 := box_cell X0.out 8 (v := .slice a2 gs.length c2) rfl
  have y9 := box_cell X0.out 9 (v := .int .i64 C) rfl
  have y10 := box_cell X0.out 10 (v := .int .i64 Z) rfl
  have y11 := box_cell X0.out 11 (v := .slice a es.length cap) rfl
  have HN := hid (decide_eq_true (p := nonP L S ws.length gs.length C Z es.length) hHN)
  have bt : (t == 0) = false := beq_eq_false_iff_ne.2 (by omega)
  have HM := hid hHM
  clear ha1 ha2 ha hsm hnm
  go_enter Tryz.func24, Tryz.ntmps24
  repeat ((fail_if_success (with_reducible show Code.wp _ (Code.region 1 _ _) _ _ _)); (first | go_values | go_skip | go_guarded | go_step | go_upon | go_back | go_simp))
  rw [← hW0]
  clear hW0
  go_wp2_with (first
    | (go_at_call 46; refine (l1In_yes _ _ _ _ (by omega)).mono ?_; rintro e wa ⟨rfl, hq⟩; subst hq)
    | (go_at_call 46; refine (l1In_no _ _ _ _ (by omega)).mono ?_; rintro e wa ⟨rfl, hq⟩; subst hq)
    | (go_at_call 25; refine (specNameOk nm _ NM.out).mono ?_; rintro e wa ⟨rfl, hq⟩; subst hq; rw [HM.out])
    | (go_at_call 47; refine (l13None_any i t 3 nm 0 L S a1 a2 a ws.length gs.length es.length c1 c2 cap C Z _).mono ?_; rintro e w1 ⟨rfl, b1⟩; rw [HN.out]; replace X0 := hid (kept X0.out b1); replace B0 := hid (u_cat B0.out b1); replace I1 := hid (I1.out.below b1); replace I2 := hid (I2.out.below b1); replace I3 := hid (I3.out.below b1); clear b1 y0 y1 y2 y3 y4 y5 y6 y7 y8 y9 y10 y11; have y0 := box_cell X0.out 0 (v := .int .i64 i) rfl; have y1 := box_cell X0.out 1 (v := .int .i64 t) rfl; have y2 := box_cell X0.out 2 (v := .int .i64 3) rfl; have y3 := box_cell X0.out 3 (v := .string nm) rfl; have y4 := box_cell X0.out 4 (v := .int .i64 0) rfl; have y5 := box_cell X0.out 5 (v := .int .i64 L) rfl; have y6 := box_cell X0.out 6 (v := .int .i64 S) rfl; have y7 := box_cell X0.out 7 (v := .slice a1 ws.length c1) rfl; have y8 := box_cell X0.out 8 (v := .slice a2 gs.length c2) rfl; have y9 := box_cell X0.out 9 (v := .int .i64 C) rfl; have y10 := box_cell X0.out 10 (v := .int .i64 Z) rfl; have y11 := box_cell X0.out 11 (v := .slice a es.length cap) rfl))
  go_ret
  exact ⟨rfl, B0.out⟩
set_option maxHeartbeats 4000000 in
set_option maxRecDepth 100000 in
theorem specCli_4zt (i _t : Int) (nm : ByteArray) (L S : Int) (a1 a2 : Option Addr) (c1 c2 : Nat) (ws gs : List Int) (C Z : Int) (a : Option Addr) (cap : Nat) (es : List EqV) (w : World) (ha1 : IntsAt w a1 ws) (ha2 : IntsAt w a2 gs) (_hx : ws.length ≤ 1048576) (_hy : gs.length ≤ 1048576) (ha : EqsAt w a es) (_hl : es.length ≤ 1048576) (hsm : SmallE es) (hnm : nm.size ≤ maxLen) (hi : 0 ≤ i ∧ i ≤ 3)  (hHN : nonP L S ws.length gs.length C Z es.length) :
    Calls Tryz.prog 24 #[.agg #[.int .i64 i, .int .i64 (0 : Int), .int .i64 4, .string nm, .int .i64 0, .int .i64 L, .int .i64 S, .slice a1 ws.length c1, .slice a2 gs.length c2, .int .i64 C, .int .i64 Z, .slice a es.length cap]] w fun e w' => e = .returned (.bool false) ∧ Below w.heap.size w w' := by
  obtain ⟨W0, hW0⟩ : ∃ W0, W0 = w.alloc (.cells #[.int .i64 i, .int .i64 (0 : Int), .int .i64 4, .string nm, .int .i64 0, .int .i64 L, .int .i64 S, .slice a1 ws.length c1, .slice a2 gs.length c2, .int .i64 C, .int .i64 Z, .slice a es.length cap] 40) := ⟨_, rfl⟩
  have X0 := hid (show W0.heap[w.heap.size]? = some (.cells #[.int .i64 i, .int .i64 (0 : Int), .int .i64 4, .string nm, .int .i64 0, .int .i64 L, .int .i64 S, .slice a1 ws.length c1, .slice a2 gs.length c2, .int .i64 C, .int .i64 Z, .slice a es.length cap] 40 (0, 0)) by rw [hW0]; exact laid _ _ _)
  have B0 := hid (show Below w.heap.size w W0 by rw [hW0]; exact u_b1 _ _)
  have I1 := hid (ha1.below B0.out)
  have I2 := hid (ha2.below B0.out)
  have I3 := hid (ha.below B0.out)
  have SM := hid hsm
  have NM := hid hnm
  have y0 := box_cell X0.out 0 (v := .int .i64 i) rfl
  have y1 := box_cell X0.out 1 (v := .int .i64 (0 : Int)) rfl
  have y2 := box_cell X0.out 2 (v := .int .i64 4) rfl
  have y3 := box_cell X0.out 3 (v := .string nm) rfl
  have y4 := box_cell X0.out 4 (v := .int .i64 0) rfl
  have y5 := box_cell X0.out 5 (v := .int .i64 L) rfl
  have y6 := box_cell X0.out 6 (v := .int .i64 S) rfl
  have y7 := box_cell X0.out 7 (v := .slice a1 ws.length c1) rfl
  have y8 := box_cell X0.out 8 (v := .slice a2 gs.length c2) rfl
  have y9 := box_cell X0.out 9 (v := .int .i64 C) rfl
  have y10 := box_cell X0.out 10 (v := .int .i64 Z) rfl
  have y11 := box_cell X0.out 11 (v := .slice a es.length cap) rfl
  have HN := hid (decide_eq_true (p := nonP L S ws.length gs.length C Z es.length) hHN)
  clear ha1 ha2 ha hsm hnm
  go_enter Tryz.func24, Tryz.ntmps24
  repeat ((fail_if_success (with_reducible show Code.wp _ (Code.region 1 _ _) _ _ _)); (first | go_values | go_skip | go_guarded | go_step | go_upon | go_back | go_simp))
  rw [← hW0]
  clear hW0
  go_wp2_with (first
    | (go_at_call 46; refine (l1In_yes _ _ _ _ (by omega)).mono ?_; rintro e wa ⟨rfl, hq⟩; subst hq)
    | (go_at_call 46; refine (l1In_no _ _ _ _ (by omega)).mono ?_; rintro e wa ⟨rfl, hq⟩; subst hq)
    | (go_at_call 47; refine (l13None_any i 0 4 nm 0 L S a1 a2 a ws.length gs.length es.length c1 c2 cap C Z _).mono ?_; rintro e w1 ⟨rfl, b1⟩; rw [HN.out]; replace X0 := hid (kept X0.out b1); replace B0 := hid (u_cat B0.out b1); replace I1 := hid (I1.out.below b1); replace I2 := hid (I2.out.below b1); replace I3 := hid (I3.out.below b1); clear b1 y0 y1 y2 y3 y4 y5 y6 y7 y8 y9 y10 y11; have y0 := box_cell X0.out 0 (v := .int .i64 i) rfl; have y1 := box_cell X0.out 1 (v := .int .i64 (0 : Int)) rfl; have y2 := box_cell X0.out 2 (v := .int .i64 4) rfl; have y3 := box_cell X0.out 3 (v := .string nm) rfl; have y4 := box_cell X0.out 4 (v := .int .i64 0) rfl; have y5 := box_cell X0.out 5 (v := .int .i64 L) rfl; have y6 := box_cell X0.out 6 (v := .int .i64 S) rfl; have y7 := box_cell X0.out 7 (v := .slice a1 ws.length c1) rfl; have y8 := box_cell X0.out 8 (v := .slice a2 gs.length c2) rfl; have y9 := box_cell X0.out 9 (v := .int .i64 C) rfl; have y10 := box_cell X0.out 10 (v := .int .i64 Z) rfl; have y11 := box_cell X0.out 11 (v := .slice a es.length cap) rfl))
  go_ret
  exact ⟨rfl, B0.out⟩
set_option maxHeartbeats 4000000 in
set_option maxRecDepth 100000 in
theorem specCli_4zm (i t : Int) (nm : ByteArray) (L S : Int) (a1 a2 : Option Addr) (c1 c2 : Nat) (ws gs : List Int) (C Z : Int) (a : Option Addr) (cap : Nat) (es : List EqV) (w : World) (ha1 : IntsAt w a1 ws) (ha2 : IntsAt w a2 gs) (_hx : ws.length ≤ 1048576) (_hy : gs.length ≤ 1048576) (ha : EqsAt w a es) (_hl : es.length ≤ 1048576) (hsm : SmallE es) (hnm : nm.size ≤ maxLen) (hi : 0 ≤ i ∧ i ≤ 3) (ht : 1 ≤ t ∧ t ≤ 99999) (hHN : nonP L S ws.length gs.length C Z es.length) (hHM : nameB nm = false) :
    Calls Tryz.prog 24 #[.agg #[.int .i64 i, .int .i64 t, .int .i64 4, .string nm, .int .i64 0, .int .i64 L, .int .i64 S, .slice a1 ws.length c1, .slice a2 gs.length c2, .int .i64 C, .int .i64 Z, .slice a es.length cap]] w fun e w' => e = .returned (.bool false) ∧ Below w.heap.size w w' := by
  obtain ⟨W0, hW0⟩ : ∃ W0, W0 = w.alloc (.cells #[.int .i64 i, .int .i64 t, .int .i64 4, .string nm, .int .i64 0, .int .i64 L, .int .i64 S, .slice a1 ws.length c1, .slice a2 gs.length c2, .int .i64 C, .int .i64 Z, .slice a es.length cap] 40) := ⟨_, rfl⟩
  have X0 := hid (show W0.heap[w.heap.size]? = some (.cells #[.int .i64 i, .int .i64 t, .int .i64 4, .string nm, .int .i64 0, .int .i64 L, .int .i64 S, .slice a1 ws.length c1, .slice a2 gs.length c2, .int .i64 C, .int .i64 Z, .slice a es.length cap] 40 (0, 0)) by rw [hW0]; exact laid _ _ _)
  have B0 := hid (show Below w.heap.size w W0 by rw [hW0]; exact u_b1 _ _)
  have I1 := hid (ha1.below B0.out)
  have I2 := hid (ha2.below B0.out)
  have I3 := hid (ha.below B0.out)
  have SM := hid hsm
  have NM := hid hnm
  have y0 := box_cell X0.out 0 (v := .int .i64 i) rfl
  have y1 := box_cell X0.out 1 (v := .int .i64 t) rfl
  have y2 := box_cell X0.out 2 (v := .int .i64 4) rfl
  have y3 := box_cell X0.out 3 (v := .string nm) rfl
  have y4 := box_cell X0.out 4 (v := .int .i64 0) rfl
  have y5 := box_cell X0.out 5 (v := .int .i64 L) rfl
  have y6 := box_cell X0.out 6 (v := .int .i64 S) rfl
  have y7 := box_cell X0.out 7 (v := .slice a1 ws.length c1) rfl
  have y8 := box_cell X0.out 8 (v := .slice a2 gs.length c2) rfl
  have y9 := box_cell X0.out 9 (v := .int .i64 C) rfl
  have y10 := box_cell X0.out 10 (v := .int .i64 Z) rfl
  have y11 := box_cell X0.out 11 (v := .slice a es.length cap) rfl
  have HN := hid (decide_eq_true (p := nonP L S ws.length gs.length C Z es.length) hHN)
  have bt : (t == 0) = false := beq_eq_false_iff_ne.2 (by omega)
  have HM := hid hHM
  clear ha1 ha2 ha hsm hnm
  go_enter Tryz.func24, Tryz.ntmps24
  repeat ((fail_if_success (with_reducible show Code.wp _ (Code.region 1 _ _) _ _ _)); (first | go_values | go_skip | go_guarded | go_step | go_upon | go_back | go_simp))
  rw [← hW0]
  clear hW0
  go_wp2_with (first
    | (go_at_call 46; refine (l1In_yes _ _ _ _ (by omega)).mono ?_; rintro e wa ⟨rfl, hq⟩; subst hq)
    | (go_at_call 46; refine (l1In_no _ _ _ _ (by omega)).mono ?_; rintro e wa ⟨rfl, hq⟩; subst hq)
    | (go_at_call 25; refine (specNameOk nm _ NM.out).mono ?_; rintro e wa ⟨rfl, hq⟩; subst hq; rw [HM.out])
    | (go_at_call 47; refine (l13None_any i t 4 nm 0 L S a1 a2 a ws.length gs.length es.length c1 c2 cap C Z _).mono ?_; rintro e w1 ⟨rfl, b1⟩; rw [HN.out]; replace X0 := hid (kept X0.out b1); replace B0 := hid (u_cat B0.out b1); replace I1 := hid (I1.out.below b1); replace I2 := hid (I2.out.below b1); replace I3 := hid (I3.out.below b1); clear b1 y0 y1 y2 y3 y4 y5 y6 y7 y8 y9 y10 y11; have y0 := box_cell X0.out 0 (v := .int .i64 i) rfl; have y1 := box_cell X0.out 1 (v := .int .i64 t) rfl; have y2 := box_cell X0.out 2 (v := .int .i64 4) rfl; have y3 := box_cell X0.out 3 (v := .string nm) rfl; have y4 := box_cell X0.out 4 (v := .int .i64 0) rfl; have y5 := box_cell X0.out 5 (v := .int .i64 L) rfl; have y6 := box_cell X0.out 6 (v := .int .i64 S) rfl; have y7 := box_cell X0.out 7 (v := .slice a1 ws.length c1) rfl; have y8 := box_cell X0.out 8 (v := .slice a2 gs.length c2) rfl; have y9 := box_cell X0.out 9 (v := .int .i64 C) rfl; have y10 := box_cell X0.out 10 (v := .int .i64 Z) rfl; have y11 := box_cell X0.out 11 (v := .slice a es.length cap) rfl))
  go_ret
  exact ⟨rfl, B0.out⟩
set_option maxHeartbeats 4000000 in
set_option maxRecDepth 100000 in
theorem specCli_4z (i t : Int) (nm : ByteArray) (L S : Int) (a1 a2 : Option Addr) (c1 c2 : Nat) (ws gs : List Int) (C Z : Int) (a : Option Addr) (cap : Nat) (es : List EqV) (w : World) (ha1 : IntsAt w a1 ws) (ha2 : IntsAt w a2 gs) (_hx : ws.length ≤ 1048576) (_hy : gs.length ≤ 1048576) (ha : EqsAt w a es) (_hl : es.length ≤ 1048576) (hsm : SmallE es) (hnm : nm.size ≤ maxLen) (hi : 0 ≤ i ∧ i ≤ 3) (ht : 1 ≤ t ∧ t ≤ 99999) (hHN : nonP L S ws.length gs.length C Z es.length) (hHM : nameB nm = true) :
    Calls Tryz.prog 24 #[.agg #[.int .i64 i, .int .i64 t, .int .i64 4, .string nm, .int .i64 0, .int .i64 L, .int .i64 S, .slice a1 ws.length c1, .slice a2 gs.length c2, .int .i64 C, .int .i64 Z, .slice a es.length cap]] w fun e w' => e = .returned (.bool true) ∧ Below w.heap.size w w' := by
  obtain ⟨W0, hW0⟩ : ∃ W0, W0 = w.alloc (.cells #[.int .i64 i, .int .i64 t, .int .i64 4, .string nm, .int .i64 0, .int .i64 L, .int .i64 S, .slice a1 ws.length c1, .slice a2 gs.length c2, .int .i64 C, .int .i64 Z, .slice a es.length cap] 40) := ⟨_, rfl⟩
  have X0 := hid (show W0.heap[w.heap.size]? = some (.cells #[.int .i64 i, .int .i64 t, .int .i64 4, .string nm, .int .i64 0, .int .i64 L, .int .i64 S, .slice a1 ws.length c1, .slice a2 gs.length c2, .int .i64 C, .int .i64 Z, .slice a es.length cap] 40 (0, 0)) by rw [hW0]; exact laid _ _ _)
  have B0 := hid (show Below w.heap.size w W0 by rw [hW0]; exact u_b1 _ _)
  have I1 := hid (ha1.below B0.out)
  have I2 := hid (ha2.below B0.out)
  have I3 := hid (ha.below B0.out)
  have SM := hid hsm
  have NM := hid hnm
  have y0 := box_cell X0.out 0 (v := .int .i64 i) rfl
  have y1 := box_cell X0.out 1 (v := .int .i64 t) rfl
  have y2 := box_cell X0.out 2 (v := .int .i64 4) rfl
  have y3 := box_cell X0.out 3 (v := .string nm) rfl
  have y4 := box_cell X0.out 4 (v := .int .i64 0) rfl
  have y5 := box_cell X0.out 5 (v := .int .i64 L) rfl
  have y6 := box_cell X0.out 6 (v := .int .i64 S) rfl
  have y7 := box_cell X0.out 7 (v := .slice a1 ws.length c1) rfl
  have y8 := box_cell X0.out 8 (v := .slice a2 gs.length c2) rfl
  have y9 := box_cell X0.out 9 (v := .int .i64 C) rfl
  have y10 := box_cell X0.out 10 (v := .int .i64 Z) rfl
  have y11 := box_cell X0.out 11 (v := .slice a es.length cap) rfl
  have HN := hid (decide_eq_true (p := nonP L S ws.length gs.length C Z es.length) hHN)
  have bt : (t == 0) = false := beq_eq_false_iff_ne.2 (by omega)
  have HM := hid hHM
  clear ha1 ha2 ha hsm hnm
  go_enter Tryz.func24, Tryz.ntmps24
  repeat ((fail_if_success (with_reducible show Code.wp _ (Code.region 1 _ _) _ _ _)); (first | go_values | go_skip | go_guarded | go_step | go_upon | go_back | go_simp))
  rw [← hW0]
  clear hW0
  go_wp2_with (first
    | (go_at_call 46; refine (l1In_yes _ _ _ _ (by omega)).mono ?_; rintro e wa ⟨rfl, hq⟩; subst hq)
    | (go_at_call 46; refine (l1In_no _ _ _ _ (by omega)).mono ?_; rintro e wa ⟨rfl, hq⟩; subst hq)
    | (go_at_call 25; refine (specNameOk nm _ NM.out).mono ?_; rintro e wa ⟨rfl, hq⟩; subst hq; rw [HM.out])
    | (go_at_call 47; refine (l13None_any i t 4 nm 0 L S a1 a2 a ws.length gs.length es.length c1 c2 cap C Z _).mono ?_; rintro e w1 ⟨rfl, b1⟩; rw [HN.out]; replace X0 := hid (kept X0.out b1); replace B0 := hid (u_cat B0.out b1); replace I1 := hid (I1.out.below b1); replace I2 := hid (I2.out.below b1); replace I3 := hid (I3.out.below b1); clear b1 y0 y1 y2 y3 y4 y5 y6 y7 y8 y9 y10 y11; have y0 := box_cell X0.out 0 (v := .int .i64 i) rfl; have y1 := box_cell X0.out 1 (v := .int .i64 t) rfl; have y2 := box_cell X0.out 2 (v := .int .i64 4) rfl; have y3 := box_cell X0.out 3 (v := .string nm) rfl; have y4 := box_cell X0.out 4 (v := .int .i64 0) rfl; have y5 := box_cell X0.out 5 (v := .int .i64 L) rfl; have y6 := box_cell X0.out 6 (v := .int .i64 S) rfl; have y7 := box_cell X0.out 7 (v := .slice a1 ws.length c1) rfl; have y8 := box_cell X0.out 8 (v := .slice a2 gs.length c2) rfl; have y9 := box_cell X0.out 9 (v := .int .i64 C) rfl; have y10 := box_cell X0.out 10 (v := .int .i64 Z) rfl; have y11 := box_cell X0.out 11 (v := .slice a es.length cap) rfl))
  go_ret
  exact ⟨rfl, B0.out⟩
end Go.Proofs.YtbakicgdloakgaaGreatDoor
