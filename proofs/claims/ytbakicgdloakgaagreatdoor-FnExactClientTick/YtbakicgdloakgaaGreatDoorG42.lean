/- What a client says with a tick, by the model and by the program. -/
import Derived.Test.YtbakicgdloakgaaGreatDoorG41
namespace Go.Proofs.YtbakicgdloakgaaGreatDoor
open Go.ChangeShapes Go.WideShapes Go.ChangeAt Go.RowKit Go.Sort Go.Shelf
attribute [local go_sem] Oper.semAt_some

set_option maxHeartbeats 8000000 in
set_option maxRecDepth 100000 in
theorem specTick_no (i t s ed : Int) (nm : ByteArray) (L S : Int) (a1 a2 : Option Addr) (c1 c2 : Nat) (ws gs : List Int) (C Z : Int) (a : Option Addr) (cap : Nat) (es : List EqV) (w : World) (hA : GAt w a1 a2 a ws gs es) (hx : ws.length ≤ 1048576) (hy : gs.length ≤ 1048576) (hl : es.length ≤ 1048576) (hsm : SmallE es) (hnm : nm.size ≤ maxLen) (hp : ¬ (cliP i t s ed nm (nonP L S ws.length gs.length C Z es.length) (getP L S ws gs C Z es) (getP L S ws gs C Z es ∧ (es.length : Int) = C))) :
    Calls Tryz.prog 21 #[.agg #[.int .i64 i, .int .i64 t, .int .i64 s, .string nm, .int .i64 ed, .int .i64 L, .int .i64 S, .slice a1 ws.length c1, .slice a2 gs.length c2, .int .i64 C, .int .i64 Z, .slice a es.length cap]] w fun e w' => ∃ v, e = .returned v ∧ WsAt w' w.heap.size v none ∧ Below w.heap.size w w' := by
  have HP := hid (decide_eq_false hp)
  have HA := hid hA
  have HS := hid hsm
  clear hA hsm
  obtain ⟨W0, hW0⟩ : ∃ W0, W0 = w.alloc (.cells #[.int .i64 i, .int .i64 t, .int .i64 s, .string nm, .int .i64 ed, .int .i64 L, .int .i64 S, .slice a1 ws.length c1, .slice a2 gs.length c2, .int .i64 C, .int .i64 Z, .slice a es.length cap] 40) := ⟨_, rfl⟩
  have X := hid (show W0.heap[w.heap.size]? = some (.cells #[.int .i64 i, .int .i64 t, .int .i64 s, .string nm, .int .i64 ed, .int .i64 L, .int .i64 S, .slice a1 ws.length c1, .slice a2 gs.length c2, .int .i64 C, .int .i64 Z, .slice a es.length cap] 40 (0, 0)) by rw [hW0]; exact laid _ _ _)
  have B := hid (show Below w.heap.size w W0 by rw [hW0]; exact u_b1 _ _)
  have hs0 : w.heap.size + 1 ≤ W0.heap.size := by rw [hW0]; simp
  go_enter Tryz.func21, Tryz.ntmps21
  repeat ((fail_if_success (with_reducible show Code.wp _ (Code.region 1 _ _) _ _ _)); (first | go_values | go_skip | go_guarded | go_step | go_upon | go_back | go_simp))
  rw [← hW0]
  clear hW0
  have y0 := (box_cell X.out 0 (v := .int .i64 i) rfl)
  have y1 := (box_cell X.out 1 (v := .int .i64 t) rfl)
  have y2 := (box_cell X.out 2 (v := .int .i64 s) rfl)
  have y3 := (box_cell X.out 3 (v := .string nm) rfl)
  have y4 := (box_cell X.out 4 (v := .int .i64 ed) rfl)
  have y5 := (box_cell X.out 5 (v := .int .i64 L) rfl)
  have y6 := (box_cell X.out 6 (v := .int .i64 S) rfl)
  have y7 := (box_cell X.out 7 (v := .slice a1 ws.length c1) rfl)
  have y8 := (box_cell X.out 8 (v := .slice a2 gs.length c2) rfl)
  have y9 := (box_cell X.out 9 (v := .int .i64 C) rfl)
  have y10 := (box_cell X.out 10 (v := .int .i64 Z) rfl)
  have y11 := (box_cell X.out 11 (v := .slice a es.length cap) rfl)
  go_wp2_with fail
  refine (specCli_any i t s ed nm L S a1 a2 c1 c2 ws gs C Z a cap es _ (HA.out.below B.out).i1 (HA.out.below B.out).i2 hx hy (HA.out.below B.out).eq hl HS.out hnm).mono ?_
  rintro e w1 ⟨rfl, b1⟩
  rw [HP.out]
  have X := hid (kept X.out b1)
  have B := hid (u_cat B.out b1)
  have hs1 := b1.size
  clear b1 y0 y1 y2 y3 y4 y5 y6 y7 y8 y9 y10 y11
  have y0 := (box_cell X.out 0 (v := .int .i64 i) rfl)
  have y1 := (box_cell X.out 1 (v := .int .i64 t) rfl)
  have y2 := (box_cell X.out 2 (v := .int .i64 s) rfl)
  have y3 := (box_cell X.out 3 (v := .string nm) rfl)
  have y4 := (box_cell X.out 4 (v := .int .i64 ed) rfl)
  have y5 := (box_cell X.out 5 (v := .int .i64 L) rfl)
  have y6 := (box_cell X.out 6 (v := .int .i64 S) rfl)
  have y7 := (box_cell X.out 7 (v := .slice a1 ws.length c1) rfl)
  have y8 := (box_cell X.out 8 (v := .slice a2 gs.length c2) rfl)
  have y9 := (box_cell X.out 9 (v := .int .i64 C) rfl)
  have y10 := (box_cell X.out 10 (v := .int .i64 Z) rfl)
  have y11 := (box_cell X.out 11 (v := .slice a es.length cap) rfl)
  go_wp2_with (go_at_call 27; refine (l13Asks_any i t s ed nm L S C Z a1 a2 a ws.length gs.length es.length c1 c2 cap _).mono ?_; rintro e w2 ⟨v, rfl, hv, b2⟩; have HV := hid (hv.mono (lo' := w.heap.size) B.out.size); replace B := hid (u_cat B.out b2); clear b2 hv)
  go_ret
  exact ⟨_, rfl, .none _ _ (fun g hg => by cases hg; exact ⟨B.out.size, by simp⟩), u_cat B.out (u_b1 _ _)⟩
set_option maxHeartbeats 8000000 in
set_option maxRecDepth 100000 in
theorem specTick_rest (i t s ed : Int) (nm : ByteArray) (L S : Int) (a1 a2 : Option Addr) (c1 c2 : Nat) (ws gs : List Int) (C Z : Int) (a : Option Addr) (cap : Nat) (es : List EqV) (w : World) (hA : GAt w a1 a2 a ws gs es) (hx : ws.length ≤ 1048576) (hy : gs.length ≤ 1048576) (hl : es.length ≤ 1048576) (hsm : SmallE es) (hnm : nm.size ≤ maxLen) (hp : cliP i t s ed nm (nonP L S ws.length gs.length C Z es.length) (getP L S ws gs C Z es) (getP L S ws gs C Z es ∧ (es.length : Int) = C)) (h1 : s ≠ 1) (h2 : s ≠ 2) :
    Calls Tryz.prog 21 #[.agg #[.int .i64 i, .int .i64 t, .int .i64 s, .string nm, .int .i64 ed, .int .i64 L, .int .i64 S, .slice a1 ws.length c1, .slice a2 gs.length c2, .int .i64 C, .int .i64 Z, .slice a es.length cap]] w fun e w' => ∃ v, e = .returned v ∧ WsAt w' w.heap.size v none ∧ Below w.heap.size w w' := by
  have HP := hid (decide_eq_true hp)
  have bs1 : (s != 1) = true := bne_iff_ne.2 h1
  have bs2 : (s != 2) = true := bne_iff_ne.2 h2
  have HA := hid hA
  have HS := hid hsm
  clear hA hsm
  obtain ⟨W0, hW0⟩ : ∃ W0, W0 = w.alloc (.cells #[.int .i64 i, .int .i64 t, .int .i64 s, .string nm, .int .i64 ed, .int .i64 L, .int .i64 S, .slice a1 ws.length c1, .slice a2 gs.length c2, .int .i64 C, .int .i64 Z, .slice a es.length cap] 40) := ⟨_, rfl⟩
  have X := hid (show W0.heap[w.heap.size]? = some (.cells #[.int .i64 i, .int .i64 t, .int .i64 s, .string nm, .int .i64 ed, .int .i64 L, .int .i64 S, .slice a1 ws.length c1, .slice a2 gs.length c2, .int .i64 C, .int .i64 Z, .slice a es.length cap] 40 (0, 0)) by rw [hW0]; exact laid _ _ _)
  have B := hid (show Below w.heap.size w W0 by rw [hW0]; exact u_b1 _ _)
  have hs0 : w.heap.size + 1 ≤ W0.heap.size := by rw [hW0]; simp
  go_enter Tryz.func21, Tryz.ntmps21
  repeat ((fail_if_success (with_reducible show Code.wp _ (Code.region 1 _ _) _ _ _)); (first | go_values | go_skip | go_guarded | go_step | go_upon | go_back | go_simp))
  rw [← hW0]
  clear hW0
  have y0 := (box_cell X.out 0 (v := .int .i64 i) rfl)
  have y1 := (box_cell X.out 1 (v := .int .i64 t) rfl)
  have y2 := (box_cell X.out 2 (v := .int .i64 s) rfl)
  have y3 := (box_cell X.out 3 (v := .string nm) rfl)
  have y4 := (box_cell X.out 4 (v := .int .i64 ed) rfl)
  have y5 := (box_cell X.out 5 (v := .int .i64 L) rfl)
  have y6 := (box_cell X.out 6 (v := .int .i64 S) rfl)
  have y7 := (box_cell X.out 7 (v := .slice a1 ws.length c1) rfl)
  have y8 := (box_cell X.out 8 (v := .slice a2 gs.length c2) rfl)
  have y9 := (box_cell X.out 9 (v := .int .i64 C) rfl)
  have y10 := (box_cell X.out 10 (v := .int .i64 Z) rfl)
  have y11 := (box_cell X.out 11 (v := .slice a es.length cap) rfl)
  go_wp2_with fail
  refine (specCli_any i t s ed nm L S a1 a2 c1 c2 ws gs C Z a cap es _ (HA.out.below B.out).i1 (HA.out.below B.out).i2 hx hy (HA.out.below B.out).eq hl HS.out hnm).mono ?_
  rintro e w1 ⟨rfl, b1⟩
  rw [HP.out]
  have X := hid (kept X.out b1)
  have B := hid (u_cat B.out b1)
  have hs1 := b1.size
  clear b1 y0 y1 y2 y3 y4 y5 y6 y7 y8 y9 y10 y11
  have y0 := (box_cell X.out 0 (v := .int .i64 i) rfl)
  have y1 := (box_cell X.out 1 (v := .int .i64 t) rfl)
  have y2 := (box_cell X.out 2 (v := .int .i64 s) rfl)
  have y3 := (box_cell X.out 3 (v := .string nm) rfl)
  have y4 := (box_cell X.out 4 (v := .int .i64 ed) rfl)
  have y5 := (box_cell X.out 5 (v := .int .i64 L) rfl)
  have y6 := (box_cell X.out 6 (v := .int .i64 S) rfl)
  have y7 := (box_cell X.out 7 (v := .slice a1 ws.length c1) rfl)
  have y8 := (box_cell X.out 8 (v := .slice a2 gs.length c2) rfl)
  have y9 := (box_cell X.out 9 (v := .int .i64 C) rfl)
  have y10 := (box_cell X.out 10 (v := .int .i64 Z) rfl)
  have y11 := (box_cell X.out 11 (v := .slice a es.length cap) rfl)
  go_wp2_with (go_at_call 27; refine (l13Asks_any i t s ed nm L S C Z a1 a2 a ws.length gs.length es.length c1 c2 cap _).mono ?_; rintro e w2 ⟨v, rfl, hv, b2⟩; have HV := hid (hv.mono (lo' := w.heap.size) B.out.size); replace B := hid (u_cat B.out b2); clear b2 hv)
  go_ret
  exact ⟨_, rfl, .none _ _ (fun g hg => by cases hg; exact ⟨B.out.size, by simp⟩), u_cat B.out (u_b1 _ _)⟩
set_option maxHeartbeats 8000000 in
set_option maxRecDepth 100000 in
theorem specTick_1 (i t ed : Int) (nm : ByteArray) (L S : Int) (a1 a2 : Option Addr) (c1 c2 : Nat) (ws gs : List Int) (C Z : Int) (a : Option Addr) (cap : Nat) (es : List EqV) (w : World) (hA : GAt w a1 a2 a ws gs es) (hx : ws.length ≤ 1048576) (hy : gs.length ≤ 1048576) (hl : es.length ≤ 1048576) (hsm : SmallE es) (hnm : nm.size ≤ maxLen) (hp : cliP i t 1 ed nm (nonP L S ws.length gs.length C Z es.length) (getP L S ws gs C Z es) (getP L S ws gs C Z es ∧ (es.length : Int) = C)) :
    Calls Tryz.prog 21 #[.agg #[.int .i64 i, .int .i64 t, .int .i64 1, .string nm, .int .i64 ed, .int .i64 L, .int .i64 S, .slice a1 ws.length c1, .slice a2 gs.length c2, .int .i64 C, .int .i64 Z, .slice a es.length cap]] w fun e w' => ∃ v, e = .returned v ∧ WsAt w' w.heap.size v (some ⟨1, i, t, ed, 0, nm, ⟨#[]⟩⟩) ∧ Below w.heap.size w w' := by
  have HP := hid (decide_eq_true hp)
  have HA := hid hA
  have HS := hid hsm
  clear hA hsm
  obtain ⟨W0, hW0⟩ : ∃ W0, W0 = w.alloc (.cells #[.int .i64 i, .int .i64 t, .int .i64 1, .string nm, .int .i64 ed, .int .i64 L, .int .i64 S, .slice a1 ws.length c1, .slice a2 gs.length c2, .int .i64 C, .int .i64 Z, .slice a es.length cap] 40) := ⟨_, rfl⟩
  have X := hid (show W0.heap[w.heap.size]? = some (.cells #[.int .i64 i, .int .i64 t, .int .i64 1, .string nm, .int .i64 ed, .int .i64 L, .int .i64 S, .slice a1 ws.length c1, .slice a2 gs.length c2, .int .i64 C, .int .i64 Z, .slice a es.length cap] 40 (0, 0)) by rw [hW0]; exact laid _ _ _)
  have B := hid (show Below w.heap.size w W0 by rw [hW0]; exact u_b1 _ _)
  have hs0 : w.heap.size + 1 ≤ W0.heap.size := by rw [hW0]; simp
  go_enter Tryz.func21, Tryz.ntmps21
  repeat ((fail_if_success (with_reducible show Code.wp _ (Code.region 1 _ _) _ _ _)); (first | go_values | go_skip | go_guarded | go_step | go_upon | go_back | go_simp))
  rw [← hW0]
  clear hW0
  have y0 := (box_cell X.out 0 (v := .int .i64 i) rfl)
  have y1 := (box_cell X.out 1 (v := .int .i64 t) rfl)
  have y2 := (box_cell X.out 2 (v := .int .i64 1) rfl)
  have y3 := (box_cell X.out 3 (v := .string nm) rfl)
  have y4 := (box_cell X.out 4 (v := .int .i64 ed) rfl)
  have y5 := (box_cell X.out 5 (v := .int .i64 L) rfl)
  have y6 := (box_cell X.out 6 (v := .int .i64 S) rfl)
  have y7 := (box_cell X.out 7 (v := .slice a1 ws.length c1) rfl)
  have y8 := (box_cell X.out 8 (v := .slice a2 gs.length c2) rfl)
  have y9 := (box_cell X.out 9 (v := .int .i64 C) rfl)
  have y10 := (box_cell X.out 10 (v := .int .i64 Z) rfl)
  have y11 := (box_cell X.out 11 (v := .slice a es.length cap) rfl)
  go_wp2_with fail
  refine (specCli_any i t 1 ed nm L S a1 a2 c1 c2 ws gs C Z a cap es _ (HA.out.below B.out).i1 (HA.out.below B.out).i2 hx hy (HA.out.below B.out).eq hl HS.out hnm).mono ?_
  rintro e w1 ⟨rfl, b1⟩
  rw [HP.out]
  have X := hid (kept X.out b1)
  have B := hid (u_cat B.out b1)
  have hs1 := b1.size
  clear b1 y0 y1 y2 y3 y4 y5 y6 y7 y8 y9 y10 y11
  have y0 := (box_cell X.out 0 (v := .int .i64 i) rfl)
  have y1 := (box_cell X.out 1 (v := .int .i64 t) rfl)
  have y2 := (box_cell X.out 2 (v := .int .i64 1) rfl)
  have y3 := (box_cell X.out 3 (v := .string nm) rfl)
  have y4 := (box_cell X.out 4 (v := .int .i64 ed) rfl)
  have y5 := (box_cell X.out 5 (v := .int .i64 L) rfl)
  have y6 := (box_cell X.out 6 (v := .int .i64 S) rfl)
  have y7 := (box_cell X.out 7 (v := .slice a1 ws.length c1) rfl)
  have y8 := (box_cell X.out 8 (v := .slice a2 gs.length c2) rfl)
  have y9 := (box_cell X.out 9 (v := .int .i64 C) rfl)
  have y10 := (box_cell X.out 10 (v := .int .i64 Z) rfl)
  have y11 := (box_cell X.out 11 (v := .slice a es.length cap) rfl)
  go_wp2_with (go_at_call 27; refine (l13Asks_any i t 1 ed nm L S C Z a1 a2 a ws.length gs.length es.length c1 c2 cap _).mono ?_; rintro e w2 ⟨v, rfl, hv, b2⟩; have HV := hid (hv.mono (lo' := w.heap.size) B.out.size); replace B := hid (u_cat B.out b2); clear b2 hv)
  go_ret
  exact ⟨v, rfl, HV.out, B.out⟩
set_option maxHeartbeats 8000000 in
set_option maxRecDepth 100000 in
theorem specTick_2 (i t ed : Int) (nm : ByteArray) (L S : Int) (a1 a2 : Option Addr) (c1 c2 : Nat) (ws gs : List Int) (C Z : Int) (a : Option Addr) (cap : Nat) (es : List EqV) (w : World) (hA : GAt w a1 a2 a ws gs es) (hx : ws.length ≤ 1048576) (hy : gs.length ≤ 1048576) (hl : es.length ≤ 1048576) (hsm : SmallE es) (hnm : nm.size ≤ maxLen) (hp : cliP i t 2 ed nm (nonP L S ws.length gs.length C Z es.length) (getP L S ws gs C Z es) (getP L S ws gs C Z es ∧ (es.length : Int) = C)) :
    Calls Tryz.prog 21 #[.agg #[.int .i64 i, .int .i64 t, .int .i64 2, .string nm, .int .i64 ed, .int .i64 L, .int .i64 S, .slice a1 ws.length c1, .slice a2 gs.length c2, .int .i64 C, .int .i64 Z, .slice a es.length cap]] w fun e w' => ∃ v, e = .returned v ∧ WsAt w' w.heap.size v (some ⟨1, i, t, ed, 0, nm, ⟨#[]⟩⟩) ∧ Below w.heap.size w w' := by
  have HP := hid (decide_eq_true hp)
  have HA := hid hA
  have HS := hid hsm
  clear hA hsm
  obtain ⟨W0, hW0⟩ : ∃ W0, W0 = w.alloc (.cells #[.int .i64 i, .int .i64 t, .int .i64 2, .string nm, .int .i64 ed, .int .i64 L, .int .i64 S, .slice a1 ws.length c1, .slice a2 gs.length c2, .int .i64 C, .int .i64 Z, .slice a es.length cap] 40) := ⟨_, rfl⟩
  have X := hid (show W0.heap[w.heap.size]? = some (.cells #[.int .i64 i, .int .i64 t, .int .i64 2, .string nm, .int .i64 ed, .int .i64 L, .int .i64 S, .slice a1 ws.length c1, .slice a2 gs.length c2, .int .i64 C, .int .i64 Z, .slice a es.length cap] 40 (0, 0)) by rw [hW0]; exact laid _ _ _)
  have B := hid (show Below w.heap.size w W0 by rw [hW0]; exact u_b1 _ _)
  have hs0 : w.heap.size + 1 ≤ W0.heap.size := by rw [hW0]; simp
  go_enter Tryz.func21, Tryz.ntmps21
  repeat ((fail_if_success (with_reducible show Code.wp _ (Code.region 1 _ _) _ _ _)); (first | go_values | go_skip | go_guarded | go_step | go_upon | go_back | go_simp))
  rw [← hW0]
  clear hW0
  have y0 := (box_cell X.out 0 (v := .int .i64 i) rfl)
  have y1 := (box_cell X.out 1 (v := .int .i64 t) rfl)
  have y2 := (box_cell X.out 2 (v := .int .i64 2) rfl)
  have y3 := (box_cell X.out 3 (v := .string nm) rfl)
  have y4 := (box_cell X.out 4 (v := .int .i64 ed) rfl)
  have y5 := (box_cell X.out 5 (v := .int .i64 L) rfl)
  have y6 := (box_cell X.out 6 (v := .int .i64 S) rfl)
  have y7 := (box_cell X.out 7 (v := .slice a1 ws.length c1) rfl)
  have y8 := (box_cell X.out 8 (v := .slice a2 gs.length c2) rfl)
  have y9 := (box_cell X.out 9 (v := .int .i64 C) rfl)
  have y10 := (box_cell X.out 10 (v := .int .i64 Z) rfl)
  have y11 := (box_cell X.out 11 (v := .slice a es.length cap) rfl)
  go_wp2_with fail
  refine (specCli_any i t 2 ed nm L S a1 a2 c1 c2 ws gs C Z a cap es _ (HA.out.below B.out).i1 (HA.out.below B.out).i2 hx hy (HA.out.below B.out).eq hl HS.out hnm).mono ?_
  rintro e w1 ⟨rfl, b1⟩
  rw [HP.out]
  have X := hid (kept X.out b1)
  have B := hid (u_cat B.out b1)
  have hs1 := b1.size
  clear b1 y0 y1 y2 y3 y4 y5 y6 y7 y8 y9 y10 y11
  have y0 := (box_cell X.out 0 (v := .int .i64 i) rfl)
  have y1 := (box_cell X.out 1 (v := .int .i64 t) rfl)
  have y2 := (box_cell X.out 2 (v := .int .i64 2) rfl)
  have y3 := (box_cell X.out 3 (v := .string nm) rfl)
  have y4 := (box_cell X.out 4 (v := .int .i64 ed) rfl)
  have y5 := (box_cell X.out 5 (v := .int .i64 L) rfl)
  have y6 := (box_cell X.out 6 (v := .int .i64 S) rfl)
  have y7 := (box_cell X.out 7 (v := .slice a1 ws.length c1) rfl)
  have y8 := (box_cell X.out 8 (v := .slice a2 gs.length c2) rfl)
  have y9 := (box_cell X.out 9 (v := .int .i64 C) rfl)
  have y10 := (box_cell X.out 10 (v := .int .i64 Z) rfl)
  have y11 := (box_cell X.out 11 (v := .slice a es.length cap) rfl)
  go_wp2_with (go_at_call 27; refine (l13Asks_any i t 2 ed nm L S C Z a1 a2 a ws.length gs.length es.length c1 c2 cap _).mono ?_; rintro e w2 ⟨v, rfl, hv, b2⟩; have HV := hid (hv.mono (lo' := w.heap.size) B.out.size); replace B := hid (u_cat B.out b2); clear b2 hv)
  go_ret
  exact ⟨v, rfl, HV.out, B.out⟩
theorem waits_0 (w : World) : Calls Tryz.prog 129 #[.agg #[]] w fun e w' => e = .returned (.bool false) ∧ Below w.heap.size w w' := by
  go_enter Tryz.func129, Tryz.ntmps129
  go_wp2_with fail
  go_ret
  exact ⟨rfl, u_b1 _ _⟩
theorem waits_1 (w : World) : Calls Tryz.prog 132 #[.agg #[]] w fun e w' => e = .returned (.bool true) ∧ Below w.heap.size w w' := by
  go_enter Tryz.func132, Tryz.ntmps132
  go_wp2_with fail
  go_ret
  exact ⟨rfl, u_b1 _ _⟩
theorem waits_2 (w : World) : Calls Tryz.prog 143 #[.agg #[]] w fun e w' => e = .returned (.bool true) ∧ Below w.heap.size w w' := by
  go_enter Tryz.func143, Tryz.ntmps143
  go_wp2_with fail
  go_ret
  exact ⟨rfl, u_b1 _ _⟩
theorem waits_3 (w : World) : Calls Tryz.prog 147 #[.agg #[]] w fun e w' => e = .returned (.bool false) ∧ Below w.heap.size w w' := by
  go_enter Tryz.func147, Tryz.ntmps147
  go_wp2_with fail
  go_ret
  exact ⟨rfl, u_b1 _ _⟩
theorem waits_4 (w : World) : Calls Tryz.prog 151 #[.agg #[]] w fun e w' => e = .returned (.bool false) ∧ Below w.heap.size w w' := by
  go_enter Tryz.func151, Tryz.ntmps151
  go_wp2_with fail
  go_ret
  exact ⟨rfl, u_b1 _ _⟩
set_option maxHeartbeats 8000000 in
set_option maxRecDepth 100000 in
theorem implTick_no (i t s ed : Int) (nm : ByteArray) (L S : Int) (a1 a2 : Option Addr) (c1 c2 : Nat) (ws gs : List Int) (C Z : Int) (a : Option Addr) (cap : Nat) (es : List EqV) (w : World) (hA : GAt w a1 a2 a ws gs es) (hx : ws.length ≤ 1048576) (hy : gs.length ≤ 1048576) (hl : es.length ≤ 1048576) (hsm : SmallE es) (hnm : nm.size ≤ maxLen) (hT : Tab w) (hp : ¬ (cliP i t s ed nm (nonP L S ws.length gs.length C Z es.length) (getP L S ws gs C Z es) (getP L S ws gs C Z es ∧ (es.length : Int) = C))) :
    Calls Tryz.prog 22 #[.agg #[.int .i64 i, .int .i64 t, .int .i64 s, .string nm, .int .i64 ed, .int .i64 L, .int .i64 S, .slice a1 ws.length c1, .slice a2 gs.length c2, .int .i64 C, .int .i64 Z, .slice a es.length cap]] w fun e w' => ∃ v, e = .returned v ∧ WsAt w' w.heap.size v none ∧ Below w.heap.size w w' := by
  have HP := hid (decide_eq_false hp)
  have HA := hid hA
  have HS := hid hsm
  have HT := hid hT
  clear hA hsm hT
  obtain ⟨W0, hW0⟩ : ∃ W0, W0 = w.alloc (.cells #[.int .i64 i, .int .i64 t, .int .i64 s, .string nm, .int .i64 ed, .int .i64 L, .int .i64 S, .slice a1 ws.length c1, .slice a2 gs.length c2, .int .i64 C, .int .i64 Z, .slice a es.length cap] 40) := ⟨_, rfl⟩
  have X := hid (show W0.heap[w.heap.size]? = some (.cells #[.int .i64 i, .int .i64 t, .int .i64 s, .string nm, .int .i64 ed, .int .i64 L, .int .i64 S, .slice a1 ws.length c1, .slice a2 gs.length c2, .int .i64 C, .int .i64 Z, .slice a es.length cap] 40 (0, 0)) by rw [hW0]; exact laid _ _ _)
  have B := hid (show Below w.heap.size w W0 by rw [hW0]; exact u_b1 _ _)
  have hs0 : w.heap.size + 1 ≤ W0.heap.size := by rw [hW0]; simp
  go_enter Tryz.func22, Tryz.ntmps22
  repeat ((fail_if_success (with_reducible show Code.wp _ (Code.region 1 _ _) _ _ _)); (first | go_values | go_skip | go_guarded | go_step | go_upon | go_back | go_simp))
  rw [← hW0]
  clear hW0
  have y0 := (box_cell X.out 0 (v := .int .i64 i) rfl)
  have y1 := (box_cell X.out 1 (v := .int .i64 t) rfl)
  have y2 := (box_cell X.out 2 (v := .int .i64 s) rfl)
  have y3 := (box_cell X.out 3 (v := .string nm) rfl)
  have y4 := (box_cell X.out 4 (v := .int .i64 ed) rfl)
  have y5 := (box_cell X.out 5 (v := .int .i64 L) rfl)
  have y6 := (box_cell X.out 6 (v := .int .i64 S) rfl)
  have y7 := (box_cell X.out 7 (v := .slice a1 ws.length c1) rfl)
  have y8 := (box_cell X.out 8 (v := .slice a2 gs.length c2) rfl)
  have y9 := (box_cell X.out 9 (v := .int .i64 C) rfl)
  have y10 := (box_cell X.out 10 (v := .int .i64 Z) rfl)
  have y11 := (box_cell X.out 11 (v := .slice a es.length cap) rfl)
  go_wp2_with fail
  refine (implCli_any i t s ed nm L S a1 a2 c1 c2 ws gs C Z a cap es _ (HA.out.below B.out).i1 (HA.out.below B.out).i2 hx hy (HA.out.below B.out).eq hl HS.out hnm (HT.out.below B.out)).mono ?_
  rintro e w1 ⟨rfl, b1⟩
  rw [HP.out]
  have X := hid (kept X.out b1)
  have B := hid (u_cat B.out b1)
  have hs1 := b1.size
  clear b1 y0 y1 y2 y3 y4 y5 y6 y7 y8 y9 y10 y11
  have y0 := (box_cell X.out 0 (v := .int .i64 i) rfl)
  have y1 := (box_cell X.out 1 (v := .int .i64 t) rfl)
  have y2 := (box_cell X.out 2 (v := .int .i64 s) rfl)
  have y3 := (box_cell X.out 3 (v := .string nm) rfl)
  have y4 := (box_cell X.out 4 (v := .int .i64 ed) rfl)
  have y5 := (box_cell X.out 5 (v := .int .i64 L) rfl)
  have y6 := (box_cell X.out 6 (v := .int .i64 S) rfl)
  have y7 := (box_cell X.out 7 (v := .slice a1 ws.length c1) rfl)
  have y8 := (box_cell X.out 8 (v := .slice a2 gs.length c2) rfl)
  have y9 := (box_cell X.out 9 (v := .int .i64 C) rfl)
  have y10 := (box_cell X.out 10 (v := .int .i64 Z) rfl)
  have y11 := (box_cell X.out 11 (v := .slice a es.length cap) rfl)
  go_wp2_with fail
  go_ret
  exact ⟨_, rfl, .none _ _ (fun g hg => by cases hg), B.out⟩
set_option maxHeartbeats 8000000 in
set_option maxRecDepth 100000 in
theorem implTick_0 (i t ed : Int) (nm : ByteArray) (L S : Int) (a1 a2 : Option Addr) (c1 c2 : Nat) (ws gs : List Int) (C Z : Int) (a : Option Addr) (cap : Nat) (es : List EqV) (w : World) (hA : GAt w a1 a2 a ws gs es) (hx : ws.length ≤ 1048576) (hy : gs.length ≤ 1048576) (hl : es.length ≤ 1048576) (hsm : SmallE es) (hnm : nm.size ≤ maxLen) (hT : Tab w) (hp : cliP i t 0 ed nm (nonP L S ws.length gs.length C Z es.length) (getP L S ws gs C Z es) (getP L S ws gs C Z es ∧ (es.length : Int) = C)) :
    Calls Tryz.prog 22 #[.agg #[.int .i64 i, .int .i64 t, .int .i64 0, .string nm, .int .i64 ed, .int .i64 L, .int .i64 S, .slice a1 ws.length c1, .slice a2 gs.length c2, .int .i64 C, .int .i64 Z, .slice a es.length cap]] w fun e w' => ∃ v, e = .returned v ∧ WsAt w' w.heap.size v none ∧ Below w.heap.size w w' := by
  have HP := hid (decide_eq_true hp)
  have hn6 := cli_name hp
  have hm : ∀ w : World, (method 269 68 (.agg #[]) "loop.example/wellhead/impl.waits").run Tryz.prog w = .ok (129, .agg #[]) w := fun _ => by kernel_rfl
  have HA := hid hA
  have HS := hid hsm
  have HT := hid hT
  clear hA hsm hT
  obtain ⟨W0, hW0⟩ : ∃ W0, W0 = w.alloc (.cells #[.int .i64 i, .int .i64 t, .int .i64 0, .string nm, .int .i64 ed, .int .i64 L, .int .i64 S, .slice a1 ws.length c1, .slice a2 gs.length c2, .int .i64 C, .int .i64 Z, .slice a es.length cap] 40) := ⟨_, rfl⟩
  have X := hid (show W0.heap[w.heap.size]? = some (.cells #[.int .i64 i, .int .i64 t, .int .i64 0, .string nm, .int .i64 ed, .int .i64 L, .int .i64 S, .slice a1 ws.length c1, .slice a2 gs.length c2, .int .i64 C, .int .i64 Z, .slice a es.length cap] 40 (0, 0)) by rw [hW0]; exact laid _ _ _)
  have B := hid (show Below w.heap.size w W0 by rw [hW0]; exact u_b1 _ _)
  have hs0 : w.heap.size + 1 ≤ W0.heap.size := by rw [hW0]; simp
  go_enter Tryz.func22, Tryz.ntmps22
  repeat ((fail_if_success (with_reducible show Code.wp _ (Code.region 1 _ _) _ _ _)); (first | go_values | go_skip | go_guarded | go_step | go_upon | go_back | go_simp))
  rw [← hW0]
  clear hW0
  have y0 := (box_cell X.out 0 (v := .int .i64 i) rfl)
  have y1 := (box_cell X.out 1 (v := .int .i64 t) rfl)
  have y2 := (box_cell X.out 2 (v := .int .i64 0) rfl)
  have y3 := (box_cell X.out 3 (v := .string nm) rfl)
  have y4 := (box_cell X.out 4 (v := .int .i64 ed) rfl)
  have y5 := (box_cell X.out 5 (v := .int .i64 L) rfl)
  have y6 := (box_cell X.out 6 (v := .int .i64 S) rfl)
  have y7 := (box_cell X.out 7 (v := .slice a1 ws.length c1) rfl)
  have y8 := (box_cell X.out 8 (v := .slice a2 gs.length c2) rfl)
  have y9 := (box_cell X.out 9 (v := .int .i64 C) rfl)
  have y10 := (box_cell X.out 10 (v := .int .i64 Z) rfl)
  have y11 := (box_cell X.out 11 (v := .slice a es.length cap) rfl)
  go_wp2_with fail
  refine (implCli_any i t 0 ed nm L S a1 a2 c1 c2 ws gs C Z a cap es _ (HA.out.below B.out).i1 (HA.out.below B.out).i2 hx hy (HA.out.below B.out).eq hl HS.out hnm (HT.out.below B.out)).mono ?_
  rintro e w1 ⟨rfl, b1⟩
  rw [HP.out]
  have X := hid (kept X.out b1)
  have B := hid (u_cat B.out b1)
  have hs1 := b1.size
  clear b1 y0 y1 y2 y3 y4 y5 y6 y7 y8 y9 y10 y11
  have y0 := (box_cell X.out 0 (v := .int .i64 i) rfl)
  have y1 := (box_cell X.out 1 (v := .int .i64 t) rfl)
  have y2 := (box_cell X.out 2 (v := .int .i64 0) rfl)
  have y3 := (box_cell X.out 3 (v := .string nm) rfl)
  have y4 := (box_cell X.out 4 (v := .int .i64 ed) rfl)
  have y5 := (box_cell X.out 5 (v := .int .i64 L) rfl)
  have y6 := (box_cell X.out 6 (v := .int .i64 S) rfl)
  have y7 := (box_cell X.out 7 (v := .slice a1 ws.length c1) rfl)
  have y8 := (box_cell X.out 8 (v := .slice a2 gs.length c2) rfl)
  have y9 := (box_cell X.out 9 (v := .int .i64 C) rfl)
  have y10 := (box_cell X.out 10 (v := .int .i64 Z) rfl)
  have y11 := (box_cell X.out 11 (v := .slice a es.length cap) rfl)
  go_wp2_with (first
    | (go_at_call 42; refine (stand_0 _).mono ?_; rintro e w2 ⟨rfl, hq⟩; subst hq)
    | (go_at_call 129; refine (waits_0 _).mono ?_; rintro e w2 ⟨rfl, b2⟩; replace X := hid (kept X.out b2); replace B := hid (u_cat B.out b2); clear b2 y0 y1 y2 y3 y4 y5 y6 y7 y8 y9 y10 y11; have y0 := box_cell X.out 0 (v := .int .i64 i) rfl; have y1 := box_cell X.out 1 (v := .int .i64 t) rfl; have y2 := box_cell X.out 2 (v := .int .i64 0) rfl; have y3 := box_cell X.out 3 (v := .string nm) rfl; have y4 := box_cell X.out 4 (v := .int .i64 ed) rfl; have y5 := box_cell X.out 5 (v := .int .i64 L) rfl; have y6 := box_cell X.out 6 (v := .int .i64 S) rfl; have y7 := box_cell X.out 7 (v := .slice a1 ws.length c1) rfl; have y8 := box_cell X.out 8 (v := .slice a2 gs.length c2) rfl; have y9 := box_cell X.out 9 (v := .int .i64 C) rfl; have y10 := box_cell X.out 10 (v := .int .i64 Z) rfl; have y11 := box_cell X.out 11 (v := .slice a es.length cap) rfl)
    | (go_at_call 43; refine (ask_any i t 0 ed nm L S C Z a1 a2 a ws.length gs.length es.length c1 c2 cap _ (by omega)).mono ?_; rintro e w2 ⟨v, rfl, hv, b2⟩; have HV := hid (hv.mono (lo' := w.heap.size) B.out.size); replace B := hid (u_cat B.out b2); clear b2 hv))
  go_ret
  exact ⟨_, rfl, .none _ _ (fun g hg => by cases hg), B.out⟩
set_option maxHeartbeats 8000000 in
set_option maxRecDepth 100000 in
theorem implTick_1 (i t ed : Int) (nm : ByteArray) (L S : Int) (a1 a2 : Option Addr) (c1 c2 : Nat) (ws gs : List Int) (C Z : Int) (a : Option Addr) (cap : Nat) (es : List EqV) (w : World) (hA : GAt w a1 a2 a ws gs es) (hx : ws.length ≤ 1048576) (hy : gs.length ≤ 1048576) (hl : es.length ≤ 1048576) (hsm : SmallE es) (hnm : nm.size ≤ maxLen) (hT : Tab w) (hp : cliP i t 1 ed nm (nonP L S ws.length gs.length C Z es.length) (getP L S ws gs C Z es) (getP L S ws gs C Z es ∧ (es.length : Int) = C)) :
    Calls Tryz.prog 22 #[.agg #[.int .i64 i, .int .i64 t, .int .i64 1, .string nm, .int .i64 ed, .int .i64 L, .int .i64 S, .slice a1 ws.length c1, .slice a2 gs.length c2, .int .i64 C, .int .i64 Z, .slice a es.length cap]] w fun e w' => ∃ v, e = .returned v ∧ WsAt w' w.heap.size v (some ⟨1, i, t, ed, 0, nm, ⟨#[]⟩⟩) ∧ Below w.heap.size w w' := by
  have HP := hid (decide_eq_true hp)
  have hn6 := cli_name hp
  have hm : ∀ w : World, (method 269 84 (.agg #[]) "loop.example/wellhead/impl.waits").run Tryz.prog w = .ok (132, .agg #[]) w := fun _ => by kernel_rfl
  have HA := hid hA
  have HS := hid hsm
  have HT := hid hT
  clear hA hsm hT
  obtain ⟨W0, hW0⟩ : ∃ W0, W0 = w.alloc (.cells #[.int .i64 i, .int .i64 t, .int .i64 1, .string nm, .int .i64 ed, .int .i64 L, .int .i64 S, .slice a1 ws.length c1, .slice a2 gs.length c2, .int .i64 C, .int .i64 Z, .slice a es.length cap] 40) := ⟨_, rfl⟩
  have X := hid (show W0.heap[w.heap.size]? = some (.cells #[.int .i64 i, .int .i64 t, .int .i64 1, .string nm, .int .i64 ed, .int .i64 L, .int .i64 S, .slice a1 ws.length c1, .slice a2 gs.length c2, .int .i64 C, .int .i64 Z, .slice a es.length cap] 40 (0, 0)) by rw [hW0]; exact laid _ _ _)
  have B := hid (show Below w.heap.size w W0 by rw [hW0]; exact u_b1 _ _)
  have hs0 : w.heap.size + 1 ≤ W0.heap.size := by rw [hW0]; simp
  go_enter Tryz.func22, Tryz.ntmps22
  repeat ((fail_if_success (with_reducible show Code.wp _ (Code.region 1 _ _) _ _ _)); (first | go_values | go_skip | go_guarded | go_step | go_upon | go_back | go_simp))
  rw [← hW0]
  clear hW0
  have y0 := (box_cell X.out 0 (v := .int .i64 i) rfl)
  have y1 := (box_cell X.out 1 (v := .int .i64 t) rfl)
  have y2 := (box_cell X.out 2 (v := .int .i64 1) rfl)
  have y3 := (box_cell X.out 3 (v := .string nm) rfl)
  have y4 := (box_cell X.out 4 (v := .int .i64 ed) rfl)
  have y5 := (box_cell X.out 5 (v := .int .i64 L) rfl)
  have y6 := (box_cell X.out 6 (v := .int .i64 S) rfl)
  have y7 := (box_cell X.out 7 (v := .slice a1 ws.length c1) rfl)
  have y8 := (box_cell X.out 8 (v := .slice a2 gs.length c2) rfl)
  have y9 := (box_cell X.out 9 (v := .int .i64 C) rfl)
  have y10 := (box_cell X.out 10 (v := .int .i64 Z) rfl)
  have y11 := (box_cell X.out 11 (v := .slice a es.length cap) rfl)
  go_wp2_with fail
  refine (implCli_any i t 1 ed nm L S a1 a2 c1 c2 ws gs C Z a cap es _ (HA.out.below B.out).i1 (HA.out.below B.out).i2 hx hy (HA.out.below B.out).eq hl HS.out hnm (HT.out.below B.out)).mono ?_
  rintro e w1 ⟨rfl, b1⟩
  rw [HP.out]
  have X := hid (kept X.out b1)
  have B := hid (u_cat B.out b1)
  have hs1 := b1.size
  clear b1 y0 y1 y2 y3 y4 y5 y6 y7 y8 y9 y10 y11
  have y0 := (box_cell X.out 0 (v := .int .i64 i) rfl)
  have y1 := (box_cell X.out 1 (v := .int .i64 t) rfl)
  have y2 := (box_cell X.out 2 (v := .int .i64 1) rfl)
  have y3 := (box_cell X.out 3 (v := .string nm) rfl)
  have y4 := (box_cell X.out 4 (v := .int .i64 ed) rfl)
  have y5 := (box_cell X.out 5 (v := .int .i64 L) rfl)
  have y6 := (box_cell X.out 6 (v := .int .i64 S) rfl)
  have y7 := (box_cell X.out 7 (v := .slice a1 ws.length c1) rfl)
  have y8 := (box_cell X.out 8 (v := .slice a2 gs.length c2) rfl)
  have y9 := (box_cell X.out 9 (v := .int .i64 C) rfl)
  have y10 := (box_cell X.out 10 (v := .int .i64 Z) rfl)
  have y11 := (box_cell X.out 11 (v := .slice a es.length cap) rfl)
  go_wp2_with (first
    | (go_at_call 42; refine (stand_1 _).mono ?_; rintro e w2 ⟨rfl, hq⟩; subst hq)
    | (go_at_call 132; refine (waits_1 _).mono ?_; rintro e w2 ⟨rfl, b2⟩; replace X := hid (kept X.out b2); replace B := hid (u_cat B.out b2); clear b2 y0 y1 y2 y3 y4 y5 y6 y7 y8 y9 y10 y11; have y0 := box_cell X.out 0 (v := .int .i64 i) rfl; have y1 := box_cell X.out 1 (v := .int .i64 t) rfl; have y2 := box_cell X.out 2 (v := .int .i64 1) rfl; have y3 := box_cell X.out 3 (v := .string nm) rfl; have y4 := box_cell X.out 4 (v := .int .i64 ed) rfl; have y5 := box_cell X.out 5 (v := .int .i64 L) rfl; have y6 := box_cell X.out 6 (v := .int .i64 S) rfl; have y7 := box_cell X.out 7 (v := .slice a1 ws.length c1) rfl; have y8 := box_cell X.out 8 (v := .slice a2 gs.length c2) rfl; have y9 := box_cell X.out 9 (v := .int .i64 C) rfl; have y10 := box_cell X.out 10 (v := .int .i64 Z) rfl; have y11 := box_cell X.out 11 (v := .slice a es.length cap) rfl)
    | (go_at_call 43; refine (ask_any i t 1 ed nm L S C Z a1 a2 a ws.length gs.length es.length c1 c2 cap _ (by omega)).mono ?_; rintro e w2 ⟨v, rfl, hv, b2⟩; have HV := hid (hv.mono (lo' := w.heap.size) B.out.size); replace B := hid (u_cat B.out b2); clear b2 hv))
  go_ret
  exact ⟨v, rfl, HV.out, B.out⟩
set_option maxHeartbeats 8000000 in
set_option maxRecDepth 100000 in
theorem implTick_2 (i t ed : Int) (nm : ByteArray) (L S : Int) (a1 a2 : Option Addr) (c1 c2 : Nat) (ws gs : List Int) (C Z : Int) (a : Option Addr) (cap : Nat) (es : List EqV) (w : World) (hA : GAt w a1 a2 a ws gs es) (hx : ws.length ≤ 1048576) (hy : gs.length ≤ 1048576) (hl : es.length ≤ 1048576) (hsm : SmallE es) (hnm : nm.size ≤ maxLen) (hT : Tab w) (hp : cliP i t 2 ed nm (nonP L S ws.length gs.length C Z es.length) (getP L S ws gs C Z es) (getP L S ws gs C Z es ∧ (es.length : Int) = C)) :
    Calls Tryz.prog 22 #[.agg #[.int .i64 i, .int .i64 t, .int .i64 2, .string nm, .int .i64 ed, .int .i64 L, .int .i64 S, .slice a1 ws.length c1, .slice a2 gs.length c2, .int .i64 C, .int .i64 Z, .slice a es.length cap]] w fun e w' => ∃ v, e = .returned v ∧ WsAt w' w.heap.size v (some ⟨1, i, t, ed, 0, nm, ⟨#[]⟩⟩) ∧ Below w.heap.size w w' := by
  have HP := hid (decide_eq_true hp)
  have hn6 := cli_name hp
  have hm : ∀ w : World, (method 269 93 (.agg #[]) "loop.example/wellhead/impl.waits").run Tryz.prog w = .ok (143, .agg #[]) w := fun _ => by kernel_rfl
  have HA := hid hA
  have HS := hid hsm
  have HT := hid hT
  clear hA hsm hT
  obtain ⟨W0, hW0⟩ : ∃ W0, W0 = w.alloc (.cells #[.int .i64 i, .int .i64 t, .int .i64 2, .string nm, .int .i64 ed, .int .i64 L, .int .i64 S, .slice a1 ws.length c1, .slice a2 gs.length c2, .int .i64 C, .int .i64 Z, .slice a es.length cap] 40) := ⟨_, rfl⟩
  have X := hid (show W0.heap[w.heap.size]? = some (.cells #[.int .i64 i, .int .i64 t, .int .i64 2, .string nm, .int .i64 ed, .int .i64 L, .int .i64 S, .slice a1 ws.length c1, .slice a2 gs.length c2, .int .i64 C, .int .i64 Z, .slice a es.length cap] 40 (0, 0)) by rw [hW0]; exact laid _ _ _)
  have B := hid (show Below w.heap.size w W0 by rw [hW0]; exact u_b1 _ _)
  have hs0 : w.heap.size + 1 ≤ W0.heap.size := by rw [hW0]; simp
  go_enter Tryz.func22, Tryz.ntmps22
  repeat ((fail_if_success (with_reducible show Code.wp _ (Code.region 1 _ _) _ _ _)); (first | go_values | go_skip | go_guarded | go_step | go_upon | go_back | go_simp))
  rw [← hW0]
  clear hW0
  have y0 := (box_cell X.out 0 (v := .int .i64 i) rfl)
  have y1 := (box_cell X.out 1 (v := .int .i64 t) rfl)
  have y2 := (box_cell X.out 2 (v := .int .i64 2) rfl)
  have y3 := (box_cell X.out 3 (v := .string nm) rfl)
  have y4 := (box_cell X.out 4 (v := .int .i64 ed) rfl)
  have y5 := (box_cell X.out 5 (v := .int .i64 L) rfl)
  have y6 := (box_cell X.out 6 (v := .int .i64 S) rfl)
  have y7 := (box_cell X.out 7 (v := .slice a1 ws.length c1) rfl)
  have y8 := (box_cell X.out 8 (v := .slice a2 gs.length c2) rfl)
  have y9 := (box_cell X.out 9 (v := .int .i64 C) rfl)
  have y10 := (box_cell X.out 10 (v := .int .i64 Z) rfl)
  have y11 := (box_cell X.out 11 (v := .slice a es.length cap) rfl)
  go_wp2_with fail
  refine (implCli_any i t 2 ed nm L S a1 a2 c1 c2 ws gs C Z a cap es _ (HA.out.below B.out).i1 (HA.out.below B.out).i2 hx hy (HA.out.below B.out).eq hl HS.out hnm (HT.out.below B.out)).mono ?_
  rintro e w1 ⟨rfl, b1⟩
  rw [HP.out]
  have X := hid (kept X.out b1)
  have B := hid (u_cat B.out b1)
  have hs1 := b1.size
  clear b1 y0 y1 y2 y3 y4 y5 y6 y7 y8 y9 y10 y11
  have y0 := (box_cell X.out 0 (v := .int .i64 i) rfl)
  have y1 := (box_cell X.out 1 (v := .int .i64 t) rfl)
  have y2 := (box_cell X.out 2 (v := .int .i64 2) rfl)
  have y3 := (box_cell X.out 3 (v := .string nm) rfl)
  have y4 := (box_cell X.out 4 (v := .int .i64 ed) rfl)
  have y5 := (box_cell X.out 5 (v := .int .i64 L) rfl)
  have y6 := (box_cell X.out 6 (v := .int .i64 S) rfl)
  have y7 := (box_cell X.out 7 (v := .slice a1 ws.length c1) rfl)
  have y8 := (box_cell X.out 8 (v := .slice a2 gs.length c2) rfl)
  have y9 := (box_cell X.out 9 (v := .int .i64 C) rfl)
  have y10 := (box_cell X.out 10 (v := .int .i64 Z) rfl)
  have y11 := (box_cell X.out 11 (v := .slice a es.length cap) rfl)
  go_wp2_with (first
    | (go_at_call 42; refine (stand_2 _).mono ?_; rintro e w2 ⟨rfl, hq⟩; subst hq)
    | (go_at_call 143; refine (waits_2 _).mono ?_; rintro e w2 ⟨rfl, b2⟩; replace X := hid (kept X.out b2); replace B := hid (u_cat B.out b2); clear b2 y0 y1 y2 y3 y4 y5 y6 y7 y8 y9 y10 y11; have y0 := box_cell X.out 0 (v := .int .i64 i) rfl; have y1 := box_cell X.out 1 (v := .int .i64 t) rfl; have y2 := box_cell X.out 2 (v := .int .i64 2) rfl; have y3 := box_cell X.out 3 (v := .string nm) rfl; have y4 := box_cell X.out 4 (v := .int .i64 ed) rfl; have y5 := box_cell X.out 5 (v := .int .i64 L) rfl; have y6 := box_cell X.out 6 (v := .int .i64 S) rfl; have y7 := box_cell X.out 7 (v := .slice a1 ws.length c1) rfl; have y8 := box_cell X.out 8 (v := .slice a2 gs.length c2) rfl; have y9 := box_cell X.out 9 (v := .int .i64 C) rfl; have y10 := box_cell X.out 10 (v := .int .i64 Z) rfl; have y11 := box_cell X.out 11 (v := .slice a es.length cap) rfl)
    | (go_at_call 43; refine (ask_any i t 2 ed nm L S C Z a1 a2 a ws.length gs.length es.length c1 c2 cap _ (by omega)).mono ?_; rintro e w2 ⟨v, rfl, hv, b2⟩; have HV := hid (hv.mono (lo' := w.heap.size) B.out.size); replace B := hid (u_cat B.out b2); clear b2 hv))
  go_ret
  exact ⟨v, rfl, HV.out, B.out⟩
set_option maxHeartbeats 8000000 in
set_option maxRecDepth 100000 in
theorem implTick_3 (i t ed : Int) (nm : ByteArray) (L S : Int) (a1 a2 : Option Addr) (c1 c2 : Nat) (ws gs : List Int) (C Z : Int) (a : Option Addr) (cap : Nat) (es : List EqV) (w : World) (hA : GAt w a1 a2 a ws gs es) (hx : ws.length ≤ 1048576) (hy : gs.length ≤ 1048576) (hl : es.length ≤ 1048576) (hsm : SmallE es) (hnm : nm.size ≤ maxLen) (hT : Tab w) (hp : cliP i t 3 ed nm (nonP L S ws.length gs.length C Z es.length) (getP L S ws gs C Z es) (getP L S ws gs C Z es ∧ (es.length : Int) = C)) :
    Calls Tryz.prog 22 #[.agg #[.int .i64 i, .int .i64 t, .int .i64 3, .string nm, .int .i64 ed, .int .i64 L, .int .i64 S, .slice a1 ws.length c1, .slice a2 gs.length c2, .int .i64 C, .int .i64 Z, .slice a es.length cap]] w fun e w' => ∃ v, e = .returned v ∧ WsAt w' w.heap.size v none ∧ Below w.heap.size w w' := by
  have HP := hid (decide_eq_true hp)
  have hn6 := cli_name hp
  have hm : ∀ w : World, (method 269 94 (.agg #[]) "loop.example/wellhead/impl.waits").run Tryz.prog w = .ok (147, .agg #[]) w := fun _ => by kernel_rfl
  have HA := hid hA
  have HS := hid hsm
  have HT := hid hT
  clear hA hsm hT
  obtain ⟨W0, hW0⟩ : ∃ W0, W0 = w.alloc (.cells #[.int .i64 i, .int .i64 t, .int .i64 3, .string nm, .int .i64 ed, .int .i64 L, .int .i64 S, .slice a1 ws.length c1, .slice a2 gs.length c2, .int .i64 C, .int .i64 Z, .slice a es.length cap] 40) := ⟨_, rfl⟩
  have X := hid (show W0.heap[w.heap.size]? = some (.cells #[.int .i64 i, .int .i64 t, .int .i64 3, .string nm, .int .i64 ed, .int .i64 L, .int .i64 S, .slice a1 ws.length c1, .slice a2 gs.length c2, .int .i64 C, .int .i64 Z, .slice a es.length cap] 40 (0, 0)) by rw [hW0]; exact laid _ _ _)
  have B := hid (show Below w.heap.size w W0 by rw [hW0]; exact u_b1 _ _)
  have hs0 : w.heap.size + 1 ≤ W0.heap.size := by rw [hW0]; simp
  go_enter Tryz.func22, Tryz.ntmps22
  repeat ((fail_if_success (with_reducible show Code.wp _ (Code.region 1 _ _) _ _ _)); (first | go_values | go_skip | go_guarded | go_step | go_upon | go_back | go_simp))
  rw [← hW0]
  clear hW0
  have y0 := (box_cell X.out 0 (v := .int .i64 i) rfl)
  have y1 := (box_cell X.out 1 (v := .int .i64 t) rfl)
  have y2 := (box_cell X.out 2 (v := .int .i64 3) rfl)
  have y3 := (box_cell X.out 3 (v := .string nm) rfl)
  have y4 := (box_cell X.out 4 (v := .int .i64 ed) rfl)
  have y5 := (box_cell X.out 5 (v := .int .i64 L) rfl)
  have y6 := (box_cell X.out 6 (v := .int .i64 S) rfl)
  have y7 := (box_cell X.out 7 (v := .slice a1 ws.length c1) rfl)
  have y8 := (box_cell X.out 8 (v := .slice a2 gs.length c2) rfl)
  have y9 := (box_cell X.out 9 (v := .int .i64 C) rfl)
  have y10 := (box_cell X.out 10 (v := .int .i64 Z) rfl)
  have y11 := (box_cell X.out 11 (v := .slice a es.length cap) rfl)
  go_wp2_with fail
  refine (implCli_any i t 3 ed nm L S a1 a2 c1 c2 ws gs C Z a cap es _ (HA.out.below B.out).i1 (HA.out.below B.out).i2 hx hy (HA.out.below B.out).eq hl HS.out hnm (HT.out.below B.out)).mono ?_
  rintro e w1 ⟨rfl, b1⟩
  rw [HP.out]
  have X := hid (kept X.out b1)
  have B := hid (u_cat B.out b1)
  have hs1 := b1.size
  clear b1 y0 y1 y2 y3 y4 y5 y6 y7 y8 y9 y10 y11
  have y0 := (box_cell X.out 0 (v := .int .i64 i) rfl)
  have y1 := (box_cell X.out 1 (v := .int .i64 t) rfl)
  have y2 := (box_cell X.out 2 (v := .int .i64 3) rfl)
  have y3 := (box_cell X.out 3 (v := .string nm) rfl)
  have y4 := (box_cell X.out 4 (v := .int .i64 ed) rfl)
  have y5 := (box_cell X.out 5 (v := .int .i64 L) rfl)
  have y6 := (box_cell X.out 6 (v := .int .i64 S) rfl)
  have y7 := (box_cell X.out 7 (v := .slice a1 ws.length c1) rfl)
  have y8 := (box_cell X.out 8 (v := .slice a2 gs.length c2) rfl)
  have y9 := (box_cell X.out 9 (v := .int .i64 C) rfl)
  have y10 := (box_cell X.out 10 (v := .int .i64 Z) rfl)
  have y11 := (box_cell X.out 11 (v := .slice a es.length cap) rfl)
  go_wp2_with (first
    | (go_at_call 42; refine (stand_3 _).mono ?_; rintro e w2 ⟨rfl, hq⟩; subst hq)
    | (go_at_call 147; refine (waits_3 _).mono ?_; rintro e w2 ⟨rfl, b2⟩; replace X := hid (kept X.out b2); replace B := hid (u_cat B.out b2); clear b2 y0 y1 y2 y3 y4 y5 y6 y7 y8 y9 y10 y11; have y0 := box_cell X.out 0 (v := .int .i64 i) rfl; have y1 := box_cell X.out 1 (v := .int .i64 t) rfl; have y2 := box_cell X.out 2 (v := .int .i64 3) rfl; have y3 := box_cell X.out 3 (v := .string nm) rfl; have y4 := box_cell X.out 4 (v := .int .i64 ed) rfl; have y5 := box_cell X.out 5 (v := .int .i64 L) rfl; have y6 := box_cell X.out 6 (v := .int .i64 S) rfl; have y7 := box_cell X.out 7 (v := .slice a1 ws.length c1) rfl; have y8 := box_cell X.out 8 (v := .slice a2 gs.length c2) rfl; have y9 := box_cell X.out 9 (v := .int .i64 C) rfl; have y10 := box_cell X.out 10 (v := .int .i64 Z) rfl; have y11 := box_cell X.out 11 (v := .slice a es.length cap) rfl)
    | (go_at_call 43; refine (ask_any i t 3 ed nm L S C Z a1 a2 a ws.length gs.length es.length c1 c2 cap _ (by omega)).mono ?_; rintro e w2 ⟨v, rfl, hv, b2⟩; have HV := hid (hv.mono (lo' := w.heap.size) B.out.size); replace B := hid (u_cat B.out b2); clear b2 hv))
  go_ret
  exact ⟨_, rfl, .none _ _ (fun g hg => by cases hg), B.out⟩
set_option maxHeartbeats 8000000 in
set_option maxRecDepth 100000 in
theorem implTick_4 (i t ed : Int) (nm : ByteArray) (L S : Int) (a1 a2 : Option Addr) (c1 c2 : Nat) (ws gs : List Int) (C Z : Int) (a : Option Addr) (cap : Nat) (es : List EqV) (w : World) (hA : GAt w a1 a2 a ws gs es) (hx : ws.length ≤ 1048576) (hy : gs.length ≤ 1048576) (hl : es.length ≤ 1048576) (hsm : SmallE es) (hnm : nm.size ≤ maxLen) (hT : Tab w) (hp : cliP i t 4 ed nm (nonP L S ws.length gs.length C Z es.length) (getP L S ws gs C Z es) (getP L S ws gs C Z es ∧ (es.length : Int) = C)) :
    Calls Tryz.prog 22 #[.agg #[.int .i64 i, .int .i64 t, .int .i64 4, .string nm, .int .i64 ed, .int .i64 L, .int .i64 S, .slice a1 ws.length c1, .slice a2 gs.length c2, .int .i64 C, .int .i64 Z, .slice a es.length cap]] w fun e w' => ∃ v, e = .returned v ∧ WsAt w' w.heap.size v none ∧ Below w.heap.size w w' := by
  have HP := hid (decide_eq_true hp)
  have hn6 := cli_name hp
  have hm : ∀ w : World, (method 269 95 (.agg #[]) "loop.example/wellhead/impl.waits").run Tryz.prog w = .ok (151, .agg #[]) w := fun _ => by kernel_rfl
  have HA := hid hA
  have HS := hid hsm
  have HT := hid hT
  clear hA hsm hT
  obtain ⟨W0, hW0⟩ : ∃ W0, W0 = w.alloc (.cells #[.int .i64 i, .int .i64 t, .int .i64 4, .string nm, .int .i64 ed, .int .i64 L, .int .i64 S, .slice a1 ws.length c1, .slice a2 gs.length c2, .int .i64 C, .int .i64 Z, .slice a es.length cap] 40) := ⟨_, rfl⟩
  have X := hid (show W0.heap[w.heap.size]? = some (.cells #[.int .i64 i, .int .i64 t, .int .i64 4, .string nm, .int .i64 ed, .int .i64 L, .int .i64 S, .slice a1 ws.length c1, .slice a2 gs.length c2, .int .i64 C, .int .i64 Z, .slice a es.length cap] 40 (0, 0)) by rw [hW0]; exact laid _ _ _)
  have B := hid (show Below w.heap.size w W0 by rw [hW0]; exact u_b1 _ _)
  have hs0 : w.heap.size + 1 ≤ W0.heap.size := by rw [hW0]; simp
  go_enter Tryz.func22, Tryz.ntmps22
  repeat ((fail_if_success (with_reducible show Code.wp _ (Code.region 1 _ _) _ _ _)); (first | go_values | go_skip | go_guarded | go_step | go_upon | go_back | go_simp))
  rw [← hW0]
  clear hW0
  have y0 := (box_cell X.out 0 (v := .int .i64 i) rfl)
  have y1 := (box_cell X.out 1 (v := .int .i64 t) rfl)
  have y2 := (box_cell X.out 2 (v := .int .i64 4) rfl)
  have y3 := (box_cell X.out 3 (v := .string nm) rfl)
  have y4 := (box_cell X.out 4 (v := .int .i64 ed) rfl)
  have y5 := (box_cell X.out 5 (v := .int .i64 L) rfl)
  have y6 := (box_cell X.out 6 (v := .int .i64 S) rfl)
  have y7 := (box_cell X.out 7 (v := .slice a1 ws.length c1) rfl)
  have y8 := (box_cell X.out 8 (v := .slice a2 gs.length c2) rfl)
  have y9 := (box_cell X.out 9 (v := .int .i64 C) rfl)
  have y10 := (box_cell X.out 10 (v := .int .i64 Z) rfl)
  have y11 := (box_cell X.out 11 (v := .slice a es.length cap) rfl)
  go_wp2_with fail
  refine (implCli_any i t 4 ed nm L S a1 a2 c1 c2 ws gs C Z a cap es _ (HA.out.below B.out).i1 (HA.out.below B.out).i2 hx hy (HA.out.below B.out).eq hl HS.out hnm (HT.out.below B.out)).mono ?_
  rintro e w1 ⟨rfl, b1⟩
  rw [HP.out]
  have X := hid (kept X.out b1)
  have B := hid (u_cat B.out b1)
  have hs1 := b1.size
  clear b1 y0 y1 y2 y3 y4 y5 y6 y7 y8 y9 y10 y11
  have y0 := (box_cell X.out 0 (v := .int .i64 i) rfl)
  have y1 := (box_cell X.out 1 (v := .int .i64 t) rfl)
  have y2 := (box_cell X.out 2 (v := .int .i64 4) rfl)
  have y3 := (box_cell X.out 3 (v := .string nm) rfl)
  have y4 := (box_cell X.out 4 (v := .int .i64 ed) rfl)
  have y5 := (box_cell X.out 5 (v := .int .i64 L) rfl)
  have y6 := (box_cell X.out 6 (v := .int .i64 S) rfl)
  have y7 := (box_cell X.out 7 (v := .slice a1 ws.length c1) rfl)
  have y8 := (box_cell X.out 8 (v := .slice a2 gs.length c2) rfl)
  have y9 := (box_cell X.out 9 (v := .int .i64 C) rfl)
  have y10 := (box_cell X.out 10 (v := .int .i64 Z) rfl)
  have y11 := (box_cell X.out 11 (v := .slice a es.length cap) rfl)
  go_wp2_with (first
    | (go_at_call 42; refine (stand_4 _).mono ?_; rintro e w2 ⟨rfl, hq⟩; subst hq)
    | (go_at_call 151; refine (waits_4 _).mono ?_; rintro e w2 ⟨rfl, b2⟩; replace X := hid (kept X.out b2); replace B := hid (u_cat B.out b2); clear b2 y0 y1 y2 y3 y4 y5 y6 y7 y8 y9 y10 y11; have y0 := box_cell X.out 0 (v := .int .i64 i) rfl; have y1 := box_cell X.out 1 (v := .int .i64 t) rfl; have y2 := box_cell X.out 2 (v := .int .i64 4) rfl; have y3 := box_cell X.out 3 (v := .string nm) rfl; have y4 := box_cell X.out 4 (v := .int .i64 ed) rfl; have y5 := box_cell X.out 5 (v := .int .i64 L) rfl; have y6 := box_cell X.out 6 (v := .int .i64 S) rfl; have y7 := box_cell X.out 7 (v := .slice a1 ws.length c1) rfl; have y8 := box_cell X.out 8 (v := .slice a2 gs.length c2) rfl; have y9 := box_cell X.out 9 (v := .int .i64 C) rfl; have y10 := box_cell X.out 10 (v := .int .i64 Z) rfl; have y11 := box_cell X.out 11 (v := .slice a es.length cap) rfl)
    | (go_at_call 43; refine (ask_any i t 4 ed nm L S C Z a1 a2 a ws.length gs.length es.length c1 c2 cap _ (by omega)).mono ?_; rintro e w2 ⟨v, rfl, hv, b2⟩; have HV := hid (hv.mono (lo' := w.heap.size) B.out.size); replace B := hid (u_cat B.out b2); clear b2 hv))
  go_ret
  exact ⟨_, rfl, .none _ _ (fun g hg => by cases hg), B.out⟩
/-- The word that a client says with a tick. -/
def tickO (i t s ed : Int) (nm : ByteArray) (ok : Prop) [Decidable ok] : Option WV := if ok ∧ (s = 1 ∨ s = 2) then (some ⟨1, i, t, ed, 0, nm, ⟨#[]⟩⟩) else none
theorem specTick_any (i t s ed : Int) (nm : ByteArray) (L S : Int) (a1 a2 : Option Addr) (c1 c2 : Nat) (ws gs : List Int) (C Z : Int) (a : Option Addr) (cap : Nat) (es : List EqV) (w : World) (hA : GAt w a1 a2 a ws gs es) (hx : ws.length ≤ 1048576) (hy : gs.length ≤ 1048576) (hl : es.length ≤ 1048576) (hsm : SmallE es) (hnm : nm.size ≤ maxLen) :
    Calls Tryz.prog 21 #[.agg #[.int .i64 i, .int .i64 t, .int .i64 s, .string nm, .int .i64 ed, .int .i64 L, .int .i64 S, .slice a1 ws.length c1, .slice a2 gs.length c2, .int .i64 C, .int .i64 Z, .slice a es.length cap]] w fun e w' => ∃ v, e = .returned v ∧ WsAt w' w.heap.size v (tickO i t s ed nm (cliP i t s ed nm (nonP L S ws.length gs.length C Z es.length) (getP L S ws gs C Z es) (getP L S ws gs C Z es ∧ (es.length : Int) = C))) ∧ Below w.heap.size w w' := by
  by_cases hp : cliP i t s ed nm (nonP L S ws.length gs.length C Z es.length) (getP L S ws gs C Z es) (getP L S ws gs C Z es ∧ (es.length : Int) = C)
  · by_cases h1 : s = 1
    · subst h1
      rw [show tickO i t 1 ed nm (cliP i t 1 ed nm (nonP L S ws.length gs.length C Z es.length) (getP L S ws gs C Z es) (getP L S ws gs C Z es ∧ (es.length : Int) = C)) = (some ⟨1, i, t, ed, 0, nm, ⟨#[]⟩⟩) from if_pos ⟨hp, .inl rfl⟩]
      exact specTick_1 i t ed nm L S a1 a2 c1 c2 ws gs C Z a cap es w hA hx hy hl hsm hnm hp
    · by_cases h2 : s = 2
      · subst h2
        rw [show tickO i t 2 ed nm (cliP i t 2 ed nm (nonP L S ws.length gs.length C Z es.length) (getP L S ws gs C Z es) (getP L S ws gs C Z es ∧ (es.length : Int) = C)) = (some ⟨1, i, t, ed, 0, nm, ⟨#[]⟩⟩) from if_pos ⟨hp, .inr rfl⟩]
        exact specTick_2 i t ed nm L S a1 a2 c1 c2 ws gs C Z a cap es w hA hx hy hl hsm hnm hp
      · rw [show tickO i t s ed nm (cliP i t s ed nm (nonP L S ws.length gs.length C Z es.length) (getP L S ws gs C Z es) (getP L S ws gs C Z es ∧ (es.length : Int) = C)) = none from if_neg (fun h => by omega)]
        exact specTick_rest i t s ed nm L S a1 a2 c1 c2 ws gs C Z a cap es w hA hx hy hl hsm hnm hp h1 h2
  · rw [show tickO i t s ed nm (cliP i t s ed nm (nonP L S ws.length gs.length C Z es.length) (getP L S ws gs C Z es) (getP L S ws gs C Z es ∧ (es.length : Int) = C)) = none from if_neg (fun h => hp h.1)]
    exact specTick_no i t s ed nm L S a1 a2 c1 c2 ws gs C Z a cap es w hA hx hy hl hsm hnm hp
theorem implTick_any (i t s ed : Int) (nm : ByteArray) (L S : Int) (a1 a2 : Option Addr) (c1 c2 : Nat) (ws gs : List Int) (C Z : Int) (a : Option Addr) (cap : Nat) (es : List EqV) (w : World) (hA : GAt w a1 a2 a ws gs es) (hx : ws.length ≤ 1048576) (hy : gs.length ≤ 1048576) (hl : es.length ≤ 1048576) (hsm : SmallE es) (hnm : nm.size ≤ maxLen) (hT : Tab w) :
    Calls Tryz.prog 22 #[.agg #[.int .i64 i, .int .i64 t, .int .i64 s, .string nm, .int .i64 ed, .int .i64 L, .int .i64 S, .slice a1 ws.length c1, .slice a2 gs.length c2, .int .i64 C, .int .i64 Z, .slice a es.length cap]] w fun e w' => ∃ v, e = .returned v ∧ WsAt w' w.heap.size v (tickO i t s ed nm (cliP i t s ed nm (nonP L S ws.length gs.length C Z es.length) (getP L S ws gs C Z es) (getP L S ws gs C Z es ∧ (es.length : Int) = C))) ∧ Below w.heap.size w w' := by
  by_cases hp : cliP i t s ed nm (nonP L S ws.length gs.length C Z es.length) (getP L S ws gs C Z es) (getP L S ws gs C Z es ∧ (es.length : Int) = C)
  · have hs := hp.2.2.1
    rcases (show s = 0 ∨ s = 1 ∨ s = 2 ∨ s = 3 ∨ s = 4 by omega) with rfl | rfl | rfl | rfl | rfl
    · rw [show tickO i t 0 ed nm (cliP i t 0 ed nm (nonP L S ws.length gs.length C Z es.length) (getP L S ws gs C Z es) (getP L S ws gs C Z es ∧ (es.length : Int) = C)) = none from if_neg (fun h => by omega)]
      exact implTick_0 i t ed nm L S a1 a2 c1 c2 ws gs C Z a cap es w hA hx hy hl hsm hnm hT hp
    · rw [show tickO i t 1 ed nm (cliP i t 1 ed nm (nonP L S ws.length gs.length C Z es.length) (getP L S ws gs C Z es) (getP L S ws gs C Z es ∧ (es.length : Int) = C)) = (some ⟨1, i, t, ed, 0, nm, ⟨#[]⟩⟩) from if_pos ⟨hp, by omega⟩]
      exact implTick_1 i t ed nm L S a1 a2 c1 c2 ws gs C Z a cap es w hA hx hy hl hsm hnm hT hp
    · rw [show tickO i t 2 ed nm (cliP i t 2 ed nm (nonP L S ws.length gs.length C Z es.length) (getP L S ws gs C Z es) (getP L S ws gs C Z es ∧ (es.length : Int) = C)) = (some ⟨1, i, t, ed, 0, nm, ⟨#[]⟩⟩) from if_pos ⟨hp, by omega⟩]
      exact implTick_2 i t ed nm L S a1 a2 c1 c2 ws gs C Z a cap es w hA hx hy hl hsm hnm hT hp
    · rw [show tickO i t 3 ed nm (cliP i t 3 ed nm (nonP L S ws.length gs.length C Z es.length) (getP L S ws gs C Z es) (getP L S ws gs C Z es ∧ (es.length : Int) = C)) = none from if_neg (fun h => by omega)]
      exact implTick_3 i t ed nm L S a1 a2 c1 c2 ws gs C Z a cap es w hA hx hy hl hsm hnm hT hp
    · rw [show tickO i t 4 ed nm (cliP i t 4 ed nm (nonP L S ws.length gs.length C Z es.length) (getP L S ws gs C Z es) (getP L S ws gs C Z es ∧ (es.length : Int) = C)) = none from if_neg (fun h => by omega)]
      exact implTick_4 i t ed nm L S a1 a2 c1 c2 ws gs C Z a cap es w hA hx hy hl hsm hnm hT hp
  · rw [show tickO i t s ed nm (cliP i t s ed nm (nonP L S ws.length gs.length C Z es.length) (getP L S ws gs C Z es) (getP L S ws gs C Z es ∧ (es.length : Int) = C)) = none from if_neg (fun h => hp h.1)]
    exact implTick_no i t s ed nm L S a1 a2 c1 c2 ws gs C Z a cap es w hA hx hy hl hsm hnm hT hp
end Go.Proofs.YtbakicgdloakgaaGreatDoor
