/- What a client knows, by the model and by the program. -/
import Derived.Test.YtfciopjcbeccgaaGreatDoorG29
import Derived.Test.YtfciopjcbeccgaaGreatDoorG36
namespace Go.Proofs.YtfciopjcbeccgaaGreatDoor
open Go.ChangeShapes Go.WideShapes Go.ChangeAt Go.RowKit Go.Sort Go.Shelf
attribute [local go_sem] Oper.semAt_some

/-- What a client knows. -/
def cliT (i t s ed : Int) (nm : ByteArray) (L S : Int) (ws gs : List Int) (C Z : Int) (es : List EqV) : ByteArray := if cliP i t s ed nm (nonP L S ws.length gs.length C Z es.length) (getP L S ws gs C Z es) (getP L S ws gs C Z es ∧ (es.length : Int) = C) then textOf L S ws gs C Z es else ⟨#[]⟩

set_option maxHeartbeats 4000000 in
set_option maxRecDepth 100000 in
theorem specTx_no (i t s ed : Int) (nm : ByteArray) (L S : Int) (a1 a2 : Option Addr) (c1 c2 : Nat) (ws gs : List Int) (C Z : Int) (a : Option Addr) (cap : Nat) (es : List EqV) (w : World) (ha1 : IntsAt w a1 ws) (ha2 : IntsAt w a2 gs) (hx : ws.length ≤ 1048576) (hy : gs.length ≤ 1048576) (ha : EqsAt w a es) (hl : es.length ≤ 1048576) (hsm : SmallE es) (hnm : nm.size ≤ maxLen) (hp : ¬ (cliP i t s ed nm (nonP L S ws.length gs.length C Z es.length) (getP L S ws gs C Z es) (getP L S ws gs C Z es ∧ (es.length : Int) = C))) :
    Calls Tryz.prog 5 #[.agg #[.int .i64 i, .int .i64 t, .int .i64 s, .string nm, .int .i64 ed, .int .i64 L, .int .i64 S, .slice a1 ws.length c1, .slice a2 gs.length c2, .int .i64 C, .int .i64 Z, .slice a es.length cap]] w fun e w' => e = .returned (.string ⟨#[]⟩) ∧ Below w.heap.size w w' := by
  obtain ⟨W0, hW0⟩ : ∃ W0, W0 = w.alloc (.cells #[.int .i64 i, .int .i64 t, .int .i64 s, .string nm, .int .i64 ed, .int .i64 L, .int .i64 S, .slice a1 ws.length c1, .slice a2 gs.length c2, .int .i64 C, .int .i64 Z, .slice a es.length cap] 41) := ⟨_, rfl⟩
  have X0 := hid (show W0.heap[w.heap.size]? = some (.cells #[.int .i64 i, .int .i64 t, .int .i64 s, .string nm, .int .i64 ed, .int .i64 L, .int .i64 S, .slice a1 ws.length c1, .slice a2 gs.length c2, .int .i64 C, .int .i64 Z, .slice a es.length cap] 41 (0, 0)) by rw [hW0]; exact laid _ _ _)
  have B0 := hid (show Below w.heap.size w W0 by rw [hW0]; exact u_b1 _ _)
  have I1 := hid (ha1.below B0.out)
  have I2 := hid (ha2.below B0.out)
  have I3 := hid (ha.below B0.out)
  have SM := hid hsm
  have NM := hid hnm
  have y0 := box_cell X0.out 0 (v := .int .i64 i) rfl
  have y1 := box_cell X0.out 1 (v := .int .i64 t) rfl
  have y2 := box_cell X0.out 2 (v := .int .i64 s) rfl
  have y3 := box_cell X0.out 3 (v := .string nm) rfl
  have y4 := box_cell X0.out 4 (v := .int .i64 ed) rfl
  have y5 := box_cell X0.out 5 (v := .int .i64 L) rfl
  have y6 := box_cell X0.out 6 (v := .int .i64 S) rfl
  have y7 := box_cell X0.out 7 (v := .slice a1 ws.length c1) rfl
  have y8 := box_cell X0.out 8 (v := .slice a2 gs.length c2) rfl
  have y9 := box_cell X0.out 9 (v := .int .i64 C) rfl
  have y10 := box_cell X0.out 10 (v := .int .i64 Z) rfl
  have y11 := box_cell X0.out 11 (v := .slice a es.length cap) rfl
  have HP := hid (decide_eq_false hp)
  clear ha1 ha2 ha hsm hnm
  go_enter Tryz.func5, Tryz.ntmps5
  repeat ((fail_if_success (with_reducible show Code.wp _ (Code.region 1 _ _) _ _ _)); (first | go_values | go_skip | go_guarded | go_step | go_upon | go_back | go_simp))
  rw [← hW0]
  clear hW0
  go_wp2_with (first
    | (go_at_call 10; refine (specCli_any i t s ed nm L S a1 a2 c1 c2 ws gs C Z a cap es _ (by exact I1.out) (by exact I2.out) hx hy (by exact I3.out) hl SM.out NM.out).mono ?_; rintro e w1 ⟨rfl, b1⟩; rw [HP.out]; replace X0 := hid (kept X0.out b1); replace B0 := hid (u_cat B0.out b1); replace I1 := hid (I1.out.below b1); replace I2 := hid (I2.out.below b1); replace I3 := hid (I3.out.below b1); clear b1 y0 y1 y2 y3 y4 y5 y6 y7 y8 y9 y10 y11; have y0 := box_cell X0.out 0 (v := .int .i64 i) rfl; have y1 := box_cell X0.out 1 (v := .int .i64 t) rfl; have y2 := box_cell X0.out 2 (v := .int .i64 s) rfl; have y3 := box_cell X0.out 3 (v := .string nm) rfl; have y4 := box_cell X0.out 4 (v := .int .i64 ed) rfl; have y5 := box_cell X0.out 5 (v := .int .i64 L) rfl; have y6 := box_cell X0.out 6 (v := .int .i64 S) rfl; have y7 := box_cell X0.out 7 (v := .slice a1 ws.length c1) rfl; have y8 := box_cell X0.out 8 (v := .slice a2 gs.length c2) rfl; have y9 := box_cell X0.out 9 (v := .int .i64 C) rfl; have y10 := box_cell X0.out 10 (v := .int .i64 Z) rfl; have y11 := box_cell X0.out 11 (v := .slice a es.length cap) rfl))
  go_ret
  exact ⟨rfl, B0.out⟩
set_option maxHeartbeats 4000000 in
set_option maxRecDepth 100000 in
theorem specTx_zero (i t s : Int) (nm : ByteArray) (L S : Int) (a1 a2 : Option Addr) (c1 c2 : Nat) (ws gs : List Int) (C Z : Int) (a : Option Addr) (cap : Nat) (es : List EqV) (w : World) (ha1 : IntsAt w a1 ws) (ha2 : IntsAt w a2 gs) (hx : ws.length ≤ 1048576) (hy : gs.length ≤ 1048576) (ha : EqsAt w a es) (hl : es.length ≤ 1048576) (hsm : SmallE es) (hnm : nm.size ≤ maxLen) (hp : cliP i t s 0 nm (nonP L S ws.length gs.length C Z es.length) (getP L S ws gs C Z es) (getP L S ws gs C Z es ∧ (es.length : Int) = C)) :
    Calls Tryz.prog 5 #[.agg #[.int .i64 i, .int .i64 t, .int .i64 s, .string nm, .int .i64 0, .int .i64 L, .int .i64 S, .slice a1 ws.length c1, .slice a2 gs.length c2, .int .i64 C, .int .i64 Z, .slice a es.length cap]] w fun e w' => e = .returned (.string ⟨#[]⟩) ∧ Below w.heap.size w w' := by
  obtain ⟨W0, hW0⟩ : ∃ W0, W0 = w.alloc (.cells #[.int .i64 i, .int .i64 t, .int .i64 s, .string nm, .int .i64 0, .int .i64 L, .int .i64 S, .slice a1 ws.length c1, .slice a2 gs.length c2, .int .i64 C, .int .i64 Z, .slice a es.length cap] 41) := ⟨_, rfl⟩
  have X0 := hid (show W0.heap[w.heap.size]? = some (.cells #[.int .i64 i, .int .i64 t, .int .i64 s, .string nm, .int .i64 0, .int .i64 L, .int .i64 S, .slice a1 ws.length c1, .slice a2 gs.length c2, .int .i64 C, .int .i64 Z, .slice a es.length cap] 41 (0, 0)) by rw [hW0]; exact laid _ _ _)
  have B0 := hid (show Below w.heap.size w W0 by rw [hW0]; exact u_b1 _ _)
  have I1 := hid (ha1.below B0.out)
  have I2 := hid (ha2.below B0.out)
  have I3 := hid (ha.below B0.out)
  have SM := hid hsm
  have NM := hid hnm
  have y0 := box_cell X0.out 0 (v := .int .i64 i) rfl
  have y1 := box_cell X0.out 1 (v := .int .i64 t) rfl
  have y2 := box_cell X0.out 2 (v := .int .i64 s) rfl
  have y3 := box_cell X0.out 3 (v := .string nm) rfl
  have y4 := box_cell X0.out 4 (v := .int .i64 0) rfl
  have y5 := box_cell X0.out 5 (v := .int .i64 L) rfl
  have y6 := box_cell X0.out 6 (v := .int .i64 S) rfl
  have y7 := box_cell X0.out 7 (v := .slice a1 ws.length c1) rfl
  have y8 := box_cell X0.out 8 (v := .slice a2 gs.length c2) rfl
  have y9 := box_cell X0.out 9 (v := .int .i64 C) rfl
  have y10 := box_cell X0.out 10 (v := .int .i64 Z) rfl
  have y11 := box_cell X0.out 11 (v := .slice a es.length cap) rfl
  have HP := hid (decide_eq_true hp)
  clear ha1 ha2 ha hsm hnm
  go_enter Tryz.func5, Tryz.ntmps5
  repeat ((fail_if_success (with_reducible show Code.wp _ (Code.region 1 _ _) _ _ _)); (first | go_values | go_skip | go_guarded | go_step | go_upon | go_back | go_simp))
  rw [← hW0]
  clear hW0
  go_wp2_with (first
    | (go_at_call 10; refine (specCli_any i t s 0 nm L S a1 a2 c1 c2 ws gs C Z a cap es _ (by exact I1.out) (by exact I2.out) hx hy (by exact I3.out) hl SM.out NM.out).mono ?_; rintro e w1 ⟨rfl, b1⟩; rw [HP.out]; replace X0 := hid (kept X0.out b1); replace B0 := hid (u_cat B0.out b1); replace I1 := hid (I1.out.below b1); replace I2 := hid (I2.out.below b1); replace I3 := hid (I3.out.below b1); clear b1 y0 y1 y2 y3 y4 y5 y6 y7 y8 y9 y10 y11; have y0 := box_cell X0.out 0 (v := .int .i64 i) rfl; have y1 := box_cell X0.out 1 (v := .int .i64 t) rfl; have y2 := box_cell X0.out 2 (v := .int .i64 s) rfl; have y3 := box_cell X0.out 3 (v := .string nm) rfl; have y4 := box_cell X0.out 4 (v := .int .i64 0) rfl; have y5 := box_cell X0.out 5 (v := .int .i64 L) rfl; have y6 := box_cell X0.out 6 (v := .int .i64 S) rfl; have y7 := box_cell X0.out 7 (v := .slice a1 ws.length c1) rfl; have y8 := box_cell X0.out 8 (v := .slice a2 gs.length c2) rfl; have y9 := box_cell X0.out 9 (v := .int .i64 C) rfl; have y10 := box_cell X0.out 10 (v := .int .i64 Z) rfl; have y11 := box_cell X0.out 11 (v := .slice a es.length cap) rfl))
  go_ret
  exact ⟨rfl, B0.out⟩
set_option maxHeartbeats 4000000 in
set_option maxRecDepth 100000 in
theorem specTx_yes (i t s ed : Int) (nm : ByteArray) (L S : Int) (a1 a2 : Option Addr) (c1 c2 : Nat) (ws gs : List Int) (C Z : Int) (a : Option Addr) (cap : Nat) (es : List EqV) (w : World) (ha1 : IntsAt w a1 ws) (ha2 : IntsAt w a2 gs) (hx : ws.length ≤ 1048576) (hy : gs.length ≤ 1048576) (ha : EqsAt w a es) (hl : es.length ≤ 1048576) (hsm : SmallE es) (hnm : nm.size ≤ maxLen) (hp : cliP i t s ed nm (nonP L S ws.length gs.length C Z es.length) (getP L S ws gs C Z es) (getP L S ws gs C Z es ∧ (es.length : Int) = C)) (he : ed ≠ 0) (hg : getP L S ws gs C Z es) :
    Calls Tryz.prog 5 #[.agg #[.int .i64 i, .int .i64 t, .int .i64 s, .string nm, .int .i64 ed, .int .i64 L, .int .i64 S, .slice a1 ws.length c1, .slice a2 gs.length c2, .int .i64 C, .int .i64 Z, .slice a es.length cap]] w fun e w' => e = .returned (.string (textOf L S ws gs C Z es)) ∧ Below w.heap.size w w' := by
  obtain ⟨W0, hW0⟩ : ∃ W0, W0 = w.alloc (.cells #[.int .i64 i, .int .i64 t, .int .i64 s, .string nm, .int .i64 ed, .int .i64 L, .int .i64 S, .slice a1 ws.length c1, .slice a2 gs.length c2, .int .i64 C, .int .i64 Z, .slice a es.length cap] 41) := ⟨_, rfl⟩
  have X0 := hid (show W0.heap[w.heap.size]? = some (.cells #[.int .i64 i, .int .i64 t, .int .i64 s, .string nm, .int .i64 ed, .int .i64 L, .int .i64 S, .slice a1 ws.length c1, .slice a2 gs.length c2, .int .i64 C, .int .i64 Z, .slice a es.length cap] 41 (0, 0)) by rw [hW0]; exact laid _ _ _)
  have B0 := hid (show Below w.heap.size w W0 by rw [hW0]; exact u_b1 _ _)
  have I1 := hid (ha1.below B0.out)
  have I2 := hid (ha2.below B0.out)
  have I3 := hid (ha.below B0.out)
  have SM := hid hsm
  have NM := hid hnm
  have y0 := box_cell X0.out 0 (v := .int .i64 i) rfl
  have y1 := box_cell X0.out 1 (v := .int .i64 t) rfl
  have y2 := box_cell X0.out 2 (v := .int .i64 s) rfl
  have y3 := box_cell X0.out 3 (v := .string nm) rfl
  have y4 := box_cell X0.out 4 (v := .int .i64 ed) rfl
  have y5 := box_cell X0.out 5 (v := .int .i64 L) rfl
  have y6 := box_cell X0.out 6 (v := .int .i64 S) rfl
  have y7 := box_cell X0.out 7 (v := .slice a1 ws.length c1) rfl
  have y8 := box_cell X0.out 8 (v := .slice a2 gs.length c2) rfl
  have y9 := box_cell X0.out 9 (v := .int .i64 C) rfl
  have y10 := box_cell X0.out 10 (v := .int .i64 Z) rfl
  have y11 := box_cell X0.out 11 (v := .slice a es.length cap) rfl
  have HP := hid (decide_eq_true hp)
  have HG := hid hg
  have be : (ed == 0) = false := beq_eq_false_iff_ne.2 he
  clear ha1 ha2 ha hsm hnm
  go_enter Tryz.func5, Tryz.ntmps5
  repeat ((fail_if_success (with_reducible show Code.wp _ (Code.region 1 _ _) _ _ _)); (first | go_values | go_skip | go_guarded | go_step | go_upon | go_back | go_simp))
  rw [← hW0]
  clear hW0
  go_wp2_with (first
    | (go_at_call 10; refine (specCli_any i t s ed nm L S a1 a2 c1 c2 ws gs C Z a cap es _ (by exact I1.out) (by exact I2.out) hx hy (by exact I3.out) hl SM.out NM.out).mono ?_; rintro e w1 ⟨rfl, b1⟩; rw [HP.out]; replace X0 := hid (kept X0.out b1); replace B0 := hid (u_cat B0.out b1); replace I1 := hid (I1.out.below b1); replace I2 := hid (I2.out.below b1); replace I3 := hid (I3.out.below b1); clear b1 y0 y1 y2 y3 y4 y5 y6 y7 y8 y9 y10 y11; have y0 := box_cell X0.out 0 (v := .int .i64 i) rfl; have y1 := box_cell X0.out 1 (v := .int .i64 t) rfl; have y2 := box_cell X0.out 2 (v := .int .i64 s) rfl; have y3 := box_cell X0.out 3 (v := .string nm) rfl; have y4 := box_cell X0.out 4 (v := .int .i64 ed) rfl; have y5 := box_cell X0.out 5 (v := .int .i64 L) rfl; have y6 := box_cell X0.out 6 (v := .int .i64 S) rfl; have y7 := box_cell X0.out 7 (v := .slice a1 ws.length c1) rfl; have y8 := box_cell X0.out 8 (v := .slice a2 gs.length c2) rfl; have y9 := box_cell X0.out 9 (v := .int .i64 C) rfl; have y10 := box_cell X0.out 10 (v := .int .i64 Z) rfl; have y11 := box_cell X0.out 11 (v := .slice a es.length cap) rfl)
    | (go_at_call 11; refine (l6Text_in L S a1 a2 c1 c2 ws gs C Z a cap es _ (by exact I3.out) hl SM.out HG.out).mono ?_; rintro e w1 ⟨rfl, b1⟩; replace B0 := hid (u_cat B0.out b1); clear b1))
  go_ret
  exact ⟨rfl, B0.out⟩
set_option maxHeartbeats 4000000 in
set_option maxRecDepth 100000 in
theorem implTx_no (i t s ed : Int) (nm : ByteArray) (L S : Int) (a1 a2 : Option Addr) (c1 c2 : Nat) (ws gs : List Int) (C Z : Int) (a : Option Addr) (cap : Nat) (es : List EqV) (w : World) (ha1 : IntsAt w a1 ws) (ha2 : IntsAt w a2 gs) (hx : ws.length ≤ 1048576) (hy : gs.length ≤ 1048576) (ha : EqsAt w a es) (hl : es.length ≤ 1048576) (hsm : SmallE es) (hnm : nm.size ≤ maxLen) (hT : Tab w) (hp : ¬ (cliP i t s ed nm (nonP L S ws.length gs.length C Z es.length) (getP L S ws gs C Z es) (getP L S ws gs C Z es ∧ (es.length : Int) = C))) :
    Calls Tryz.prog 7 #[.agg #[.int .i64 i, .int .i64 t, .int .i64 s, .string nm, .int .i64 ed, .int .i64 L, .int .i64 S, .slice a1 ws.length c1, .slice a2 gs.length c2, .int .i64 C, .int .i64 Z, .slice a es.length cap]] w fun e w' => e = .returned (.string ⟨#[]⟩) ∧ Below w.heap.size w w' := by
  obtain ⟨W0, hW0⟩ : ∃ W0, W0 = w.alloc (.cells #[.int .i64 i, .int .i64 t, .int .i64 s, .string nm, .int .i64 ed, .int .i64 L, .int .i64 S, .slice a1 ws.length c1, .slice a2 gs.length c2, .int .i64 C, .int .i64 Z, .slice a es.length cap] 41) := ⟨_, rfl⟩
  have X0 := hid (show W0.heap[w.heap.size]? = some (.cells #[.int .i64 i, .int .i64 t, .int .i64 s, .string nm, .int .i64 ed, .int .i64 L, .int .i64 S, .slice a1 ws.length c1, .slice a2 gs.length c2, .int .i64 C, .int .i64 Z, .slice a es.length cap] 41 (0, 0)) by rw [hW0]; exact laid _ _ _)
  have B0 := hid (show Below w.heap.size w W0 by rw [hW0]; exact u_b1 _ _)
  have I1 := hid (ha1.below B0.out)
  have I2 := hid (ha2.below B0.out)
  have I3 := hid (ha.below B0.out)
  have SM := hid hsm
  have NM := hid hnm
  have HT := hid (hT.below B0.out)
  have y0 := box_cell X0.out 0 (v := .int .i64 i) rfl
  have y1 := box_cell X0.out 1 (v := .int .i64 t) rfl
  have y2 := box_cell X0.out 2 (v := .int .i64 s) rfl
  have y3 := box_cell X0.out 3 (v := .string nm) rfl
  have y4 := box_cell X0.out 4 (v := .int .i64 ed) rfl
  have y5 := box_cell X0.out 5 (v := .int .i64 L) rfl
  have y6 := box_cell X0.out 6 (v := .int .i64 S) rfl
  have y7 := box_cell X0.out 7 (v := .slice a1 ws.length c1) rfl
  have y8 := box_cell X0.out 8 (v := .slice a2 gs.length c2) rfl
  have y9 := box_cell X0.out 9 (v := .int .i64 C) rfl
  have y10 := box_cell X0.out 10 (v := .int .i64 Z) rfl
  have y11 := box_cell X0.out 11 (v := .slice a es.length cap) rfl
  have HP := hid (decide_eq_false hp)
  clear ha1 ha2 ha hsm hnm hT
  go_enter Tryz.func7, Tryz.ntmps7
  repeat ((fail_if_success (with_reducible show Code.wp _ (Code.region 1 _ _) _ _ _)); (first | go_values | go_skip | go_guarded | go_step | go_upon | go_back | go_simp))
  rw [← hW0]
  clear hW0
  go_wp2_with (first
    | (go_at_call 13; refine (implCli_any i t s ed nm L S a1 a2 c1 c2 ws gs C Z a cap es _ (by exact I1.out) (by exact I2.out) hx hy (by exact I3.out) hl SM.out NM.out HT.out).mono ?_; rintro e w1 ⟨rfl, b1⟩; rw [HP.out]; replace X0 := hid (kept X0.out b1); replace B0 := hid (u_cat B0.out b1); replace I1 := hid (I1.out.below b1); replace I2 := hid (I2.out.below b1); replace I3 := hid (I3.out.below b1); replace HT := hid (HT.out.below b1); clear b1 y0 y1 y2 y3 y4 y5 y6 y7 y8 y9 y10 y11; have y0 := box_cell X0.out 0 (v := .int .i64 i) rfl; have y1 := box_cell X0.out 1 (v := .int .i64 t) rfl; have y2 := box_cell X0.out 2 (v := .int .i64 s) rfl; have y3 := box_cell X0.out 3 (v := .string nm) rfl; have y4 := box_cell X0.out 4 (v := .int .i64 ed) rfl; have y5 := box_cell X0.out 5 (v := .int .i64 L) rfl; have y6 := box_cell X0.out 6 (v := .int .i64 S) rfl; have y7 := box_cell X0.out 7 (v := .slice a1 ws.length c1) rfl; have y8 := box_cell X0.out 8 (v := .slice a2 gs.length c2) rfl; have y9 := box_cell X0.out 9 (v := .int .i64 C) rfl; have y10 := box_cell X0.out 10 (v := .int .i64 Z) rfl; have y11 := box_cell X0.out 11 (v := .slice a es.length cap) rfl))
  go_ret
  exact ⟨rfl, B0.out⟩
set_option maxHeartbeats 4000000 in
set_option maxRecDepth 100000 in
theorem implTx_yes (i t s ed : Int) (nm : ByteArray) (L S : Int) (a1 a2 : Option Addr) (c1 c2 : Nat) (ws gs : List Int) (C Z : Int) (a : Option Addr) (cap : Nat) (es : List EqV) (w : World) (ha1 : IntsAt w a1 ws) (ha2 : IntsAt w a2 gs) (hx : ws.length ≤ 1048576) (hy : gs.length ≤ 1048576) (ha : EqsAt w a es) (hl : es.length ≤ 1048576) (hsm : SmallE es) (hnm : nm.size ≤ maxLen) (hT : Tab w) (hp : cliP i t s ed nm (nonP L S ws.length gs.length C Z es.length) (getP L S ws gs C Z es) (getP L S ws gs C Z es ∧ (es.length : Int) = C)) :
    Calls Tryz.prog 7 #[.agg #[.int .i64 i, .int .i64 t, .int .i64 s, .string nm, .int .i64 ed, .int .i64 L, .int .i64 S, .slice a1 ws.length c1, .slice a2 gs.length c2, .int .i64 C, .int .i64 Z, .slice a es.length cap]] w fun e w' => e = .returned (.string (textOf L S ws gs C Z es)) ∧ Below w.heap.size w w' := by
  obtain ⟨W0, hW0⟩ : ∃ W0, W0 = w.alloc (.cells #[.int .i64 i, .int .i64 t, .int .i64 s, .string nm, .int .i64 ed, .int .i64 L, .int .i64 S, .slice a1 ws.length c1, .slice a2 gs.length c2, .int .i64 C, .int .i64 Z, .slice a es.length cap] 41) := ⟨_, rfl⟩
  have X0 := hid (show W0.heap[w.heap.size]? = some (.cells #[.int .i64 i, .int .i64 t, .int .i64 s, .string nm, .int .i64 ed, .int .i64 L, .int .i64 S, .slice a1 ws.length c1, .slice a2 gs.length c2, .int .i64 C, .int .i64 Z, .slice a es.length cap] 41 (0, 0)) by rw [hW0]; exact laid _ _ _)
  have B0 := hid (show Below w.heap.size w W0 by rw [hW0]; exact u_b1 _ _)
  have I1 := hid (ha1.below B0.out)
  have I2 := hid (ha2.below B0.out)
  have I3 := hid (ha.below B0.out)
  have SM := hid hsm
  have NM := hid hnm
  have HT := hid (hT.below B0.out)
  have y0 := box_cell X0.out 0 (v := .int .i64 i) rfl
  have y1 := box_cell X0.out 1 (v := .int .i64 t) rfl
  have y2 := box_cell X0.out 2 (v := .int .i64 s) rfl
  have y3 := box_cell X0.out 3 (v := .string nm) rfl
  have y4 := box_cell X0.out 4 (v := .int .i64 ed) rfl
  have y5 := box_cell X0.out 5 (v := .int .i64 L) rfl
  have y6 := box_cell X0.out 6 (v := .int .i64 S) rfl
  have y7 := box_cell X0.out 7 (v := .slice a1 ws.length c1) rfl
  have y8 := box_cell X0.out 8 (v := .slice a2 gs.length c2) rfl
  have y9 := box_cell X0.out 9 (v := .int .i64 C) rfl
  have y10 := box_cell X0.out 10 (v := .int .i64 Z) rfl
  have y11 := box_cell X0.out 11 (v := .slice a es.length cap) rfl
  have HP := hid (decide_eq_true hp)
  clear ha1 ha2 ha hsm hnm hT
  go_enter Tryz.func7, Tryz.ntmps7
  repeat ((fail_if_success (with_reducible show Code.wp _ (Code.region 1 _ _) _ _ _)); (first | go_values | go_skip | go_guarded | go_step | go_upon | go_back | go_simp))
  rw [← hW0]
  clear hW0
  go_wp2_with (first
    | (go_at_call 13; refine (implCli_any i t s ed nm L S a1 a2 c1 c2 ws gs C Z a cap es _ (by exact I1.out) (by exact I2.out) hx hy (by exact I3.out) hl SM.out NM.out HT.out).mono ?_; rintro e w1 ⟨rfl, b1⟩; rw [HP.out]; replace X0 := hid (kept X0.out b1); replace B0 := hid (u_cat B0.out b1); replace I1 := hid (I1.out.below b1); replace I2 := hid (I2.out.below b1); replace I3 := hid (I3.out.below b1); replace HT := hid (HT.out.below b1); clear b1 y0 y1 y2 y3 y4 y5 y6 y7 y8 y9 y10 y11; have y0 := box_cell X0.out 0 (v := .int .i64 i) rfl; have y1 := box_cell X0.out 1 (v := .int .i64 t) rfl; have y2 := box_cell X0.out 2 (v := .int .i64 s) rfl; have y3 := box_cell X0.out 3 (v := .string nm) rfl; have y4 := box_cell X0.out 4 (v := .int .i64 ed) rfl; have y5 := box_cell X0.out 5 (v := .int .i64 L) rfl; have y6 := box_cell X0.out 6 (v := .int .i64 S) rfl; have y7 := box_cell X0.out 7 (v := .slice a1 ws.length c1) rfl; have y8 := box_cell X0.out 8 (v := .slice a2 gs.length c2) rfl; have y9 := box_cell X0.out 9 (v := .int .i64 C) rfl; have y10 := box_cell X0.out 10 (v := .int .i64 Z) rfl; have y11 := box_cell X0.out 11 (v := .slice a es.length cap) rfl)
    | (go_at_call 14; refine (implGetText_any L S a1 a2 c1 c2 ws gs C Z a cap es _ (by exact I1.out) (by exact I2.out) hx hy (by exact I3.out) hl SM.out HT.out).mono ?_; rintro e w1 ⟨rfl, b1⟩; replace B0 := hid (u_cat B0.out b1); clear b1))
  go_ret
  exact ⟨rfl, B0.out⟩
theorem specTx_any (i t s ed : Int) (nm : ByteArray) (L S : Int) (a1 a2 : Option Addr) (c1 c2 : Nat) (ws gs : List Int) (C Z : Int) (a : Option Addr) (cap : Nat) (es : List EqV) (w : World) (ha1 : IntsAt w a1 ws) (ha2 : IntsAt w a2 gs) (hx : ws.length ≤ 1048576) (hy : gs.length ≤ 1048576) (ha : EqsAt w a es) (hl : es.length ≤ 1048576) (hsm : SmallE es) (hnm : nm.size ≤ maxLen) :
    Calls Tryz.prog 5 #[.agg #[.int .i64 i, .int .i64 t, .int .i64 s, .string nm, .int .i64 ed, .int .i64 L, .int .i64 S, .slice a1 ws.length c1, .slice a2 gs.length c2, .int .i64 C, .int .i64 Z, .slice a es.length cap]] w fun e w' => e = .returned (.string (cliT i t s ed nm L S ws gs C Z es)) ∧ Below w.heap.size w w' := by
  by_cases hp : cliP i t s ed nm (nonP L S ws.length gs.length C Z es.length) (getP L S ws gs C Z es) (getP L S ws gs C Z es ∧ (es.length : Int) = C)
  · by_cases he : ed = 0
    · subst he
      have hn := hp.2.2.2.2.1 rfl
      rw [show cliT i t s 0 nm L S ws gs C Z es = ⟨#[]⟩ from (if_pos hp).trans (if_neg (non_get hn))]
      exact specTx_zero i t s nm L S a1 a2 c1 c2 ws gs C Z a cap es w ha1 ha2 hx hy ha hl hsm hnm hp
    · have h4 := hp.2.2.2.1
      have hg := hp.2.2.2.2.2.1 (by omega)
      rw [show cliT i t s ed nm L S ws gs C Z es = textOf L S ws gs C Z es from if_pos hp]
      exact specTx_yes i t s ed nm L S a1 a2 c1 c2 ws gs C Z a cap es w ha1 ha2 hx hy ha hl hsm hnm hp he hg
  · rw [show cliT i t s ed nm L S ws gs C Z es = ⟨#[]⟩ from if_neg hp]
    exact specTx_no i t s ed nm L S a1 a2 c1 c2 ws gs C Z a cap es w ha1 ha2 hx hy ha hl hsm hnm hp
theorem implTx_any (i t s ed : Int) (nm : ByteArray) (L S : Int) (a1 a2 : Option Addr) (c1 c2 : Nat) (ws gs : List Int) (C Z : Int) (a : Option Addr) (cap : Nat) (es : List EqV) (w : World) (ha1 : IntsAt w a1 ws) (ha2 : IntsAt w a2 gs) (hx : ws.length ≤ 1048576) (hy : gs.length ≤ 1048576) (ha : EqsAt w a es) (hl : es.length ≤ 1048576) (hsm : SmallE es) (hnm : nm.size ≤ maxLen) (hT : Tab w) :
    Calls Tryz.prog 7 #[.agg #[.int .i64 i, .int .i64 t, .int .i64 s, .string nm, .int .i64 ed, .int .i64 L, .int .i64 S, .slice a1 ws.length c1, .slice a2 gs.length c2, .int .i64 C, .int .i64 Z, .slice a es.length cap]] w fun e w' => e = .returned (.string (cliT i t s ed nm L S ws gs C Z es)) ∧ Below w.heap.size w w' := by
  by_cases hp : cliP i t s ed nm (nonP L S ws.length gs.length C Z es.length) (getP L S ws gs C Z es) (getP L S ws gs C Z es ∧ (es.length : Int) = C)
  · rw [show cliT i t s ed nm L S ws gs C Z es = textOf L S ws gs C Z es from if_pos hp]
    exact implTx_yes i t s ed nm L S a1 a2 c1 c2 ws gs C Z a cap es w ha1 ha2 hx hy ha hl hsm hnm hT hp
  · rw [show cliT i t s ed nm L S ws gs C Z es = ⟨#[]⟩ from if_neg hp]
    exact implTx_no i t s ed nm L S a1 a2 c1 c2 ws gs C Z a cap es w ha1 ha2 hx hy ha hl hsm hnm hT hp
end Go.Proofs.YtfciopjcbeccgaaGreatDoor
