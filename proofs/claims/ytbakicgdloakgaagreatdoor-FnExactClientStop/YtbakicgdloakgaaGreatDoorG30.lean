/- What is known of a thing is the same, wherever it lies. Words by which a client asks, or wants no more. Small words on gettings that the call owns. What is known of a thing, learnt and handed out by the program. -/
import Derived.Test.YtbakicgdloakgaaGreatDoorG24
import Derived.Test.YtbakicgdloakgaaGreatDoorG16
import Derived.Test.YtbakicgdloakgaaGreatDoorG20
import Derived.Test.YtbakicgdloakgaaGreatDoorG2
import Derived.Test.YtbakicgdloakgaaGreatDoorG6
import Derived.Test.YtbakicgdloakgaaGreatDoorG8
import Derived.Test.YtbakicgdloakgaaGreatDoorG1
import Derived.Test.YtbakicgdloakgaaGreatDoorG23
import Derived.Test.YtbakicgdloakgaaGreatDoorG22
import Derived.Test.YtbakicgdloakgaaGreatDoorG9
import Derived.Test.YtbakicgdloakgaaGreatDoorG5
namespace Go.Proofs.YtbakicgdloakgaaGreatDoor
open Go.ChangeShapes Go.WideShapes Go.ChangeAt Go.RowKit Go.Sort Go.Shelf

theorem SamV.getP {L S : Int} {ws gs : List Int} {C Z : Int} {es fs : List EqV} (h : SamV fs es) : getP L S ws gs C Z fs ↔ getP L S ws gs C Z es := by
  unfold Go.Proofs.YtbakicgdloakgaaGreatDoor.getP
  rw [h.solver]
end Go.Proofs.YtbakicgdloakgaaGreatDoor
namespace Go.Proofs.YtbakicgdloakgaaGreatDoor
open Go.ChangeShapes Go.WideShapes Go.ChangeAt Go.RowKit Go.Sort Go.Shelf
attribute [local go_sem] Oper.semAt_some

set_option maxHeartbeats 8000000 in
set_option maxRecDepth 100000 in
theorem l13Asks_any (i t s ed : Int) (nm : ByteArray) (L S C Z : Int) (p1 p2 p3 : Option Addr) (n1 n2 n3 k1 k2 k3 : Nat) (w : World) :
    Calls Tryz.prog 27 #[.agg #[.int .i64 i, .int .i64 t, .int .i64 s, .string nm, .int .i64 ed, .int .i64 L, .int .i64 S, .slice p1 n1 k1, .slice p2 n2 k2, .int .i64 C, .int .i64 Z, .slice p3 n3 k3]] w fun e w' => ∃ v, e = .returned v ∧ WsAt w' w.heap.size v (some ⟨1, i, t, ed, 0, nm, ⟨#[]⟩⟩) ∧ Below w.heap.size w w' := by
  obtain ⟨W0, hW0⟩ : ∃ W0, W0 = w.alloc (.cells #[.int .i64 i, .int .i64 t, .int .i64 s, .string nm, .int .i64 ed, .int .i64 L, .int .i64 S, .slice p1 n1 k1, .slice p2 n2 k2, .int .i64 C, .int .i64 Z, .slice p3 n3 k3] 40) := ⟨_, rfl⟩
  have X := hid (show W0.heap[w.heap.size]? = some (.cells #[.int .i64 i, .int .i64 t, .int .i64 s, .string nm, .int .i64 ed, .int .i64 L, .int .i64 S, .slice p1 n1 k1, .slice p2 n2 k2, .int .i64 C, .int .i64 Z, .slice p3 n3 k3] 40 (0, 0)) by rw [hW0]; exact laid _ _ _)
  have B0 := hid (show Below w.heap.size w W0 by rw [hW0]; exact u_b1 _ _)
  have hs0 : w.heap.size ≤ W0.heap.size := B0.out.size
  have y0 := (box_cell X.out 0 (v := .int .i64 i) rfl)
  have y1 := (box_cell X.out 1 (v := .int .i64 t) rfl)
  have y2 := (box_cell X.out 2 (v := .int .i64 s) rfl)
  have y3 := (box_cell X.out 3 (v := .string nm) rfl)
  have y4 := (box_cell X.out 4 (v := .int .i64 ed) rfl)
  have y5 := (box_cell X.out 5 (v := .int .i64 L) rfl)
  have y6 := (box_cell X.out 6 (v := .int .i64 S) rfl)
  have y7 := (box_cell X.out 7 (v := .slice p1 n1 k1) rfl)
  have y8 := (box_cell X.out 8 (v := .slice p2 n2 k2) rfl)
  have y9 := (box_cell X.out 9 (v := .int .i64 C) rfl)
  have y10 := (box_cell X.out 10 (v := .int .i64 Z) rfl)
  have y11 := (box_cell X.out 11 (v := .slice p3 n3 k3) rfl)
  go_enter Tryz.func27, Tryz.ntmps27
  repeat ((fail_if_success (with_reducible show Code.wp _ (Code.region 1 _ _) _ _ _)); (first | go_values | go_skip | go_guarded | go_step | go_upon | go_back | go_simp))
  rw [← hW0]
  clear hW0
  go_wp2_with fail
  go_ret
  exact ⟨_, rfl, .one _ _ _ _ _ _ _ _ _ (by omega) (laid _ _ _), u_cat B0.out (u_b1 _ _)⟩
set_option maxHeartbeats 8000000 in
set_option maxRecDepth 100000 in
theorem l13Done_yes (i t s ed : Int) (nm : ByteArray) (L S C Z : Int) (p1 p2 p3 : Option Addr) (n1 n2 n3 k1 k2 k3 : Nat) (w : World) (he : ed ≠ 0) :
    Calls Tryz.prog 39 #[.agg #[.int .i64 i, .int .i64 t, .int .i64 s, .string nm, .int .i64 ed, .int .i64 L, .int .i64 S, .slice p1 n1 k1, .slice p2 n2 k2, .int .i64 C, .int .i64 Z, .slice p3 n3 k3]] w fun e w' => ∃ v, e = .returned v ∧ WsAt w' w.heap.size v (some ⟨5, i, t, ed, 0, ⟨#[]⟩, ⟨#[]⟩⟩) ∧ Below w.heap.size w w' := by
  obtain ⟨W0, hW0⟩ : ∃ W0, W0 = w.alloc (.cells #[.int .i64 i, .int .i64 t, .int .i64 s, .string nm, .int .i64 ed, .int .i64 L, .int .i64 S, .slice p1 n1 k1, .slice p2 n2 k2, .int .i64 C, .int .i64 Z, .slice p3 n3 k3] 40) := ⟨_, rfl⟩
  have X := hid (show W0.heap[w.heap.size]? = some (.cells #[.int .i64 i, .int .i64 t, .int .i64 s, .string nm, .int .i64 ed, .int .i64 L, .int .i64 S, .slice p1 n1 k1, .slice p2 n2 k2, .int .i64 C, .int .i64 Z, .slice p3 n3 k3] 40 (0, 0)) by rw [hW0]; exact laid _ _ _)
  have B0 := hid (show Below w.heap.size w W0 by rw [hW0]; exact u_b1 _ _)
  have hs0 : w.heap.size ≤ W0.heap.size := B0.out.size
  have be : (ed == 0) = false := beq_eq_false_iff_ne.2 he
  have y0 := (box_cell X.out 0 (v := .int .i64 i) rfl)
  have y1 := (box_cell X.out 1 (v := .int .i64 t) rfl)
  have y2 := (box_cell X.out 2 (v := .int .i64 s) rfl)
  have y3 := (box_cell X.out 3 (v := .string nm) rfl)
  have y4 := (box_cell X.out 4 (v := .int .i64 ed) rfl)
  have y5 := (box_cell X.out 5 (v := .int .i64 L) rfl)
  have y6 := (box_cell X.out 6 (v := .int .i64 S) rfl)
  have y7 := (box_cell X.out 7 (v := .slice p1 n1 k1) rfl)
  have y8 := (box_cell X.out 8 (v := .slice p2 n2 k2) rfl)
  have y9 := (box_cell X.out 9 (v := .int .i64 C) rfl)
  have y10 := (box_cell X.out 10 (v := .int .i64 Z) rfl)
  have y11 := (box_cell X.out 11 (v := .slice p3 n3 k3) rfl)
  go_enter Tryz.func39, Tryz.ntmps39
  repeat ((fail_if_success (with_reducible show Code.wp _ (Code.region 1 _ _) _ _ _)); (first | go_values | go_skip | go_guarded | go_step | go_upon | go_back | go_simp))
  rw [← hW0]
  clear hW0
  go_wp2_with fail
  go_ret
  exact ⟨_, rfl, .one _ _ _ _ _ _ _ _ _ (by omega) (laid _ _ _), u_cat B0.out (u_b1 _ _)⟩
set_option maxHeartbeats 8000000 in
set_option maxRecDepth 100000 in
theorem l13Done_no (i t s : Int) (nm : ByteArray) (L S C Z : Int) (p1 p2 p3 : Option Addr) (n1 n2 n3 k1 k2 k3 : Nat) (w : World) :
    Calls Tryz.prog 39 #[.agg #[.int .i64 i, .int .i64 t, .int .i64 s, .string nm, .int .i64 0, .int .i64 L, .int .i64 S, .slice p1 n1 k1, .slice p2 n2 k2, .int .i64 C, .int .i64 Z, .slice p3 n3 k3]] w fun e w' => ∃ v, e = .returned v ∧ WsAt w' w.heap.size v none ∧ Below w.heap.size w w' := by
  obtain ⟨W0, hW0⟩ : ∃ W0, W0 = w.alloc (.cells #[.int .i64 i, .int .i64 t, .int .i64 s, .string nm, .int .i64 0, .int .i64 L, .int .i64 S, .slice p1 n1 k1, .slice p2 n2 k2, .int .i64 C, .int .i64 Z, .slice p3 n3 k3] 40) := ⟨_, rfl⟩
  have X := hid (show W0.heap[w.heap.size]? = some (.cells #[.int .i64 i, .int .i64 t, .int .i64 s, .string nm, .int .i64 0, .int .i64 L, .int .i64 S, .slice p1 n1 k1, .slice p2 n2 k2, .int .i64 C, .int .i64 Z, .slice p3 n3 k3] 40 (0, 0)) by rw [hW0]; exact laid _ _ _)
  have B0 := hid (show Below w.heap.size w W0 by rw [hW0]; exact u_b1 _ _)
  have hs0 : w.heap.size ≤ W0.heap.size := B0.out.size
  have y0 := (box_cell X.out 0 (v := .int .i64 i) rfl)
  have y1 := (box_cell X.out 1 (v := .int .i64 t) rfl)
  have y2 := (box_cell X.out 2 (v := .int .i64 s) rfl)
  have y3 := (box_cell X.out 3 (v := .string nm) rfl)
  have y4 := (box_cell X.out 4 (v := .int .i64 0) rfl)
  have y5 := (box_cell X.out 5 (v := .int .i64 L) rfl)
  have y6 := (box_cell X.out 6 (v := .int .i64 S) rfl)
  have y7 := (box_cell X.out 7 (v := .slice p1 n1 k1) rfl)
  have y8 := (box_cell X.out 8 (v := .slice p2 n2 k2) rfl)
  have y9 := (box_cell X.out 9 (v := .int .i64 C) rfl)
  have y10 := (box_cell X.out 10 (v := .int .i64 Z) rfl)
  have y11 := (box_cell X.out 11 (v := .slice p3 n3 k3) rfl)
  go_enter Tryz.func39, Tryz.ntmps39
  repeat ((fail_if_success (with_reducible show Code.wp _ (Code.region 1 _ _) _ _ _)); (first | go_values | go_skip | go_guarded | go_step | go_upon | go_back | go_simp))
  rw [← hW0]
  clear hW0
  go_wp2_with fail
  go_ret
  exact ⟨_, rfl, .none _ _ (fun g hg => by cases hg; exact ⟨by omega, by simp⟩), u_cat B0.out (u_b1 _ _)⟩
set_option maxHeartbeats 8000000 in
set_option maxRecDepth 100000 in
theorem ask_any (i t s ed : Int) (nm : ByteArray) (L S C Z : Int) (p1 p2 p3 : Option Addr) (n1 n2 n3 k1 k2 k3 : Nat) (w : World) (hn : nm.size ≤ 281474976710656) :
    Calls Tryz.prog 43 #[.agg #[.int .i64 i, .int .i64 t, .int .i64 s, .string nm, .int .i64 ed, .int .i64 L, .int .i64 S, .slice p1 n1 k1, .slice p2 n2 k2, .int .i64 C, .int .i64 Z, .slice p3 n3 k3]] w fun e w' => ∃ v, e = .returned v ∧ WsAt w' w.heap.size v (some ⟨1, i, t, ed, 0, nm, ⟨#[]⟩⟩) ∧ Below w.heap.size w w' := by
  obtain ⟨W0, hW0⟩ : ∃ W0, W0 = w.alloc (.cells #[.int .i64 i, .int .i64 t, .int .i64 s, .string nm, .int .i64 ed, .int .i64 L, .int .i64 S, .slice p1 n1 k1, .slice p2 n2 k2, .int .i64 C, .int .i64 Z, .slice p3 n3 k3] 40) := ⟨_, rfl⟩
  have X := hid (show W0.heap[w.heap.size]? = some (.cells #[.int .i64 i, .int .i64 t, .int .i64 s, .string nm, .int .i64 ed, .int .i64 L, .int .i64 S, .slice p1 n1 k1, .slice p2 n2 k2, .int .i64 C, .int .i64 Z, .slice p3 n3 k3] 40 (0, 0)) by rw [hW0]; exact laid _ _ _)
  have B0 := hid (show Below w.heap.size w W0 by rw [hW0]; exact u_b1 _ _)
  have hs0 : w.heap.size ≤ W0.heap.size := B0.out.size
  go_enter Tryz.func43, Tryz.ntmps43
  repeat ((fail_if_success (with_reducible show Code.wp _ (Code.region 1 _ _) _ _ _)); (first | go_values | go_skip | go_guarded | go_step | go_upon | go_back | go_simp))
  rw [← hW0]
  clear hW0
  have y0 := cell_regrown (box_cell X.out 0 (v := .int .i64 i) rfl)
  have y1 := cell_regrown (box_cell X.out 1 (v := .int .i64 t) rfl)
  have y2 := cell_regrown (box_cell X.out 2 (v := .int .i64 s) rfl)
  have y3 := cell_regrown (box_cell X.out 3 (v := .string nm) rfl)
  have y4 := cell_regrown (box_cell X.out 4 (v := .int .i64 ed) rfl)
  have y5 := cell_regrown (box_cell X.out 5 (v := .int .i64 L) rfl)
  have y6 := cell_regrown (box_cell X.out 6 (v := .int .i64 S) rfl)
  have y7 := cell_regrown (box_cell X.out 7 (v := .slice p1 n1 k1) rfl)
  have y8 := cell_regrown (box_cell X.out 8 (v := .slice p2 n2 k2) rfl)
  have y9 := cell_regrown (box_cell X.out 9 (v := .int .i64 C) rfl)
  have y10 := cell_regrown (box_cell X.out 10 (v := .int .i64 Z) rfl)
  have y11 := cell_regrown (box_cell X.out 11 (v := .slice p3 n3 k3) rfl)
  refine wp_planz 14 (.pull [(0, 4), (7, 4)] (.step 4 (.pull [(5, 2)] (.step 11 (.step 12 (.pull [(13, 1)] .done)))))) (by kernel_rfl) (by kernel_rfl) ?_
  intro V0 hw0
  have hbq := of_class hw0
  refine plz_pull ?_
  simp only [cutOut, List.take_succ_cons, List.take_zero, List.drop_succ_cons, List.drop_zero, List.nil_append, List.cons_append, List.append_nil]
  repeat (first | go_big_quiet_step (fail) | quiet_step (fail))
  try refine wpQuiet_nil ?_
  clear y0 y1 y2 y3 y4 y5 y6 y7 y8 y9 y10 y11 hw0
  refine plz_step rfl (by omega) (fun K hK => ?_)
  go_simp
  with_reducible refine (clone_all nm V0 hn).mono ?_
  rintro _ V1 ⟨rfl, b1⟩
  refine hK _ _ (class_of (u_cat hbq b1)) ?_
  clear hK K
  refine plz_pull ?_
  simp only [cutOut, List.take_succ_cons, List.take_zero, List.drop_succ_cons, List.drop_zero, List.append_nil]
  repeat (first | go_big_quiet_step (fail) | quiet_step (fail))
  try refine wpQuiet_nil ?_
  refine plz_step rfl (by omega) (fun K hK => ?_)
  go_simp
  with_reducible refine (kindFrom_1 i t ed nm V1).mono ?_
  rintro _ V2 ⟨rfl, b2⟩
  refine hK _ _ (class_of (u_cat (u_cat hbq b1) b2)) ?_
  clear hK K
  have bq := u_cat (u_cat (u_cat B0.out hbq) b1) b2
  refine plz_step rfl (by omega) (fun K hK => ?_)
  go_simp
  refine hK _ _ (class_of (u_cat (u_cat (u_cat hbq b1) b2) (u_b1 _ _))) ?_
  clear hK K
  refine plz_pull ?_
  simp only [cutOut, List.take_succ_cons, List.take_zero, List.drop_succ_cons, List.drop_zero, List.append_nil]
  repeat (first | go_big_quiet_step (fail) | quiet_step (fail))
  try refine wpQuiet_nil ?_
  refine plz_done ?_
  go_wp2_with fail
  go_ret
  have hz := bq.size
  exact ⟨_, rfl, .one _ _ _ _ _ _ _ _ _ (by omega) (laid _ _ _), u_cat bq (u_b1 _ _)⟩
set_option maxHeartbeats 8000000 in
set_option maxRecDepth 100000 in
theorem sayDone_any (i t s ed : Int) (nm : ByteArray) (L S C Z : Int) (p1 p2 p3 : Option Addr) (n1 n2 n3 k1 k2 k3 : Nat) (w : World) :
    Calls Tryz.prog 41 #[.agg #[.int .i64 i, .int .i64 t, .int .i64 s, .string nm, .int .i64 ed, .int .i64 L, .int .i64 S, .slice p1 n1 k1, .slice p2 n2 k2, .int .i64 C, .int .i64 Z, .slice p3 n3 k3]] w fun e w' => ∃ v, e = .returned v ∧ WsAt w' w.heap.size v (some ⟨5, i, t, ed, 0, ⟨#[]⟩, ⟨#[]⟩⟩) ∧ Below w.heap.size w w' := by
  obtain ⟨W0, hW0⟩ : ∃ W0, W0 = w.alloc (.cells #[.int .i64 i, .int .i64 t, .int .i64 s, .string nm, .int .i64 ed, .int .i64 L, .int .i64 S, .slice p1 n1 k1, .slice p2 n2 k2, .int .i64 C, .int .i64 Z, .slice p3 n3 k3] 40) := ⟨_, rfl⟩
  have X := hid (show W0.heap[w.heap.size]? = some (.cells #[.int .i64 i, .int .i64 t, .int .i64 s, .string nm, .int .i64 ed, .int .i64 L, .int .i64 S, .slice p1 n1 k1, .slice p2 n2 k2, .int .i64 C, .int .i64 Z, .slice p3 n3 k3] 40 (0, 0)) by rw [hW0]; exact laid _ _ _)
  have B0 := hid (show Below w.heap.size w W0 by rw [hW0]; exact u_b1 _ _)
  have hs0 : w.heap.size ≤ W0.heap.size := B0.out.size
  have y0 := (box_cell X.out 0 (v := .int .i64 i) rfl)
  have y1 := (box_cell X.out 1 (v := .int .i64 t) rfl)
  have y2 := (box_cell X.out 2 (v := .int .i64 s) rfl)
  have y3 := (box_cell X.out 3 (v := .string nm) rfl)
  have y4 := (box_cell X.out 4 (v := .int .i64 ed) rfl)
  have y5 := (box_cell X.out 5 (v := .int .i64 L) rfl)
  have y6 := (box_cell X.out 6 (v := .int .i64 S) rfl)
  have y7 := (box_cell X.out 7 (v := .slice p1 n1 k1) rfl)
  have y8 := (box_cell X.out 8 (v := .slice p2 n2 k2) rfl)
  have y9 := (box_cell X.out 9 (v := .int .i64 C) rfl)
  have y10 := (box_cell X.out 10 (v := .int .i64 Z) rfl)
  have y11 := (box_cell X.out 11 (v := .slice p3 n3 k3) rfl)
  go_enter Tryz.func41, Tryz.ntmps41
  repeat ((fail_if_success (with_reducible show Code.wp _ (Code.region 1 _ _) _ _ _)); (first | go_values | go_skip | go_guarded | go_step | go_upon | go_back | go_simp))
  rw [← hW0]
  clear hW0
  go_wp2_with (go_at_call 65; refine (kindFrom_5 i t ed 0 _).mono ?_; rintro r w1 ⟨rfl, b1⟩; have bq := hid (u_cat B0.out b1); clear b1)
  go_ret
  have hz := bq.out.size
  exact ⟨_, rfl, .one _ _ _ _ _ _ _ _ _ (by omega) (laid _ _ _), u_cat bq.out (u_b1 _ _)⟩
end Go.Proofs.YtbakicgdloakgaaGreatDoor
namespace Go.Proofs.YtbakicgdloakgaaGreatDoor
open Go.ChangeShapes Go.WideShapes Go.ChangeAt Go.RowKit Go.Sort Go.Shelf

theorem vals_smallG {gs : List EqV} {vs : List Vl} (h : valsE gs = vs) (hv : ∀ k ∈ vs, k.1.length ≤ 1048576 ∧ k.2.size ≤ 1048576) : SmallE gs := fun g hg => hv (g.r, g.d) (by rw [← h]; exact List.mem_map_of_mem hg)
theorem getOwn_cap {w : World} {base : Nat} {ws gs : List Int} {b1 b2 : Option Addr} {d1 d2 : Nat} {a : Option Addr} {c : Nat} {fs : List EqV} (h : GetOwn w base ws gs b1 b2 d1 d2 a c fs) : ∀ e ∈ fs, e.a = none → e.c = 0 := by
  obtain ⟨n, _, _, _, _, h2⟩ := h.up
  exact fun e he => owns_cap (h2 e he)
end Go.Proofs.YtbakicgdloakgaaGreatDoor
namespace Go.Proofs.YtbakicgdloakgaaGreatDoor
open Go.ChangeShapes Go.WideShapes Go.ChangeAt Go.RowKit Go.Sort Go.Shelf
attribute [local go_sem] Oper.semAt_some

/-- The cells of a getting that the program goes on with. -/
def knC (L S : Int) (v1 v2 : Value) (C Z : Int) (p : Option Addr) : Array Value := #[.int .i64 L, .int .i64 S, v1, v2, .int .i64 C, .int .i64 Z, .pointer p]
theorem knBx (L S : Int) (v1 v2 : Value) (C Z : Int) : Bx (knC L S v1 v2 C Z) 111 4 C Z := ⟨fun _ => rfl, fun _ => rfl, fun _ => rfl, fun _ _ => rfl, L, fun _ => rfl⟩

theorem ListAt.below {w w' : World} {sb so base : Nat} {cs : Option Addr → Array Value} {ct : TypeId} {c z : Int} {ls : List Lk} (h : ListAt w sb so base cs ct c z ls) (hb : Below w.heap.size w w') : ListAt w' sb so base cs ct c z ls :=
  ⟨kept h.box hb, h.at'.below hb, h.ok, h.byt, h.low, h.sb_⟩

set_option maxHeartbeats 4000000 in
set_option maxRecDepth 100000 in
/-- Handed out. -/
theorem getting_any (kb base : Nat) (L S C Z : Int) (b1 b2 : Option Addr) (n1 n2 d1 d2 : Nat) (ls : List Lk) (w : World) (hI : ListAt w kb 4 base (knC L S (.slice b1 n1 d1) (.slice b2 n2 d2) C Z) 111 C Z ls) (hc : 0 ≤ C) (hc2 : C ≤ 24) (hz : Z ≤ 16) (hT : Tab w) :
    Calls Tryz.prog 78 #[.pointer (some ⟨kb, 0, none⟩)] w fun e w' => ∃ a' c' gs, e = .returned (.agg #[.int .i64 L, .int .i64 S, (.slice b1 n1 d1), (.slice b2 n2 d2), .int .i64 C, .int .i64 Z, .slice a' gs.length c']) ∧ w'.ownsRow (w.heap.size + 1) 124 2 (.slice a' gs.length c') gs.length (eqCells gs) ∧ valsE gs = valsL ls ∧ RowsOwn w' (w.heap.size + 1) gs ∧ RowsAp gs ∧ Below w.heap.size w w' := by
  obtain ⟨W0, hW0⟩ : ∃ W0, W0 = w.alloc (.cells #[.int .i64 0, .int .i64 0, .slice none 0 0, .slice none 0 0, .int .i64 0, .int .i64 0, .slice none 0 0] 38) := ⟨_, rfl⟩
  have b0 : Below w.heap.size w W0 := by rw [hW0]; exact u_b1 _ _
  have X0 := hid (show W0.heap[w.heap.size]? = some (.cells #[.int .i64 0, .int .i64 0, .slice none 0 0, .slice none 0 0, .int .i64 0, .int .i64 0, .slice none 0 0] 38 (0, 0)) by rw [hW0]; exact laid _ _ _)
  have hs0 : w.heap.size + 1 ≤ W0.heap.size := by rw [hW0]; simp
  have HI := hid (hI.below b0)
  have HB := hid b0
  have HT := hid (hT.below b0)
  have hkw := lt_of_block hI.box
  clear hI hT b0
  go_enter Tryz.func78, Tryz.ntmps78
  repeat ((fail_if_success (with_reducible show Code.wp _ (Code.region 1 _ _) _ _ _)); (first | go_values | go_skip | go_guarded | go_step | go_upon | go_back | go_simp))
  rw [← hW0]
  clear hW0
  have y0 := cell_regrown (box_cell HI.out.box 0 (v := .int .i64 L) rfl)
  have y1 := cell_regrown (box_cell HI.out.box 1 (v := .int .i64 S) rfl)
  have y2 := cell_regrown (box_cell HI.out.box 2 (v := (.slice b1 n1 d1)) rfl)
  have y3 := cell_regrown (box_cell HI.out.box 3 (v := (.slice b2 n2 d2)) rfl)
  refine wp_plan 9 (.pull [(0, 7)] (.step 7 (.step 8 (.step 9 .done)))) (by kernel_rfl) (by kernel_rfl) ?_
  intro V0 hw0
  have hbq := of_class hw0
  refine pln_pull ?_
  simp only [cutOut, List.take_succ_cons, List.take_zero, List.drop_zero, List.append_nil]
  repeat (first | go_big_quiet_step (fail) | quiet_step (fail))
  try refine wpQuiet_nil ?_
  clear y0 y1 y2 y3
  refine pln_step rfl (by omega) (fun K hK => ?_)
  go_simp
  with_reducible refine (out_at kb 4 base (knC L S (.slice b1 n1 d1) (.slice b2 n2 d2) C Z) 111 C Z (knBx L S (.slice b1 n1 d1) (.slice b2 n2 d2) C Z) ls V0 (HI.out.below hbq) hc hc2 hz (HT.out.below hbq)).mono ?_
  rintro _ V1 ⟨a', c', gs, rfl, o1, s1, r1, p1, bb⟩
  refine hK _ _ (class_of (u_cat hbq bb)) ?_
  clear hK K
  have X1 := hid (kept (kept X0.out hbq) bb)
  have B1 := hid (u_cat (u_cat HB.out hbq) bb)
  have hs1 := hbq.size
  have hs2 := bb.size
  have O1 := hid o1
  have S1 := hid s1
  have R1 := hid r1
  have P1 := hid p1
  have hcl := u_cat hbq bb
  clear o1 s1 r1 p1 bb
  refine pln_step rfl (by omega) (fun K hK => ?_)
  go_simp
  refine hK _ _ (class_of hcl) ?_
  clear hK K
  have zr := box_frozen X1.out
  have s0 := box_cell X1.out 0 (v := .int .i64 0) rfl
  have s1 := box_cell X1.out 1 (v := .int .i64 0) rfl
  have s2 := box_cell X1.out 2 (v := .slice none 0 0) rfl
  have s3 := box_cell X1.out 3 (v := .slice none 0 0) rfl
  have s4 := box_cell X1.out 4 (v := .int .i64 0) rfl
  have s5 := box_cell X1.out 5 (v := .int .i64 0) rfl
  have s6 := box_cell X1.out 6 (v := .slice none 0 0) rfl
  have lr := lt_of_block X1.out
  refine pln_last rfl (by omega) (fun K hK => ?_)
  go_simp
  refine hK _ _ ?_
  clear hK K
  refine pln_done ?_
  have Y := set_block (set_block (set_block (set_block (set_block (set_block (set_block (X1.out) 0 (.int .i64 L)) 1 (.int .i64 S)) 2 (.slice b1 n1 d1)) 3 (.slice b2 n2 d2)) 4 (.int .i64 C)) 5 (.int .i64 Z)) 6 (.slice a' gs.length c')
  have y0 := box_cell Y 0 (v := .int .i64 L) (by simp)
  have y1 := box_cell Y 1 (v := .int .i64 S) (by simp)
  have y2 := box_cell Y 2 (v := (.slice b1 n1 d1)) (by simp)
  have y3 := box_cell Y 3 (v := (.slice b2 n2 d2)) (by simp)
  have y4 := box_cell Y 4 (v := .int .i64 C) (by simp)
  have y5 := box_cell Y 5 (v := .int .i64 Z) (by simp)
  have y6 := box_cell Y 6 (v := .slice a' gs.length c') (by simp)
  clear s0 s1 s2 s3 s4 s5 s6 zr lr Y hcl hbq
  go_wp2_with fail
  refine bodyPost_ret (v := .agg #[.int .i64 L, .int .i64 S, (.slice b1 n1 d1), (.slice b2 n2 d2), .int .i64 C, .int .i64 Z, .slice a' gs.length c']) ?_ rfl ⟨a', c', gs, rfl, ?_, S1.out, ?_, P1.out, ?_⟩
  · unfold results; rw [Tryz.results78]; simp [go_sem, y0, y1, y2, y3, y4, y5, y6]
  · exact owns_base (owns_set (owns_set (owns_set (owns_set (owns_set (owns_set (owns_set O1.out (by simp; omega) _) (by simp; omega) _) (by simp; omega) _) (by simp; omega) _) (by simp; omega) _) (by simp; omega) _) (by simp; omega) _) (by omega)
  · exact (RowsOwn.set (RowsOwn.set (RowsOwn.set (RowsOwn.set (RowsOwn.set (RowsOwn.set (RowsOwn.set R1.out (by omega) _ _) (by omega) _ _) (by omega) _ _) (by omega) _ _) (by omega) _ _) (by omega) _ _) (by omega) _ _).mono (by omega)
  · exact u_set (u_set (u_set (u_set (u_set (u_set (u_set B1.out (by simp) _ _) (by simp) _ _) (by simp) _ _) (by simp) _ _) (by simp) _ _) (by simp) _ _) (by simp) _ _

end Go.Proofs.YtbakicgdloakgaaGreatDoor
