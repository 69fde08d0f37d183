/- Gettings copied by the model. What is known of a thing is the same, wherever it lies. Words by which a client asks, or wants no more. Small words on gettings that the call owns. What is known of a thing, learnt and handed out by the program. A getting, a client copied by the program. Clients copied, by the program and by the model. Clients copied by the model; who asks anew. -/
import Derived.Test.YtbakicgdloakgaaGreatDoorG32
import Derived.Test.YtbakicgdloakgaaGreatDoorG10
import Derived.Test.YtbakicgdloakgaaGreatDoorG31
import Derived.Test.YtbakicgdloakgaaGreatDoorG14
import Derived.Test.YtbakicgdloakgaaGreatDoorG34
import Derived.Test.YtbakicgdloakgaaGreatDoorG24
import Derived.Test.YtbakicgdloakgaaGreatDoorG30
import Derived.Test.YtbakicgdloakgaaGreatDoorG4
import Derived.Test.YtbakicgdloakgaaGreatDoorG11
import Derived.Test.YtbakicgdloakgaaGreatDoorG13
import Derived.Test.YtbakicgdloakgaaGreatDoorG3
import Derived.Test.YtbakicgdloakgaaGreatDoorG40
import Derived.Test.YtbakicgdloakgaaGreatDoorG33
namespace Go.Proofs.YtbakicgdloakgaaGreatDoor
open Go.ChangeShapes Go.WideShapes Go.ChangeAt Go.RowKit Go.Sort Go.Shelf
attribute [local go_sem] Oper.semAt_some

theorem GetOwn.set {w : World} {base : Nat} {ws gs : List Int} {b1 b2 : Option Addr} {d1 d2 : Nat} {a : Option Addr} {c : Nat} {fs : List EqV} (h : GetOwn w base ws gs b1 b2 d1 d2 a c fs) {g : Nat} (hg : g < base) (i : Nat) (u : Value) : GetOwn (w.setCell ⟨g, i, none⟩ u) base ws gs b1 b2 d1 d2 a c fs := by
  obtain ⟨n, h1, h2, h3, h4, h5⟩ := h.up
  exact ⟨owns_set h.o1 hg u, owns_set h.o2 hg u, h.ap, n, h1, h2, h3, owns_set h4 (Nat.lt_of_lt_of_le hg h1) u, h5.set (Nat.lt_of_lt_of_le hg h1) _ _⟩

end Go.Proofs.YtbakicgdloakgaaGreatDoor
namespace Go.Proofs.YtbakicgdloakgaaGreatDoor
open Go.ChangeShapes Go.WideShapes Go.ChangeAt Go.RowKit Go.Sort Go.Shelf

theorem SamV.getP {L S : Int} {ws gs : List Int} {C Z : Int} {es fs : List EqV} (h : SamV fs es) : getP L S ws gs C Z fs ↔ getP L S ws gs C Z es := by
  unfold Go.Proofs.YtbakicgdloakgaaGreatDoor.getP
  rw [h.solver]
end Go.Proofs.YtbakicgdloakgaaGreatDoor
namespace Go.Proofs.YtbakicgdloakgaaGreatDoor
open Go.ChangeShapes Go.WideShapes Go.ChangeAt Go.RowKit Go.Sort Go.Shelf
attribute [local go_sem] Oper.semAt_some

set_option maxHeartbeats 8000000 in
set_option maxRecDepth 100000 in
theorem l13Asks_any (i t s ed : Int) (nm : ByteArray) (L S C Z : Int) (p1 p2 p3 : Option Addr) (n1 n2 n3 k1 k2 k3 : Nat) (w : World) :
    Calls Tryz.prog 27 #[.agg #[.int .i64 i, .int .i64 t, .int .i64 s, .string nm, .int .i64 ed, .int .i64 L, .int .i64 S, .slice p1 n1 k1, .slice p2 n2 k2, .int .i64 C, .int .i64 Z, .slice p3 n3 k3]] w fun e w' => ∃ v, e = .returned v ∧ WsAt w' w.heap.size v (some ⟨1, i, t, ed, 0, nm, ⟨#[]⟩⟩) ∧ Below w.heap.size w w' := by
  obtain ⟨W0, hW0⟩ : ∃ W0, W0 = w.alloc (.cells #[.int .i64 i, .int .i64 t, .int .i64 s, .string nm, .int .i64 ed, .int .i64 L, .int .i64 S, .slice p1 n1 k1, .slice p2 n2 k2, .int .i64 C, .int .i64 Z, .slice p3 n3 k3] 40) := ⟨_, rfl⟩
  have X := hid (show W0.heap[w.heap.size]? = some (.cells #[.int .i64 i, .int .i64 t, .int .i64 s, .string nm, .int .i64 ed, .int .i64 L, .int .i64 S, .slice p1 n1 k1, .slice p2 n2 k2, .int .i64 C, .int .i64 Z, .slice p3 n3 k3] 40 (0, 0)) by rw [hW0]; exact laid _ _ _)
  have B0 := hid (show Below w.heap.size w W0 by rw [hW0]; exact u_b1 _ _)
  have hs0 : w.heap.size ≤ W0.heap.size := B0.out.size
  have y0 := (box_cell X.out 0 (v := .int .i64 i) rfl)
  have y1 := (box_cell X.out 1 (v := .int .i64 t) rfl)
  have y2 := (box_cell X.out 2 (v := .int .i64 s) rfl)
  have y3 := (box_cell X.out 3 (v := .string nm) rfl)
  have y4 := (box_cell X.out 4 (v := .int .i64 ed) rfl)
  have y5 := (box_cell X.out 5 (v := .int .i64 L) rfl)
  have y6 := (box_cell X.out 6 (v := .int .i64 S) rfl)
  have y7 := (box_cell X.out 7 (v := .slice p1 n1 k1) rfl)
  have y8 := (box_cell X.out 8 (v := .slice p2 n2 k2) rfl)
  have y9 := (box_cell X.out 9 (v := .int .i64 C) rfl)
  have y10 := (box_cell X.out 10 (v := .int .i64 Z) rfl)
  have y11 := (box_cell X.out 11 (v := .slice p3 n3 k3) rfl)
  go_enter Tryz.func27, Tryz.ntmps27
  repeat ((fail_if_success (with_reducible show Code.wp _ (Code.region 1 _ _) _ _ _)); (first | go_values | go_skip | go_guarded | go_step | go_upon | go_back | go_simp))
  rw [← hW0]
  clear hW0
  go_wp2_with fail
  go_ret
  exact ⟨_, rfl, .one _ _ _ _ _ _ _ _ _ (by omega) (laid _ _ _), u_cat B0.out (u_b1 _ _)⟩
set_option maxHeartbeats 8000000 in
set_option maxRecDepth 100000 in
theorem ask_any (i t s ed : Int) (nm : ByteArray) (L S C Z : Int) (p1 p2 p3 : Option Addr) (n1 n2 n3 k1 k2 k3 : Nat) (w : World) (hn : nm.size ≤ 281474976710656) :
    Calls Tryz.prog 43 #[.agg #[.int .i64 i, .int .i64 t, .int .i64 s, .string nm, .int .i64 ed, .int .i64 L, .int .i64 S, .slice p1 n1 k1, .slice p2 n2 k2, .int .i64 C, .int .i64 Z, .slice p3 n3 k3]] w fun e w' => ∃ v, e = .returned v ∧ WsAt w' w.heap.size v (some ⟨1, i, t, ed, 0, nm, ⟨#[]⟩⟩) ∧ Below w.heap.size w w' := by
  obtain ⟨W0, hW0⟩ : ∃ W0, W0 = w.alloc (.cells #[.int .i64 i, .int .i64 t, .int .i64 s, .string nm, .int .i64 ed, .int .i64 L, .int .i64 S, .slice p1 n1 k1, .slice p2 n2 k2, .int .i64 C, .int .i64 Z, .slice p3 n3 k3] 40) := ⟨_, rfl⟩
  have X := hid (show W0.heap[w.heap.size]? = some (.cells #[.int .i64 i, .int .i64 t, .int .i64 s, .string nm, .int .i64 ed, .int .i64 L, .int .i64 S, .slice p1 n1 k1, .slice p2 n2 k2, .int .i64 C, .int .i64 Z, .slice p3 n3 k3] 40 (0, 0)) by rw [hW0]; exact laid _ _ _)
  have B0 := hid (show Below w.heap.size w W0 by rw [hW0]; exact u_b1 _ _)
  have hs0 : w.heap.size ≤ W0.heap.size := B0.out.size
  go_enter Tryz.func43, Tryz.ntmps43
  repeat ((fail_if_success (with_reducible show Code.wp _ (Code.region 1 _ _) _ _ _)); (first | go_values | go_skip | go_guarded | go_step | go_upon | go_back | go_simp))
  rw [← hW0]
  clear hW0
  have y0 := cell_regrown (box_cell X.out 0 (v := .int .i64 i) rfl)
  have y1 := cell_regrown (box_cell X.out 1 (v := .int .i64 t) rfl)
  have y2 := cell_regrown (box_cell X.out 2 (v := .int .i64 s) rfl)
  have y3 := cell_regrown (box_cell X.out 3 (v := .string nm) rfl)
  have y4 := cell_regrown (box_cell X.out 4 (v := .int .i64 ed) rfl)
  have y5 := cell_regrown (box_cell X.out 5 (v := .int .i64 L) rfl)
  have y6 := cell_regrown (box_cell X.out 6 (v := .int .i64 S) rfl)
  have y7 := cell_regrown (box_cell X.out 7 (v := .slice p1 n1 k1) rfl)
  have y8 := cell_regrown (box_cell X.out 8 (v := .slice p2 n2 k2) rfl)
  have y9 := cell_regrown (box_cell X.out 9 (v := .int .i64 C) rfl)
  have y10 := cell_regrown (box_cell X.out 10 (v := .int .i64 Z) rfl)
  have y11 := cell_regrown (box_cell X.out 11 (v := .slice p3 n3 k3) rfl)
  refine wp_planz 14 (.pull [(0, 4), (7, 4)] (.step 4 (.pull [(5, 2)] (.step 11 (.step 12 (.pull [(13, 1)] .done)))))) (by kernel_rfl) (by kernel_rfl) ?_
  intro V0 hw0
  have hbq := of_class hw0
  refine plz_pull ?_
  simp only [cutOut, List.take_succ_cons, List.take_zero, List.drop_succ_cons, List.drop_zero, List.nil_append, List.cons_append, List.append_nil]
  repeat (first | go_big_quiet_step (fail) | quiet_step (fail))
  try refine wpQuiet_nil ?_
  clear y0 y1 y2 y3 y4 y5 y6 y7 y8 y9 y10 y11 hw0
  refine plz_step rfl (by omega) (fun K hK => ?_)
  go_simp
  with_reducible refine (clone_all nm V0 hn).mono ?_
  rintro _ V1 ⟨rfl, b1⟩
  refine hK _ _ (class_of (u_cat hbq b1)) ?_
  clear hK K
  refine plz_pull ?_
  simp only [cutOut, List.take_succ_cons, List.take_zero, List.drop_succ_cons, List.drop_zero, List.append_nil]
  repeat (first | go_big_quiet_step (fail) | quiet_step (fail))
  try refine wpQuiet_nil ?_
  refine plz_step rfl (by omega) (fun K hK => ?_)
  go_simp
  with_reducible refine (kindFrom_1 i t ed nm V1).mono ?_
  rintro _ V2 ⟨rfl, b2⟩
  refine hK _ _ (class_of (u_cat (u_cat hbq b1) b2)) ?_
  clear hK K
  have bq := u_cat (u_cat (u_cat B0.out hbq) b1) b2
  refine plz_step rfl (by omega) (fun K hK => ?_)
  go_simp
  refine hK _ _ (class_of (u_cat (u_cat (u_cat hbq b1) b2) (u_b1 _ _))) ?_
  clear hK K
  refine plz_pull ?_
  simp only [cutOut, List.take_succ_cons, List.take_zero, List.drop_succ_cons, List.drop_zero, List.append_nil]
  repeat (first | go_big_quiet_step (fail) | quiet_step (fail))
  try refine wpQuiet_nil ?_
  refine plz_done ?_
  go_wp2_with fail
  go_ret
  have hz := bq.size
  exact ⟨_, rfl, .one _ _ _ _ _ _ _ _ _ (by omega) (laid _ _ _), u_cat bq (u_b1 _ _)⟩
end Go.Proofs.YtbakicgdloakgaaGreatDoor
namespace Go.Proofs.YtbakicgdloakgaaGreatDoor
open Go.ChangeShapes Go.WideShapes Go.ChangeAt Go.RowKit Go.Sort Go.Shelf

theorem getOwn_cap {w : World} {base : Nat} {ws gs : List Int} {b1 b2 : Option Addr} {d1 d2 : Nat} {a : Option Addr} {c : Nat} {fs : List EqV} (h : GetOwn w base ws gs b1 b2 d1 d2 a c fs) : ∀ e ∈ fs, e.a = none → e.c = 0 := by
  obtain ⟨n, _, _, _, _, h2⟩ := h.up
  exact fun e he => owns_cap (h2 e he)
end Go.Proofs.YtbakicgdloakgaaGreatDoor
namespace Go.Proofs.YtbakicgdloakgaaGreatDoor
open Go.ChangeShapes Go.WideShapes Go.ChangeAt Go.RowKit Go.Sort Go.Shelf
attribute [local go_sem] Oper.semAt_some

theorem ListAt.below {w w' : World} {sb so base : Nat} {cs : Option Addr → Array Value} {ct : TypeId} {c z : Int} {ls : List Lk} (h : ListAt w sb so base cs ct c z ls) (hb : Below w.heap.size w w') : ListAt w' sb so base cs ct c z ls :=
  ⟨kept h.box hb, h.at'.below hb, h.ok, h.byt, h.low, h.sb_⟩

end Go.Proofs.YtbakicgdloakgaaGreatDoor
namespace Go.Proofs.YtbakicgdloakgaaGreatDoor
open Go.ChangeShapes Go.WideShapes Go.ChangeAt Go.RowKit Go.Sort Go.Shelf
attribute [local go_sem] Oper.semAt_some

end Go.Proofs.YtbakicgdloakgaaGreatDoor
namespace Go.Proofs.YtbakicgdloakgaaGreatDoor
open Go.ChangeShapes Go.WideShapes Go.ChangeAt Go.RowKit Go.Sort Go.Shelf
attribute [local go_sem] Oper.semAt_some

theorem cli_name {i t s ed : Int} {nm : ByteArray} {non get done : Prop} (h : cliP i t s ed nm non get done) : nm.size ≤ 6 := by
  by_cases h0 : s = 0
  · rw [(h.2.2.2.2.2.2.1 h0).1]; decide
  · have h1 := (h.2.2.2.2.2.2.2.1 h0).2
    unfold nameB at h1
    simp only [Bool.and_eq_true, decide_eq_true_eq] at h1
    omega
end Go.Proofs.YtbakicgdloakgaaGreatDoor
namespace Go.Proofs.YtbakicgdloakgaaGreatDoor
open Go.ChangeShapes Go.WideShapes Go.ChangeAt Go.RowKit Go.Sort Go.Shelf
attribute [local go_sem] Oper.semAt_some

end Go.Proofs.YtbakicgdloakgaaGreatDoor
