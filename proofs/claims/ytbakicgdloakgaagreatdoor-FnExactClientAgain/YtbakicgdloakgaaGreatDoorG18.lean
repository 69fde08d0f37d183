/- Clients in the laws: measured, laid anew, the same. An equation without the first numbers of those that are known, by the model. Clients laid anew, as the laws do it. Clients that are the same, as the laws compare them; a client that came in. Facts about rows and noughts, ahead of what the model says of a row. What is left of a row has no first number of those that are known; a row put together with one that has no less a first number keeps its own. The code of an equation of no block, by the program. -/
import Derived.Test.YtbakicgdloakgaaGreatDoorG17
import Derived.Test.YtbakicgdloakgaaGreatDoorG5
import Derived.Test.YtbakicgdloakgaaGreatDoorG16
import Derived.Test.YtbakicgdloakgaaGreatDoorG14
import Derived.Test.YtbakicgdloakgaaGreatDoorG3
import Derived.Test.YtbakicgdloakgaaGreatDoorG6
import Derived.Test.YtbakicgdloakgaaGreatDoorG7
import Derived.Test.YtbakicgdloakgaaGreatDoorG4
import Derived.Test.YtbakicgdloakgaaGreatDoorG8
namespace Go.Proofs.YtbakicgdloakgaaGreatDoor
open Go.ChangeShapes Go.WideShapes Go.ChangeAt Go.RowKit Go.Sort Go.Shelf
attribute [local go_sem] Oper.semAt_some

set_option maxRecDepth 100000 in
set_option maxHeartbeats 1000000 in
theorem szGetting_le (L S : Int) (a1 a2 : Option Addr) (n1 c1 n2 c2 : Nat) (C Z : Int) (a : Option Addr) (cap : Nat) (es : List EqV) (left : Int) (w : World) (hn1 : n1 ≤ 9223372036854775807) (hn2 : n2 ≤ 9223372036854775807) (ha : EqsAt w a es) (hn : es.length ≤ 9223372036854775807) (hL : LongE es) (l0 : 0 ≤ left) (l1 : left ≤ 1048576) :
    Calls Tryz.prog 23 #[.agg #[.int .i64 L, .int .i64 S, .slice a1 n1 c1, .slice a2 n2 c2, .int .i64 C, .int .i64 Z, .slice a es.length cap], .int .i64 left] w fun e w' => ∃ v : Int, e = .returned (.int .i64 v) ∧ szP (n1 + n2 ≤ 1048576 ∧ es.length ≤ 1048576 ∧ SmallE es) 1048576 v ∧ Below w.heap.size w w' := by
  have HA := hid ha
  clear ha
  have HX := hid (laid w #[.int .i64 L, .int .i64 S, .slice a1 n1 c1, .slice a2 n2 c2, .int .i64 C, .int .i64 Z, .slice a es.length cap] 29)
  by_cases h : left - ((n1 + n2 : Nat) : Int) < 0
  · have e1 := hid (show szI left (n1 + n2) = -1 by unfold szI; rw [if_pos h])
    go_enter Tryz.func23, Tryz.ntmps23
    go_wp2_with fail
    refine (szPlan_any L S a1 a2 n1 c1 n2 c2 left _ l0 l1 hn1 hn2).mono ?_
    rintro e w1 ⟨rfl, b1⟩
    rw [e1.out]
    have B := hid (u_cat (u_b1 _ _) b1)
    clear b1
    go_wp2_with fail
    go_ret
    exact ⟨_, rfl, .inl (by omega), B.out⟩
  · have e1 := hid (show szI left (n1 + n2) = left - ((n1 + n2 : Nat) : Int) by unfold szI; rw [if_neg h])
    go_enter Tryz.func23, Tryz.ntmps23
    go_wp2_with fail
    refine (szPlan_any L S a1 a2 n1 c1 n2 c2 left _ l0 l1 hn1 hn2).mono ?_
    rintro e w1 ⟨rfl, b1⟩
    rw [e1.out]
    have X := hid (kept HX.out b1)
    have B := hid (u_cat (u_b1 _ _) b1)
    clear b1
    have p4 := box_cell X.out 4 (v := .int .i64 C) rfl
    have p5 := box_cell X.out 5 (v := .int .i64 Z) rfl
    have p6 := box_cell X.out 6 (v := .slice a es.length cap) rfl
    obtain ⟨v1, hv⟩ : ∃ v1 : Int, v1 = left - ((n1 + n2 : Nat) : Int) := ⟨_, rfl⟩
    have hpl : n1 + n2 ≤ 1048576 := by omega
    rw [← hv] at h ⊢
    have hv2 : v1 ≤ 1048576 := by omega
    clear hv e1
    go_wp2_with fail
    refine (szSolver_le a cap es C Z v1 _ (HA.out.below B.out) hn hL (by omega) hv2).mono ?_
    rintro e w2 ⟨v, rfl, hv, b2⟩
    have B2 := hid (u_cat B.out b2)
    clear b2
    by_cases hv0 : v < 0
    · clear hv
      go_wp2_with fail
      go_ret
      exact ⟨_, rfl, .inl (by omega), B2.out⟩
    · have HV := hid (hv.resolve_left hv0)
      clear hv
      go_wp2_with fail
      go_ret
      exact ⟨_, rfl, .inr ⟨⟨hpl, HV.out.1⟩, HV.out.2.1, by have := HV.out.2.2; omega⟩, B2.out⟩

set_option maxRecDepth 100000 in
set_option maxHeartbeats 1000000 in
theorem szClient_ex (i t s ed : Int) (nm : ByteArray) (L S : Int) (a1 a2 : Option Addr) (n1 c1 n2 c2 : Nat) (C Z : Int) (a : Option Addr) (cap : Nat) (es : List EqV) (w : World) (hnm : nm.size ≤ 9223372036854775807) (hn1 : n1 ≤ 9223372036854775807) (hn2 : n2 ≤ 9223372036854775807) (ha : EqsAt w a es) (hn : es.length ≤ 9223372036854775807) (hL : LongE es) :
    Calls Tryz.prog 7 #[.agg #[.int .i64 i, .int .i64 t, .int .i64 s, .string nm, .int .i64 ed, .int .i64 L, .int .i64 S, .slice a1 n1 c1, .slice a2 n2 c2, .int .i64 C, .int .i64 Z, .slice a es.length cap], .int .i64 1048576] w fun e w' => ∃ v : Int, e = .returned (.int .i64 v) ∧ szP (n1 + n2 ≤ 1048576 ∧ es.length ≤ 1048576 ∧ SmallE es) 1048576 v ∧ Below w.heap.size w w' := by
  have HA := hid ha
  clear ha
  by_cases h : (1048576 : Int) - (nm.size : Int) < 0
  · go_enter Tryz.func7, Tryz.ntmps7
    go_wp2_with fail
    go_ret
    exact ⟨_, rfl, .inl (by omega), u_b1 _ _⟩
  · have h2 : ¬ ((1048576 : Int) - (nm.size : Int) < 0) := h
    go_enter Tryz.func7, Tryz.ntmps7
    go_wp2_with fail
    refine (szGetting_le L S a1 a2 n1 c1 n2 c2 C Z a cap es _ _ hn1 hn2 (HA.out.below (u_b1 _ _)) hn hL (by omega) (by omega)).mono ?_
    rintro e w2 ⟨v, rfl, hv, b2⟩
    have B2 := hid (u_cat (u_b1 _ _) b2)
    clear b2
    by_cases hv0 : v < 0
    · clear hv
      go_wp2_with fail
      go_ret
      exact ⟨_, rfl, .inl (by omega), B2.out⟩
    · have HV := hid hv
      clear hv
      go_wp2_with fail
      go_ret
      exact ⟨_, rfl, HV.out, B2.out⟩

theorem GetOwn.setB {w : World} {base : Nat} {ws gs : List Int} {b1 b2 : Option Addr} {d1 d2 : Nat} {a : Option Addr} {c : Nat} {fs : List EqV} (h : GetOwn w base ws gs b1 b2 d1 d2 a c fs) {g : Nat} (hg : g < base) (i : Nat) (u : Value) : GetOwn (w.setCell ⟨g, i, none⟩ u) base ws gs b1 b2 d1 d2 a c fs := by
  obtain ⟨n, h1, h2, h3, h4, h5⟩ := h.up
  exact ⟨owns_set h.o1 hg u, owns_set h.o2 hg u, h.ap, n, h1, h2, h3, owns_set h4 (Nat.lt_of_lt_of_le hg h1) u, h5.set (Nat.lt_of_lt_of_le hg h1) _ _⟩

end Go.Proofs.YtbakicgdloakgaaGreatDoor
namespace Go.Proofs.YtbakicgdloakgaaGreatDoor
open Go.ChangeShapes Go.WideShapes Go.ChangeAt Go.RowKit Go.Sort Go.Shelf
attribute [local go_sem] Oper.semAt_some

theorem asc_len24 {xs : List Int} (h : ascB (-1) 24 xs = true) : xs.length ≤ 24 := by
  rw [← bits_set h]
  exact bitsTo_len _ 24
end Go.Proofs.YtbakicgdloakgaaGreatDoor
namespace Go.Proofs.YtbakicgdloakgaaGreatDoor
open Go.ChangeShapes Go.WideShapes Go.ChangeAt Go.RowKit Go.Sort Go.Shelf
attribute [local go_sem] Oper.semAt_some

/-- Cells of a box set one behind the other. -/
def setsC (w : World) (g : Nat) : List Value → Nat → World
  | [], _ => w
  | v :: r, k => setsC (w.setCell ⟨g, k, none⟩ v) g r (k + 1)
def setsA (cs : Array Value) : List Value → Nat → Array Value
  | [], _ => cs
  | v :: r, k => setsA (cs.setIfInBounds k v) r (k + 1)
theorem sets_block {g : Nat} {t : TypeId} : ∀ (vs : List Value) (k : Nat) (w : World) (cs : Array Value), w.heap[g]? = some (.cells cs t (0, 0)) → (setsC w g vs k).heap[g]? = some (.cells (setsA cs vs k) t (0, 0))
  | [], _, _, _, h => h
  | v :: r, k, w, cs, h => sets_block r (k + 1) (w.setCell ⟨g, k, none⟩ v) (cs.setIfInBounds k v) (set_block h k v)
theorem sets_other {g b : Nat} {o : Option Obj} (hb : b ≠ g) : ∀ (vs : List Value) (k : Nat) (w : World), w.heap[b]? = o → (setsC w g vs k).heap[b]? = o
  | [], _, _, h => h
  | v :: r, k, w, h => sets_other hb r (k + 1) (w.setCell ⟨g, k, none⟩ v) (set_other h hb k v)
theorem sets_below {g n : Nat} {W : World} (hg : n ≤ g) : ∀ (vs : List Value) (k : Nat) (w : World), Below n W w → Below n W (setsC w g vs k)
  | [], _, _, h => h
  | v :: r, k, w, h => sets_below hg r (k + 1) (w.setCell ⟨g, k, none⟩ v) (u_set h hg k v)
theorem sets_own {g base : Nat} {ws gs : List Int} {b1 b2 : Option Addr} {d1 d2 : Nat} {a : Option Addr} {c : Nat} {fs : List EqV} (hg : g < base) : ∀ (vs : List Value) (k : Nat) (w : World), GetOwn w base ws gs b1 b2 d1 d2 a c fs → GetOwn (setsC w g vs k) base ws gs b1 b2 d1 d2 a c fs
  | [], _, _, h => h
  | v :: r, k, w, h => sets_own hg r (k + 1) (w.setCell ⟨g, k, none⟩ v) (h.setB hg k v)

end Go.Proofs.YtbakicgdloakgaaGreatDoor
namespace Go.Proofs.YtbakicgdloakgaaGreatDoor
open Go.ChangeShapes Go.WideShapes Go.ChangeAt Go.RowKit Go.Sort Go.Shelf
attribute [local go_sem] Oper.semAt_some

set_option maxRecDepth 100000 in
set_option maxHeartbeats 4000000 in
theorem eqClient_eq (i t s ed : Int) (nm : ByteArray) (L S : Int) (a1 a2 : Option Addr) (c1 c2 : Nat) (b1 b2 : Option Addr) (d1 d2 : Nat) (ws gs : List Int) (C Z : Int) (a b : Option Addr) (ca cb : Nat) (es fs : List EqV) (w : World) (ha1 : IntsAt w a1 ws) (ha2 : IntsAt w a2 gs) (hb1 : IntsAt w b1 ws) (hb2 : IntsAt w b2 gs) (hx : ws.length ≤ 1048576) (hy : gs.length ≤ 1048576) (ha : EqsAt w a es) (hb : EqsAt w b fs) (hs : SamV es fs) (hz : es.length ≤ 1048576) (hsm : SmallE es) :
    Calls Tryz.prog 11 #[.agg #[.int .i64 i, .int .i64 t, .int .i64 s, .string nm, .int .i64 ed, .int .i64 L, .int .i64 S, .slice a1 ws.length c1, .slice a2 gs.length c2, .int .i64 C, .int .i64 Z, .slice a es.length ca], .agg #[.int .i64 i, .int .i64 t, .int .i64 s, .string nm, .int .i64 ed, .int .i64 L, .int .i64 S, .slice b1 ws.length d1, .slice b2 gs.length d2, .int .i64 C, .int .i64 Z, .slice b fs.length cb]] w fun e w' => e = .returned (.bool true) ∧ Below w.heap.size w w' := by
  obtain ⟨W0, hW0⟩ : ∃ W0, W0 = (w.alloc (.cells #[.int .i64 i, .int .i64 t, .int .i64 s, .string nm, .int .i64 ed, .int .i64 L, .int .i64 S, .slice a1 ws.length c1, .slice a2 gs.length c2, .int .i64 C, .int .i64 Z, .slice a es.length ca] 40)).alloc (.cells #[.int .i64 i, .int .i64 t, .int .i64 s, .string nm, .int .i64 ed, .int .i64 L, .int .i64 S, .slice b1 ws.length d1, .slice b2 gs.length d2, .int .i64 C, .int .i64 Z, .slice b fs.length cb] 40) := ⟨_, rfl⟩
  have B0 := hid (show Below w.heap.size w W0 by rw [hW0]; exact u_b2 _ _ _)
  have X0 := hid (show W0.heap[w.heap.size]? = some (.cells #[.int .i64 i, .int .i64 t, .int .i64 s, .string nm, .int .i64 ed, .int .i64 L, .int .i64 S, .slice a1 ws.length c1, .slice a2 gs.length c2, .int .i64 C, .int .i64 Z, .slice a es.length ca] 40 (0, 0)) by rw [hW0]; exact kept (laid _ _ _) (u_b1 _ _))
  have X1 := hid (show W0.heap[w.heap.size + 1]? = some (.cells #[.int .i64 i, .int .i64 t, .int .i64 s, .string nm, .int .i64 ed, .int .i64 L, .int .i64 S, .slice b1 ws.length d1, .slice b2 gs.length d2, .int .i64 C, .int .i64 Z, .slice b fs.length cb] 40 (0, 0)) by rw [hW0]; exact u_laid _ _ _ (by simp))
  have q0 := box_cell X0.out 0 (v := .int .i64 i) rfl
  have q1 := box_cell X0.out 1 (v := .int .i64 t) rfl
  have q2 := box_cell X0.out 2 (v := .int .i64 s) rfl
  have q3 := box_cell X0.out 3 (v := .string nm) rfl
  have q4 := box_cell X0.out 4 (v := .int .i64 ed) rfl
  have q5 := box_cell X0.out 5 (v := .int .i64 L) rfl
  have q6 := box_cell X0.out 6 (v := .int .i64 S) rfl
  have q7 := box_cell X0.out 7 (v := .slice a1 ws.length c1) rfl
  have q8 := box_cell X0.out 8 (v := .slice a2 gs.length c2) rfl
  have q9 := box_cell X0.out 9 (v := .int .i64 C) rfl
  have q10 := box_cell X0.out 10 (v := .int .i64 Z) rfl
  have q11 := box_cell X0.out 11 (v := .slice a es.length ca) rfl
  have r0 := box_cell X1.out 0 (v := .int .i64 i) rfl
  have r1 := box_cell X1.out 1 (v := .int .i64 t) rfl
  have r2 := box_cell X1.out 2 (v := .int .i64 s) rfl
  have r3 := box_cell X1.out 3 (v := .string nm) rfl
  have r4 := box_cell X1.out 4 (v := .int .i64 ed) rfl
  have r5 := box_cell X1.out 5 (v := .int .i64 L) rfl
  have r6 := box_cell X1.out 6 (v := .int .i64 S) rfl
  have r7 := box_cell X1.out 7 (v := .slice b1 ws.length d1) rfl
  have r8 := box_cell X1.out 8 (v := .slice b2 gs.length d2) rfl
  have r9 := box_cell X1.out 9 (v := .int .i64 C) rfl
  have r10 := box_cell X1.out 10 (v := .int .i64 Z) rfl
  have r11 := box_cell X1.out 11 (v := .slice b fs.length cb) rfl
  have I1 := hid (ha1.below B0.out)
  have I2 := hid (ha2.below B0.out)
  have J1 := hid (hb1.below B0.out)
  have J2 := hid (hb2.below B0.out)
  have E1 := hid (ha.below B0.out)
  have E2 := hid (hb.below B0.out)
  have HS := hid hsm
  have HM := hid hs
  have hmm : (nm.toList == nm.toList) = true := by simp
  clear ha1 ha2 hb1 hb2 ha hb hs hsm
  go_enter Tryz.func11, Tryz.ntmps11
  repeat ((fail_if_success (with_reducible show Code.wp _ (Code.region 1 _ _) _ _ _)); (first | go_values | go_skip | go_guarded | go_step | go_upon | go_back | go_simp))
  rw [← hW0]
  clear hW0
  go_wp2_with fail
  refine (eqGetting_eq L S a1 a2 c1 c2 b1 b2 d1 d2 ws gs C Z a b ca cb es fs _ I1.out I2.out J1.out J2.out hx hy E1.out E2.out HM.out hz HS.out).mono ?_
  rintro e w1 ⟨rfl, bb⟩
  have B1 := hid (u_cat B0.out bb)
  clear bb
  go_wp2_with fail
  go_ret
  exact ⟨rfl, B1.out⟩

theorem cellsS : Tryz.prog.cellsOf 9 = 1 := by kernel_rfl
theorem cellsGetC : Tryz.prog.cellsOf 29 = 7 := by kernel_rfl
theorem cellsCli : Tryz.prog.cellsOf 31 = 12 := by kernel_rfl
set_option maxRecDepth 100000 in
theorem reads_client {W : World} {cs : List Value} (h : Reads W 31 cs) : ∃ i t s nm ed L S a1 n1 k1 z1 a2 n2 k2 z2 C Z a cap es, cs = [.int .i64 i, .int .i64 t, .int .i64 s, .string nm, .int .i64 ed, .int .i64 L, .int .i64 S, .slice a1 n1 k1, .slice a2 n2 k2, .int .i64 C, .int .i64 Z, .slice a es.length cap] ∧
    nm.size ≤ maxLen ∧ IsRow .i64 W a1 n1 k1 z1 ∧ IsRow .i64 W a2 n2 k2 z2 ∧ EqsAt W a es ∧ es.length ≤ 9223372036854775807 ∧ LongE es := by
  obtain ⟨hl, hf⟩ := h.struct Tryz.underlying31
  rw [cellsCli] at hl
  obtain ⟨x0, x1, x2, x3, x4, x5, x6, x7, x8, x9, x10, x11, rfl⟩ : ∃ x0 x1 x2 x3 x4 x5 x6 x7 x8 x9 x10 x11, cs = [x0, x1, x2, x3, x4, x5, x6, x7, x8, x9, x10, x11] := by
    match cs, hl with
    | [x0, x1, x2, x3, x4, x5, x6, x7, x8, x9, x10, x11], _ => exact ⟨x0, x1, x2, x3, x4, x5, x6, x7, x8, x9, x10, x11, rfl⟩
  have g0 : Reads W 3 (List.take (Tryz.prog.cellsOf 3) (List.drop 0 [x0, x1, x2, x3, x4, x5, x6, x7, x8, x9, x10, x11])) := hf 0 _ rfl
  rw [cellsI] at g0
  have h0 : Reads W 3 [x0] := g0
  have g1 : Reads W 3 (List.take (Tryz.prog.cellsOf 3) (List.drop 1 [x0, x1, x2, x3, x4, x5, x6, x7, x8, x9, x10, x11])) := hf 1 _ rfl
  rw [cellsI] at g1
  have h1 : Reads W 3 [x1] := g1
  have g2 : Reads W 3 (List.take (Tryz.prog.cellsOf 3) (List.drop 2 [x0, x1, x2, x3, x4, x5, x6, x7, x8, x9, x10, x11])) := hf 2 _ rfl
  rw [cellsI] at g2
  have h2 : Reads W 3 [x2] := g2
  have g3 : Reads W 9 (List.take (Tryz.prog.cellsOf 9) (List.drop 3 [x0, x1, x2, x3, x4, x5, x6, x7, x8, x9, x10, x11])) := hf 3 _ rfl
  rw [cellsS] at g3
  have h3 : Reads W 9 [x3] := g3
  have g4 : Reads W 3 (List.take (Tryz.prog.cellsOf 3) (List.drop 4 [x0, x1, x2, x3, x4, x5, x6, x7, x8, x9, x10, x11])) := hf 4 _ rfl
  rw [cellsI] at g4
  have h4 : Reads W 3 [x4] := g4
  have g5 : Reads W 29 (List.take (Tryz.prog.cellsOf 29) (List.drop 5 [x0, x1, x2, x3, x4, x5, x6, x7, x8, x9, x10, x11])) := hf 5 _ rfl
  rw [cellsGetC] at g5
  have h5 : Reads W 29 [x5, x6, x7, x8, x9, x10, x11] := g5
  obtain ⟨i, e0, -⟩ := h0.int Tryz.underlying3
  obtain ⟨t, e1, -⟩ := h1.int Tryz.underlying3
  obtain ⟨s, e2, -⟩ := h2.int Tryz.underlying3
  obtain ⟨ed, e4, -⟩ := h4.int Tryz.underlying3
  obtain ⟨nm, e3, hnm⟩ := h3.string Tryz.underlying9
  obtain ⟨L, S, a1, n1, k1, z1, a2, n2, k2, z2, C, Z, a, cap, es, e5, r1, r2, r3, r4, r5⟩ := reads_getting h5
  simp only [List.cons.injEq, and_true] at e0 e1 e2 e3 e4 e5
  obtain ⟨rfl, rfl, rfl, rfl, rfl, rfl, rfl⟩ := e5
  subst e0 e1 e2 e3 e4
  exact ⟨i, t, s, nm, ed, L, S, a1, n1, k1, z1, a2, n2, k2, z2, C, Z, a, cap, es, rfl, hnm, r1, r2, r3, r4, r5⟩
end Go.Proofs.YtbakicgdloakgaaGreatDoor
namespace Go.Proofs.YtbakicgdloakgaaGreatDoor
open Go.ChangeShapes Go.WideShapes Go.ChangeAt Go.RowKit Go.Sort Go.Shelf

/-- A row that came, as news for an append. -/
theorem row_news {W : World} {ar : Option Addr} {row : List Int} {ad : Addr} (h : IntsAt W ar row) (had : ar = some ad) : ∀ j u, (row.map (Value.int .i64))[j]? = some u → W.cell? (ad.add j) = some u := by
  intro j u hj
  have hjl : j < row.length := by have := (List.getElem?_eq_some_iff.1 hj).1; simpa using this
  obtain ⟨b, o, rfl, hc⟩ := h (by intro e; simp [e] at hjl)
  obtain rfl := Option.some.inj had
  rw [addr_add, hc j hjl, ← hj]
  simp [List.getD, hjl]
theorem none_len {W : World} {ar : Option Addr} {row : List Int} (h : IntsAt W ar row) (hn : ar = none) : row.length = 0 := by
  rcases row with _ | ⟨x, xs⟩
  · rfl
  · obtain ⟨b, o, hb, -⟩ := h (by simp)
    rw [hn] at hb
    cases hb
theorem row_ones {row : List Int} : ∀ u ∈ row.map (Value.int .i64), u.oneCell' = true := by
  intro u hu
  obtain ⟨y, -, rfl⟩ := List.mem_map.1 hu
  rfl
theorem asc_up {lo hi hi' : Int} {xs : List Int} (h : ascB lo hi xs = true) (hh : hi ≤ hi') : ascB lo hi' xs = true := by
  induction xs generalizing lo with
  | nil => rfl
  | cons x r ih =>
    obtain ⟨h1, h2⟩ := asc_cons.1 h
    exact asc_cons.2 ⟨by omega, ih h2⟩
end Go.Proofs.YtbakicgdloakgaaGreatDoor
namespace Go.Proofs.YtbakicgdloakgaaGreatDoor
open Go.ChangeShapes Go.WideShapes Go.ChangeAt Go.RowKit Go.Sort Go.Shelf

end Go.Proofs.YtbakicgdloakgaaGreatDoor
namespace Go.Proofs.YtbakicgdloakgaaGreatDoor
open Go.ChangeShapes Go.WideShapes Go.ChangeAt Go.RowKit Go.Sort Go.Shelf
attribute [local go_sem] Oper.semAt_some

end Go.Proofs.YtbakicgdloakgaaGreatDoor
