/- Clients that are the same, as the laws compare them; a client that came in. -/
import Derived.Test.YtfciopjcbeccgaaGreatDoorG40
namespace Go.Proofs.YtfciopjcbeccgaaGreatDoor
open Go.ChangeShapes Go.WideShapes Go.ChangeAt Go.RowKit Go.Sort Go.Shelf
attribute [local go_sem] Oper.semAt_some

set_option maxRecDepth 100000 in
set_option maxHeartbeats 4000000 in
theorem eqClient_eq (i t s ed : Int) (nm : ByteArray) (L S : Int) (a1 a2 : Option Addr) (c1 c2 : Nat) (b1 b2 : Option Addr) (d1 d2 : Nat) (ws gs : List Int) (C Z : Int) (a b : Option Addr) (ca cb : Nat) (es fs : List EqV) (w : World) (ha1 : IntsAt w a1 ws) (ha2 : IntsAt w a2 gs) (hb1 : IntsAt w b1 ws) (hb2 : IntsAt w b2 gs) (hx : ws.length ≤ 1048576) (hy : gs.length ≤ 1048576) (ha : EqsAt w a es) (hb : EqsAt w b fs) (hs : SamV es fs) (hz : es.length ≤ 1048576) (hsm : SmallE es) :
    Calls Tryz.prog 8 #[.agg #[.int .i64 i, .int .i64 t, .int .i64 s, .string nm, .int .i64 ed, .int .i64 L, .int .i64 S, .slice a1 ws.length c1, .slice a2 gs.length c2, .int .i64 C, .int .i64 Z, .slice a es.length ca], .agg #[.int .i64 i, .int .i64 t, .int .i64 s, .string nm, .int .i64 ed, .int .i64 L, .int .i64 S, .slice b1 ws.length d1, .slice b2 gs.length d2, .int .i64 C, .int .i64 Z, .slice b fs.length cb]] w fun e w' => e = .returned (.bool true) ∧ Below w.heap.size w w' := by
  obtain ⟨W0, hW0⟩ : ∃ W0, W0 = (w.alloc (.cells #[.int .i64 i, .int .i64 t, .int .i64 s, .string nm, .int .i64 ed, .int .i64 L, .int .i64 S, .slice a1 ws.length c1, .slice a2 gs.length c2, .int .i64 C, .int .i64 Z, .slice a es.length ca] 41)).alloc (.cells #[.int .i64 i, .int .i64 t, .int .i64 s, .string nm, .int .i64 ed, .int .i64 L, .int .i64 S, .slice b1 ws.length d1, .slice b2 gs.length d2, .int .i64 C, .int .i64 Z, .slice b fs.length cb] 41) := ⟨_, rfl⟩
  have B0 := hid (show Below w.heap.size w W0 by rw [hW0]; exact u_b2 _ _ _)
  have X0 := hid (show W0.heap[w.heap.size]? = some (.cells #[.int .i64 i, .int .i64 t, .int .i64 s, .string nm, .int .i64 ed, .int .i64 L, .int .i64 S, .slice a1 ws.length c1, .slice a2 gs.length c2, .int .i64 C, .int .i64 Z, .slice a es.length ca] 41 (0, 0)) by rw [hW0]; exact kept (laid _ _ _) (u_b1 _ _))
  have X1 := hid (show W0.heap[w.heap.size + 1]? = some (.cells #[.int .i64 i, .int .i64 t, .int .i64 s, .string nm, .int .i64 ed, .int .i64 L, .int .i64 S, .slice b1 ws.length d1, .slice b2 gs.length d2, .int .i64 C, .int .i64 Z, .slice b fs.length cb] 41 (0, 0)) by rw [hW0]; exact u_laid _ _ _ (by simp))
  have q0 := box_cell X0.out 0 (v := .int .i64 i) rfl
  have q1 := box_cell X0.out 1 (v := .int .i64 t) rfl
  have q2 := box_cell X0.out 2 (v := .int .i64 s) rfl
  have q3 := box_cell X0.out 3 (v := .string nm) rfl
  have q4 := box_cell X0.out 4 (v := .int .i64 ed) rfl
  have q5 := box_cell X0.out 5 (v := .int .i64 L) rfl
  have q6 := box_cell X0.out 6 (v := .int .i64 S) rfl
  have q7 := box_cell X0.out 7 (v := .slice a1 ws.length c1) rfl
  have q8 := box_cell X0.out 8 (v := .slice a2 gs.length c2) rfl
  have q9 := box_cell X0.out 9 (v := .int .i64 C) rfl
  have q10 := box_cell X0.out 10 (v := .int .i64 Z) rfl
  have q11 := box_cell X0.out 11 (v := .slice a es.length ca) rfl
  have r0 := box_cell X1.out 0 (v := .int .i64 i) rfl
  have r1 := box_cell X1.out 1 (v := .int .i64 t) rfl
  have r2 := box_cell X1.out 2 (v := .int .i64 s) rfl
  have r3 := box_cell X1.out 3 (v := .string nm) rfl
  have r4 := box_cell X1.out 4 (v := .int .i64 ed) rfl
  have r5 := box_cell X1.out 5 (v := .int .i64 L) rfl
  have r6 := box_cell X1.out 6 (v := .int .i64 S) rfl
  have r7 := box_cell X1.out 7 (v := .slice b1 ws.length d1) rfl
  have r8 := box_cell X1.out 8 (v := .slice b2 gs.length d2) rfl
  have r9 := box_cell X1.out 9 (v := .int .i64 C) rfl
  have r10 := box_cell X1.out 10 (v := .int .i64 Z) rfl
  have r11 := box_cell X1.out 11 (v := .slice b fs.length cb) rfl
  have I1 := hid (ha1.below B0.out)
  have I2 := hid (ha2.below B0.out)
  have J1 := hid (hb1.below B0.out)
  have J2 := hid (hb2.below B0.out)
  have E1 := hid (ha.below B0.out)
  have E2 := hid (hb.below B0.out)
  have HS := hid hsm
  have HM := hid hs
  have hmm : (nm.toList == nm.toList) = true := by simp
  clear ha1 ha2 hb1 hb2 ha hb hs hsm
  go_enter Tryz.func8, Tryz.ntmps8
  repeat ((fail_if_success (with_reducible show Code.wp _ (Code.region 1 _ _) _ _ _)); (first | go_values | go_skip | go_guarded | go_step | go_upon | go_back | go_simp))
  rw [← hW0]
  clear hW0
  go_wp2_with fail
  refine (eqGetting_eq L S a1 a2 c1 c2 b1 b2 d1 d2 ws gs C Z a b ca cb es fs _ I1.out I2.out J1.out J2.out hx hy E1.out E2.out HM.out hz HS.out).mono ?_
  rintro e w1 ⟨rfl, bb⟩
  have B1 := hid (u_cat B0.out bb)
  clear bb
  go_wp2_with fail
  go_ret
  exact ⟨rfl, B1.out⟩

theorem cellsS : Tryz.prog.cellsOf 9 = 1 := by kernel_rfl
theorem cellsGetC : Tryz.prog.cellsOf 29 = 7 := by kernel_rfl
theorem cellsCli : Tryz.prog.cellsOf 31 = 12 := by kernel_rfl
set_option maxRecDepth 100000 in
theorem reads_client {W : World} {cs : List Value} (h : Reads W 31 cs) : ∃ i t s nm ed L S a1 n1 k1 z1 a2 n2 k2 z2 C Z a cap es, cs = [.int .i64 i, .int .i64 t, .int .i64 s, .string nm, .int .i64 ed, .int .i64 L, .int .i64 S, .slice a1 n1 k1, .slice a2 n2 k2, .int .i64 C, .int .i64 Z, .slice a es.length cap] ∧
    nm.size ≤ maxLen ∧ IsRow .i64 W a1 n1 k1 z1 ∧ IsRow .i64 W a2 n2 k2 z2 ∧ EqsAt W a es ∧ es.length ≤ 9223372036854775807 ∧ LongE es := by
  obtain ⟨hl, hf⟩ := h.struct Tryz.underlying31
  rw [cellsCli] at hl
  obtain ⟨x0, x1, x2, x3, x4, x5, x6, x7, x8, x9, x10, x11, rfl⟩ : ∃ x0 x1 x2 x3 x4 x5 x6 x7 x8 x9 x10 x11, cs = [x0, x1, x2, x3, x4, x5, x6, x7, x8, x9, x10, x11] := by
    match cs, hl with
    | [x0, x1, x2, x3, x4, x5, x6, x7, x8, x9, x10, x11], _ => exact ⟨x0, x1, x2, x3, x4, x5, x6, x7, x8, x9, x10, x11, rfl⟩
  have g0 : Reads W 3 (List.take (Tryz.prog.cellsOf 3) (List.drop 0 [x0, x1, x2, x3, x4, x5, x6, x7, x8, x9, x10, x11])) := hf 0 _ rfl
  rw [cellsI] at g0
  have h0 : Reads W 3 [x0] := g0
  have g1 : Reads W 3 (List.take (Tryz.prog.cellsOf 3) (List.drop 1 [x0, x1, x2, x3, x4, x5, x6, x7, x8, x9, x10, x11])) := hf 1 _ rfl
  rw [cellsI] at g1
  have h1 : Reads W 3 [x1] := g1
  have g2 : Reads W 3 (List.take (Tryz.prog.cellsOf 3) (List.drop 2 [x0, x1, x2, x3, x4, x5, x6, x7, x8, x9, x10, x11])) := hf 2 _ rfl
  rw [cellsI] at g2
  have h2 : Reads W 3 [x2] := g2
  have g3 : Reads W 9 (List.take (Tryz.prog.cellsOf 9) (List.drop 3 [x0, x1, x2, x3, x4, x5, x6, x7, x8, x9, x10, x11])) := hf 3 _ rfl
  rw [cellsS] at g3
  have h3 : Reads W 9 [x3] := g3
  have g4 : Reads W 3 (List.take (Tryz.prog.cellsOf 3) (List.drop 4 [x0, x1, x2, x3, x4, x5, x6, x7, x8, x9, x10, x11])) := hf 4 _ rfl
  rw [cellsI] at g4
  have h4 : Reads W 3 [x4] := g4
  have g5 : Reads W 29 (List.take (Tryz.prog.cellsOf 29) (List.drop 5 [x0, x1, x2, x3, x4, x5, x6, x7, x8, x9, x10, x11])) := hf 5 _ rfl
  rw [cellsGetC] at g5
  have h5 : Reads W 29 [x5, x6, x7, x8, x9, x10, x11] := g5
  obtain ⟨i, e0, -⟩ := h0.int Tryz.underlying3
  obtain ⟨t, e1, -⟩ := h1.int Tryz.underlying3
  obtain ⟨s, e2, -⟩ := h2.int Tryz.underlying3
  obtain ⟨ed, e4, -⟩ := h4.int Tryz.underlying3
  obtain ⟨nm, e3, hnm⟩ := h3.string Tryz.underlying9
  obtain ⟨L, S, a1, n1, k1, z1, a2, n2, k2, z2, C, Z, a, cap, es, e5, r1, r2, r3, r4, r5⟩ := reads_getting h5
  simp only [List.cons.injEq, and_true] at e0 e1 e2 e3 e4 e5
  obtain ⟨rfl, rfl, rfl, rfl, rfl, rfl, rfl⟩ := e5
  subst e0 e1 e2 e3 e4
  exact ⟨i, t, s, nm, ed, L, S, a1, n1, k1, z1, a2, n2, k2, z2, C, Z, a, cap, es, rfl, hnm, r1, r2, r3, r4, r5⟩
end Go.Proofs.YtfciopjcbeccgaaGreatDoor
