/- Plans, as the laws make, count and compare them. Plans that are the same, as the laws compare them. A plan that came in. -/
import Derived.Test.YtfciopjcbeccgaaGreatDoorG31
import Derived.Test.YtfciopjcbeccgaaGreatDoorG14
import Derived.Test.YtfciopjcbeccgaaGreatDoorG0
import Derived.Test.YtfciopjcbeccgaaGreatDoorG30
namespace Go.Proofs.YtfciopjcbeccgaaGreatDoor
open Go.ChangeShapes Go.WideShapes Go.ChangeAt Go.RowKit Go.Sort

/-- What is left of a number of values. -/
def szI (left : Int) (n : Nat) : Int := if left - n < 0 then -1 else left - n
set_option maxRecDepth 100000 in
theorem szIntS_any (a : Option Addr) (n c : Nat) (left : Int) (w : World) (h1 : 0 ≤ left) (h2 : left ≤ 1048576) (hn : n ≤ 9223372036854775807) :
    Calls Tryz.prog 39 #[.slice a n c, .int .i64 left] w fun e w' => e = .returned (.int .i64 (szI left n)) ∧ w' = w := by
  by_cases h : left - n < 0
  · have H := hid (show szI left n = -1 by unfold szI; rw [if_pos h])
    go_enter Tryz.func39, Tryz.ntmps39
    go_wp2
    go_ret
    exact ⟨ret_int H.out.symm, rfl⟩
  · have H := hid (show szI left n = left - n by unfold szI; rw [if_neg h])
    go_enter Tryz.func39, Tryz.ntmps39
    go_wp2
    go_ret
    exact ⟨ret_int H.out.symm, rfl⟩

set_option maxRecDepth 100000 in
theorem szPlan_any (long size : Int) (a1 a2 : Option Addr) (n1 c1 n2 c2 : Nat) (left : Int) (w : World) (h1 : 0 ≤ left) (h2 : left ≤ 1048576) (hn1 : n1 ≤ 9223372036854775807) (hn2 : n2 ≤ 9223372036854775807) :
    Calls Tryz.prog 16 #[.agg #[.int .i64 long, .int .i64 size, .slice a1 n1 c1, .slice a2 n2 c2], .int .i64 left] w fun e w' => e = .returned (.int .i64 (szI left (n1 + n2))) ∧ Below w.heap.size w w' := by
  by_cases h : left - n1 < 0
  · have e1 := hid (show szI left n1 = -1 by unfold szI; rw [if_pos h])
    have e2 := hid (show szI left (n1 + n2) = -1 by unfold szI; rw [if_pos (by omega)])
    go_enter Tryz.func16, Tryz.ntmps16
    go_wp2_with fail
    refine (szIntS_any a1 n1 c1 left _ h1 h2 hn1).mono ?_
    rintro e w1 ⟨rfl, rfl⟩
    rw [e1.out]
    go_wp2_with fail
    go_ret
    exact ⟨ret_int e2.out.symm, (Below.refl _ _).alloc (Nat.le_refl _) _⟩
  · have e1 := hid (show szI left n1 = left - n1 by unfold szI; rw [if_neg h])
    have e3 := hid (show szI (left - n1) n2 = szI left (n1 + n2) by
      unfold szI
      by_cases hh : left - (n1 : Int) - (n2 : Int) < 0
      · rw [if_pos hh, if_pos (by omega)]
      · rw [if_neg hh, if_neg (by omega)]; omega)
    go_enter Tryz.func16, Tryz.ntmps16
    go_wp2_with fail
    refine (szIntS_any a1 n1 c1 left _ h1 h2 hn1).mono ?_
    rintro e w1 ⟨rfl, rfl⟩
    rw [e1.out]
    go_wp2_with fail
    refine (szIntS_any a2 n2 c2 (left - n1) _ (by omega) (by omega) hn2).mono ?_
    rintro e w1 ⟨rfl, rfl⟩
    rw [e3.out]
    by_cases hh : szI left (n1 + n2) < 0
    · have e4 := hid (show szI left (n1 + n2) = -1 by
        unfold szI at hh ⊢
        split at hh
        · rw [if_pos (by omega)]
        · omega)
      go_wp2_with fail
      go_ret
      exact ⟨ret_int e4.out.symm, (Below.refl _ _).alloc (Nat.le_refl _) _⟩
    · go_wp2_with fail
      go_ret
      exact ⟨rfl, (Below.refl _ _).alloc (Nat.le_refl _) _⟩

theorem below3 (w : World) (a b c : Obj) : Below w.heap.size w (((w.alloc a).alloc b).alloc c) :=
  (((Below.refl _ _).alloc (Nat.le_refl _) _).alloc (by simp) _).alloc (by simp; omega) _
theorem below_set {w w' : World} (h : Below w.heap.size w w') {p : Addr} (hp : w.heap.size ≤ p.block) (u : Value) : Below w.heap.size w (w'.setCell p u) := h.setCell hp u

set_option maxRecDepth 100000 in
set_option maxHeartbeats 2000000 in
theorem toPlan_own (long size : Int) (a1 a2 : Option Addr) (c1 c2 : Nat) (ws gs : List Int) (w : World) (ha1 : IntsAt w a1 ws) (ha2 : IntsAt w a2 gs) (hx : ws.length ≤ 1048576) (hy : gs.length ≤ 1048576) :
    Calls Tryz.prog 25 #[.agg #[.int .i64 long, .int .i64 size, .slice a1 ws.length c1, .slice a2 gs.length c2]] w fun e w' => ∃ b1 d1 b2 d2, e = .returned (.agg #[.int .i64 long, .int .i64 size, .slice b1 ws.length d1, .slice b2 gs.length d2]) ∧ w'.ownsRow w.heap.size 3 1 (.slice b1 ws.length d1) ws.length (ws.map (Value.int .i64)) ∧ w'.ownsRow w.heap.size 3 1 (.slice b2 gs.length d2) gs.length (gs.map (Value.int .i64)) ∧ Apart (.slice b1 ws.length d1) (.slice b2 gs.length d2) ∧ Below w.heap.size w w' := by
  go_enter Tryz.func25, Tryz.ntmps25
  go_wp2_with fail
  refine (toIntS_any a1 c1 ws _ (by exact ha1.below (below3 _ _ _ _)) hx).mono ?_
  rintro e w1 ⟨v1, rfl, o1, b1⟩
  obtain ⟨q1, d1, rfl, -, i1⟩ := owns_ints o1
  obtain ⟨hc1, hf1⟩ := bcell b1
  have hs1 : w.heap.size + 1 + 1 < w1.heap.size := by have := b1.size; simp at this; omega
  have B1 := hid (below_cat' (below3 _ _ _ _) b1)
  have O1 := hid o1
  clear o1 i1 b1
  go_wp2_with fail
  have B1' := hid (below_set B1.out (p := ⟨w.heap.size + 1 + 1, 2, none⟩) (by simp; omega) (.slice q1 ws.length d1))
  refine (toIntS_any a2 c2 gs _ (by exact ha2.below B1'.out) hy).mono ?_
  rintro e w2 ⟨v2, rfl, o2, b2⟩
  obtain ⟨q2, d2, rfl, -, i2⟩ := owns_ints o2
  have hc2 : ∀ b o, b < w1.heap.size → w2.cell? ⟨b, o, none⟩ = (w1.setCell ⟨w.heap.size + 1 + 1, 2, none⟩ (.slice q1 ws.length d1)).cell? ⟨b, o, none⟩ := fun b o h => (bcell b2).1 b o (by simpa using h)
  have hf2 : ∀ b o, b < w1.heap.size → w2.frozen? ⟨b, o, none⟩ = (w1.setCell ⟨w.heap.size + 1 + 1, 2, none⟩ (.slice q1 ws.length d1)).frozen? ⟨b, o, none⟩ := fun b o h => (bcell b2).2 b o (by simpa using h)
  have hs3 : w.heap.size + 1 < w1.heap.size := by omega
  have hs4 : w.heap.size < w1.heap.size := by omega
  have B2 := hid b2
  have O2 := hid o2
  clear b2 o2 i2
  go_wp2_with fail
  have hb : Below w.heap.size w (((((w2.setCell ⟨w.heap.size + 1 + 1, 3, none⟩ (.slice q2 gs.length d2)).setCell ⟨w.heap.size + 1, 0, none⟩ (.int .i64 long)).setCell ⟨w.heap.size + 1, 1, none⟩ (.int .i64 size)).setCell ⟨w.heap.size + 1, 2, none⟩ (.slice q1 ws.length d1)).setCell ⟨w.heap.size + 1, 3, none⟩ (.slice q2 gs.length d2)) :=
    below_set (below_set (below_set (below_set (below_set (below_cat' B1'.out B2.out) (by simp; omega) _) (by simp) _) (by simp) _) (by simp) _) (by simp) _
  have o1 := owns_below ((Touch.setCell w1 ⟨w.heap.size + 1 + 1, 2, none⟩ (.slice q1 ws.length d1)).owns O1.out (by simp)) B2.out
  have o2 := O2.out
  have t1 := (Touch.setCell _ ⟨w.heap.size + 1, 3, none⟩ (.slice q2 gs.length d2)).owns ((Touch.setCell _ ⟨w.heap.size + 1, 2, none⟩ (.slice q1 ws.length d1)).owns ((Touch.setCell _ ⟨w.heap.size + 1, 1, none⟩ (.int .i64 size)).owns ((Touch.setCell _ ⟨w.heap.size + 1, 0, none⟩ (.int .i64 long)).owns ((Touch.setCell w2 ⟨w.heap.size + 1 + 1, 3, none⟩ (.slice q2 gs.length d2)).owns o1 (by simp)) (by simp)) (by simp)) (by simp)) (by simp)
  have t2 := (Touch.setCell _ ⟨w.heap.size + 1, 3, none⟩ (.slice q2 gs.length d2)).owns ((Touch.setCell _ ⟨w.heap.size + 1, 2, none⟩ (.slice q1 ws.length d1)).owns ((Touch.setCell _ ⟨w.heap.size + 1, 1, none⟩ (.int .i64 size)).owns ((Touch.setCell _ ⟨w.heap.size + 1, 0, none⟩ (.int .i64 long)).owns ((Touch.setCell w2 ⟨w.heap.size + 1 + 1, 3, none⟩ (.slice q2 gs.length d2)).owns o2 (by simp; omega)) (by simp; omega)) (by simp; omega)) (by simp; omega)) (by simp; omega)
  refine bodyPost_ret (v := .agg #[.int .i64 long, .int .i64 size, .slice q1 ws.length d1, .slice q2 gs.length d2]) ?_ rfl ⟨q1, d1, q2, d2, rfl, owns_base t1 (by simp; omega), owns_base t2 (by simp; omega), owns_apart O1.out O2.out (by simp), hb⟩
  simp [results, Tryz.results25, go_sem, hc2, hc1, hs3]

theorem toPlan_any (long size : Int) (a1 a2 : Option Addr) (c1 c2 : Nat) (ws gs : List Int) (w : World) (ha1 : IntsAt w a1 ws) (ha2 : IntsAt w a2 gs) (hx : ws.length ≤ 1048576) (hy : gs.length ≤ 1048576) :
    Calls Tryz.prog 25 #[.agg #[.int .i64 long, .int .i64 size, .slice a1 ws.length c1, .slice a2 gs.length c2]] w fun e w' => ∃ b1 d1 b2 d2, e = .returned (.agg #[.int .i64 long, .int .i64 size, .slice b1 ws.length d1, .slice b2 gs.length d2]) ∧ IntsAt w' b1 ws ∧ IntsAt w' b2 gs ∧ Below w.heap.size w w' :=
  (toPlan_own long size a1 a2 c1 c2 ws gs w ha1 ha2 hx hy).mono fun _ _ ⟨b1, d1, b2, d2, he, o1, o2, _, hb⟩ => ⟨b1, d1, b2, d2, he, owns_at o1, owns_at o2, hb⟩
end Go.Proofs.YtfciopjcbeccgaaGreatDoor
namespace Go.Proofs.YtfciopjcbeccgaaGreatDoor
open Go.ChangeShapes Go.WideShapes Go.ChangeAt Go.RowKit Go.Sort

theorem below2 (w : World) (a b : Obj) : Below w.heap.size w ((w.alloc a).alloc b) :=
  ((Below.refl _ _).alloc (Nat.le_refl _) _).alloc (by simp) _
theorem IntsAt.dr {w w' : World} {a : Option Addr} {xs : List Int} (h : IntsAt w a xs) (hd : Dr w w') : IntsAt w' a xs := by obtain ⟨n, rfl⟩ := hd; exact h.drewN n

set_option maxRecDepth 100000 in
set_option maxHeartbeats 1000000 in
theorem eqPlan_same (long size : Int) (a1 a2 b1 b2 : Option Addr) (c1 c2 d1 d2 : Nat) (ws gs : List Int) (w : World) (ha1 : IntsAt w a1 ws) (ha2 : IntsAt w a2 gs) (hb1 : IntsAt w b1 ws) (hb2 : IntsAt w b2 gs) (hx : ws.length ≤ 1152921504606846976) (hy : gs.length ≤ 1152921504606846976) :
    Calls Tryz.prog 37 #[.agg #[.int .i64 long, .int .i64 size, .slice a1 ws.length c1, .slice a2 gs.length c2], .agg #[.int .i64 long, .int .i64 size, .slice b1 ws.length d1, .slice b2 gs.length d2]] w fun e w' => e = .returned (.bool true) ∧ Below w.heap.size w w' := by
  go_enter Tryz.func37, Tryz.ntmps37
  go_wp2_with fail
  refine (eqIntS_any a1 b1 c1 d1 ws ws _ (by exact ha1.below (below2 _ _ _)) (by exact hb1.below (below2 _ _ _)) hx).mono ?_
  rintro e w1 ⟨rfl, n1, rfl⟩
  go_wp2_with fail
  refine (eqIntS_any a2 b2 c2 d2 gs gs _ (by exact (ha2.below (below2 _ _ _)).drewN _) (by exact (hb2.below (below2 _ _ _)).drewN _) hy).mono ?_
  rintro e w2 ⟨rfl, n2, rfl⟩
  go_wp2_with fail
  go_ret
  exact ⟨rfl, below_drewN (below2 _ _ _) _⟩
end Go.Proofs.YtfciopjcbeccgaaGreatDoor
namespace Go.Proofs.YtfciopjcbeccgaaGreatDoor
open Go.ChangeShapes Go.WideShapes Go.ChangeAt Go.RowKit

theorem cellsI : Tryz.prog.cellsOf 3 = 1 := by kernel_rfl
theorem cellsNs : Tryz.prog.cellsOf 22 = 1 := by kernel_rfl
theorem cellsPlan : Tryz.prog.cellsOf 24 = 4 := by kernel_rfl
set_option maxRecDepth 100000 in
theorem reads_plan {W : World} {cs : List Value} (h : Reads W 24 cs) : ∃ long size a1 n1 k1 z1 a2 n2 k2 z2, cs = [.int .i64 long, .int .i64 size, .slice a1 n1 k1, .slice a2 n2 k2] ∧
    (Lit.int .i64 long).wf = true ∧ (Lit.int .i64 size).wf = true ∧ IsRow .i64 W a1 n1 k1 z1 ∧ IsRow .i64 W a2 n2 k2 z2 := by
  obtain ⟨hl, hf⟩ := h.struct Tryz.underlying24
  rw [cellsPlan] at hl
  obtain ⟨x0, x1, x2, x3, rfl⟩ : ∃ x0 x1 x2 x3, cs = [x0, x1, x2, x3] := by
    match cs, hl with
    | [x0, x1, x2, x3], _ => exact ⟨x0, x1, x2, x3, rfl⟩
  have g0 : Reads W 3 (List.take (Tryz.prog.cellsOf 3) (List.drop 0 [x0, x1, x2, x3])) := hf 0 _ rfl
  rw [cellsI] at g0
  have h0 : Reads W 3 [x0] := g0
  have g1 : Reads W 3 (List.take (Tryz.prog.cellsOf 3) (List.drop 1 [x0, x1, x2, x3])) := hf 1 _ rfl
  rw [cellsI] at g1
  have h1 : Reads W 3 [x1] := g1
  have g2 : Reads W 22 (List.take (Tryz.prog.cellsOf 22) (List.drop 2 [x0, x1, x2, x3])) := hf 2 _ rfl
  rw [cellsNs] at g2
  have h2 : Reads W 22 [x2] := g2
  have g3 : Reads W 22 (List.take (Tryz.prog.cellsOf 22) (List.drop 3 [x0, x1, x2, x3])) := hf 3 _ rfl
  rw [cellsNs] at g3
  have h3 : Reads W 22 [x3] := g3
  obtain ⟨long, e0, wf0⟩ := h0.int Tryz.underlying3
  obtain ⟨size, e1, wf1⟩ := h1.int Tryz.underlying3
  obtain ⟨a1, n1, k1, z1, e2, r1⟩ := h2.ints Tryz.underlying22 Tryz.underlying3 cellsI
  obtain ⟨a2, n2, k2, z2, e3, r2⟩ := h3.ints Tryz.underlying22 Tryz.underlying3 cellsI
  simp only [List.cons.injEq, and_true] at e0 e1 e2 e3
  subst e0 e1 e2 e3
  exact ⟨long, size, a1, n1, k1, z1, a2, n2, k2, z2, rfl, wf0, wf1, r1, r2⟩
theorem isRow_le {k : IntKind} {w : World} {a : Option Addr} {len cap : Nat} {zs : List Int} (h : IsRow k w a len cap zs) : len ≤ 9223372036854775807 := by
  rcases h with ⟨_, rfl, _, rfl⟩ | ⟨x, _, h1, h2, h3, _⟩
  · omega
  · unfold maxLen at h2; omega
end Go.Proofs.YtfciopjcbeccgaaGreatDoor
