/- What was appended to nothing; what is owned stays owned. Plans, as the laws make, count and compare them. Plans: what is ok by the model, all plans. The row of a symbol, by the program. Plans that are the same, as the laws compare them. A plan copied by the model: rows of its own. Sets as bits and as lists, what drawing does to both. A row drawn, the model's way: those that are left as a list. -/
import Derived.Test.YtbakicgdloakgaaGreatDoorG8
import Derived.Test.YtbakicgdloakgaaGreatDoorG2
import Derived.Test.YtbakicgdloakgaaGreatDoorG6
import Derived.Test.YtbakicgdloakgaaGreatDoorG9
import Derived.Test.YtbakicgdloakgaaGreatDoorG7
import Derived.Test.YtbakicgdloakgaaGreatDoorG5
namespace Go.Proofs.YtbakicgdloakgaaGreatDoor
open Go.ChangeShapes Go.WideShapes Go.ChangeAt Go.RowKit Go.Sort

theorem owns_set {w : World} {base : Nat} {e : TypeId} {size : Nat} {v : Value} {n : Nat} {xs : List Value} (h : w.ownsRow base e size v n xs) {p : Addr} (hp : p.block < base) (u : Value) : (w.setCell p u).ownsRow base e size v n xs := by
  obtain ⟨h1, h2⟩ := h
  refine ⟨h1, ?_⟩
  rcases h2 with h2 | ⟨g, cap, cur, hv, hg, hh, r⟩
  · exact Or.inl h2
  · exact Or.inr ⟨g, cap, cur, hv, hg, by rw [Below.heap_setCell _ p _ g (by omega)]; exact hh, r⟩
end Go.Proofs.YtbakicgdloakgaaGreatDoor
namespace Go.Proofs.YtbakicgdloakgaaGreatDoor
open Go.ChangeShapes Go.WideShapes Go.ChangeAt Go.RowKit Go.Sort

/-- What is left of a number of values. -/
def szI (left : Int) (n : Nat) : Int := if left - n < 0 then -1 else left - n
set_option maxRecDepth 100000 in
theorem szIntS_any (a : Option Addr) (n c : Nat) (left : Int) (w : World) (h1 : 0 ≤ left) (h2 : left ≤ 1048576) (hn : n ≤ 9223372036854775807) :
    Calls Tryz.prog 66 #[.slice a n c, .int .i64 left] w fun e w' => e = .returned (.int .i64 (szI left n)) ∧ w' = w := by
  by_cases h : left - n < 0
  · have H := hid (show szI left n = -1 by unfold szI; rw [if_pos h])
    go_enter Tryz.func66, Tryz.ntmps66
    go_wp2
    go_ret
    exact ⟨ret_int H.out.symm, rfl⟩
  · have H := hid (show szI left n = left - n by unfold szI; rw [if_neg h])
    go_enter Tryz.func66, Tryz.ntmps66
    go_wp2
    go_ret
    exact ⟨ret_int H.out.symm, rfl⟩

set_option maxRecDepth 100000 in
theorem szPlan_any (long size : Int) (a1 a2 : Option Addr) (n1 c1 n2 c2 : Nat) (left : Int) (w : World) (h1 : 0 ≤ left) (h2 : left ≤ 1048576) (hn1 : n1 ≤ 9223372036854775807) (hn2 : n2 ≤ 9223372036854775807) :
    Calls Tryz.prog 44 #[.agg #[.int .i64 long, .int .i64 size, .slice a1 n1 c1, .slice a2 n2 c2], .int .i64 left] w fun e w' => e = .returned (.int .i64 (szI left (n1 + n2))) ∧ Below w.heap.size w w' := by
  by_cases h : left - n1 < 0
  · have e1 := hid (show szI left n1 = -1 by unfold szI; rw [if_pos h])
    have e2 := hid (show szI left (n1 + n2) = -1 by unfold szI; rw [if_pos (by omega)])
    go_enter Tryz.func44, Tryz.ntmps44
    go_wp2_with fail
    refine (szIntS_any a1 n1 c1 left _ h1 h2 hn1).mono ?_
    rintro e w1 ⟨rfl, rfl⟩
    rw [e1.out]
    go_wp2_with fail
    go_ret
    exact ⟨ret_int e2.out.symm, (Below.refl _ _).alloc (Nat.le_refl _) _⟩
  · have e1 := hid (show szI left n1 = left - n1 by unfold szI; rw [if_neg h])
    have e3 := hid (show szI (left - n1) n2 = szI left (n1 + n2) by
      unfold szI
      by_cases hh : left - (n1 : Int) - (n2 : Int) < 0
      · rw [if_pos hh, if_pos (by omega)]
      · rw [if_neg hh, if_neg (by omega)]; omega)
    go_enter Tryz.func44, Tryz.ntmps44
    go_wp2_with fail
    refine (szIntS_any a1 n1 c1 left _ h1 h2 hn1).mono ?_
    rintro e w1 ⟨rfl, rfl⟩
    rw [e1.out]
    go_wp2_with fail
    refine (szIntS_any a2 n2 c2 (left - n1) _ (by omega) (by omega) hn2).mono ?_
    rintro e w1 ⟨rfl, rfl⟩
    rw [e3.out]
    by_cases hh : szI left (n1 + n2) < 0
    · have e4 := hid (show szI left (n1 + n2) = -1 by
        unfold szI at hh ⊢
        split at hh
        · rw [if_pos (by omega)]
        · omega)
      go_wp2_with fail
      go_ret
      exact ⟨ret_int e4.out.symm, (Below.refl _ _).alloc (Nat.le_refl _) _⟩
    · go_wp2_with fail
      go_ret
      exact ⟨rfl, (Below.refl _ _).alloc (Nat.le_refl _) _⟩

theorem below3 (w : World) (a b c : Obj) : Below w.heap.size w (((w.alloc a).alloc b).alloc c) :=
  (((Below.refl _ _).alloc (Nat.le_refl _) _).alloc (by simp) _).alloc (by simp; omega) _
theorem below_set {w w' : World} (h : Below w.heap.size w w') {p : Addr} (hp : w.heap.size ≤ p.block) (u : Value) : Below w.heap.size w (w'.setCell p u) := h.setCell hp u

set_option maxRecDepth 100000 in
set_option maxHeartbeats 2000000 in
theorem toPlan_own (long size : Int) (a1 a2 : Option Addr) (c1 c2 : Nat) (ws gs : List Int) (w : World) (ha1 : IntsAt w a1 ws) (ha2 : IntsAt w a2 gs) (hx : ws.length ≤ 1048576) (hy : gs.length ≤ 1048576) :
    Calls Tryz.prog 51 #[.agg #[.int .i64 long, .int .i64 size, .slice a1 ws.length c1, .slice a2 gs.length c2]] w fun e w' => ∃ b1 d1 b2 d2, e = .returned (.agg #[.int .i64 long, .int .i64 size, .slice b1 ws.length d1, .slice b2 gs.length d2]) ∧ w'.ownsRow w.heap.size 3 1 (.slice b1 ws.length d1) ws.length (ws.map (Value.int .i64)) ∧ w'.ownsRow w.heap.size 3 1 (.slice b2 gs.length d2) gs.length (gs.map (Value.int .i64)) ∧ Apart (.slice b1 ws.length d1) (.slice b2 gs.length d2) ∧ Below w.heap.size w w' := by
  go_enter Tryz.func51, Tryz.ntmps51
  go_wp2_with fail
  refine (toIntS_any a1 c1 ws _ (by exact ha1.below (below3 _ _ _ _)) hx).mono ?_
  rintro e w1 ⟨v1, rfl, o1, b1⟩
  obtain ⟨q1, d1, rfl, -, i1⟩ := owns_ints o1
  obtain ⟨hc1, hf1⟩ := bcell b1
  have hs1 : w.heap.size + 1 + 1 < w1.heap.size := by have := b1.size; simp at this; omega
  have B1 := hid (below_cat' (below3 _ _ _ _) b1)
  have O1 := hid o1
  clear o1 i1 b1
  go_wp2_with fail
  have B1' := hid (below_set B1.out (p := ⟨w.heap.size + 1 + 1, 2, none⟩) (by simp; omega) (.slice q1 ws.length d1))
  refine (toIntS_any a2 c2 gs _ (by exact ha2.below B1'.out) hy).mono ?_
  rintro e w2 ⟨v2, rfl, o2, b2⟩
  obtain ⟨q2, d2, rfl, -, i2⟩ := owns_ints o2
  have hc2 : ∀ b o, b < w1.heap.size → w2.cell? ⟨b, o, none⟩ = (w1.setCell ⟨w.heap.size + 1 + 1, 2, none⟩ (.slice q1 ws.length d1)).cell? ⟨b, o, none⟩ := fun b o h => (bcell b2).1 b o (by simpa using h)
  have hf2 : ∀ b o, b < w1.heap.size → w2.frozen? ⟨b, o, none⟩ = (w1.setCell ⟨w.heap.size + 1 + 1, 2, none⟩ (.slice q1 ws.length d1)).frozen? ⟨b, o, none⟩ := fun b o h => (bcell b2).2 b o (by simpa using h)
  have hs3 : w.heap.size + 1 < w1.heap.size := by omega
  have hs4 : w.heap.size < w1.heap.size := by omega
  have B2 := hid b2
  have O2 := hid o2
  clear b2 o2 i2
  go_wp2_with fail
  have hb : Below w.heap.size w (((((w2.setCell ⟨w.heap.size + 1 + 1, 3, none⟩ (.slice q2 gs.length d2)).setCell ⟨w.heap.size + 1, 0, none⟩ (.int .i64 long)).setCell ⟨w.heap.size + 1, 1, none⟩ (.int .i64 size)).setCell ⟨w.heap.size + 1, 2, none⟩ (.slice q1 ws.length d1)).setCell ⟨w.heap.size + 1, 3, none⟩ (.slice q2 gs.length d2)) :=
    below_set (below_set (below_set (below_set (below_set (below_cat' B1'.out B2.out) (by simp; omega) _) (by simp) _) (by simp) _) (by simp) _) (by simp) _
  have o1 := owns_below ((Touch.setCell w1 ⟨w.heap.size + 1 + 1, 2, none⟩ (.slice q1 ws.length d1)).owns O1.out (by simp)) B2.out
  have o2 := O2.out
  have t1 := (Touch.setCell _ ⟨w.heap.size + 1, 3, none⟩ (.slice q2 gs.length d2)).owns ((Touch.setCell _ ⟨w.heap.size + 1, 2, none⟩ (.slice q1 ws.length d1)).owns ((Touch.setCell _ ⟨w.heap.size + 1, 1, none⟩ (.int .i64 size)).owns ((Touch.setCell _ ⟨w.heap.size + 1, 0, none⟩ (.int .i64 long)).owns ((Touch.setCell w2 ⟨w.heap.size + 1 + 1, 3, none⟩ (.slice q2 gs.length d2)).owns o1 (by simp)) (by simp)) (by simp)) (by simp)) (by simp)
  have t2 := (Touch.setCell _ ⟨w.heap.size + 1, 3, none⟩ (.slice q2 gs.length d2)).owns ((Touch.setCell _ ⟨w.heap.size + 1, 2, none⟩ (.slice q1 ws.length d1)).owns ((Touch.setCell _ ⟨w.heap.size + 1, 1, none⟩ (.int .i64 size)).owns ((Touch.setCell _ ⟨w.heap.size + 1, 0, none⟩ (.int .i64 long)).owns ((Touch.setCell w2 ⟨w.heap.size + 1 + 1, 3, none⟩ (.slice q2 gs.length d2)).owns o2 (by simp; omega)) (by simp; omega)) (by simp; omega)) (by simp; omega)) (by simp; omega)
  refine bodyPost_ret (v := .agg #[.int .i64 long, .int .i64 size, .slice q1 ws.length d1, .slice q2 gs.length d2]) ?_ rfl ⟨q1, d1, q2, d2, rfl, owns_base t1 (by simp; omega), owns_base t2 (by simp; omega), owns_apart O1.out O2.out (by simp), hb⟩
  simp [results, Tryz.results51, go_sem, hc2, hc1, hs3]

end Go.Proofs.YtbakicgdloakgaaGreatDoor
namespace Go.Proofs.YtbakicgdloakgaaGreatDoor
open Go.ChangeShapes Go.WideShapes Go.ChangeAt Go.RowKit Go.Sort

set_option maxRecDepth 100000 in
set_option maxHeartbeats 2000000 in
theorem specPlanOk (long size : Int) (a1 a2 : Option Addr) (c1 c2 : Nat) (ws gs : List Int) (w : World) (ha1 : IntsAt w a1 ws) (ha2 : IntsAt w a2 gs) (_hx : ws.length ≤ 1152921504606846976) (_hy : gs.length ≤ 1152921504606846976) :
    Calls Tryz.prog 68 #[.agg #[.int .i64 long, .int .i64 size, .slice a1 ws.length c1, .slice a2 gs.length c2]] w fun e w' => e = .returned (.bool (decide (planP long size ws gs))) ∧ Below w.heap.size w w' := by
  by_cases g1 : 1 ≤ long ∧ long ≤ 300
  · obtain ⟨l1, l2⟩ := g1
    by_cases g2 : 1 ≤ size ∧ size ≤ 16
    · obtain ⟨l3, l4⟩ := g2
      have hN := cnt_pos long size l1 l3
      by_cases l5 : cntI long size ≤ 24
      · by_cases g3 : 1 ≤ ws.length ∧ ws.length ≤ 3
        · by_cases l8 : gs.length = ws.length
          · exact specPlan_in long size a1 a2 c1 c2 ws gs w ha1 ha2 l1 l2 l3 l4 l5 g3.1 g3.2 l8
          · have H := hid (show decide (planP long size ws gs) = false from decide_eq_false (by rintro ⟨_, _, _, p⟩; exact l8 p))
            have l8' : ((gs.length : Int) != (ws.length : Int)) = true := by rw [bne_iff_ne]; omega
            obtain ⟨g4, g5⟩ := g3
            clear l8 ha1 ha2
            go_enter Tryz.func68, Tryz.ntmps68
            go_wp2_with (first
              | (go_at_call 70; refine (specCount long size _ _ _ _ _ _ _ l1 l2 l3 l4).mono ?_; rintro e w1 ⟨rfl, hb1⟩; obtain ⟨hc1, hf1⟩ := bcell hb1)
              | (go_at_call 46; refine (l1In_yes _ _ _ _ (by omega)).mono ?_; rintro e w2 ⟨rfl, rfl⟩))
            go_ret
            exact ⟨ret_bool H.out.symm, below_cat' (below_alloc' _ _) hb1⟩
        · have H := hid (show decide (planP long size ws gs) = false from decide_eq_false (by rintro ⟨_, ⟨p1, p2, _⟩, _⟩; omega))
          clear ha1 ha2
          go_enter Tryz.func68, Tryz.ntmps68
          go_wp2_with (first
            | (go_at_call 70; refine (specCount long size _ _ _ _ _ _ _ l1 l2 l3 l4).mono ?_; rintro e w1 ⟨rfl, hb1⟩; obtain ⟨hc1, hf1⟩ := bcell hb1)
            | (go_at_call_of 46 (Value.int .i64 (ws.length : Int)); refine (l1In_no _ _ _ _ (by omega)).mono ?_; rintro e w2 ⟨rfl, rfl⟩)
            | (go_at_call 46; refine (l1In_yes _ _ _ _ (by omega)).mono ?_; rintro e w2 ⟨rfl, rfl⟩))
          go_ret
          exact ⟨ret_bool H.out.symm, below_cat' (below_alloc' _ _) hb1⟩
      · have H := hid (show decide (planP long size ws gs) = false from decide_eq_false (by rintro ⟨⟨_, _, _, _, p⟩, _⟩; omega))
        clear ha1 ha2
        go_enter Tryz.func68, Tryz.ntmps68
        go_wp2_with (first
          | (go_at_call 70; refine (specCount long size _ _ _ _ _ _ _ l1 l2 l3 l4).mono ?_; rintro e w1 ⟨rfl, hb1⟩; obtain ⟨hc1, hf1⟩ := bcell hb1)
          | (go_at_call_of 46 (Value.int .i64 (cntI long size)); refine (l1In_no _ _ _ _ (by omega)).mono ?_; rintro e w2 ⟨rfl, rfl⟩)
          | (go_at_call 46; refine (l1In_yes _ _ _ _ (by omega)).mono ?_; rintro e w2 ⟨rfl, rfl⟩))
        go_ret
        exact ⟨ret_bool H.out.symm, below_cat' (below_alloc' _ _) hb1⟩
    · have H := hid (show decide (planP long size ws gs) = false from decide_eq_false (by rintro ⟨⟨_, _, p1, p2, _⟩, _⟩; omega))
      clear ha1 ha2
      go_enter Tryz.func68, Tryz.ntmps68
      go_wp2_with fail
      refine (l1In_yes _ _ _ _ (by omega)).mono ?_
      rintro e w2 ⟨rfl, rfl⟩
      go_wp2_with fail
      refine (l1In_no _ _ _ _ (by omega)).mono ?_
      rintro e w2 ⟨rfl, rfl⟩
      go_wp2_with fail
      go_ret
      exact ⟨ret_bool H.out.symm, below_alloc' _ _⟩
  · have H := hid (show decide (planP long size ws gs) = false from decide_eq_false (by rintro ⟨⟨p1, p2, _⟩, _⟩; omega))
    clear ha1 ha2
    go_enter Tryz.func68, Tryz.ntmps68
    go_wp2_with fail
    refine (l1In_no _ _ _ _ (by omega)).mono ?_
    rintro e w2 ⟨rfl, rfl⟩
    go_wp2_with fail
    go_ret
    exact ⟨ret_bool H.out.symm, below_alloc' _ _⟩
end Go.Proofs.YtbakicgdloakgaaGreatDoor
namespace Go.Proofs.YtbakicgdloakgaaGreatDoor
open Go.ChangeShapes Go.WideShapes Go.ChangeAt Go.RowKit Go.Sort

end Go.Proofs.YtbakicgdloakgaaGreatDoor
namespace Go.Proofs.YtbakicgdloakgaaGreatDoor
open Go.ChangeShapes Go.WideShapes Go.ChangeAt Go.RowKit Go.Sort

theorem below2 (w : World) (a b : Obj) : Below w.heap.size w ((w.alloc a).alloc b) :=
  ((Below.refl _ _).alloc (Nat.le_refl _) _).alloc (by simp) _
set_option maxRecDepth 100000 in
set_option maxHeartbeats 1000000 in
theorem eqPlan_same (long size : Int) (a1 a2 b1 b2 : Option Addr) (c1 c2 d1 d2 : Nat) (ws gs : List Int) (w : World) (ha1 : IntsAt w a1 ws) (ha2 : IntsAt w a2 gs) (hb1 : IntsAt w b1 ws) (hb2 : IntsAt w b2 gs) (hx : ws.length ≤ 1152921504606846976) (hy : gs.length ≤ 1152921504606846976) :
    Calls Tryz.prog 59 #[.agg #[.int .i64 long, .int .i64 size, .slice a1 ws.length c1, .slice a2 gs.length c2], .agg #[.int .i64 long, .int .i64 size, .slice b1 ws.length d1, .slice b2 gs.length d2]] w fun e w' => e = .returned (.bool true) ∧ Below w.heap.size w w' := by
  go_enter Tryz.func59, Tryz.ntmps59
  go_wp2_with fail
  refine (eqIntS_any a1 b1 c1 d1 ws ws _ (by exact ha1.below (below2 _ _ _)) (by exact hb1.below (below2 _ _ _)) hx).mono ?_
  rintro e w1 ⟨rfl, n1, rfl⟩
  go_wp2_with fail
  refine (eqIntS_any a2 b2 c2 d2 gs gs _ (by exact (ha2.below (below2 _ _ _)).drewN _) (by exact (hb2.below (below2 _ _ _)).drewN _) hy).mono ?_
  rintro e w2 ⟨rfl, n2, rfl⟩
  go_wp2_with fail
  go_ret
  exact ⟨rfl, below_drewN (below2 _ _ _) _⟩
end Go.Proofs.YtbakicgdloakgaaGreatDoor
namespace Go.Proofs.YtbakicgdloakgaaGreatDoor
open Go.ChangeShapes Go.WideShapes Go.ChangeAt Go.RowKit Go.Sort

end Go.Proofs.YtbakicgdloakgaaGreatDoor
namespace Go.Proofs.YtbakicgdloakgaaGreatDoor
open Go.ChangeShapes Go.WideShapes Go.ChangeAt Go.RowKit

end Go.Proofs.YtbakicgdloakgaaGreatDoor
namespace Go.Proofs.YtbakicgdloakgaaGreatDoor
open Go.ChangeShapes Go.WideShapes Go.ChangeAt Go.RowKit

end Go.Proofs.YtbakicgdloakgaaGreatDoor
