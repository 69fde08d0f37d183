/- What is known of a file: the same, marked, held, as the laws do it. -/
import Derived.Test.YtgoidhppffoldaaPlanH
import Derived.Test.YtgoidhppffoldaaPlanFB
import Derived.Test.YtgoidhppffoldaaSolN
namespace Go.Proofs.Ytgoidhppffoldaa
open Go.ChangeShapes Go.WideShapes Go.ChangeAt Go.RowKit Go.Sort


set_option maxHeartbeats 1000000 in
theorem eqGetting_same (L S C S' : Int) (a1 a2 b1 b2 : Option Addr) (c1 c2 d1 d2 : Nat) (ws gs : List Int) (w : World) (ha1 : IntsAt w a1 ws) (ha2 : IntsAt w a2 gs) (hb1 : IntsAt w b1 ws) (hb2 : IntsAt w b2 gs) (hx : ws.length ≤ 1000) (hy : gs.length ≤ 1000) :
    Calls Try.prog 16 #[.agg #[.int .i64 L, .int .i64 S, .slice a1 ws.length c1, .slice a2 gs.length c2, .int .i64 C, .int .i64 S', .slice none 0 0], .agg #[.int .i64 L, .int .i64 S, .slice b1 ws.length d1, .slice b2 gs.length d2, .int .i64 C, .int .i64 S', .slice none 0 0]] w fun e w' => e = .returned (.bool true) ∧ Below w.heap.size w w' := by
  have B0 := below2' w (.cells #[.int .i64 L, .int .i64 S, .slice a1 ws.length c1, .slice a2 gs.length c2, .int .i64 C, .int .i64 S', .slice none 0 0] 39) (.cells #[.int .i64 L, .int .i64 S, .slice b1 ws.length d1, .slice b2 gs.length d2, .int .i64 C, .int .i64 S', .slice none 0 0] 39)
  have X1 := hid (kept (laid w #[.int .i64 L, .int .i64 S, .slice a1 ws.length c1, .slice a2 gs.length c2, .int .i64 C, .int .i64 S', .slice none 0 0] 39) (below_alloc' _ (.cells #[.int .i64 L, .int .i64 S, .slice b1 ws.length d1, .slice b2 gs.length d2, .int .i64 C, .int .i64 S', .slice none 0 0] 39)))
  have X2 := laid (w.alloc (.cells #[.int .i64 L, .int .i64 S, .slice a1 ws.length c1, .slice a2 gs.length c2, .int .i64 C, .int .i64 S', .slice none 0 0] 39)) #[.int .i64 L, .int .i64 S, .slice b1 ws.length d1, .slice b2 gs.length d2, .int .i64 C, .int .i64 S', .slice none 0 0] 39
  rw [World.size_alloc'] at X2
  have X2 := hid X2
  have I1 := hid (ha1.below B0)
  have I2 := hid (ha2.below B0)
  have J1 := hid (hb1.below B0)
  have J2 := hid (hb2.below B0)
  have B0 := hid B0
  clear ha1 ha2 hb1 hb2
  go_enter Try.func16, Try.ntmps16
  go_wp2_with fail
  refine (eqPlan_same L S a1 a2 b1 b2 c1 c2 d1 d2 ws gs _ (by exact I1.out) (by exact I2.out) (by exact J1.out) (by exact J2.out) (by omega) (by omega)).mono ?_
  rintro e w1 ⟨rfl, b1⟩
  have Y1 := hid (kept X1.out b1)
  have Y2 := hid (kept X2.out b1)
  have B1 := hid (below_cat' B0.out b1)
  clear b1
  have p4 := box_cell Y1.out 4 (v := .int .i64 C) rfl
  have p5 := box_cell Y1.out 5 (v := .int .i64 S') rfl
  have p6 := box_cell Y1.out 6 (v := .slice none 0 0) rfl
  have q4 := box_cell Y2.out 4 (v := .int .i64 C) rfl
  have q5 := box_cell Y2.out 5 (v := .int .i64 S') rfl
  have q6 := box_cell Y2.out 6 (v := .slice none 0 0) rfl
  go_wp2_with fail
  refine (eqSolver_nil C S' _).mono ?_
  rintro e w2 ⟨rfl, b2⟩
  have B2 := hid (below_cat' B1.out b2)
  clear b2
  go_wp2_with fail
  go_ret
  exact ⟨rfl, B2.out⟩

set_option maxHeartbeats 1000000 in
theorem markGetting_any (base : Nat) (L S C S' : Int) (a1 a2 : Option Addr) (c1 c2 : Nat) (ws gs : List Int) (k : Int) (w : World) (o1 : w.ownsRow base 3 1 (.slice a1 ws.length c1) ws.length (ws.map (Value.int .i64))) (o2 : w.ownsRow base 3 1 (.slice a2 gs.length c2) gs.length (gs.map (Value.int .i64))) (ap : Apart (.slice a1 ws.length c1) (.slice a2 gs.length c2)) (hb : base ≤ w.heap.size) (hx : ws.length ≤ 1000) (hy : gs.length ≤ 1000) (k0 : 0 ≤ k) (k1 : k ≤ 1000) :
    Calls Try.prog 17 #[.agg #[.int .i64 L, .int .i64 S, .slice a1 ws.length c1, .slice a2 gs.length c2, .int .i64 C, .int .i64 S', .slice none 0 0], .int .i64 k] w fun e w' => e = .returned (.int .i64 (k + ws.length + gs.length)) ∧
      w'.ownsRow base 3 1 (.slice a1 ws.length c1) ws.length ((marks k ws.length).map (Value.int .i64)) ∧ w'.ownsRow base 3 1 (.slice a2 gs.length c2) gs.length ((marks (k + ws.length) gs.length).map (Value.int .i64)) ∧ Below base w w' ∧ ∀ g, g < w.heap.size → (.slice a1 ws.length c1 : Value).ownBlock ≠ some g → (.slice a2 gs.length c2 : Value).ownBlock ≠ some g → w'.heap[g]? = w.heap[g]? := by
  have O1 := hid (owns_below o1 (below_alloc' w (.cells #[.int .i64 L, .int .i64 S, .slice a1 ws.length c1, .slice a2 gs.length c2, .int .i64 C, .int .i64 S', .slice none 0 0] 39)))
  have O2 := hid (owns_below o2 (below_alloc' w (.cells #[.int .i64 L, .int .i64 S, .slice a1 ws.length c1, .slice a2 gs.length c2, .int .i64 C, .int .i64 S', .slice none 0 0] 39)))
  have X0 := hid (laid w #[.int .i64 L, .int .i64 S, .slice a1 ws.length c1, .slice a2 gs.length c2, .int .i64 C, .int .i64 S', .slice none 0 0] 39)
  have n1 : (.slice a1 ws.length c1 : Value).ownBlock ≠ some w.heap.size := fun h => by have := (o1.lt _ h).2; omega
  have n2 : (.slice a2 gs.length c2 : Value).ownBlock ≠ some w.heap.size := fun h => by have := (o2.lt _ h).2; omega
  have N1 := hid n1
  have N2 := hid n2
  have AP := hid ap
  clear o1 o2 ap n1 n2
  go_enter Try.func17, Try.ntmps17
  go_wp2_with fail
  refine (markPlan_any base L S a1 a2 c1 c2 ws gs k _ (by exact O1.out) (by exact O2.out) AP.out (by simp; omega) (by omega) (by omega) (by omega) (by omega)).mono ?_
  rintro e w1 ⟨rfl, m1, m2, b1, k1'⟩
  have M1 := hid m1
  have M2 := hid m2
  have K1 := hid k1'
  have B1 := hid b1
  have X1 := hid ((k1' w.heap.size (by simp) N1.out N2.out).trans X0.out)
  clear m1 m2 b1 k1'
  have p4 := box_cell X1.out 4 (v := .int .i64 C) rfl
  have p5 := box_cell X1.out 5 (v := .int .i64 S') rfl
  have p6 := box_cell X1.out 6 (v := .slice none 0 0) rfl
  go_wp2_with fail
  refine (markSolver_nil C S' _ _).mono ?_
  rintro e w2 ⟨rfl, b2⟩
  have hz := B1.out.size
  have B2 := hid (Below.trans ((Below.refl base w).alloc hb (.cells #[.int .i64 L, .int .i64 S, .slice a1 ws.length c1, .slice a2 gs.length c2, .int .i64 C, .int .i64 S', .slice none 0 0] 39)) (B1.out.trans (b2.mono (by simp at hz; omega))))
  have P1 := hid (owns_below M1.out b2)
  have P2 := hid (owns_below M2.out b2)
  have C2 := hid b2
  clear b2
  go_wp2_with fail
  go_ret
  refine ⟨ret_int (by omega), P1.out, P2.out, B2.out, fun g hg hn1 hn2 => ?_⟩
  have hs : g < (w.alloc (.cells #[.int .i64 L, .int .i64 S, .slice a1 ws.length c1, .slice a2 gs.length c2, .int .i64 C, .int .i64 S', .slice none 0 0] 39)).heap.size := by simp; omega
  rw [C2.out.block g (Nat.lt_of_lt_of_le hs hz), K1.out g hs hn1 hn2]
  exact (below_alloc' w _).block g hg

set_option maxHeartbeats 1000000 in
theorem heldGetting_any (L S C S' : Int) (a1 a2 : Option Addr) (n1 n2 c1 c2 : Nat) (k : Int) (w : World) (i1 : IntsAt w a1 (marks k n1)) (i2 : IntsAt w a2 (marks (k + n1) n2)) (hx : n1 ≤ 1000) (hy : n2 ≤ 1000) (k0 : 0 ≤ k) (k1 : k ≤ 1000) :
    Calls Try.prog 18 #[.agg #[.int .i64 L, .int .i64 S, .slice a1 n1 c1, .slice a2 n2 c2, .int .i64 C, .int .i64 S', .slice none 0 0], .int .i64 k] w fun e w' => e = .returned (.int .i64 (k + n1 + n2)) ∧ Below w.heap.size w w' := by
  have I1 := hid (i1.below (below_alloc' w (.cells #[.int .i64 L, .int .i64 S, .slice a1 n1 c1, .slice a2 n2 c2, .int .i64 C, .int .i64 S', .slice none 0 0] 39)))
  have I2 := hid (i2.below (below_alloc' w (.cells #[.int .i64 L, .int .i64 S, .slice a1 n1 c1, .slice a2 n2 c2, .int .i64 C, .int .i64 S', .slice none 0 0] 39)))
  have X0 := hid (laid w #[.int .i64 L, .int .i64 S, .slice a1 n1 c1, .slice a2 n2 c2, .int .i64 C, .int .i64 S', .slice none 0 0] 39)
  clear i1 i2
  go_enter Try.func18, Try.ntmps18
  go_wp2_with fail
  refine (heldPlan_any L S a1 a2 n1 n2 c1 c2 k _ (by exact I1.out) (by exact I2.out) (by omega) (by omega) (by omega) (by omega)).mono ?_
  rintro e w1 ⟨rfl, b1⟩
  have X1 := hid (kept X0.out b1)
  have B1 := hid (below_cat' (below_alloc' _ _) b1)
  clear b1
  have p4 := box_cell X1.out 4 (v := .int .i64 C) rfl
  have p5 := box_cell X1.out 5 (v := .int .i64 S') rfl
  have p6 := box_cell X1.out 6 (v := .slice none 0 0) rfl
  go_wp2_with fail
  refine (heldSolver_nil C S' _ _ (by omega)).mono ?_
  rintro e w2 ⟨rfl, b2⟩
  have B2 := hid (below_cat' B1.out b2)
  clear b2
  go_wp2_with fail
  go_ret
  exact ⟨ret_int (by omega), B2.out⟩
end Go.Proofs.Ytgoidhppffoldaa
