/- Plans that are marked, as the laws do it. -/
import Derived.Test.YtcoofoiaaljpoaaIntsM
import Derived.Test.YtcoofoiaaljpoaaPlanE
namespace Go.Proofs.Ytcoofoiaaljpoaa
open Go.ChangeShapes Go.WideShapes Go.ChangeAt Go.RowKit Go.Sort

set_option maxRecDepth 100000 in
set_option maxHeartbeats 1000000 in
theorem markPlan_any (base : Nat) (long size : Int) (a1 a2 : Option Addr) (c1 c2 : Nat) (ws gs : List Int) (k : Int) (w : World) (o1 : w.ownsRow base 3 1 (.slice a1 ws.length c1) ws.length (ws.map (Value.int .i64))) (o2 : w.ownsRow base 3 1 (.slice a2 gs.length c2) gs.length (gs.map (Value.int .i64))) (ap : Apart (.slice a1 ws.length c1) (.slice a2 gs.length c2)) (hb : base ≤ w.heap.size) (hx : ws.length ≤ 1048576) (hy : gs.length ≤ 1048576) (k0 : 0 ≤ k) (k1 : k ≤ 1048576) :
    Calls Try.prog 10 #[.agg #[.int .i64 long, .int .i64 size, .slice a1 ws.length c1, .slice a2 gs.length c2], .int .i64 k] w fun e w' => e = .returned (.int .i64 (k + ws.length + gs.length)) ∧
      w'.ownsRow base 3 1 (.slice a1 ws.length c1) ws.length ((marks k ws.length).map (Value.int .i64)) ∧ w'.ownsRow base 3 1 (.slice a2 gs.length c2) gs.length ((marks (k + ws.length) gs.length).map (Value.int .i64)) ∧ Below base w w' ∧ ∀ g, g < w.heap.size → (.slice a1 ws.length c1 : Value).ownBlock ≠ some g → (.slice a2 gs.length c2 : Value).ownBlock ≠ some g → w'.heap[g]? = w.heap[g]? := by
  have O1 := hid (owns_below o1 (below_alloc' w (.cells #[.int .i64 long, .int .i64 size, .slice a1 ws.length c1, .slice a2 gs.length c2] 28)))
  have O2 := hid (owns_below o2 (below_alloc' w (.cells #[.int .i64 long, .int .i64 size, .slice a1 ws.length c1, .slice a2 gs.length c2] 28)))
  have X0 := hid (laid w #[.int .i64 long, .int .i64 size, .slice a1 ws.length c1, .slice a2 gs.length c2] 28)
  have n1 : (.slice a1 ws.length c1 : Value).ownBlock ≠ some w.heap.size := fun h => by have := (o1.lt _ h).2; omega
  have n2 : (.slice a2 gs.length c2 : Value).ownBlock ≠ some w.heap.size := fun h => by have := (o2.lt _ h).2; omega
  have N1 := hid n1
  have N2 := hid n2
  have AP := hid ap
  clear o1 o2 ap n1 n2
  go_enter Try.func10, Try.ntmps10
  go_wp2_with fail
  refine (markIntS_any base _ ws.length ws k _ (by exact O1.out) (by omega) (by omega) (by omega)).mono ?_
  rintro e w1 ⟨rfl, m1, g1⟩
  have M1 := hid m1
  have G1 := hid g1
  have P2 := hid (owns_grown O2.out g1 AP.out.2)
  have X1 := hid ((g1.block w.heap.size (by simp) (fun h => N1.out h.symm)).trans X0.out)
  clear m1 g1
  have p3 := box_cell X1.out 3 (v := .slice a2 gs.length c2) rfl
  go_wp2_with fail
  refine (markIntS_any base _ gs.length gs (k + ws.length) _ (by exact P2.out) (by omega) (by omega) (by omega)).mono ?_
  rintro e w2 ⟨rfl, m2, g2⟩
  have b1 := grown_base G1.out O1.out (by simp; omega)
  have hz := b1.size
  go_wp2_with fail
  go_ret
  refine ⟨ret_int (by omega), owns_grown M1.out g2 AP.out.1, m2, (((Below.refl base w).alloc hb _).trans b1).trans (grown_base g2 P2.out (by simp at hz; omega)), fun g hg hn1 hn2 => ?_⟩
  have hs : g < (w.alloc (.cells #[.int .i64 long, .int .i64 size, .slice a1 ws.length c1, .slice a2 gs.length c2] 28)).heap.size := by simp; omega
  rw [g2.block g (Nat.lt_of_lt_of_le hs G1.out.size) (fun h => hn2 h.symm), G1.out.block g hs (fun h => hn1 h.symm)]
  exact (below_alloc' w _).block g hg
end Go.Proofs.Ytcoofoiaaljpoaa
