/- PlanCut by the model. -/
import Derived.Test.YtcoofoiaaljpoaaPcS
import Derived.Test.YtcoofoiaaljpoaaPlanSB
namespace Go.Proofs.Ytcoofoiaaljpoaa
open Go.ChangeShapes Go.WideShapes Go.ChangeAt Go.RowKit Go.Sort

theorem cnt_cover (long size : Nat) (_l1 : 1 ≤ long) (l3 : 1 ≤ size) (N : Nat) (hN : cntI long size = N) : long ≤ N * size ∧ N * size ≤ long + size := by
  unfold cntI at hN
  have h1 := Int.mul_ediv_add_emod ((long : Int) + size - 1) size
  have h2 := Int.emod_nonneg ((long : Int) + size - 1) (b := (size : Int)) (by omega)
  have h3 := Int.emod_lt_of_pos ((long : Int) + size - 1) (b := (size : Int)) (by omega)
  rw [hN] at h1
  have h4 : ((N * size : Nat) : Int) = (size : Int) * (N : Int) := by rw [Int.natCast_mul, Int.mul_comm]
  omega

/-- The blocks of a text. -/
def blkP (t : ByteArray) (long size : Nat) : List ByteArray := cutP (t ++ rep ((cntI long size).toNat * size - long) (strOfNums [0])) size (cntI long size).toNat

set_option maxHeartbeats 2000000 in
theorem specPlanCut_in (long size : Nat) (a1 a2 : Option Addr) (c1 c2 : Nat) (ws gs : List Int) (t : ByteArray) (w : World) (ha1 : IntsAt w a1 ws) (ha2 : IntsAt w a2 gs) (hx : ws.length ≤ 1048576) (hy : gs.length ≤ 1048576) (hp : planP long size ws gs) (ht : t.size = long) :
    Calls Try.prog 5 #[.agg #[.int .i64 long, .int .i64 size, .slice a1 ws.length c1, .slice a2 gs.length c2], .string t] w fun e w' => ∃ v, e = .returned v ∧ w'.ownsRow w.heap.size 9 1 v (blkP t long size).length ((blkP t long size).map Value.string) ∧ Below w.heap.size w w' := by
  have l1 : 1 ≤ long := by have := hp.1.1; omega
  have l2 : long ≤ 300 := by have := hp.1.2.1; omega
  have l3 : 1 ≤ size := by have := hp.1.2.2.1; omega
  have l4 : size ≤ 16 := by have := hp.1.2.2.2.1; omega
  have hc := cnt_pos long size (by omega) (by omega)
  have hc2 := hp.1.2.2.2.2
  obtain ⟨N, hN⟩ : ∃ N : Nat, cntI long size = N := ⟨(cntI long size).toNat, by omega⟩
  have hcv := cnt_cover long size l1 l3 N hN
  have HK := hid (fun w => l5Cut_any long size N (N * size) a1 a2 ws.length c1 gs.length c2 t w l1 l2 l3 l4 hN (by omega) rfl hcv.1 (by omega) ht)
  have HE := hid (show blkP t long size = cutP (t ++ rep (N * size - long) (strOfNums [0])) size N by unfold blkP; rw [hN]; rfl)
  have B0 := below_alloc' w (.cells #[.int .i64 long, .int .i64 size, .slice a1 ws.length c1, .slice a2 gs.length c2] 28)
  have X0 := hid (laid w #[.int .i64 long, .int .i64 size, .slice a1 ws.length c1, .slice a2 gs.length c2] 28)
  have HOK := hid (specPlanOk long size a1 a2 c1 c2 ws gs _ (ha1.below B0) (ha2.below B0) (by omega) (by omega))
  rw [decide_eq_true hp] at HOK
  have B := hid B0
  clear B0 ha1 ha2 hp hc hc2 hcv hN
  go_enter Try.func5, Try.ntmps5
  go_wp2_with (first
    | (go_at_call 14; refine (HOK.out).mono ?_; rintro e w1 ⟨rfl, b1⟩; have X1 := hid (kept X0.out b1); have B1 := hid (below_cat' B.out b1); clear b1; have q0 := box_cell X1.out 0 (v := .int .i64 long) rfl; have q1 := box_cell X1.out 1 (v := .int .i64 size) rfl; have q2 := box_cell X1.out 2 (v := .slice a1 ws.length c1) rfl; have q3 := box_cell X1.out 3 (v := .slice a2 gs.length c2) rfl)
    | (go_at_call 15; refine (HK.out _).mono ?_; rintro e w2 ⟨v, rfl, o2, b2⟩; have B2 := hid (below_cat' B1.out b2); have O2 := hid (owns_base o2 B1.out.size); clear b2 o2))
  go_ret
  refine ⟨_, rfl, ?_, B2.out⟩
  rw [HE.out, cutP_len]
  exact O2.out

set_option maxHeartbeats 2000000 in
theorem specPlanCut_out (long size : Int) (a1 a2 : Option Addr) (c1 c2 : Nat) (ws gs : List Int) (t : ByteArray) (w : World) (ha1 : IntsAt w a1 ws) (ha2 : IntsAt w a2 gs) (hx : ws.length ≤ 1048576) (hy : gs.length ≤ 1048576) (hp : ¬ (planP long size ws gs ∧ (t.size : Int) = long)) :
    Calls Try.prog 5 #[.agg #[.int .i64 long, .int .i64 size, .slice a1 ws.length c1, .slice a2 gs.length c2], .string t] w fun e w' => ∃ a, e = .returned (.slice a 0 0) ∧ Below w.heap.size w w' := by
  have B0 := below_alloc' w (.cells #[.int .i64 long, .int .i64 size, .slice a1 ws.length c1, .slice a2 gs.length c2] 28)
  have X0 := hid (laid w #[.int .i64 long, .int .i64 size, .slice a1 ws.length c1, .slice a2 gs.length c2] 28)
  have HOK := hid (specPlanOk long size a1 a2 c1 c2 ws gs _ (ha1.below B0) (ha2.below B0) (by omega) (by omega))
  have B := hid B0
  clear B0 ha1 ha2
  by_cases h : planP long size ws gs
  · rw [decide_eq_true h] at HOK
    have ht : ((t.size : Int) == long) = false := by rw [beq_eq_false_iff_ne]; exact fun e => hp ⟨h, e⟩
    clear hp h
    go_enter Try.func5, Try.ntmps5
    go_wp2_with (go_at_call 14; refine (HOK.out).mono ?_; rintro e w1 ⟨rfl, b1⟩; have X1 := hid (kept X0.out b1); have B1 := hid (below_cat' B.out b1); clear b1; have q0 := box_cell X1.out 0 (v := .int .i64 long) rfl; have q1 := box_cell X1.out 1 (v := .int .i64 size) rfl; have q2 := box_cell X1.out 2 (v := .slice a1 ws.length c1) rfl; have q3 := box_cell X1.out 3 (v := .slice a2 gs.length c2) rfl)
    go_ret
    exact ⟨_, rfl, below_cat' B1.out (below_alloc' _ _)⟩
  · rw [decide_eq_false h] at HOK
    clear hp h
    go_enter Try.func5, Try.ntmps5
    go_wp2_with (go_at_call 14; refine (HOK.out).mono ?_; rintro e w1 ⟨rfl, b1⟩; have B1 := hid (below_cat' B.out b1); clear b1)
    go_ret
    exact ⟨_, rfl, below_cat' B1.out (below_alloc' _ _)⟩
end Go.Proofs.Ytcoofoiaaljpoaa
