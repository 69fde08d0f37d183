/- How many blocks a plan has, by the program. -/
import Derived.Test.YtefopoefknckcaaPlanI
namespace Go.Proofs.Ytefopoefknckcaa
open Go.ChangeShapes Go.WideShapes Go.ChangeAt Go.RowKit

/-- How many blocks, nothing of what is not ok. -/
def cntP (long size : Int) (ws gs : List Int) : Int := if planP long size ws gs then cntI long size else 0

theorem implPlanCount (long size : Int) (a1 a2 : Option Addr) (c1 c2 : Nat) (ws gs : List Int) (w : World) (ha1 : IntsAt w a1 ws) (ha2 : IntsAt w a2 gs) (hx : ws.length ≤ 1152921504606846976) (hy : gs.length ≤ 1152921504606846976) :
    Calls Try.prog 10 #[.agg #[.int .i64 long, .int .i64 size, .slice a1 ws.length c1, .slice a2 gs.length c2]] w fun e w' => e = .returned (.int .i64 (cntP long size ws gs)) ∧ Below w.heap.size w w' := by
  by_cases h : planP long size ws gs
  · rw [show cntP long size ws gs = cntI long size from if_pos h]
    have HD := hid (decide_eq_true h)
    obtain ⟨⟨l1, l2, l3, l4, _⟩, _⟩ := h
    go_enter Try.func10, Try.ntmps10
    go_wp2_with fail
    refine (implPlanOk long size a1 a2 c1 c2 ws gs _ (ha1.alloc _) (ha2.alloc _) hx hy).mono ?_
    rintro e w1 ⟨rfl, hb1⟩
    rw [HD.out]
    obtain ⟨hc1, hf1⟩ := bcell hb1
    go_wp2_with fail
    refine (implCount long size _ _ _ _ _ _ _ l1 l2 l3 l4).mono ?_
    rintro e w2 ⟨rfl, hb2⟩
    go_wp2_with fail
    go_ret
    exact ⟨rfl, below_cat' (below_cat' (below_alloc' _ _) hb1) hb2⟩
  · rw [show cntP long size ws gs = 0 from if_neg h]
    have HD := hid (decide_eq_false h)
    clear h
    go_enter Try.func10, Try.ntmps10
    go_wp2_with fail
    refine (implPlanOk long size a1 a2 c1 c2 ws gs _ (ha1.alloc _) (ha2.alloc _) hx hy).mono ?_
    rintro e w1 ⟨rfl, hb1⟩
    rw [HD.out]
    go_wp2_with fail
    go_ret
    exact ⟨rfl, below_cat' (below_alloc' _ _) hb1⟩
end Go.Proofs.Ytefopoefknckcaa
