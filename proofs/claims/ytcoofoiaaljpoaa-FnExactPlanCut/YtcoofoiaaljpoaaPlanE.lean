/- Plans that are the same, as the laws compare them. -/
import Derived.Test.YtcoofoiaaljpoaaPlanL
namespace Go.Proofs.Ytcoofoiaaljpoaa
open Go.ChangeShapes Go.WideShapes Go.ChangeAt Go.RowKit Go.Sort

theorem below2 (w : World) (a b : Obj) : Below w.heap.size w ((w.alloc a).alloc b) :=
  ((Below.refl _ _).alloc (Nat.le_refl _) _).alloc (by simp) _
theorem IntsAt.dr {w w' : World} {a : Option Addr} {xs : List Int} (h : IntsAt w a xs) (hd : Dr w w') : IntsAt w' a xs := by obtain ⟨n, rfl⟩ := hd; exact h.drewN n

set_option maxRecDepth 100000 in
set_option maxHeartbeats 1000000 in
theorem eqPlan_same (long size : Int) (a1 a2 b1 b2 : Option Addr) (c1 c2 d1 d2 : Nat) (ws gs : List Int) (w : World) (ha1 : IntsAt w a1 ws) (ha2 : IntsAt w a2 gs) (hb1 : IntsAt w b1 ws) (hb2 : IntsAt w b2 gs) (hx : ws.length ≤ 1152921504606846976) (hy : gs.length ≤ 1152921504606846976) :
    Calls Try.prog 9 #[.agg #[.int .i64 long, .int .i64 size, .slice a1 ws.length c1, .slice a2 gs.length c2], .agg #[.int .i64 long, .int .i64 size, .slice b1 ws.length d1, .slice b2 gs.length d2]] w fun e w' => e = .returned (.bool true) ∧ Below w.heap.size w w' := by
  go_enter Try.func9, Try.ntmps9
  go_wp2_with fail
  refine (eqIntS_any a1 b1 c1 d1 ws ws _ (by exact ha1.below (below2 _ _ _)) (by exact hb1.below (below2 _ _ _)) hx).mono ?_
  rintro e w1 ⟨rfl, n1, rfl⟩
  go_wp2_with fail
  refine (eqIntS_any a2 b2 c2 d2 gs gs _ (by exact (ha2.below (below2 _ _ _)).drewN _) (by exact (hb2.below (below2 _ _ _)).drewN _) hy).mono ?_
  rintro e w2 ⟨rfl, n2, rfl⟩
  go_wp2_with fail
  go_ret
  exact ⟨rfl, below_drewN (below2 _ _ _) _⟩
end Go.Proofs.Ytcoofoiaaljpoaa
