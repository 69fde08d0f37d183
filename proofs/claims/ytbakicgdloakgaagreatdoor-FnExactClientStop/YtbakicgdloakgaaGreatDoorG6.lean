/- Plans: what is ok by the model, all plans. The row of a symbol, by the program. Plans that are the same, as the laws compare them. A plan copied by the model: rows of its own. Sets as bits and as lists, what drawing does to both. A row drawn, the model's way: those that are left as a list. Plans that are marked, as the laws do it. Plans that are held, as the laws do it. A row drawn, the program's way: those that are left as bits. RowDraw: the program's and the model's. RowDraw, the program's, of what is no count or seed. A drawn row ascends, and has at least one number. Texts and their bytes. errors.As at the program's own error: nothing, or the error itself. Numbers in decimals: values. Equations marked and held, as the laws do it. The row of a symbol of a plan that is ok, by the program. Which block a getting wants: the first of a hundred that it lacks. Texts copied by the library. -/
import Derived.Test.YtbakicgdloakgaaGreatDoorG5
import Derived.Test.YtbakicgdloakgaaGreatDoorG4
import Derived.Test.YtbakicgdloakgaaGreatDoorG1
import Derived.Test.YtbakicgdloakgaaGreatDoorG3
import Derived.Laws.BitsAllLaws
import Derived.WalkKit
import Derived.LaidEql
import Derived.Stop.Asserts
import Derived.RowKitTokens
import Derived.Test.YtbakicgdloakgaaGreatDoorG0
import Derived.Lib.ItoaNum
import Derived.Lib.ItoaLen
import Derived.Deep.RegionWith
import Derived.Laws.BytesArg
namespace Go.Proofs.YtbakicgdloakgaaGreatDoor
open Go.ChangeShapes Go.WideShapes Go.ChangeAt Go.RowKit Go.Sort

set_option maxRecDepth 100000 in
set_option maxHeartbeats 2000000 in
theorem specPlanOk (long size : Int) (a1 a2 : Option Addr) (c1 c2 : Nat) (ws gs : List Int) (w : World) (ha1 : IntsAt w a1 ws) (ha2 : IntsAt w a2 gs) (_hx : ws.length ≤ 1152921504606846976) (_hy : gs.length ≤ 1152921504606846976) :
    Calls Tryz.prog 68 #[.agg #[.int .i64 long, .int .i64 size, .slice a1 ws.length c1, .slice a2 gs.length c2]] w fun e w' => e = .returned (.bool (decide (planP long size ws gs))) ∧ Below w.heap.size w w' := by
  by_cases g1 : 1 ≤ long ∧ long ≤ 300
  · obtain ⟨l1, l2⟩ := g1
    by_cases g2 : 1 ≤ size ∧ size ≤ 16
    · obtain ⟨l3, l4⟩ := g2
      have hN := cnt_pos long size l1 l3
      by_cases l5 : cntI long size ≤ 24
      · by_cases g3 : 1 ≤ ws.length ∧ ws.length ≤ 3
        · by_cases l8 : gs.length = ws.length
          · exact specPlan_in long size a1 a2 c1 c2 ws gs w ha1 ha2 l1 l2 l3 l4 l5 g3.1 g3.2 l8
          · have H := hid (show decide (planP long size ws gs) = false from decide_eq_false (by rintro ⟨_, _, _, p⟩; exact l8 p))
            have l8' : ((gs.length : Int) != (ws.length : Int)) = true := by rw [bne_iff_ne]; omega
            obtain ⟨g4, g5⟩ := g3
            clear l8 ha1 ha2
            go_enter Tryz.func68, Tryz.ntmps68
            go_wp2_with (first
              | (go_at_call 70; refine (specCount long size _ _ _ _ _ _ _ l1 l2 l3 l4).mono ?_; rintro e w1 ⟨rfl, hb1⟩; obtain ⟨hc1, hf1⟩ := bcell hb1)
              | (go_at_call 46; refine (l1In_yes _ _ _ _ (by omega)).mono ?_; rintro e w2 ⟨rfl, rfl⟩))
            go_ret
            exact ⟨ret_bool H.out.symm, below_cat' (below_alloc' _ _) hb1⟩
        · have H := hid (show decide (planP long size ws gs) = false from decide_eq_false (by rintro ⟨_, ⟨p1, p2, _⟩, _⟩; omega))
          clear ha1 ha2
          go_enter Tryz.func68, Tryz.ntmps68
          go_wp2_with (first
            | (go_at_call 70; refine (specCount long size _ _ _ _ _ _ _ l1 l2 l3 l4).mono ?_; rintro e w1 ⟨rfl, hb1⟩; obtain ⟨hc1, hf1⟩ := bcell hb1)
            | (go_at_call_of 46 (Value.int .i64 (ws.length : Int)); refine (l1In_no _ _ _ _ (by omega)).mono ?_; rintro e w2 ⟨rfl, rfl⟩)
            | (go_at_call 46; refine (l1In_yes _ _ _ _ (by omega)).mono ?_; rintro e w2 ⟨rfl, rfl⟩))
          go_ret
          exact ⟨ret_bool H.out.symm, below_cat' (below_alloc' _ _) hb1⟩
      · have H := hid (show decide (planP long size ws gs) = false from decide_eq_false (by rintro ⟨⟨_, _, _, _, p⟩, _⟩; omega))
        clear ha1 ha2
        go_enter Tryz.func68, Tryz.ntmps68
        go_wp2_with (first
          | (go_at_call 70; refine (specCount long size _ _ _ _ _ _ _ l1 l2 l3 l4).mono ?_; rintro e w1 ⟨rfl, hb1⟩; obtain ⟨hc1, hf1⟩ := bcell hb1)
          | (go_at_call_of 46 (Value.int .i64 (cntI long size)); refine (l1In_no _ _ _ _ (by omega)).mono ?_; rintro e w2 ⟨rfl, rfl⟩)
          | (go_at_call 46; refine (l1In_yes _ _ _ _ (by omega)).mono ?_; rintro e w2 ⟨rfl, rfl⟩))
        go_ret
        exact ⟨ret_bool H.out.symm, below_cat' (below_alloc' _ _) hb1⟩
    · have H := hid (show decide (planP long size ws gs) = false from decide_eq_false (by rintro ⟨⟨_, _, p1, p2, _⟩, _⟩; omega))
      clear ha1 ha2
      go_enter Tryz.func68, Tryz.ntmps68
      go_wp2_with fail
      refine (l1In_yes _ _ _ _ (by omega)).mono ?_
      rintro e w2 ⟨rfl, rfl⟩
      go_wp2_with fail
      refine (l1In_no _ _ _ _ (by omega)).mono ?_
      rintro e w2 ⟨rfl, rfl⟩
      go_wp2_with fail
      go_ret
      exact ⟨ret_bool H.out.symm, below_alloc' _ _⟩
  · have H := hid (show decide (planP long size ws gs) = false from decide_eq_false (by rintro ⟨⟨p1, p2, _⟩, _⟩; omega))
    clear ha1 ha2
    go_enter Tryz.func68, Tryz.ntmps68
    go_wp2_with fail
    refine (l1In_no _ _ _ _ (by omega)).mono ?_
    rintro e w2 ⟨rfl, rfl⟩
    go_wp2_with fail
    go_ret
    exact ⟨ret_bool H.out.symm, below_alloc' _ _⟩
end Go.Proofs.YtbakicgdloakgaaGreatDoor
namespace Go.Proofs.YtbakicgdloakgaaGreatDoor
open Go.ChangeShapes Go.WideShapes Go.ChangeAt Go.RowKit Go.Sort

end Go.Proofs.YtbakicgdloakgaaGreatDoor
namespace Go.Proofs.YtbakicgdloakgaaGreatDoor
open Go.ChangeShapes Go.WideShapes Go.ChangeAt Go.RowKit Go.Sort

theorem below2 (w : World) (a b : Obj) : Below w.heap.size w ((w.alloc a).alloc b) :=
  ((Below.refl _ _).alloc (Nat.le_refl _) _).alloc (by simp) _
set_option maxRecDepth 100000 in
set_option maxHeartbeats 1000000 in
theorem eqPlan_same (long size : Int) (a1 a2 b1 b2 : Option Addr) (c1 c2 d1 d2 : Nat) (ws gs : List Int) (w : World) (ha1 : IntsAt w a1 ws) (ha2 : IntsAt w a2 gs) (hb1 : IntsAt w b1 ws) (hb2 : IntsAt w b2 gs) (hx : ws.length ≤ 1152921504606846976) (hy : gs.length ≤ 1152921504606846976) :
    Calls Tryz.prog 59 #[.agg #[.int .i64 long, .int .i64 size, .slice a1 ws.length c1, .slice a2 gs.length c2], .agg #[.int .i64 long, .int .i64 size, .slice b1 ws.length d1, .slice b2 gs.length d2]] w fun e w' => e = .returned (.bool true) ∧ Below w.heap.size w w' := by
  go_enter Tryz.func59, Tryz.ntmps59
  go_wp2_with fail
  refine (eqIntS_any a1 b1 c1 d1 ws ws _ (by exact ha1.below (below2 _ _ _)) (by exact hb1.below (below2 _ _ _)) hx).mono ?_
  rintro e w1 ⟨rfl, n1, rfl⟩
  go_wp2_with fail
  refine (eqIntS_any a2 b2 c2 d2 gs gs _ (by exact (ha2.below (below2 _ _ _)).drewN _) (by exact (hb2.below (below2 _ _ _)).drewN _) hy).mono ?_
  rintro e w2 ⟨rfl, n2, rfl⟩
  go_wp2_with fail
  go_ret
  exact ⟨rfl, below_drewN (below2 _ _ _) _⟩
end Go.Proofs.YtbakicgdloakgaaGreatDoor
namespace Go.Proofs.YtbakicgdloakgaaGreatDoor
open Go.ChangeShapes Go.WideShapes Go.ChangeAt Go.RowKit Go.Sort

set_option maxRecDepth 100000 in
set_option maxHeartbeats 2000000 in
theorem l6Plan_any (long size : Int) (b1 o1 b2 o2 c1 c2 : Nat) (ws gs : List Int) (w : World) (h1 : ∀ i, i < ws.length → w.cell? ⟨b1, o1 + i, none⟩ = some (.int .i64 (ws.getD i 0))) (h2 : ∀ i, i < gs.length → w.cell? ⟨b2, o2 + i, none⟩ = some (.int .i64 (gs.getD i 0)))
    (n1 : ws.length ≤ 1000) (n2 : gs.length ≤ 1000) (p1 : 1 ≤ ws.length) (p2 : 1 ≤ gs.length) :
    Calls Tryz.prog 71 #[.agg #[.int .i64 long, .int .i64 size, .slice (some ⟨b1, o1, none⟩) ws.length c1, .slice (some ⟨b2, o2, none⟩) gs.length c2]] w fun e w' => ∃ v, e = .returned v ∧ PlanO w' w.heap.size long size ws gs v ∧ Below w.heap.size w w' := by
  obtain ⟨i0, hi, hz0, hz1, hz2⟩ := info_parts Tryz.info3
  have l1 := block_lt_of_cell (h1 0 (by omega))
  have l2 := block_lt_of_cell (h2 0 (by omega))
  have H1 := hid h1
  have H2 := hid h2
  clear h1 h2
  go_enter Tryz.func71, Tryz.ntmps71
  go_wp2_with (first
    | (at_builtin
       refine append_copy 22 3 i0 _ 8 Tryz.underlying22 hi hz0 hz1 hz2 rfl (xs := ws) _ _ rfl rfl rfl rfl (by simp) rfl (fun i hi => ((below2' w _ _).cell (p := ⟨b1, o1 + i, none⟩) l1).trans (H1.out i hi)) (by omega) (by omega) ?_
       intro v1 w1 ow1 bw1
       obtain ⟨a1, d1, rfl⟩ := owns_slice ow1
       have OW1 := hid ow1
       have X1 := hid (kept (kept (laid w #[.int .i64 long, .int .i64 size, .slice (some ⟨b1, o1, none⟩) ws.length c1, .slice (some ⟨b2, o2, none⟩) gs.length c2] 33) (below_alloc' _ (.cells #[.int .i64 0, .int .i64 0, .slice none 0 0, .slice none 0 0] 33))) bw1)
       have R1 := hid (kept (laid (w.alloc (.cells #[.int .i64 long, .int .i64 size, .slice (some ⟨b1, o1, none⟩) ws.length c1, .slice (some ⟨b2, o2, none⟩) gs.length c2] 33)) #[.int .i64 0, .int .i64 0, .slice none 0 0, .slice none 0 0] 33) bw1)
       rw [World.size_alloc'] at R1
       have B1 := hid (below_cat' (below2' w _ _) bw1)
       clear ow1 bw1
       have p0 := box_cell X1.out 0 (v := .int .i64 long) rfl
       have p1' := box_cell X1.out 1 (v := .int .i64 size) rfl
       have p2' := box_cell X1.out 2 (v := .slice (some ⟨b1, o1, none⟩) ws.length c1) rfl
       have p3 := box_cell X1.out 3 (v := .slice (some ⟨b2, o2, none⟩) gs.length c2) rfl
       have f2 := box_frozen X1.out 2
       have lw1 := lt_of_block R1.out
       have lw0 : w.heap.size < w1.heap.size := Nat.lt_of_succ_lt lw1)
    | (at_builtin
       refine append_copy 22 3 i0 _ 8 Tryz.underlying22 hi hz0 hz1 hz2 rfl (xs := gs) _ _ rfl rfl rfl rfl (by simp) rfl (fun i hi => ((below_set' B1.out (p := ⟨w.heap.size, 2, none⟩) (Nat.le_refl _) _).cell (p := ⟨b2, o2 + i, none⟩) l2).trans (H2.out i hi)) (by omega) (by omega) ?_
       intro v2 w2 ow2 bw2
       obtain ⟨a2, d2, rfl⟩ := owns_slice ow2
       have O1 := hid (owns_below (owns_set (OW1.out) (p := ⟨w.heap.size, 2, none⟩) (by simp; omega) (.slice a1 ws.length d1)) bw2)
       have O2 := hid ow2
       have AP := hid (owns_apart OW1.out ow2 (by simp))
       have X2 := hid (kept (set_block X1.out 2 (.slice a1 ws.length d1)) bw2)
       have R2 := hid (kept (set_other (g := w.heap.size) R1.out (by omega) 2 (.slice a1 ws.length d1)) bw2)
       have B2 := hid (below_cat' (below_set' B1.out (p := ⟨w.heap.size, 2, none⟩) (Nat.le_refl _) (.slice a1 ws.length d1)) bw2)
       clear ow2 bw2 p0 p1' p2' p3 f2
       have lw3 := lt_of_block R2.out
       have lw4 : w.heap.size < w2.heap.size := Nat.lt_of_succ_lt lw3
       have p0 := box_cell X2.out 0 (v := .int .i64 long) rfl
       have p1' := box_cell X2.out 1 (v := .int .i64 size) rfl
       have p2' := box_cell X2.out 2 (v := .slice a1 ws.length d1) rfl
       have f3 := box_frozen X2.out 3
       have p3 := box_cell X2.out 3 (v := .slice (some ⟨b2, o2, none⟩) gs.length c2) rfl
       have r0 := box_cell R2.out 0 (v := .int .i64 0) rfl
       have r1 := box_cell R2.out 1 (v := .int .i64 0) rfl
       have r2 := box_cell R2.out 2 (v := .slice none 0 0) rfl
       have r3 := box_cell R2.out 3 (v := .slice none 0 0) rfl
       have e0 := box_frozen R2.out 0
       have e1 := box_frozen R2.out 1
       have e2 := box_frozen R2.out 2
       have e3 := box_frozen R2.out 3))
  have Y := set_block (set_block (set_block (set_block (set_other (g := w.heap.size) R2.out (by omega) 3 (.slice a2 gs.length d2)) 0 (.int .i64 long)) 1 (.int .i64 size)) 2 (.slice a1 ws.length d1)) 3 (.slice a2 gs.length d2)
  have q0 := box_cell Y 0 (v := .int .i64 long) rfl
  have q1 := box_cell Y 1 (v := .int .i64 size) rfl
  have q2 := box_cell Y 2 (v := .slice a1 ws.length d1) rfl
  have q3 := box_cell Y 3 (v := .slice a2 gs.length d2) rfl
  refine bodyPost_ret (v := .agg #[.int .i64 long, .int .i64 size, .slice a1 ws.length d1, .slice a2 gs.length d2]) ?_ rfl ⟨_, rfl, ⟨_, _, rfl, ?_, ?_, AP.out⟩, ?_⟩
  · unfold results; rw [Tryz.results71]; simp [go_sem, q0, q1, q2, q3]
  · exact owns_base (owns_set (owns_set (owns_set (owns_set (owns_set O1.out (by simp; omega) _) (by simp) _) (by simp) _) (by simp) _) (by simp) _) (by simp; omega)
  · exact owns_base (owns_set (owns_set (owns_set (owns_set (owns_set O2.out (by simp; omega) _) (by simp; omega) _) (by simp; omega) _) (by simp; omega) _) (by simp; omega) _) (by simp; omega)
  · exact below_set' (below_set' (below_set' (below_set' (below_set' B2.out (by simp) _) (by simp) _) (by simp) _) (by simp) _) (by simp) _
end Go.Proofs.YtbakicgdloakgaaGreatDoor
namespace Go.Proofs.YtbakicgdloakgaaGreatDoor
open Go.ChangeShapes Go.WideShapes Go.ChangeAt Go.RowKit

end Go.Proofs.YtbakicgdloakgaaGreatDoor
namespace Go.Proofs.YtbakicgdloakgaaGreatDoor
open Go.ChangeShapes Go.WideShapes Go.ChangeAt Go.RowKit

end Go.Proofs.YtbakicgdloakgaaGreatDoor
namespace Go.Proofs.YtbakicgdloakgaaGreatDoor
open Go.ChangeShapes Go.WideShapes Go.ChangeAt Go.RowKit Go.Sort

set_option maxRecDepth 100000 in
set_option maxHeartbeats 1000000 in
theorem markPlan_any (base : Nat) (long size : Int) (a1 a2 : Option Addr) (c1 c2 : Nat) (ws gs : List Int) (k : Int) (w : World) (o1 : w.ownsRow base 3 1 (.slice a1 ws.length c1) ws.length (ws.map (Value.int .i64))) (o2 : w.ownsRow base 3 1 (.slice a2 gs.length c2) gs.length (gs.map (Value.int .i64))) (ap : Apart (.slice a1 ws.length c1) (.slice a2 gs.length c2)) (hb : base ≤ w.heap.size) (hx : ws.length ≤ 1048576) (hy : gs.length ≤ 1048576) (k0 : 0 ≤ k) (k1 : k ≤ 1048576) :
    Calls Tryz.prog 61 #[.agg #[.int .i64 long, .int .i64 size, .slice a1 ws.length c1, .slice a2 gs.length c2], .int .i64 k] w fun e w' => e = .returned (.int .i64 (k + ws.length + gs.length)) ∧
      w'.ownsRow base 3 1 (.slice a1 ws.length c1) ws.length ((marks k ws.length).map (Value.int .i64)) ∧ w'.ownsRow base 3 1 (.slice a2 gs.length c2) gs.length ((marks (k + ws.length) gs.length).map (Value.int .i64)) ∧ Below base w w' ∧ ∀ g, g < w.heap.size → (.slice a1 ws.length c1 : Value).ownBlock ≠ some g → (.slice a2 gs.length c2 : Value).ownBlock ≠ some g → w'.heap[g]? = w.heap[g]? := by
  have O1 := hid (owns_below o1 (below_alloc' w (.cells #[.int .i64 long, .int .i64 size, .slice a1 ws.length c1, .slice a2 gs.length c2] 33)))
  have O2 := hid (owns_below o2 (below_alloc' w (.cells #[.int .i64 long, .int .i64 size, .slice a1 ws.length c1, .slice a2 gs.length c2] 33)))
  have X0 := hid (laid w #[.int .i64 long, .int .i64 size, .slice a1 ws.length c1, .slice a2 gs.length c2] 33)
  have n1 : (.slice a1 ws.length c1 : Value).ownBlock ≠ some w.heap.size := fun h => by have := (o1.lt _ h).2; omega
  have n2 : (.slice a2 gs.length c2 : Value).ownBlock ≠ some w.heap.size := fun h => by have := (o2.lt _ h).2; omega
  have N1 := hid n1
  have N2 := hid n2
  have AP := hid ap
  clear o1 o2 ap n1 n2
  go_enter Tryz.func61, Tryz.ntmps61
  go_wp2_with fail
  refine (markIntS_any base _ ws.length ws k _ (by exact O1.out) (by omega) (by omega) (by omega)).mono ?_
  rintro e w1 ⟨rfl, m1, g1⟩
  have M1 := hid m1
  have G1 := hid g1
  have P2 := hid (owns_grown O2.out g1 AP.out.2)
  have X1 := hid ((g1.block w.heap.size (by simp) (fun h => N1.out h.symm)).trans X0.out)
  clear m1 g1
  have p3 := box_cell X1.out 3 (v := .slice a2 gs.length c2) rfl
  go_wp2_with fail
  refine (markIntS_any base _ gs.length gs (k + ws.length) _ (by exact P2.out) (by omega) (by omega) (by omega)).mono ?_
  rintro e w2 ⟨rfl, m2, g2⟩
  have b1 := grown_base G1.out O1.out (by simp; omega)
  have hz := b1.size
  go_wp2_with fail
  go_ret
  refine ⟨ret_int (by omega), owns_grown M1.out g2 AP.out.1, m2, (((Below.refl base w).alloc hb _).trans b1).trans (grown_base g2 P2.out (by simp at hz; omega)), fun g hg hn1 hn2 => ?_⟩
  have hs : g < (w.alloc (.cells #[.int .i64 long, .int .i64 size, .slice a1 ws.length c1, .slice a2 gs.length c2] 33)).heap.size := by simp; omega
  rw [g2.block g (Nat.lt_of_lt_of_le hs G1.out.size) (fun h => hn2 h.symm), G1.out.block g hs (fun h => hn1 h.symm)]
  exact (below_alloc' w _).block g hg
end Go.Proofs.YtbakicgdloakgaaGreatDoor
namespace Go.Proofs.YtbakicgdloakgaaGreatDoor
open Go.ChangeShapes Go.WideShapes Go.ChangeAt Go.RowKit Go.Sort

set_option maxRecDepth 100000 in
theorem heldPlan_any (long size : Int) (a1 a2 : Option Addr) (n1 n2 c1 c2 : Nat) (k : Int) (w : World) (i1 : IntsAt w a1 (marks k n1)) (i2 : IntsAt w a2 (marks (k + n1) n2)) (hx : n1 ≤ 1048576) (hy : n2 ≤ 1048576) (k0 : 0 ≤ k) (k1 : k ≤ 1048576) :
    Calls Tryz.prog 63 #[.agg #[.int .i64 long, .int .i64 size, .slice a1 n1 c1, .slice a2 n2 c2], .int .i64 k] w fun e w' => e = .returned (.int .i64 (k + n1 + n2)) ∧ Below w.heap.size w w' := by
  have I1 := hid (i1.below (below_alloc' w (.cells #[.int .i64 long, .int .i64 size, .slice a1 n1 c1, .slice a2 n2 c2] 33)))
  have I2 := hid (i2.below (below_alloc' w (.cells #[.int .i64 long, .int .i64 size, .slice a1 n1 c1, .slice a2 n2 c2] 33)))
  clear i1 i2
  go_enter Tryz.func63, Tryz.ntmps63
  go_wp2_with fail
  refine (heldIntS_any a1 c1 n1 k _ (by exact I1.out) (by omega) (by omega) (by omega)).mono ?_
  rintro e w1 ⟨rfl, rfl⟩
  go_wp2_with fail
  refine (heldIntS_any a2 c2 n2 (k + n1) _ (by exact I2.out) (by omega) (by omega) (by omega)).mono ?_
  rintro e w1 ⟨rfl, rfl⟩
  go_wp2_with fail
  go_ret
  exact ⟨ret_int (by omega), below_alloc' _ _⟩
end Go.Proofs.YtbakicgdloakgaaGreatDoor
namespace Go.Proofs.YtbakicgdloakgaaGreatDoor
open Go.ChangeShapes Go.WideShapes Go.ChangeAt Go.RowKit

end Go.Proofs.YtbakicgdloakgaaGreatDoor
namespace Go.Proofs.YtbakicgdloakgaaGreatDoor
open Go.ChangeShapes Go.WideShapes Go.ChangeAt Go.RowKit

end Go.Proofs.YtbakicgdloakgaaGreatDoor
namespace Go.Proofs.YtbakicgdloakgaaGreatDoor
open Go.ChangeShapes Go.WideShapes Go.ChangeAt Go.RowKit

end Go.Proofs.YtbakicgdloakgaaGreatDoor
namespace Go.Proofs.YtbakicgdloakgaaGreatDoor
open Go.ChangeShapes Go.WideShapes Go.ChangeAt Go.RowKit

end Go.Proofs.YtbakicgdloakgaaGreatDoor
namespace Go.Proofs.YtbakicgdloakgaaGreatDoor
open Go.ChangeShapes Go.WideShapes Go.ChangeAt Go.RowKit

def BytesL (xs : List Int) : Prop := ∀ x ∈ xs, 0 ≤ x ∧ x ≤ 255
theorem nums_bytes (s : ByteArray) : BytesL (nums s) := by
  intro x hx
  unfold nums at hx
  obtain ⟨c, -, rfl⟩ := List.mem_map.1 hx
  have := c.toNat_lt
  omega
end Go.Proofs.YtbakicgdloakgaaGreatDoor
namespace Go.Proofs.YtbakicgdloakgaaGreatDoor
open Go.ChangeShapes Go.WideShapes Go.ChangeAt Go.RowKit Go.Sort
open Go.Extern.Stop Go.Stop Go.Extern

end Go.Proofs.YtbakicgdloakgaaGreatDoor
namespace Go.Proofs.YtbakicgdloakgaaGreatDoor
open Go.ChangeShapes Go.WideShapes Go.ChangeAt Go.RowKit

/-- A number in decimals. -/
def decS (n : Nat) : ByteArray := ⟨(Lib.decDigits n).toArray⟩
theorem decS_one {n : Nat} (h : n < 10) : decS n = strOfNums [48 + (n : Int)] := by
  rw [decS, Lib.decDigits_one h, strOfNums]
  simp only [List.map_cons, List.map_nil]
  congr 4
theorem decS_more {n : Nat} (h : ¬ n < 10) : decS n = decS (n / 10) ++ strOfNums [48 + (n : Int) % 10] := by
  apply ByteArray.ext
  apply Array.toList_inj.1
  rw [decS, Lib.decDigits, dif_neg h]
  have e : (48 + (n : Int) % 10).toNat = 48 + n % 10 := by omega
  simp [decS, strOfNums, e]

theorem decS_size (n : Nat) (h : n ≤ 4611686018427387904) : (decS n).size ≤ 21 := by
  have := Lib.itoa_length_le (n : Int) (by omega) (by omega)
  rw [Lib.itoa_nonneg] at this
  simpa [decS, ByteArray.size] using this

theorem cv_one (W : World) (g : Nat) (z : Int) (h : W.heap[g]? = some (.cells #[.int .u8 z] 5 (0, 0))) :
    (convert 89 9 (.slice (some ⟨g, 0, none⟩) 1 1)).run Tryz.prog W = .ok (.string (strOfNums [z])) W :=
  run_convert_bytes_arg (P := Tryz.prog) W 89 5 Tryz.underlying89 Tryz.underlying5 g 0 1 1 [z] rfl (by
    intro i hi
    obtain rfl : i = 0 := by omega
    exact box_cell h 0 rfl) 9 Tryz.underlying9
theorem cv_new (z : Int) : ∀ W : World, (convert 89 9 (.slice (some ⟨W.heap.size, 0, none⟩) 1 1)).run Tryz.prog (W.alloc (.cells #[.int .u8 z] 5)) = .ok (.string (strOfNums [z])) (W.alloc (.cells #[.int .u8 z] 5)) :=
  fun W => cv_one _ _ z (laid W _ _)
end Go.Proofs.YtbakicgdloakgaaGreatDoor
namespace Go.Proofs.YtbakicgdloakgaaGreatDoor
open Go.ChangeShapes Go.WideShapes Go.ChangeAt Go.RowKit Go.Sort

/-- A mark that is a text. -/
def mtext (k : Nat) : ByteArray := ⟨#[109]⟩ ++ decS k
theorem decS_pos (n : Nat) (o : ByteArray) (j : Nat) (hj : 0 < j) (h : decS n = decS j ++ o) : (j / 10 = 0 → strOfNums [48 + (j : Int) % 10] ++ o = decS n) ∧ (0 < j / 10 → decS n = decS (j / 10) ++ (strOfNums [48 + (j : Int) % 10] ++ o)) := by
  by_cases h10 : j < 10
  · refine ⟨fun _ => ?_, fun h1 => by omega⟩
    rw [h, decS_one h10, show (j : Int) % 10 = j by omega]
  · refine ⟨fun h1 => by omega, fun _ => ?_⟩
    rw [h, decS_more h10, ByteArray.append_assoc]
set_option maxHeartbeats 2000000 in
set_option maxRecDepth 100000 in
theorem markText_any (n : Nat) (w : World) (h0 : 0 < n) (hn : n ≤ 1152921504606846976) :
    Calls Tryz.prog 37 #[.int .i64 n] w fun e w' => e = .returned (.string (mtext n)) ∧ Below w.heap.size w w' := by
  have hsz := decS_size n (by omega)
  have HZ := hid hsz
  clear hsz
  go_enter Tryz.func37, Tryz.ntmps37
  go_wp2_with fail
  go_loopw [0, 3] (fun kk out wr => ∃ (j : Nat) (o : ByteArray), j ≤ n ∧ kk = .int .i64 j ∧ out = .string o ∧ (j = 0 → o = decS n) ∧ (0 < j → decS n = decS j ++ o) ∧ Below w.heap.size w wr) (fun kk _ _ => (intOf kk).toNat)
  case atStart => exact ⟨n, ByteArray.empty, Nat.le_refl _, rfl, rfl, fun h => by omega, fun _ => by rw [ByteArray.append_empty], Below.refl _ _⟩
  case round =>
    obtain ⟨j, o, hj, rfl, rfl, hz, hp, B⟩ := hrel
    rcases Nat.eq_zero_or_pos j with h | h
    · subst h
      have HO := hid (hz rfl)
      have ho : o.size ≤ 21 := by rw [HO.out]; exact HZ.out
      clear hz hp
      go_wp2_with fail
      go_ret
      exact ⟨by rw [HO.out]; rfl, B⟩
    · have HP := hid (decS_pos n o j h (hp h))
      have ho : o.size ≤ 21 := by
        have h1 := HZ.out
        rw [hp h, ByteArray.size_append] at h1
        omega
      have h1 := cv_new (48 + (j : Int) % 10)
      have hs1 : (strOfNums [48 + (j : Int) % 10]).size = 1 := rfl
      have q1 : (j : Int).tdiv 10 = ((j : Int) / 10) := by rw [Int.tdiv_eq_ediv_of_nonneg (by omega)]
      have q2 : (j : Int).tmod 10 = (j : Int) % 10 := Int.tmod_eq_emod_of_nonneg (by omega)
      have q6 : IntKind.u8.wrap (48 + (j : Int) % 10) = 48 + (j : Int) % 10 := by simp [IntKind.wrap, IntKind.bits, IntKind.signed]; omega
      have HB := hid B
      clear hz hp B
      go_wp2_with fail
      go_roundw
      case rel => exact ⟨j / 10, _, by omega, by go_num, rfl, fun hz => (HP.out.1 hz), fun hp => HP.out.2 hp, u_cat HB.out (u_b1 _ _)⟩
      case measure => simp [intOf]; omega
end Go.Proofs.YtbakicgdloakgaaGreatDoor
namespace Go.Proofs.YtbakicgdloakgaaGreatDoor
open Go.ChangeShapes Go.WideShapes Go.ChangeAt Go.RowKit Go.Sort

end Go.Proofs.YtbakicgdloakgaaGreatDoor
namespace Go.Proofs.YtbakicgdloakgaaGreatDoor
open Go.ChangeShapes Go.WideShapes Go.ChangeAt Go.RowKit Go.Sort

end Go.Proofs.YtbakicgdloakgaaGreatDoor
namespace Go.Proofs.YtbakicgdloakgaaGreatDoor
open Go.ChangeShapes Go.WideShapes Go.ChangeAt Go.RowKit

theorem clone_all (s : ByteArray) (w : World) (hs : s.size ≤ 281474976710656) :
    Calls Tryz.prog 32 #[.string s] w fun e w' => e = .returned (.string s) ∧ Below w.heap.size w w' := by
  have H := hid (Tryz.stringslite_Clone s w hs)
  go_enter Tryz.func32, Tryz.ntmps32
  go_wp2_with (go_at_call 57; refine H.out.mono ?_; rintro e w1 ⟨rfl, hb1⟩; have B1 := hid hb1; clear hb1)
  go_ret
  exact ⟨rfl, B1.out⟩
end Go.Proofs.YtbakicgdloakgaaGreatDoor
