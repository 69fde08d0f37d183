/- A plan that came in. Zero bytes, by the model. Plans: what is ok by the program. Which row a symbol has: windows by weights. Blocks put together: the program's and the model's. An append of a whole row, as one step of a region that draws its order. Appends of whole rows, as steps of a region that draws its order. The plan for a length: what it is. -/
import Derived.Test.YtbakicgdloakgaaGreatDoorG3
import Derived.Test.YtbakicgdloakgaaGreatDoorG0
import Derived.Test.YtbakicgdloakgaaGreatDoorG1
import Derived.SliceStrings
import Derived.Laws.BytesArg
import Derived.Deep.RegionLaw
import Derived.BigRegion
import Derived.Test.YtbakicgdloakgaaGreatDoorG2
namespace Go.Proofs.YtbakicgdloakgaaGreatDoor
open Go.ChangeShapes Go.WideShapes Go.ChangeAt Go.RowKit

theorem cellsI : Tryz.prog.cellsOf 3 = 1 := by kernel_rfl
theorem cellsNs : Tryz.prog.cellsOf 22 = 1 := by kernel_rfl
theorem cellsPlan : Tryz.prog.cellsOf 24 = 4 := by kernel_rfl
set_option maxRecDepth 100000 in
theorem reads_plan {W : World} {cs : List Value} (h : Reads W 24 cs) : ∃ long size a1 n1 k1 z1 a2 n2 k2 z2, cs = [.int .i64 long, .int .i64 size, .slice a1 n1 k1, .slice a2 n2 k2] ∧
    (Lit.int .i64 long).wf = true ∧ (Lit.int .i64 size).wf = true ∧ IsRow .i64 W a1 n1 k1 z1 ∧ IsRow .i64 W a2 n2 k2 z2 := by
  obtain ⟨hl, hf⟩ := h.struct Tryz.underlying24
  rw [cellsPlan] at hl
  obtain ⟨x0, x1, x2, x3, rfl⟩ : ∃ x0 x1 x2 x3, cs = [x0, x1, x2, x3] := by
    match cs, hl with
    | [x0, x1, x2, x3], _ => exact ⟨x0, x1, x2, x3, rfl⟩
  have g0 : Reads W 3 (List.take (Tryz.prog.cellsOf 3) (List.drop 0 [x0, x1, x2, x3])) := hf 0 _ rfl
  rw [cellsI] at g0
  have h0 : Reads W 3 [x0] := g0
  have g1 : Reads W 3 (List.take (Tryz.prog.cellsOf 3) (List.drop 1 [x0, x1, x2, x3])) := hf 1 _ rfl
  rw [cellsI] at g1
  have h1 : Reads W 3 [x1] := g1
  have g2 : Reads W 22 (List.take (Tryz.prog.cellsOf 22) (List.drop 2 [x0, x1, x2, x3])) := hf 2 _ rfl
  rw [cellsNs] at g2
  have h2 : Reads W 22 [x2] := g2
  have g3 : Reads W 22 (List.take (Tryz.prog.cellsOf 22) (List.drop 3 [x0, x1, x2, x3])) := hf 3 _ rfl
  rw [cellsNs] at g3
  have h3 : Reads W 22 [x3] := g3
  obtain ⟨long, e0, wf0⟩ := h0.int Tryz.underlying3
  obtain ⟨size, e1, wf1⟩ := h1.int Tryz.underlying3
  obtain ⟨a1, n1, k1, z1, e2, r1⟩ := h2.ints Tryz.underlying22 Tryz.underlying3 cellsI
  obtain ⟨a2, n2, k2, z2, e3, r2⟩ := h3.ints Tryz.underlying22 Tryz.underlying3 cellsI
  simp only [List.cons.injEq, and_true] at e0 e1 e2 e3
  subst e0 e1 e2 e3
  exact ⟨long, size, a1, n1, k1, z1, a2, n2, k2, z2, rfl, wf0, wf1, r1, r2⟩
theorem isRow_le {k : IntKind} {w : World} {a : Option Addr} {len cap : Nat} {zs : List Int} (h : IsRow k w a len cap zs) : len ≤ 9223372036854775807 := by
  rcases h with ⟨_, rfl, _, rfl⟩ | ⟨x, _, h1, h2, h3, _⟩
  · omega
  · unfold maxLen at h2; omega
end Go.Proofs.YtbakicgdloakgaaGreatDoor
namespace Go.Proofs.YtbakicgdloakgaaGreatDoor
open Go.ChangeShapes Go.WideShapes Go.ChangeAt Go.RowKit

end Go.Proofs.YtbakicgdloakgaaGreatDoor
namespace Go.Proofs.YtbakicgdloakgaaGreatDoor
open Go.ChangeShapes Go.WideShapes Go.ChangeAt Go.RowKit

set_option maxRecDepth 100000 in
theorem longOk_any (n : Int) (w : World) : Calls Tryz.prog 98 #[.int .i64 n] w fun e w' => e = .returned (.bool (decide (1 ≤ n ∧ n ≤ 300))) ∧ w' = w := by
  by_cases h1 : 1 ≤ n
  · by_cases h2 : n ≤ 300
    · go_enter Tryz.func98, Tryz.ntmps98
      go_wp2
      go_ret
      exact ⟨ret_bool (by simp; omega), rfl⟩
    · have h2' : decide (n ≤ 300) = false := by simp; omega
      have H := hid (show decide (1 ≤ n ∧ n ≤ 300) = false from decide_eq_false (by omega))
      go_enter Tryz.func98, Tryz.ntmps98
      go_wp2
      go_ret
      first | exact ⟨rfl, rfl⟩ | exact ⟨ret_bool H.out.symm, rfl⟩
  · have h1' : decide (1 ≤ n) = false := by simp; omega
    go_enter Tryz.func98, Tryz.ntmps98
    have H := hid (show decide (1 ≤ n ∧ n ≤ 300) = false from decide_eq_false (by omega))
    go_wp2
    go_ret
    first | exact ⟨rfl, rfl⟩ | exact ⟨ret_bool H.out.symm, rfl⟩

theorem IntsAt.alloc {w : World} {a : Option Addr} {xs : List Int} (h : IntsAt w a xs) (o : Obj) : IntsAt (w.alloc o) a xs := h.below (below_alloc' w o)

set_option maxRecDepth 100000 in
set_option maxHeartbeats 1000000 in
theorem windowsOk_any (long size : Int) (a1 a2 : Option Addr) (c1 n2 c2 : Nat) (ws : List Int) (w : World) (h1 : 1 ≤ long) (h2 : long ≤ 300) (h3 : 1 ≤ size) (h4 : size ≤ 16) (ha : IntsAt w a1 ws) (hx : ws.length ≤ 1152921504606846976) :
    Calls Tryz.prog 99 #[.agg #[.int .i64 long, .int .i64 size, .slice a1 ws.length c1, .slice a2 n2 c2]] w fun e w' => e = .returned (.bool (decide (winP (cntI long size) ws))) ∧ Below w.heap.size w w' := by
  by_cases g1 : ws.length < 1
  · have H := hid (show decide (winP (cntI long size) ws) = false from decide_eq_false (by rintro ⟨h5, h6, _⟩; omega))
    have g1' : decide ((ws.length : Int) < 1) = true := by simp; omega
    go_enter Tryz.func99, Tryz.ntmps99
    go_wp2
    go_ret
    exact ⟨ret_bool H.out.symm, below_alloc' _ _⟩
  have g1' : decide ((ws.length : Int) < 1) = false := by simp; omega
  by_cases g2 : 3 < ws.length
  · have H := hid (show decide (winP (cntI long size) ws) = false from decide_eq_false (by rintro ⟨h5, h6, _⟩; omega))
    have g2' : decide (3 < (ws.length : Int)) = true := by simp; omega
    go_enter Tryz.func99, Tryz.ntmps99
    go_wp2
    go_ret
    exact ⟨ret_bool H.out.symm, below_alloc' _ _⟩
  have g2' : decide (3 < (ws.length : Int)) = false := by simp; omega
  go_enter Tryz.func99, Tryz.ntmps99
  go_wp2
  go_loop [3, 19] (fun l i => ∃ k : Nat, k ≤ ws.length ∧ i = .int .i64 k ∧ l = .int .i64 (prev0 ws k) ∧ ∀ j, j < k → prev0 ws j < ws.getD j 0) (fun _ i => ws.length - (intOf i).toNat)
  case atStart => exact ⟨0, Nat.zero_le _, rfl, rfl, fun j hj => absurd hj (by omega)⟩
  case round =>
    obtain ⟨k, hk, rfl, rfl, hp⟩ := hrel
    have HP : Hid _ := hp
    clear hp
    by_cases hlt : k < ws.length
    · obtain ⟨b, off, rfl, hc⟩ := ha (by intro h; simp [h] at hlt)
      have hb := block_lt_of_cell (hc k hlt)
      have hck := ((below_alloc' w (.cells #[.int .i64 long, .int .i64 size, .slice (some ⟨b, off, none⟩) ws.length c1, .slice a2 n2 c2] 33)).cell (p := ⟨b, off + k, none⟩) hb).trans (hc k hlt)
      have H3 := hid (prev0_succ ws k)
      obtain ⟨X, hX⟩ : ∃ X, X = ws.getD k 0 := ⟨_, rfl⟩
      obtain ⟨L, hL⟩ : ∃ L, L = prev0 ws k := ⟨_, rfl⟩
      rw [← hX] at hck
      rw [← hL]
      have HX := hid hX
      have HL := hid hL
      clear hX hL hc
      by_cases h : X ≤ L
      · have H := hid (show decide (winP (cntI long size) ws) = false from decide_eq_false (by
          rintro ⟨_, _, h', _⟩; have := h' k hlt; rw [← HX.out, ← HL.out] at this; omega))
        go_wp2
        go_ret
        exact ⟨ret_bool H.out.symm, below_alloc' _ _⟩
      · go_wp2
        go_round
        case rel => exact ⟨k + 1, by omega, by go_num, by rw [H3.out, HX.out], fun j hj => by
          rcases Nat.lt_or_ge j k with h' | h'
          · exact HP.out j h'
          · obtain rfl : j = k := by omega
            rw [← HX.out, ← HL.out]; omega⟩
        case measure => simp [intOf]; omega
    · obtain rfl : k = ws.length := by omega
      go_wp2_with (go_at_call 91; refine (implCount long size _ _ _ _ _ _ _ h1 h2 h3 h4).mono ?_; rintro e w1 ⟨rfl, hb1⟩)
      go_ret
      refine ⟨ret_bool ?_, below_cat' (below_alloc' _ _) hb1⟩
      rw [Bool.eq_iff_iff]
      rw [beq_iff_eq, decide_eq_true_eq]
      exact ⟨fun h => ⟨by omega, by omega, HP.out, h⟩, fun h => h.2.2.2⟩

set_option maxRecDepth 100000 in
set_option maxHeartbeats 1000000 in
theorem weightsOk_any (long size : Int) (a1 a2 : Option Addr) (n1 c1 c2 : Nat) (gs : List Int) (w : World) (ha : IntsAt w a2 gs) (hx : gs.length ≤ 1152921504606846976) (_hn : n1 ≤ 1152921504606846976) :
    Calls Tryz.prog 100 #[.agg #[.int .i64 long, .int .i64 size, .slice a1 n1 c1, .slice a2 gs.length c2]] w fun e w' => e = .returned (.bool (decide (wgtP n1 gs))) ∧ Below w.heap.size w w' := by
  go_enter Tryz.func100, Tryz.ntmps100
  go_wp2
  go_loop [8] (fun i => ∃ k : Nat, k ≤ gs.length ∧ i = .int .i64 k ∧ ∀ j, j < k → 1 ≤ gs.getD j 0 ∧ gs.getD j 0 ≤ 99) (fun i => gs.length - (intOf i).toNat)
  case atStart => exact ⟨0, Nat.zero_le _, rfl, fun j hj => absurd hj (by omega)⟩
  case round =>
    obtain ⟨k, hk, rfl, hp⟩ := hrel
    have HP : Hid _ := hp
    clear hp
    by_cases hlt : k < gs.length
    · obtain ⟨b, off, rfl, hc⟩ := ha (by intro h; simp [h] at hlt)
      have hb := block_lt_of_cell (hc k hlt)
      have hck := ((below_alloc' w (.cells #[.int .i64 long, .int .i64 size, .slice a1 n1 c1, .slice (some ⟨b, off, none⟩) gs.length c2] 33)).cell (p := ⟨b, off + k, none⟩) hb).trans (hc k hlt)
      obtain ⟨X, hX⟩ : ∃ X, X = gs.getD k 0 := ⟨_, rfl⟩
      rw [← hX] at hck
      have HX := hid hX
      clear hX hc
      by_cases h : X < 1
      · have H := hid (show decide (wgtP n1 gs) = false from decide_eq_false (by
          rintro ⟨h', _⟩; have := h' k hlt; rw [← HX.out] at this; omega))
        have h' : decide (X < 1) = true := by simpa using h
        go_wp2
        go_ret
        exact ⟨ret_bool H.out.symm, below_alloc' _ _⟩
      · have h' : decide (X < 1) = false := by simpa using h
        by_cases g : 99 < X
        · have H := hid (show decide (wgtP n1 gs) = false from decide_eq_false (by
            rintro ⟨h', _⟩; have := h' k hlt; rw [← HX.out] at this; omega))
          go_wp2
          go_ret
          exact ⟨ret_bool H.out.symm, below_alloc' _ _⟩
        · have g' : decide (99 < X) = false := by simpa using g
          go_wp2
          go_round
          case rel => exact ⟨k + 1, by omega, by go_num, fun j hj => by
            rcases Nat.lt_or_ge j k with h' | h'
            · exact HP.out j h'
            · obtain rfl : j = k := by omega
              rw [← HX.out]; omega⟩
          case measure => simp [intOf]; omega
    · obtain rfl : k = gs.length := by omega
      go_wp2
      go_ret
      refine ⟨ret_bool ?_, below_alloc' _ _⟩
      rw [Bool.eq_iff_iff]
      rw [beq_iff_eq, decide_eq_true_eq]
      exact ⟨fun h => ⟨HP.out, by omega⟩, fun h => by have := h.2; omega⟩

set_option maxRecDepth 100000 in
set_option maxHeartbeats 2000000 in
theorem implPlanOk (long size : Int) (a1 a2 : Option Addr) (c1 c2 : Nat) (ws gs : List Int) (w : World) (ha1 : IntsAt w a1 ws) (ha2 : IntsAt w a2 gs) (hx : ws.length ≤ 1152921504606846976) (hy : gs.length ≤ 1152921504606846976) :
    Calls Tryz.prog 90 #[.agg #[.int .i64 long, .int .i64 size, .slice a1 ws.length c1, .slice a2 gs.length c2]] w fun e w' => e = .returned (.bool (decide (planP long size ws gs))) ∧ Below w.heap.size w w' := by
  by_cases g1 : 1 ≤ long ∧ long ≤ 300
  · have g1' : decide (1 ≤ long ∧ long ≤ 300) = true := by simp [g1]
    obtain ⟨l1, l2⟩ := g1
    by_cases g2 : 1 ≤ size
    · by_cases g3 : size ≤ 16
      · by_cases g4 : cntI long size ≤ 24
        · have g4' : decide (cntI long size ≤ 24) = true := by simpa using g4
          have e : decide (planP long size ws gs) = (decide (winP (cntI long size) ws) && decide (wgtP ws.length gs)) := by
            rw [Bool.eq_iff_iff, Bool.and_eq_true, decide_eq_true_eq, decide_eq_true_eq, decide_eq_true_eq]; exact ⟨fun h => h.2, fun h => ⟨⟨l1, l2, g2, g3, g4⟩, h⟩⟩
          have E := hid e
          clear e
          by_cases g5 : winP (cntI long size) ws
          · have G5 := hid (decide_eq_true g5)
            clear g5
            go_enter Tryz.func90, Tryz.ntmps90
            go_wp2_with fail
            refine (longOk_any long _).mono ?_
            rintro e w0 ⟨rfl, rfl⟩
            rw [g1']
            go_wp2_with fail
            refine (implCount long size _ _ _ _ _ _ _ l1 l2 g2 g3).mono ?_
            rintro e w1 ⟨rfl, hb1⟩
            obtain ⟨hc1, hf1⟩ := bcell hb1
            have hz1 : w.heap.size < w1.heap.size := by have := hb1.size; simp at this; omega
            go_wp2_with fail
            refine (windowsOk_any long size _ _ _ _ _ ws _ l1 l2 g2 g3 ((ha1.alloc _).below hb1) hx).mono ?_
            rintro e w2 ⟨rfl, hb2⟩
            rw [G5.out]
            obtain ⟨hc2, hf2⟩ := bcell hb2
            go_wp2_with fail
            refine (weightsOk_any long size _ _ _ _ _ gs _ (((ha2.alloc _).below hb1).below hb2) hy hx).mono ?_
            rintro e w3 ⟨rfl, hb3⟩
            go_wp2_with fail
            go_ret
            exact ⟨ret_bool (by rw [E.out, G5.out]; simp), below_cat' (below_cat' (below_cat' (below_alloc' _ _) hb1) hb2) hb3⟩
          · have G5 := hid (decide_eq_false g5)
            clear g5
            go_enter Tryz.func90, Tryz.ntmps90
            go_wp2_with fail
            refine (longOk_any long _).mono ?_
            rintro e w0 ⟨rfl, rfl⟩
            rw [g1']
            go_wp2_with fail
            refine (implCount long size _ _ _ _ _ _ _ l1 l2 g2 g3).mono ?_
            rintro e w1 ⟨rfl, hb1⟩
            obtain ⟨hc1, hf1⟩ := bcell hb1
            have hz1 : w.heap.size < w1.heap.size := by have := hb1.size; simp at this; omega
            go_wp2_with fail
            refine (windowsOk_any long size _ _ _ _ _ ws _ l1 l2 g2 g3 ((ha1.alloc _).below hb1) hx).mono ?_
            rintro e w2 ⟨rfl, hb2⟩
            rw [G5.out]
            go_wp2_with fail
            go_ret
            exact ⟨ret_bool (by rw [E.out, G5.out]; simp), below_cat' (below_cat' (below_alloc' _ _) hb1) hb2⟩
        · have g4' : decide (cntI long size ≤ 24) = false := by simpa using g4
          have H := hid (show decide (planP long size ws gs) = false from decide_eq_false (by rintro ⟨⟨p1, p2, p3, p4, p5⟩, _⟩; omega))
          go_enter Tryz.func90, Tryz.ntmps90
          go_wp2_with fail
          refine (longOk_any long _).mono ?_
          rintro e w0 ⟨rfl, rfl⟩
          rw [g1']
          go_wp2_with fail
          refine (implCount long size _ _ _ _ _ _ _ l1 l2 g2 g3).mono ?_
          rintro e w1 ⟨rfl, hb1⟩
          go_wp2_with fail
          go_ret
          exact ⟨ret_bool H.out.symm, below_cat' (below_alloc' _ _) hb1⟩
      · have g3' : decide (size ≤ 16) = false := by simpa using g3
        have H := hid (show decide (planP long size ws gs) = false from decide_eq_false (by rintro ⟨⟨p1, p2, p3, p4, p5⟩, _⟩; omega))
        go_enter Tryz.func90, Tryz.ntmps90
        go_wp2_with fail
        refine (longOk_any long _).mono ?_
        rintro e w0 ⟨rfl, rfl⟩
        rw [g1']
        go_wp2_with fail
        go_ret
        exact ⟨ret_bool H.out.symm, below_alloc' _ _⟩
    · have g2' : decide (1 ≤ size) = false := by simpa using g2
      have H := hid (show decide (planP long size ws gs) = false from decide_eq_false (by rintro ⟨⟨p1, p2, p3, p4, p5⟩, _⟩; omega))
      go_enter Tryz.func90, Tryz.ntmps90
      go_wp2_with fail
      refine (longOk_any long _).mono ?_
      rintro e w0 ⟨rfl, rfl⟩
      rw [g1']
      go_wp2_with fail
      go_ret
      exact ⟨ret_bool H.out.symm, below_alloc' _ _⟩
  · have g1' : decide (1 ≤ long ∧ long ≤ 300) = false := by simpa using g1
    have H := hid (show decide (planP long size ws gs) = false from decide_eq_false (by rintro ⟨⟨p1, p2, p3, p4, p5⟩, _⟩; omega))
    clear g1
    go_enter Tryz.func90, Tryz.ntmps90
    go_wp2_with fail
    refine (longOk_any long _).mono ?_
    rintro e w0 ⟨rfl, rfl⟩
    rw [g1']
    go_wp2_with fail
    go_ret
    exact ⟨ret_bool H.out.symm, below_alloc' _ _⟩
end Go.Proofs.YtbakicgdloakgaaGreatDoor
namespace Go.Proofs.YtbakicgdloakgaaGreatDoor
open Go.ChangeShapes Go.WideShapes Go.ChangeAt Go.RowKit

end Go.Proofs.YtbakicgdloakgaaGreatDoor
namespace Go.Proofs.YtbakicgdloakgaaGreatDoor
open Go.ChangeShapes Go.WideShapes Go.ChangeAt Go.RowKit

/-- The bytes of a text, as numbers. -/
def nums (s : ByteArray) : List Int := s.data.toList.map fun c => (c.toNat : Int)
/-- Two lists of bytes, bit by bit unlike. -/
def xorL (xs ys : List Int) : List Int := List.zipWith (fun x y => bits .xor .u8 x y) xs ys
end Go.Proofs.YtbakicgdloakgaaGreatDoor
namespace Go.Proofs.YtbakicgdloakgaaGreatDoor
open Go.ChangeShapes Go.WideShapes Go.ChangeAt Go.RowKit

/-- 'append(out, xs...)', out the call's own, xs whatever row: as one step of a region that draws its order. -/
theorem step_append_row {P : Program} {W : World} {ops : Array Oper} {o : Oper} {a : Act} {K : Act → World → Prop} {Q : Exit → Act → World → Prop} {E : Prop} (t e : TypeId) (i : TypeInfo) (z : Value) (bytes : Nat)
    (ht : P.underlying t = some (.slice e)) (hi : P.info? e = some i) (hz : i.zero = some z) (hz1 : i.size = 1) (hz2 : i.bytes = bytes) (hzs : z.cells.size = 1)
    {base n : Nat} {v : Value} {xs : List Value} (s x : Operand) (hgd : o.guard = none) (ho : o.op = .call { callee := .builtin .append, args := #[s, x], argTypes := #[t, t] })
    (hs : a.eval s = v) (ao : Option Addr) (m c : Nat) (news : List Value) (hx : a.eval x = .slice ao m c) (hl : news.length = m) (hnone : ao = none → m = 0 ∧ c = 0)
    (hown : W.ownsRow base e 1 v n xs) (hnews : ∀ ad, ao = some ad → ∀ j u, news[j]? = some u → W.cell? (ad.add j) = some u) (h1 : ∀ u ∈ news, u.oneCell' = true)
    (hbs : base ≤ W.heap.size) (hbd : (n + m) * bytes ≤ 140737488355328) (hml : n + m ≤ 9223372036854775807)
    (h : ∀ v' w', w'.ownsRow base e 1 v' (n + m) (xs ++ news) → W.grownBy w' v.ownBlock → K (a.put o.dst v') w') :
    if Region.wanted o (yielded ops a.tmps) = true then Oper.wp P o a W K Q else E := by
  have hw : Region.wanted o (yielded ops a.tmps) = true := by simp [Region.wanted, hgd]
  rw [if_pos hw]
  cases ao with
  | some ad =>
    obtain ⟨v', w', hrun, r1, r2, _⟩ := run_append_own (P := P) W base t o.type e i z 1 bytes ht hi hz hz1 hz2 hzs (by decide) v n xs hown ad m c news (by rw [hl, Nat.mul_one]) (hnews ad rfl) h1 hml hbd hbs
    unfold Oper.wp
    simp [execOp, ho, resolve, invoke, builtin, hs, hx, hrun, Result.andThen]
    exact h v' w' r1 r2
  | none =>
    obtain ⟨rfl, rfl⟩ := hnone rfl
    obtain rfl : news = [] := List.eq_nil_of_length_eq_zero hl
    have hrun := run_append_owned_none (P := P) W base t o.type e i 1 ht hi v n xs hown
    unfold Oper.wp
    simp [execOp, ho, resolve, invoke, builtin, hs, hx, hrun, Result.andThen]
    refine h v W ?_ ⟨rfl, rfl, rfl, Nat.le_refl _, fun _ _ _ => rfl⟩
    rw [List.append_nil]
    exact hown
end Go.Proofs.YtbakicgdloakgaaGreatDoor
namespace Go.Proofs.YtbakicgdloakgaaGreatDoor
open Go.ChangeShapes Go.WideShapes Go.ChangeAt Go.RowKit

theorem bw1 (w : World) (A : Obj) : Below w.heap.size w ((w.alloc A).drew) := ((Below.refl _ _).alloc (Nat.le_refl _) _).drew
theorem bw2 (w : World) (A B : Obj) : Below w.heap.size w (((w.alloc A).alloc B).drew) := (((Below.refl _ _).alloc (Nat.le_refl _) _).alloc (by rw [World.size_alloc]; omega) _).drew
end Go.Proofs.YtbakicgdloakgaaGreatDoor
namespace Go.Proofs.YtbakicgdloakgaaGreatDoor
open Go.ChangeShapes Go.WideShapes Go.ChangeAt Go.RowKit Go.Sort

/-- A plan of the call's own. -/
def PlanO (w : World) (base : Nat) (long size : Int) (ws gs : List Int) (v : Value) : Prop :=
  ∃ v1 v2, v = .agg #[.int .i64 long, .int .i64 size, v1, v2] ∧ w.ownsRow base 3 1 v1 ws.length (ws.map (Value.int .i64)) ∧ w.ownsRow base 3 1 v2 gs.length (gs.map (Value.int .i64)) ∧ Apart v1 v2

theorem World.size_alloc' (w : World) (o : Obj) : (w.alloc o).heap.size = w.heap.size + 1 := by simp
theorem below_set' {w w' : World} (h : Below w.heap.size w w') {p : Addr} (hp : w.heap.size ≤ p.block) (u : Value) : Below w.heap.size w (w'.setCell p u) := h.setCell hp u
theorem below2' (w : World) (a b : Obj) : Below w.heap.size w ((w.alloc a).alloc b) :=
  ((Below.refl _ _).alloc (Nat.le_refl _) _).alloc (by simp) _
theorem planO_slices {w : World} {base : Nat} {long size : Int} {ws gs : List Int} {v : Value} (h : PlanO w base long size ws gs v) : ∃ a1 c1 a2 c2, v = .agg #[.int .i64 long, .int .i64 size, .slice a1 ws.length c1, .slice a2 gs.length c2] ∧
    w.ownsRow base 3 1 (.slice a1 ws.length c1) ws.length (ws.map (Value.int .i64)) ∧ w.ownsRow base 3 1 (.slice a2 gs.length c2) gs.length (gs.map (Value.int .i64)) ∧ Apart (.slice a1 ws.length c1) (.slice a2 gs.length c2) := by
  obtain ⟨v1, v2, rfl, o1, o2, ap⟩ := h
  obtain ⟨a1, c1, rfl⟩ := owns_slice o1
  obtain ⟨a2, c2, rfl⟩ := owns_slice o2
  exact ⟨a1, c1, a2, c2, rfl, o1, o2, ap⟩
end Go.Proofs.YtbakicgdloakgaaGreatDoor
