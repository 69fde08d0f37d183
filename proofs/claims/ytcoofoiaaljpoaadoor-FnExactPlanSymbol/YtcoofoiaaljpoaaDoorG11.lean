/- Plans: what is ok by the model, all plans. PlanCut by the model. An append of one thing of several cells. -/
import Derived.Test.YtcoofoiaaljpoaaDoorG9
import Derived.Test.YtcoofoiaaljpoaaDoorG10
import Derived.Test.YtcoofoiaaljpoaaDoorG1
import Derived.Test.YtcoofoiaaljpoaaDoorG6
namespace Go.Proofs.YtcoofoiaaljpoaaDoor
open Go.ChangeShapes Go.WideShapes Go.ChangeAt Go.RowKit Go.Sort

set_option maxRecDepth 100000 in
set_option maxHeartbeats 2000000 in
theorem specPlanOk (long size : Int) (a1 a2 : Option Addr) (c1 c2 : Nat) (ws gs : List Int) (w : World) (ha1 : IntsAt w a1 ws) (ha2 : IntsAt w a2 gs) (_hx : ws.length ≤ 1152921504606846976) (_hy : gs.length ≤ 1152921504606846976) :
    Calls Tryd.prog 10 #[.agg #[.int .i64 long, .int .i64 size, .slice a1 ws.length c1, .slice a2 gs.length c2]] w fun e w' => e = .returned (.bool (decide (planP long size ws gs))) ∧ Below w.heap.size w w' := by
  by_cases g1 : 1 ≤ long ∧ long ≤ 300
  · obtain ⟨l1, l2⟩ := g1
    by_cases g2 : 1 ≤ size ∧ size ≤ 16
    · obtain ⟨l3, l4⟩ := g2
      have hN := cnt_pos long size l1 l3
      by_cases l5 : cntI long size ≤ 24
      · by_cases g3 : 1 ≤ ws.length ∧ ws.length ≤ 3
        · by_cases l8 : gs.length = ws.length
          · exact specPlan_in long size a1 a2 c1 c2 ws gs w ha1 ha2 l1 l2 l3 l4 l5 g3.1 g3.2 l8
          · have H := hid (show decide (planP long size ws gs) = false from decide_eq_false (by rintro ⟨_, _, _, p⟩; exact l8 p))
            have l8' : ((gs.length : Int) != (ws.length : Int)) = true := by rw [bne_iff_ne]; omega
            obtain ⟨g4, g5⟩ := g3
            clear l8 ha1 ha2
            go_enter Tryd.func10, Tryd.ntmps10
            go_wp2_with (first
              | (go_at_call 21; refine (specCount long size _ _ _ _ _ _ _ l1 l2 l3 l4).mono ?_; rintro e w1 ⟨rfl, hb1⟩; obtain ⟨hc1, hf1⟩ := bcell hb1)
              | (go_at_call 11; refine (l1In_yes _ _ _ _ (by omega)).mono ?_; rintro e w2 ⟨rfl, rfl⟩))
            go_ret
            exact ⟨ret_bool H.out.symm, below_cat' (below_alloc' _ _) hb1⟩
        · have H := hid (show decide (planP long size ws gs) = false from decide_eq_false (by rintro ⟨_, ⟨p1, p2, _⟩, _⟩; omega))
          clear ha1 ha2
          go_enter Tryd.func10, Tryd.ntmps10
          go_wp2_with (first
            | (go_at_call 21; refine (specCount long size _ _ _ _ _ _ _ l1 l2 l3 l4).mono ?_; rintro e w1 ⟨rfl, hb1⟩; obtain ⟨hc1, hf1⟩ := bcell hb1)
            | (go_at_call_of 11 (Value.int .i64 (ws.length : Int)); refine (l1In_no _ _ _ _ (by omega)).mono ?_; rintro e w2 ⟨rfl, rfl⟩)
            | (go_at_call 11; refine (l1In_yes _ _ _ _ (by omega)).mono ?_; rintro e w2 ⟨rfl, rfl⟩))
          go_ret
          exact ⟨ret_bool H.out.symm, below_cat' (below_alloc' _ _) hb1⟩
      · have H := hid (show decide (planP long size ws gs) = false from decide_eq_false (by rintro ⟨⟨_, _, _, _, p⟩, _⟩; omega))
        clear ha1 ha2
        go_enter Tryd.func10, Tryd.ntmps10
        go_wp2_with (first
          | (go_at_call 21; refine (specCount long size _ _ _ _ _ _ _ l1 l2 l3 l4).mono ?_; rintro e w1 ⟨rfl, hb1⟩; obtain ⟨hc1, hf1⟩ := bcell hb1)
          | (go_at_call_of 11 (Value.int .i64 (cntI long size)); refine (l1In_no _ _ _ _ (by omega)).mono ?_; rintro e w2 ⟨rfl, rfl⟩)
          | (go_at_call 11; refine (l1In_yes _ _ _ _ (by omega)).mono ?_; rintro e w2 ⟨rfl, rfl⟩))
        go_ret
        exact ⟨ret_bool H.out.symm, below_cat' (below_alloc' _ _) hb1⟩
    · have H := hid (show decide (planP long size ws gs) = false from decide_eq_false (by rintro ⟨⟨_, _, p1, p2, _⟩, _⟩; omega))
      clear ha1 ha2
      go_enter Tryd.func10, Tryd.ntmps10
      go_wp2_with fail
      refine (l1In_yes _ _ _ _ (by omega)).mono ?_
      rintro e w2 ⟨rfl, rfl⟩
      go_wp2_with fail
      refine (l1In_no _ _ _ _ (by omega)).mono ?_
      rintro e w2 ⟨rfl, rfl⟩
      go_wp2_with fail
      go_ret
      exact ⟨ret_bool H.out.symm, below_alloc' _ _⟩
  · have H := hid (show decide (planP long size ws gs) = false from decide_eq_false (by rintro ⟨⟨p1, p2, _⟩, _⟩; omega))
    clear ha1 ha2
    go_enter Tryd.func10, Tryd.ntmps10
    go_wp2_with fail
    refine (l1In_no _ _ _ _ (by omega)).mono ?_
    rintro e w2 ⟨rfl, rfl⟩
    go_wp2_with fail
    go_ret
    exact ⟨ret_bool H.out.symm, below_alloc' _ _⟩
end Go.Proofs.YtcoofoiaaljpoaaDoor
namespace Go.Proofs.YtcoofoiaaljpoaaDoor
open Go.ChangeShapes Go.WideShapes Go.ChangeAt Go.RowKit Go.Sort

theorem cnt_cover (long size : Nat) (_l1 : 1 ≤ long) (l3 : 1 ≤ size) (N : Nat) (hN : cntI long size = N) : long ≤ N * size ∧ N * size ≤ long + size := by
  unfold cntI at hN
  have h1 := Int.mul_ediv_add_emod ((long : Int) + size - 1) size
  have h2 := Int.emod_nonneg ((long : Int) + size - 1) (b := (size : Int)) (by omega)
  have h3 := Int.emod_lt_of_pos ((long : Int) + size - 1) (b := (size : Int)) (by omega)
  rw [hN] at h1
  have h4 : ((N * size : Nat) : Int) = (size : Int) * (N : Int) := by rw [Int.natCast_mul, Int.mul_comm]
  omega
/-- The blocks of a text. -/
def blkP (t : ByteArray) (long size : Nat) : List ByteArray := cutP (t ++ rep ((cntI long size).toNat * size - long) (strOfNums [0])) size (cntI long size).toNat
end Go.Proofs.YtcoofoiaaljpoaaDoor
namespace Go.Proofs.YtcoofoiaaljpoaaDoor
open Go.ChangeShapes Go.WideShapes Go.ChangeAt Go.RowKit Go.Sort

/-- 'out = append(out, x)', x of several cells that were just laid. -/
theorem append_many {P : Program} {w : World} {ops : Array Oper} {rest : List Oper} {o : Oper} {a : Act} {Q : Exit → Act → World → Prop} (t e : TypeId) (i : TypeInfo) (z : Value) (size bytes : Nat)
    (ht : P.underlying t = some (.slice e)) (hi : P.info? e = some i) (hz : i.zero = some z) (hz1 : i.size = size) (hz2 : i.bytes = bytes) (hzs : z.cells.size = size) (hpos : 0 < size)
    {base n g : Nat} {v : Value} {xs : List Value} (us : Array Value) (hus : us.size = size) (s x : Operand) (hgd : o.guard = none) (ho : o.op = .call { callee := .builtin .append, args := #[s, x], argTypes := #[t, t] })
    (hs : a.eval s = v) (hx : a.eval x = .slice (some ⟨g, 0, none⟩) 1 1) (hg : g = w.heap.size) (hu : ∀ u ∈ us.toList, u.oneCell' = true)
    (hown : w.ownsRow base e size v n xs) (hbs : base ≤ w.heap.size) (hbd : (n + 1) * bytes ≤ 140737488355328) (hml : n + 1 ≤ 9223372036854775807)
    (h : ∀ v' w', w'.ownsRow base e size v' (n + 1) (xs ++ us.toList) → (w.alloc (.cells us e)).grownBy w' v.ownBlock → wpList P ops Q rest (a.put o.dst v') w') :
    wpList P ops Q (o :: rest) a (w.alloc (.cells us e)) := by
  subst hg
  refine wpList_append_own _ hgd s x t ho base e i z size bytes ht hi hz hz1 hz2 hzs hpos v n xs hs (hown.alloc _) ⟨w.heap.size, 0, none⟩ 1 1 us.toList hx (by simp [hus]) ?_ hu hml hbd (by simp; omega) ?_
  · intro j u' hj
    rw [addr_add, Nat.zero_add]
    exact box_cell (laid w us e) j (by simpa using hj)
  · intro v' w' h1 h2 _
    exact h v' w' h1 h2
/-- Rows of unlike elements lie apart. -/
theorem owns_kinds {w : World} {b1 b2 s1 s2 n1 n2 : Nat} {e1 e2 : TypeId} {v1 v2 : Value} {x1 x2 : List Value} (h1 : w.ownsRow b1 e1 s1 v1 n1 x1) (h2 : w.ownsRow b2 e2 s2 v2 n2 x2) (he : e1 ≠ e2) : ∀ k, v1.ownBlock = some k → v2.ownBlock ≠ some k := by
  intro k k1 k2
  rcases h1.2 with ⟨hv, -⟩ | ⟨g, cap, cur, hv, -, hh, -⟩
  · rw [hv] at k1; cases k1
  · rw [hv] at k1
    cases k1
    rcases h2.2 with ⟨hv2, -⟩ | ⟨g2, cap2, cur2, hv2, -, hh2, -⟩
    · rw [hv2] at k2; cases k2
    · rw [hv2] at k2
      cases k2
      rw [hh] at hh2
      cases hh2
      exact he rfl
end Go.Proofs.YtcoofoiaaljpoaaDoor
