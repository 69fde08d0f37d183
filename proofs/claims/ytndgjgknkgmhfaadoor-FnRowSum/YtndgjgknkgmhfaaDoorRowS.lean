/- A row that is drawn, perhaps spoilt. -/
import Derived.Test.YtndgjgknkgmhfaaDoorRowR
namespace Go.Proofs.YtndgjgknkgmhfaaDoor
open Go.ChangeShapes Go.WideShapes Go.ChangeAt Go.RowKit

/-- 'append([]int{u}, out...)': a literal of one, and a row behind it. -/
theorem append_behind {P : Program} {w : World} {ops : Array Oper} {rest : List Oper} {o : Oper} {a : Act} {Q : Exit → Act → World → Prop} (t e : TypeId) (i : TypeInfo) (z : Value) (bytes : Nat)
    (ht : P.underlying t = some (.slice e)) (hi : P.info? e = some i) (hz : i.zero = some z) (hz1 : i.size = 1) (hz2 : i.bytes = bytes) (hzs : z.cells.size = 1)
    {base g g2 m cap : Nat} {u : Value} {xs : List Value} (s x : Operand) (hgd : o.guard = none) (ho : o.op = .call { callee := .builtin .append, args := #[s, x], argTypes := #[t, t] })
    (hs : a.eval s = .slice (some ⟨g, 0, none⟩) 1 1) (hx : a.eval x = .slice (some ⟨g2, 0, none⟩) m cap) (hg : g = w.heap.size) (_hu : u.oneCell' = true)
    (hown : w.ownsRow base e 1 (.slice (some ⟨g2, 0, none⟩) m cap) m xs) (hone : ∀ u ∈ xs, u.oneCell' = true) (hbd : (1 + m) * bytes ≤ 140737488355328) (hml : 1 + m ≤ 9223372036854775807)
    (h : ∀ v' w', w'.ownsRow w.heap.size e 1 v' (1 + m) ([u] ++ xs) → Below w.heap.size w w' → wpList P ops Q rest (a.put o.dst v') w') :
    wpList P ops Q (o :: rest) a (w.alloc (.cells #[u] e)) := by
  subst hg
  have ho1 : (w.alloc (.cells #[u] e)).ownsRow w.heap.size e 1 (.slice (some ⟨w.heap.size, 0, none⟩) 1 1) 1 [u] := World.ownsRow_lit w #[u] 1 (Nat.le_refl _) (by unfold maxLen; omega) rfl
  refine wpList_append_own _ hgd s x t ho w.heap.size e i z 1 bytes ht hi hz hz1 hz2 hzs (by decide) _ 1 [u] hs ho1 ⟨g2, 0, none⟩ m cap xs hx (by rw [hown.1, Nat.mul_one]) ?_ hone hml hbd (by simp) ?_
  · intro j u' hj
    have hjl : j < m := by
      have := (List.getElem?_eq_some_iff.1 hj).1
      have := hown.1
      omega
    rw [addr_add, Nat.zero_add, (hown.alloc _).cellAt j (by omega)]
    exact hj
  · intro v' w' h1 h2 _
    exact h v' w' h1 (((Below.refl _ _).alloc (Nat.le_refl _) _).grown h2 (by simp) (fun j hj => (ho1.lt j hj).1))

set_option maxHeartbeats 1000000 in
theorem l15BadRow_any (g p n : Nat) (w : World) (hr : Rd w g p) (hp : p ≤ 1000000) (hn : n ≤ 100) :
    Calls Tryd.prog 17 #[.pointer (some ⟨g, 0, none⟩), .int .i64 n] w fun e w' => ∃ v, ∃ xs : List Int, e = .returned v ∧ w'.ownsRow w.heap.size 3 1 v xs.length (xs.map (Value.int .i64)) ∧ xs.length ≤ n + 1 ∧ (∀ x ∈ xs, -1 ≤ x ∧ x ≤ n) ∧ Rd w' g (p + n + 1) ∧ w.grownBy w' (some g) := by
  obtain ⟨i0, hi, hz0, hz1, hz2⟩ := info_parts Tryd.info3
  have hglt := hr.lt
  go_enter Tryd.func17, Tryd.ntmps17
  go_wp2_with fail
  refine (l15Row_any g p n w hr hp hn).mono ?_
  rintro e w1 ⟨v, xs, rfl, hnn, hown, hxl, hxm, hr1, hgr⟩
  have HX := hid hxm
  have HN := hid hnn
  clear hxm hr hnn
  go_wp2_with fail
  refine (pick_any g (p + n) 16 _ hr1 (by omega) (by omega) (by omega)).mono ?_
  rintro e w2 ⟨r1, rfl, r1a, r1b, hr2, ht2⟩
  have hown2 := ht2.owns hown hglt
  have hgr2 := grown_trans hgr ht2.grown
  have hsz2 := hgr2.size
  clear ht2 hown hgr hr1
  rcases (show r1 = 0 ∨ r1 = 1 ∨ r1 = 2 ∨ 3 ≤ r1 from by omega) with rfl | rfl | rfl | h3
  · go_wp2_with (at_builtin; refine append_one 23 3 i0 _ 8 Tryd.underlying23 hi hz0 hz1 hz2 rfl _ _ rfl rfl rfl rfl rfl rfl hown2 hsz2 (by omega) (by omega) ?_; intro v' w4 hown4 hb4)
    go_ret
    refine ⟨_, xs ++ [(n : Int)], rfl, ?_, by simp; omega, ?_, hr2.keptB hb4 hglt, grown_then hgr2 hb4⟩
    · rw [List.map_append, List.length_append]; exact hown4
    · intro x hx
      rcases List.mem_append.1 hx with h | h
      · have := HX.out x h; omega
      · have := List.mem_singleton.1 h; omega
  · obtain ⟨g2, cap, rfl⟩ : ∃ g2 cap, v = .slice (some ⟨g2, 0, none⟩) xs.length cap := by
      rcases hown2.2 with ⟨rfl, h0⟩ | ⟨g2, cap, cur, rfl, _⟩
      · exact absurd rfl HN.out
      · exact ⟨g2, cap, rfl⟩
    go_wp2_with (at_builtin; refine append_behind 23 3 i0 _ 8 Tryd.underlying23 hi hz0 hz1 hz2 rfl _ _ rfl rfl rfl rfl rfl rfl hown2 (by intro u hu; obtain ⟨x, -, rfl⟩ := List.mem_map.1 hu; rfl) (by omega) (by omega) ?_; intro v' w4 hown4 hb4)
    go_ret
    refine ⟨_, [(-1 : Int)] ++ xs, rfl, ?_, by simp; omega, ?_, hr2.kept hb4, grown_then hgr2 (hb4.mono hsz2)⟩
    · rw [List.map_append, List.length_append]; exact owns_base hown4 hsz2
    · intro x hx
      rcases List.mem_append.1 hx with h | h
      · have := List.mem_singleton.1 h; omega
      · have := HX.out x h; omega
  · go_wp2_with (at_builtin; refine append_one 23 3 i0 _ 8 Tryd.underlying23 hi hz0 hz1 hz2 rfl _ _ rfl rfl rfl rfl rfl rfl hown2 hsz2 (by omega) (by omega) ?_; intro v' w4 hown4 hb4)
    go_ret
    refine ⟨_, xs ++ [(0 : Int)], rfl, ?_, by simp; omega, ?_, hr2.keptB hb4 hglt, grown_then hgr2 hb4⟩
    · rw [List.map_append, List.length_append]; exact hown4
    · intro x hx
      rcases List.mem_append.1 hx with h | h
      · have := HX.out x h; omega
      · have := List.mem_singleton.1 h; omega
  · have e0 : (r1 == 0) = false := by rw [beq_eq_false_iff_ne]; omega
    have e1 : (r1 == 1) = false := by rw [beq_eq_false_iff_ne]; omega
    have e2 : (r1 == 2) = false := by rw [beq_eq_false_iff_ne]; omega
    go_wp2_with fail
    go_ret
    exact ⟨_, xs, rfl, hown2, by omega, fun x hx => by have := HX.out x hx; omega, hr2, hgr2⟩
end Go.Proofs.YtndgjgknkgmhfaaDoor
