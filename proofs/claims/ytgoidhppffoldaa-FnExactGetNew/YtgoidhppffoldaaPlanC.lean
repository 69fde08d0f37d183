/- A plan copied by the model: rows of its own. -/
import Derived.Test.YtgoidhppffoldaaPlanFB
namespace Go.Proofs.Ytgoidhppffoldaa
open Go.ChangeShapes Go.WideShapes Go.ChangeAt Go.RowKit Go.Sort

/-- 'append([]int{}, xs...)': a row of its own. -/
theorem append_copy {P : Program} {w : World} {ops : Array Oper} {rest : List Oper} {o : Oper} {a : Act} {Q : Exit → Act → World → Prop} (t e : TypeId) (i : TypeInfo) (z : Value) (bytes : Nat)
    (ht : P.underlying t = some (.slice e)) (hi : P.info? e = some i) (hz : i.zero = some z) (hz1 : i.size = 1) (hz2 : i.bytes = bytes) (hzs : z.cells.size = 1)
    {g b off m cap : Nat} {xs : List Int} (s x : Operand) (hgd : o.guard = none) (ho : o.op = .call { callee := .builtin .append, args := #[s, x], argTypes := #[t, t] })
    (hs : a.eval s = .slice (some ⟨g, 0, none⟩) 0 0) (hx : a.eval x = .slice (some ⟨b, off, none⟩) m cap) (hg : g = w.heap.size) (hm : xs.length = m)
    (hc : ∀ i, i < xs.length → w.cell? ⟨b, off + i, none⟩ = some (.int .i64 (xs.getD i 0))) (hbd : m * bytes ≤ 140737488355328) (hml : m ≤ 9223372036854775807)
    (h : ∀ v' w', w'.ownsRow w.heap.size e 1 v' m (xs.map (Value.int .i64)) → Below w.heap.size w w' → wpList P ops Q rest (a.put o.dst v') w') :
    wpList P ops Q (o :: rest) a (w.alloc (.cells #[] e)) := by
  subst hg
  have ho1 : (w.alloc (.cells #[] e)).ownsRow w.heap.size e 1 (.slice (some ⟨w.heap.size, 0, none⟩) 0 0) 0 [] := World.ownsRow_lit w #[] 0 (Nat.le_refl _) (Nat.zero_le _) rfl
  refine wpList_append_own _ hgd s x t ho w.heap.size e i z 1 bytes ht hi hz hz1 hz2 hzs (by decide) _ 0 [] hs ho1 ⟨b, off, none⟩ m cap (xs.map (Value.int .i64)) hx (by simp [hm]) ?_ (by intro u hu; obtain ⟨y, -, rfl⟩ := List.mem_map.1 hu; rfl) (by unfold maxLen; omega) (by rw [Nat.zero_add]; exact hbd) (by simp) ?_
  · intro j u hj
    have hjl : j < xs.length := by have := (List.getElem?_eq_some_iff.1 hj).1; simpa using this
    have hci := hc j hjl
    rw [addr_add, World.cell?_of_block (w := w) (Below.heap_alloc _ _ _ (block_lt_of_cell hci)), hci]
    rw [← hj]; simp [List.getD, hjl]
  · intro v' w' h1 h2 _
    refine h v' w' ?_ (((Below.refl _ _).alloc (Nat.le_refl _) _).grown h2 (by simp) (fun j hj => (ho1.lt j hj).1))
    simpa using h1
theorem owns_set {w : World} {base : Nat} {e : TypeId} {size : Nat} {v : Value} {n : Nat} {xs : List Value} (h : w.ownsRow base e size v n xs) {p : Addr} (hp : p.block < base) (u : Value) : (w.setCell p u).ownsRow base e size v n xs := by
  obtain ⟨h1, h2⟩ := h
  refine ⟨h1, ?_⟩
  rcases h2 with h2 | ⟨g, cap, cur, hv, hg, hh, r⟩
  · exact Or.inl h2
  · exact Or.inr ⟨g, cap, cur, hv, hg, by rw [Below.heap_setCell _ p _ g (by omega)]; exact hh, r⟩

set_option maxHeartbeats 2000000 in
theorem l6Plan_any (long size : Int) (b1 o1 b2 o2 c1 c2 : Nat) (ws gs : List Int) (w : World) (h1 : ∀ i, i < ws.length → w.cell? ⟨b1, o1 + i, none⟩ = some (.int .i64 (ws.getD i 0))) (h2 : ∀ i, i < gs.length → w.cell? ⟨b2, o2 + i, none⟩ = some (.int .i64 (gs.getD i 0)))
    (n1 : ws.length ≤ 1000) (n2 : gs.length ≤ 1000) (p1 : 1 ≤ ws.length) (p2 : 1 ≤ gs.length) :
    Calls Try.prog 29 #[.agg #[.int .i64 long, .int .i64 size, .slice (some ⟨b1, o1, none⟩) ws.length c1, .slice (some ⟨b2, o2, none⟩) gs.length c2]] w fun e w' => ∃ v, e = .returned v ∧ PlanO w' w.heap.size long size ws gs v ∧ Below w.heap.size w w' := by
  obtain ⟨i0, hi, hz0, hz1, hz2⟩ := info_parts Try.info3
  have l1 := block_lt_of_cell (h1 0 (by omega))
  have l2 := block_lt_of_cell (h2 0 (by omega))
  have H1 := hid h1
  have H2 := hid h2
  clear h1 h2
  go_enter Try.func29, Try.ntmps29
  go_wp2_with (first
    | (at_builtin
       refine append_copy 22 3 i0 _ 8 Try.underlying22 hi hz0 hz1 hz2 rfl (xs := ws) _ _ rfl rfl rfl rfl (by simp) rfl (fun i hi => ((below2' w _ _).cell (p := ⟨b1, o1 + i, none⟩) l1).trans (H1.out i hi)) (by omega) (by omega) ?_
       intro v1 w1 ow1 bw1
       obtain ⟨a1, d1, rfl⟩ := owns_slice ow1
       have OW1 := hid ow1
       have X1 := hid (kept (kept (laid w #[.int .i64 long, .int .i64 size, .slice (some ⟨b1, o1, none⟩) ws.length c1, .slice (some ⟨b2, o2, none⟩) gs.length c2] 28) (below_alloc' _ (.cells #[.int .i64 0, .int .i64 0, .slice none 0 0, .slice none 0 0] 28))) bw1)
       have R1 := hid (kept (laid (w.alloc (.cells #[.int .i64 long, .int .i64 size, .slice (some ⟨b1, o1, none⟩) ws.length c1, .slice (some ⟨b2, o2, none⟩) gs.length c2] 28)) #[.int .i64 0, .int .i64 0, .slice none 0 0, .slice none 0 0] 28) bw1)
       rw [World.size_alloc'] at R1
       have B1 := hid (below_cat' (below2' w _ _) bw1)
       clear ow1 bw1
       have p0 := box_cell X1.out 0 (v := .int .i64 long) rfl
       have p1' := box_cell X1.out 1 (v := .int .i64 size) rfl
       have p2' := box_cell X1.out 2 (v := .slice (some ⟨b1, o1, none⟩) ws.length c1) rfl
       have p3 := box_cell X1.out 3 (v := .slice (some ⟨b2, o2, none⟩) gs.length c2) rfl
       have f2 := box_frozen X1.out 2
       have lw1 := lt_of_block R1.out
       have lw0 : w.heap.size < w1.heap.size := Nat.lt_of_succ_lt lw1)
    | (at_builtin
       refine append_copy 22 3 i0 _ 8 Try.underlying22 hi hz0 hz1 hz2 rfl (xs := gs) _ _ rfl rfl rfl rfl (by simp) rfl (fun i hi => ((below_set' B1.out (p := ⟨w.heap.size, 2, none⟩) (Nat.le_refl _) _).cell (p := ⟨b2, o2 + i, none⟩) l2).trans (H2.out i hi)) (by omega) (by omega) ?_
       intro v2 w2 ow2 bw2
       obtain ⟨a2, d2, rfl⟩ := owns_slice ow2
       have O1 := hid (owns_below (owns_set (OW1.out) (p := ⟨w.heap.size, 2, none⟩) (by simp; omega) (.slice a1 ws.length d1)) bw2)
       have O2 := hid ow2
       have AP := hid (owns_apart OW1.out ow2 (by simp))
       have X2 := hid (kept (set_block X1.out 2 (.slice a1 ws.length d1)) bw2)
       have R2 := hid (kept (set_other (g := w.heap.size) R1.out (by omega) 2 (.slice a1 ws.length d1)) bw2)
       have B2 := hid (below_cat' (below_set' B1.out (p := ⟨w.heap.size, 2, none⟩) (Nat.le_refl _) (.slice a1 ws.length d1)) bw2)
       clear ow2 bw2 p0 p1' p2' p3 f2
       have lw3 := lt_of_block R2.out
       have lw4 : w.heap.size < w2.heap.size := Nat.lt_of_succ_lt lw3
       have p0 := box_cell X2.out 0 (v := .int .i64 long) rfl
       have p1' := box_cell X2.out 1 (v := .int .i64 size) rfl
       have p2' := box_cell X2.out 2 (v := .slice a1 ws.length d1) rfl
       have f3 := box_frozen X2.out 3
       have p3 := box_cell X2.out 3 (v := .slice (some ⟨b2, o2, none⟩) gs.length c2) rfl
       have r0 := box_cell R2.out 0 (v := .int .i64 0) rfl
       have r1 := box_cell R2.out 1 (v := .int .i64 0) rfl
       have r2 := box_cell R2.out 2 (v := .slice none 0 0) rfl
       have r3 := box_cell R2.out 3 (v := .slice none 0 0) rfl
       have e0 := box_frozen R2.out 0
       have e1 := box_frozen R2.out 1
       have e2 := box_frozen R2.out 2
       have e3 := box_frozen R2.out 3))
  have Y := set_block (set_block (set_block (set_block (set_other (g := w.heap.size) R2.out (by omega) 3 (.slice a2 gs.length d2)) 0 (.int .i64 long)) 1 (.int .i64 size)) 2 (.slice a1 ws.length d1)) 3 (.slice a2 gs.length d2)
  have q0 := box_cell Y 0 (v := .int .i64 long) rfl
  have q1 := box_cell Y 1 (v := .int .i64 size) rfl
  have q2 := box_cell Y 2 (v := .slice a1 ws.length d1) rfl
  have q3 := box_cell Y 3 (v := .slice a2 gs.length d2) rfl
  refine bodyPost_ret (v := .agg #[.int .i64 long, .int .i64 size, .slice a1 ws.length d1, .slice a2 gs.length d2]) ?_ rfl ⟨_, rfl, ⟨_, _, rfl, ?_, ?_, AP.out⟩, ?_⟩
  · unfold results; rw [Try.results29]; simp [go_sem, q0, q1, q2, q3]
  · exact owns_base (owns_set (owns_set (owns_set (owns_set (owns_set O1.out (by simp; omega) _) (by simp) _) (by simp) _) (by simp) _) (by simp) _) (by simp; omega)
  · exact owns_base (owns_set (owns_set (owns_set (owns_set (owns_set O2.out (by simp; omega) _) (by simp; omega) _) (by simp; omega) _) (by simp; omega) _) (by simp; omega) _) (by simp; omega)
  · exact below_set' (below_set' (below_set' (below_set' (below_set' B2.out (by simp) _) (by simp) _) (by simp) _) (by simp) _) (by simp) _
end Go.Proofs.Ytgoidhppffoldaa