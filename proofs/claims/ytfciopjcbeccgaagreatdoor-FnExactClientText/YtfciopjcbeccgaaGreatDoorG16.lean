/- What was appended to nothing; what is owned stays owned. Contracts of the library's functions, laid for one seat by the shelf's own command: slices_Clone_int. Another seat: lay it anew (tools/shelf.py). A plan copied by the program: rows of its own. -/
import Derived.Test.YtfciopjcbeccgaaGreatDoorG15
import Derived.Shelf.Strings.Builder1
import Derived.Shelf.Strings.BuilderF
import Derived.Shelf.Strings.BuilderK
import Derived.Ground.Names2Prog
import Derived.Shelf.Slices.Clone
import Derived.Ground.SlgnProg
import Derived.Shelf.SlicesE.Clone
import Derived.Test.YtfciopjcbeccgaaGreatDoorProg
import Derived.Deep.RegionWith
namespace Go.Proofs.YtfciopjcbeccgaaGreatDoor
open Go.ChangeShapes Go.WideShapes Go.ChangeAt Go.RowKit Go.Sort

/-- 'append([]int{}, xs...)': a row of its own. -/
theorem append_copy {P : Program} {w : World} {ops : Array Oper} {rest : List Oper} {o : Oper} {a : Act} {Q : Exit → Act → World → Prop} (t e : TypeId) (i : TypeInfo) (z : Value) (bytes : Nat)
    (ht : P.underlying t = some (.slice e)) (hi : P.info? e = some i) (hz : i.zero = some z) (hz1 : i.size = 1) (hz2 : i.bytes = bytes) (hzs : z.cells.size = 1)
    {g b off m cap : Nat} {xs : List Int} (s x : Operand) (hgd : o.guard = none) (ho : o.op = .call { callee := .builtin .append, args := #[s, x], argTypes := #[t, t] })
    (hs : a.eval s = .slice (some ⟨g, 0, none⟩) 0 0) (hx : a.eval x = .slice (some ⟨b, off, none⟩) m cap) (hg : g = w.heap.size) (hm : xs.length = m)
    (hc : ∀ i, i < xs.length → w.cell? ⟨b, off + i, none⟩ = some (.int .i64 (xs.getD i 0))) (hbd : m * bytes ≤ 140737488355328) (hml : m ≤ 9223372036854775807)
    (h : ∀ v' w', w'.ownsRow w.heap.size e 1 v' m (xs.map (Value.int .i64)) → Below w.heap.size w w' → wpList P ops Q rest (a.put o.dst v') w') :
    wpList P ops Q (o :: rest) a (w.alloc (.cells #[] e)) := by
  subst hg
  have ho1 : (w.alloc (.cells #[] e)).ownsRow w.heap.size e 1 (.slice (some ⟨w.heap.size, 0, none⟩) 0 0) 0 [] := World.ownsRow_lit w #[] 0 (Nat.le_refl _) (Nat.zero_le _) rfl
  refine wpList_append_own _ hgd s x t ho w.heap.size e i z 1 bytes ht hi hz hz1 hz2 hzs (by decide) _ 0 [] hs ho1 ⟨b, off, none⟩ m cap (xs.map (Value.int .i64)) hx (by simp [hm]) ?_ (by intro u hu; obtain ⟨y, -, rfl⟩ := List.mem_map.1 hu; rfl) (by unfold maxLen; omega) (by rw [Nat.zero_add]; exact hbd) (by simp) ?_
  · intro j u hj
    have hjl : j < xs.length := by have := (List.getElem?_eq_some_iff.1 hj).1; simpa using this
    have hci := hc j hjl
    rw [addr_add, World.cell?_of_block (w := w) (Below.heap_alloc _ _ _ (block_lt_of_cell hci)), hci]
    rw [← hj]; simp [List.getD, hjl]
  · intro v' w' h1 h2 _
    refine h v' w' ?_ (((Below.refl _ _).alloc (Nat.le_refl _) _).grown h2 (by simp) (fun j hj => (ho1.lt j hj).1))
    simpa using h1
theorem owns_set {w : World} {base : Nat} {e : TypeId} {size : Nat} {v : Value} {n : Nat} {xs : List Value} (h : w.ownsRow base e size v n xs) {p : Addr} (hp : p.block < base) (u : Value) : (w.setCell p u).ownsRow base e size v n xs := by
  obtain ⟨h1, h2⟩ := h
  refine ⟨h1, ?_⟩
  rcases h2 with h2 | ⟨g, cap, cur, hv, hg, hh, r⟩
  · exact Or.inl h2
  · exact Or.inr ⟨g, cap, cur, hv, hg, by rw [Below.heap_setCell _ p _ g (by omega)]; exact hh, r⟩
end Go.Proofs.YtfciopjcbeccgaaGreatDoor
namespace Go.Proofs
open Go.Shelf
def Tryz.laysNm215_ren : Go.Shelf.Ren := ⟨fun | 15 => 68 | n => n, fun | 22 => 22 | 3 => 3 | 4 => 4 | n => n, fun | n => n⟩
theorem Tryz.laysNm215 : Go.Proofs.Lays2.n15 Tryz.prog Tryz.laysNm215_ren := {
  mixed := by kernel_rfl
  f15 := Tryz.func68.trans (congrArg some (by kernel_rfl))
  t3 := Tryz.underlying3
  a3 := Tryz.isAgg3
  z3 := Tryz.sizeOf3
  v3 := Tryz.zeroValue3
  t4 := Tryz.underlying4
  a4 := Tryz.isAgg4
  z4 := Tryz.sizeOf4
  v4 := Tryz.zeroValue4
  t22 := Tryz.underlying22
  a22 := Tryz.isAgg22
  z22 := Tryz.sizeOf22
  v22 := Tryz.zeroValue22
  i3 := by kernel_rfl }
open Go.RowKit Go.Lib in
theorem Tryz.slices_Clone_int (b off n c : Nat) (zs : List Int) (w : World) (hz : n ≤ zs.length) (hbig : n * 8 ≤ 140737488355328) (hc : ∀ j, j < zs.length → w.cell? ⟨b, off + j, none⟩ = some (.int .i64 (zs.getD j 0))) :
    Calls Tryz.prog 68 #[.slice (some ⟨b, off, none⟩) n c] w fun e w' => ∃ v', e = .returned v' ∧ w'.ownsRow w.heap.size 3 1 v' n ((zs.take n).map (Value.int .i64)) ∧ v' ≠ .slice none 0 0 ∧ Below w.heap.size w w' := Any.slices_Clone_int Tryz.laysNm215 b off n c zs w hz hbig hc
end Go.Proofs
namespace Go.Proofs.YtfciopjcbeccgaaGreatDoor
open Go.ChangeShapes Go.WideShapes Go.ChangeAt Go.RowKit Go.Sort

theorem clone_ints (b o c : Nat) (xs : List Int) (w : World) (h : ∀ i, i < xs.length → w.cell? ⟨b, o + i, none⟩ = some (.int .i64 (xs.getD i 0))) (hn : xs.length ≤ 1000) :
    Calls Tryz.prog 68 #[.slice (some ⟨b, o, none⟩) xs.length c] w fun e w' => ∃ a d, e = .returned (.slice a xs.length d) ∧ w'.ownsRow w.heap.size 3 1 (.slice a xs.length d) xs.length (xs.map (Value.int .i64)) ∧ Below w.heap.size w w' := by
  refine (Tryz.slices_Clone_int b o xs.length c xs w (Nat.le_refl _) (by omega) h).mono ?_
  rintro e w' ⟨v, rfl, h1, _, h2⟩
  rw [List.take_length] at h1
  obtain ⟨a, d, rfl⟩ := owns_slice h1
  exact ⟨a, d, rfl, h1, h2⟩

set_option maxHeartbeats 4000000 in
set_option maxRecDepth 100000 in
theorem copied_any (long size : Int) (b1 o1 b2 o2 c1 c2 : Nat) (ws gs : List Int) (w : World) (h1 : ∀ i, i < ws.length → w.cell? ⟨b1, o1 + i, none⟩ = some (.int .i64 (ws.getD i 0))) (h2 : ∀ i, i < gs.length → w.cell? ⟨b2, o2 + i, none⟩ = some (.int .i64 (gs.getD i 0)))
    (n1 : ws.length ≤ 1000) (n2 : gs.length ≤ 1000) (p1 : 1 ≤ ws.length) (p2 : 1 ≤ gs.length) :
    Calls Tryz.prog 51 #[.agg #[.int .i64 long, .int .i64 size, .slice (some ⟨b1, o1, none⟩) ws.length c1, .slice (some ⟨b2, o2, none⟩) gs.length c2]] w fun e w' => ∃ v, e = .returned v ∧ PlanO w' w.heap.size long size ws gs v ∧ Below w.heap.size w w' := by
  have l1 := block_lt_of_cell (h1 0 (by omega))
  have l2 := block_lt_of_cell (h2 0 (by omega))
  have H1 := hid h1
  have H2 := hid h2
  have N1 := hid n1
  have N2 := hid n2
  obtain ⟨V, hV⟩ : ∃ V, V = (w.alloc (.cells #[.int .i64 long, .int .i64 size, .slice (some ⟨b1, o1, none⟩) ws.length c1, .slice (some ⟨b2, o2, none⟩) gs.length c2] 34)).alloc (.cells #[.int .i64 0, .int .i64 0, .slice none 0 0, .slice none 0 0] 34) := ⟨_, rfl⟩
  have X0 : V.heap[w.heap.size]? = some (.cells #[.int .i64 long, .int .i64 size, .slice (some ⟨b1, o1, none⟩) ws.length c1, .slice (some ⟨b2, o2, none⟩) gs.length c2] 34 (0, 0)) := by
    rw [hV]; exact kept (laid w _ _) (below_alloc' _ _)
  have R0 : V.heap[w.heap.size + 1]? = some (.cells #[.int .i64 0, .int .i64 0, .slice none 0 0, .slice none 0 0] 34 (0, 0)) := by
    rw [hV]
    have := laid (w.alloc (.cells #[.int .i64 long, .int .i64 size, .slice (some ⟨b1, o1, none⟩) ws.length c1, .slice (some ⟨b2, o2, none⟩) gs.length c2] 34)) #[.int .i64 0, .int .i64 0, .slice none 0 0, .slice none 0 0] 34
    rw [World.size_alloc'] at this
    exact this
  have B0 : Below w.heap.size w V := by rw [hV]; exact below2' w _ _
  have hVs : V.heap.size = w.heap.size + 2 := by rw [hV]; simp
  have XH : Hid (V.drew.heap[w.heap.size]? = some (.cells #[.int .i64 long, .int .i64 size, .slice (some ⟨b1, o1, none⟩) ws.length c1, .slice (some ⟨b2, o2, none⟩) gs.length c2] 34 (0, 0))) := hid X0
  have RH : Hid (V.drew.heap[w.heap.size + 1]? = some (.cells #[.int .i64 0, .int .i64 0, .slice none 0 0, .slice none 0 0] 34 (0, 0))) := hid R0
  have BH : Hid (Below w.heap.size w V.drew) := hid B0.drew
  have q2 := box_cell X0 2 (v := .slice (some ⟨b1, o1, none⟩) ws.length c1) rfl
  have q3 := box_cell X0 3 (v := .slice (some ⟨b2, o2, none⟩) gs.length c2) rfl
  have VS := hid hVs
  clear h1 h2 n1 n2 p1 p2 X0 R0 B0 hVs
  go_enter Tryz.func51, Tryz.ntmps51
  go_wp2_with fail
  rw [← hV]
  clear hV
  go_region_with (first
    | (go_at_call_of 68 (Value.slice (some ⟨b1, o1, none⟩) ws.length c1)
       refine (clone_ints b1 o1 c1 ws V.drew (fun i hi => (BH.out.cell (p := ⟨b1, o1 + i, none⟩) l1).trans (H1.out i hi)) N1.out).mono ?_
       rintro e w1 ⟨a1, d1, rfl, ow1, bw1⟩
       have O1 := hid ow1
       have X1 := hid (kept XH.out bw1)
       have R1 := hid (kept RH.out bw1)
       have B1 := hid (below_cat' BH.out bw1)
       have S1 := hid bw1.size
       clear ow1 bw1 q2
       have q3' := box_cell X1.out 3 (v := .slice (some ⟨b2, o2, none⟩) gs.length c2) rfl)
    | (go_at_call_of 68 (Value.slice (some ⟨b2, o2, none⟩) gs.length c2)
       refine (clone_ints b2 o2 c2 gs w1 (fun i hi => (B1.out.cell (p := ⟨b2, o2 + i, none⟩) l2).trans (H2.out i hi)) N2.out).mono ?_
       rintro e w2 ⟨a2, d2, rfl, ow2, bw2⟩
       have O2 := hid (owns_below O1.out bw2)
       have O3 := hid ow2
       have AP := hid (owns_apart O1.out ow2 (Nat.le_refl _))
       have X2 := hid (kept X1.out bw2)
       have R2 := hid (kept R1.out bw2)
       have B2 := hid (below_cat' B1.out bw2)
       clear ow2 bw2
       have x0 := box_cell X2.out 0 (v := .int .i64 long) rfl
       have x1 := box_cell X2.out 1 (v := .int .i64 size) rfl
       have x2 := box_cell X2.out 2 (v := .slice (some ⟨b1, o1, none⟩) ws.length c1) rfl
       have x3 := box_cell X2.out 3 (v := .slice (some ⟨b2, o2, none⟩) gs.length c2) rfl
       have y2 := box_frozen X2.out 2
       have y3 := box_frozen X2.out 3
       have r0 := box_cell R2.out 0 (v := .int .i64 0) rfl
       have r1 := box_cell R2.out 1 (v := .int .i64 0) rfl
       have r2 := box_cell R2.out 2 (v := .slice none 0 0) rfl
       have r3 := box_cell R2.out 3 (v := .slice none 0 0) rfl
       have z0 := box_frozen R2.out 0
       have z1 := box_frozen R2.out 1
       have z2 := box_frozen R2.out 2
       have z3 := box_frozen R2.out 3
       have lx := lt_of_block X2.out
       have lr := lt_of_block R2.out))
  all_goals go_wp2_with fail
  all_goals
    (have Y := set_block (set_block (set_block (set_block (set_other (g := w.heap.size) (set_other (g := w.heap.size) R2.out (by omega) 2 (.slice a1 ws.length d1)) (by omega) 3 (.slice a2 gs.length d2)) 0 (.int .i64 long)) 1 (.int .i64 size)) 2 (.slice a1 ws.length d1)) 3 (.slice a2 gs.length d2)
     have q0 := box_cell Y 0 (v := .int .i64 long) rfl
     have q1 := box_cell Y 1 (v := .int .i64 size) rfl
     have q2 := box_cell Y 2 (v := .slice a1 ws.length d1) rfl
     have q3 := box_cell Y 3 (v := .slice a2 gs.length d2) rfl
     have hs1 : w.heap.size + 2 ≤ w1.heap.size := by have h1 := S1.out; have h2 := VS.out; have h3 : V.drew.heap.size = V.heap.size := rfl; omega
     have hd : V.drew.heap.size = w.heap.size + 2 := VS.out
     refine bodyPost_ret (v := .agg #[.int .i64 long, .int .i64 size, .slice a1 ws.length d1, .slice a2 gs.length d2]) ?_ rfl ⟨_, rfl, ⟨_, _, rfl, ?_, ?_, AP.out⟩, ?_⟩
     · unfold results; rw [Tryz.results51]; simp [go_sem, q0, q1, q2, q3]
     · exact owns_base (owns_set (owns_set (owns_set (owns_set (owns_set (owns_set O2.out (by rw [hd]; simp) _) (by rw [hd]; simp) _) (by rw [hd]; simp) _) (by rw [hd]; simp) _) (by rw [hd]; simp) _) (by rw [hd]; simp) _) (by rw [hd]; simp)
     · exact owns_base (owns_set (owns_set (owns_set (owns_set (owns_set (owns_set O3.out (by simp; omega) _) (by simp; omega) _) (by simp; omega) _) (by simp; omega) _) (by simp; omega) _) (by simp; omega) _) (by omega)
     · exact below_set' (below_set' (below_set' (below_set' (below_set' (below_set' B2.out (by simp) _) (by simp) _) (by simp) _) (by simp) _) (by simp) _) (by simp) _)
end Go.Proofs.YtfciopjcbeccgaaGreatDoor
