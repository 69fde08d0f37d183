/- The plan for a length: what it is. What was appended to nothing; what is owned stays owned. Contracts of the library's functions, laid for one seat by the shelf's own command: slices_Clone_int. Another seat: lay it anew (tools/shelf.py). -/
import Derived.Test.YtfciopjcbeccgaaDoorG18
import Derived.Test.YtfciopjcbeccgaaDoorG0
import Derived.Ground.Names2Prog
import Derived.Shelf.Slices.Clone
import Derived.Ground.SlgnProg
import Derived.Shelf.SlicesE.Clone
import Derived.Test.YtfciopjcbeccgaaDoorProg
namespace Go.Proofs.YtfciopjcbeccgaaDoor
open Go.ChangeShapes Go.WideShapes Go.ChangeAt Go.RowKit Go.Sort

/-- The size, how many blocks, the first quarter of them. -/
def forS (long : Int) : Int := max 8 (cntI long 24)
def forN (long : Int) : Int := cntI long (forS long)
def forK (long : Int) : Int := cntI (forN long) 4
def forW (long : Int) : List Int := if forK long < forN long then [forK long, forN long] else [forN long]
def forG (long : Int) : List Int := if forK long < forN long then [2, 3] else [1]

/-- A plan of the call's own. -/
def PlanO (w : World) (base : Nat) (long size : Int) (ws gs : List Int) (v : Value) : Prop :=
  ∃ v1 v2, v = .agg #[.int .i64 long, .int .i64 size, v1, v2] ∧ w.ownsRow base 3 1 v1 ws.length (ws.map (Value.int .i64)) ∧ w.ownsRow base 3 1 v2 gs.length (gs.map (Value.int .i64)) ∧ Apart v1 v2

theorem cntI_24 (long : Int) (h1 : 1 ≤ long) (h2 : long ≤ 300) : 1 ≤ cntI long 24 ∧ cntI long 24 ≤ 13 := by unfold cntI; omega
theorem forS_bd (long : Int) (h1 : 1 ≤ long) (h2 : long ≤ 300) : 8 ≤ forS long ∧ forS long ≤ 13 := by
  have := cntI_24 long h1 h2
  unfold forS; omega
/-- As long as there are too many blocks a block is too small. -/
theorem for_step (long s : Int) (_h1 : 1 ≤ long) (_h2 : long ≤ 300) (h3 : 1 ≤ s) : 24 < cntI long s ↔ s < cntI long 24 := by
  unfold cntI
  rw [Int.lt_iff_add_one_le, Int.le_ediv_iff_mul_le (by omega)]
  omega
theorem own_laid {w : World} {base g : Nat} (xs : List Int) (h : w.heap[g]? = some (.cells (xs.map (Value.int .i64)).toArray 3 (0, 0))) (hb : base ≤ g) (hx : xs.length ≤ 1000) :
    w.ownsRow base 3 1 (.slice (some ⟨g, 0, none⟩) xs.length xs.length) xs.length (xs.map (Value.int .i64)) :=
  ⟨by simp, Or.inr ⟨g, xs.length, _, rfl, hb, h, Nat.le_refl _, by unfold maxLen; omega, by simp, by simp [List.take_of_length_le]⟩⟩
theorem apart_of {g1 g2 n1 c1 n2 c2 : Nat} (h : g1 ≠ g2) : Apart (.slice (some ⟨g1, 0, none⟩) n1 c1) (.slice (some ⟨g2, 0, none⟩) n2 c2) :=
  ⟨fun k a b => by simp [Value.ownBlock] at a b; omega, fun k a b => by simp [Value.ownBlock] at a b; omega⟩
theorem planO_nil (w : World) (base : Nat) : PlanO w base 0 0 [] [] (.agg #[.int .i64 0, .int .i64 0, .slice none 0 0, .slice none 0 0]) :=
  ⟨_, _, rfl, World.ownsRow_nil _ _ _ _, World.ownsRow_nil _ _ _ _, fun k a => by simp [Value.ownBlock] at a, fun k a => by simp [Value.ownBlock] at a⟩
theorem World.size_alloc' (w : World) (o : Obj) : (w.alloc o).heap.size = w.heap.size + 1 := by simp
theorem below_set' {w w' : World} (h : Below w.heap.size w w') {p : Addr} (hp : w.heap.size ≤ p.block) (u : Value) : Below w.heap.size w (w'.setCell p u) := h.setCell hp u
theorem below2' (w : World) (a b : Obj) : Below w.heap.size w ((w.alloc a).alloc b) :=
  ((Below.refl _ _).alloc (Nat.le_refl _) _).alloc (by simp) _
theorem planO_slices {w : World} {base : Nat} {long size : Int} {ws gs : List Int} {v : Value} (h : PlanO w base long size ws gs v) : ∃ a1 c1 a2 c2, v = .agg #[.int .i64 long, .int .i64 size, .slice a1 ws.length c1, .slice a2 gs.length c2] ∧
    w.ownsRow base 3 1 (.slice a1 ws.length c1) ws.length (ws.map (Value.int .i64)) ∧ w.ownsRow base 3 1 (.slice a2 gs.length c2) gs.length (gs.map (Value.int .i64)) ∧ Apart (.slice a1 ws.length c1) (.slice a2 gs.length c2) := by
  obtain ⟨v1, v2, rfl, o1, o2, ap⟩ := h
  obtain ⟨a1, c1, rfl⟩ := owns_slice o1
  obtain ⟨a2, c2, rfl⟩ := owns_slice o2
  exact ⟨a1, c1, a2, c2, rfl, o1, o2, ap⟩
end Go.Proofs.YtfciopjcbeccgaaDoor
namespace Go.Proofs.YtfciopjcbeccgaaDoor
open Go.ChangeShapes Go.WideShapes Go.ChangeAt Go.RowKit Go.Sort

/-- 'append([]int{}, xs...)': a row of its own. -/
theorem append_copy {P : Program} {w : World} {ops : Array Oper} {rest : List Oper} {o : Oper} {a : Act} {Q : Exit → Act → World → Prop} (t e : TypeId) (i : TypeInfo) (z : Value) (bytes : Nat)
    (ht : P.underlying t = some (.slice e)) (hi : P.info? e = some i) (hz : i.zero = some z) (hz1 : i.size = 1) (hz2 : i.bytes = bytes) (hzs : z.cells.size = 1)
    {g b off m cap : Nat} {xs : List Int} (s x : Operand) (hgd : o.guard = none) (ho : o.op = .call { callee := .builtin .append, args := #[s, x], argTypes := #[t, t] })
    (hs : a.eval s = .slice (some ⟨g, 0, none⟩) 0 0) (hx : a.eval x = .slice (some ⟨b, off, none⟩) m cap) (hg : g = w.heap.size) (hm : xs.length = m)
    (hc : ∀ i, i < xs.length → w.cell? ⟨b, off + i, none⟩ = some (.int .i64 (xs.getD i 0))) (hbd : m * bytes ≤ 140737488355328) (hml : m ≤ 9223372036854775807)
    (h : ∀ v' w', w'.ownsRow w.heap.size e 1 v' m (xs.map (Value.int .i64)) → Below w.heap.size w w' → wpList P ops Q rest (a.put o.dst v') w') :
    wpList P ops Q (o :: rest) a (w.alloc (.cells #[] e)) := by
  subst hg
  have ho1 : (w.alloc (.cells #[] e)).ownsRow w.heap.size e 1 (.slice (some ⟨w.heap.size, 0, none⟩) 0 0) 0 [] := World.ownsRow_lit w #[] 0 (Nat.le_refl _) (Nat.zero_le _) rfl
  refine wpList_append_own _ hgd s x t ho w.heap.size e i z 1 bytes ht hi hz hz1 hz2 hzs (by decide) _ 0 [] hs ho1 ⟨b, off, none⟩ m cap (xs.map (Value.int .i64)) hx (by simp [hm]) ?_ (by intro u hu; obtain ⟨y, -, rfl⟩ := List.mem_map.1 hu; rfl) (by unfold maxLen; omega) (by rw [Nat.zero_add]; exact hbd) (by simp) ?_
  · intro j u hj
    have hjl : j < xs.length := by have := (List.getElem?_eq_some_iff.1 hj).1; simpa using this
    have hci := hc j hjl
    rw [addr_add, World.cell?_of_block (w := w) (Below.heap_alloc _ _ _ (block_lt_of_cell hci)), hci]
    rw [← hj]; simp [List.getD, hjl]
  · intro v' w' h1 h2 _
    refine h v' w' ?_ (((Below.refl _ _).alloc (Nat.le_refl _) _).grown h2 (by simp) (fun j hj => (ho1.lt j hj).1))
    simpa using h1
theorem owns_set {w : World} {base : Nat} {e : TypeId} {size : Nat} {v : Value} {n : Nat} {xs : List Value} (h : w.ownsRow base e size v n xs) {p : Addr} (hp : p.block < base) (u : Value) : (w.setCell p u).ownsRow base e size v n xs := by
  obtain ⟨h1, h2⟩ := h
  refine ⟨h1, ?_⟩
  rcases h2 with h2 | ⟨g, cap, cur, hv, hg, hh, r⟩
  · exact Or.inl h2
  · exact Or.inr ⟨g, cap, cur, hv, hg, by rw [Below.heap_setCell _ p _ g (by omega)]; exact hh, r⟩
end Go.Proofs.YtfciopjcbeccgaaDoor
namespace Go.Proofs
open Go.Shelf
def Tryd.laysNm215_ren : Go.Shelf.Ren := ⟨fun | 15 => 55 | n => n, fun | 22 => 22 | 3 => 3 | 4 => 4 | n => n, fun | n => n⟩
theorem Tryd.laysNm215 : Go.Proofs.Lays2.n15 Tryd.prog Tryd.laysNm215_ren := {
  mixed := by kernel_rfl
  f15 := Tryd.func55.trans (congrArg some (by kernel_rfl))
  t3 := Tryd.underlying3
  a3 := Tryd.isAgg3
  z3 := Tryd.sizeOf3
  v3 := Tryd.zeroValue3
  t4 := Tryd.underlying4
  a4 := Tryd.isAgg4
  z4 := Tryd.sizeOf4
  v4 := Tryd.zeroValue4
  t22 := Tryd.underlying22
  a22 := Tryd.isAgg22
  z22 := Tryd.sizeOf22
  v22 := Tryd.zeroValue22
  i3 := by kernel_rfl }
open Go.RowKit Go.Lib in
theorem Tryd.slices_Clone_int (b off n c : Nat) (zs : List Int) (w : World) (hz : n ≤ zs.length) (hbig : n * 8 ≤ 140737488355328) (hc : ∀ j, j < zs.length → w.cell? ⟨b, off + j, none⟩ = some (.int .i64 (zs.getD j 0))) :
    Calls Tryd.prog 55 #[.slice (some ⟨b, off, none⟩) n c] w fun e w' => ∃ v', e = .returned v' ∧ w'.ownsRow w.heap.size 3 1 v' n ((zs.take n).map (Value.int .i64)) ∧ v' ≠ .slice none 0 0 ∧ Below w.heap.size w w' := Any.slices_Clone_int Tryd.laysNm215 b off n c zs w hz hbig hc
end Go.Proofs
