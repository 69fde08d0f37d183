/- Where a draw that answers with a bucket goes on. -/
import Derived.Test.YtgdmhodipjfkoaaDrawBk
namespace Go.Proofs.Ytgdmhodipjfkoaa
open Go.ChangeShapes Go.WideShapes Go.ChangeAt Go.RowKit Go.Sort

theorem bytes_below {w w' : World} {a : Option Addr} {len cap : Nat} {zs : List Int} (h : Bytes w a len cap zs) (hb : Below w.heap.size w w') : Bytes w' a len cap zs := by
  rcases h with h | ⟨x, h1, h2, h3, h4, h5, h6⟩
  · exact .inl h
  · exact .inr ⟨x, h1, h2, h3, h4, fun i hi => by rw [hb.cell (p := x.add i) (block_lt_of_cell (h5 i hi))]; exact h5 i hi, h6⟩
/-- A literal of numbers, read at an index. -/
def Nums (cs : Array Value) (n : Nat) : Prop := ∀ k, k < n → ∃ X : Int, cs[k]? = some (.int .i64 X)
theorem nums4 (a b c d : Int) : Nums #[.int .i64 a, .int .i64 b, .int .i64 c, .int .i64 d] 4 := by
  intro k hk
  have : k = 0 ∨ k = 1 ∨ k = 2 ∨ k = 3 := by omega
  rcases this with rfl | rfl | rfl | rfl <;> exact ⟨_, rfl⟩
theorem nums3 (a b c : Int) : Nums #[.int .i64 a, .int .i64 b, .int .i64 c] 3 := by
  intro k hk
  have : k = 0 ∨ k = 1 ∨ k = 2 := by omega
  rcases this with rfl | rfl | rfl <;> exact ⟨_, rfl⟩
theorem nums_lit {l : List Value} {k : Nat} {v : Value} {h : k < l.length} (e : l.toArray[k]? = some v) : l[k] = v := by
  rw [List.getElem?_toArray] at e
  exact (List.getElem?_eq_some_iff.1 e).2
theorem nums_at {W : World} {g : Nat} {cs : Array Value} {t : TypeId} {n : Nat} (h : W.heap[g]? = some (.cells cs t (0, 0))) (hn : Nums cs n) (i : Int) (h1 : 0 ≤ i) (h2 : i < n) : ∃ X, W.cell? ⟨g, i.toNat, none⟩ = some (.int .i64 X) := by
  obtain ⟨X, hX⟩ := hn i.toNat (by omega)
  exact ⟨X, box_cell h i.toNat hX⟩

/-- Where a draw that answers with a bucket goes on: the reader, and the result's block ahead of it. -/
structure BtSt (w W : World) (g q : Nat) : Prop where
  rd : Rd W g q
  bl : Below w.heap.size w W
  lt : w.heap.size < g
  res : W.heap[w.heap.size]? = some (.cells #[.int .i64 0, .int .i64 0, .int .i64 0, .int .i64 0] 24 (0, 0))
theorem BtSt.touch {w W W' : World} {g q q' : Nat} (h : BtSt w W g q) (ht : Touch g W W') (hr : Rd W' g q') : BtSt w W' g q' :=
  ⟨hr, h.bl.trans (ht.below (Nat.le_of_lt h.lt)), h.lt, by rw [ht.block _ (by have := h.lt; omega)]; exact h.res⟩
theorem BtSt.grown {w W W' : World} {g q q' : Nat} (h : BtSt w W g q) (ht : W.grownBy W' (some g)) (hr : Rd W' g q') : BtSt w W' g q' :=
  ⟨hr, h.bl.trans (grown_below ht (Nat.le_of_lt h.lt) h.bl.size), h.lt, by rw [ht.block _ (lt_of_block h.res) (by intro e; have := h.lt; simp at e; omega)]; exact h.res⟩
theorem BtSt.below {w W W' : World} {g q : Nat} (h : BtSt w W g q) (hb : Below W.heap.size W W') : BtSt w W' g q :=
  ⟨h.rd.kept hb, h.bl.trans (hb.mono h.bl.size), h.lt, kept h.res hb⟩
theorem BtSt.drew {w W : World} {g q : Nat} (h : BtSt w W g q) : BtSt w W.drew g q := h.below (Below.refl _ _).drew
theorem BtSt.lit {w W : World} {g q : Nat} (h : BtSt w W g q) (o : Obj) : BtSt w (W.alloc o) g q := h.below ((Below.refl _ _).alloc (Nat.le_refl _) _)
/-- The result's block is written, cell by cell. -/
theorem BtSt.done {w W : World} {g q : Nat} (h : BtSt w W g q) (lv mo ra at' : Int) :
    ∃ V, V = (((W.setCell ⟨w.heap.size, 0, none⟩ (.int .i64 lv)).setCell ⟨w.heap.size, 1, none⟩ (.int .i64 mo)).setCell ⟨w.heap.size, 2, none⟩ (.int .i64 ra)).setCell ⟨w.heap.size, 3, none⟩ (.int .i64 at') ∧
      V.heap[w.heap.size]? = some (.cells #[.int .i64 lv, .int .i64 mo, .int .i64 ra, .int .i64 at'] 24 (0, 0)) ∧ Below w.heap.size w V := by
  have Z := set_block (set_block (set_block (set_block h.res 0 (.int .i64 lv)) 1 (.int .i64 mo)) 2 (.int .i64 ra)) 3 (.int .i64 at')
  exact ⟨_, rfl, Z, (((h.bl.setCell (p := ⟨w.heap.size, 0, none⟩) (Nat.le_refl _) _).setCell (p := ⟨w.heap.size, 1, none⟩) (Nat.le_refl _) _).setCell (p := ⟨w.heap.size, 2, none⟩) (Nat.le_refl _) _).setCell (p := ⟨w.heap.size, 3, none⟩) (Nat.le_refl _) _⟩
theorem BtSt.start {w W : World} {zs : Array Value} (hz : zs = #[.int .i64 0, .int .i64 0, .int .i64 0, .int .i64 0]) (hr : Rd W (w.alloc (.cells zs 24)).heap.size 0) (hb : Below (w.alloc (.cells zs 24)).heap.size (w.alloc (.cells zs 24)) W) : BtSt w W (w.heap.size + 1) 0 := by
  subst hz
  have e : (w.alloc (.cells #[.int .i64 0, .int .i64 0, .int .i64 0, .int .i64 0] 24)).heap.size = w.heap.size + 1 := by simp
  have b : Below w.heap.size w (w.alloc (.cells #[.int .i64 0, .int .i64 0, .int .i64 0, .int .i64 0] 24)) := (Below.refl _ _).alloc (Nat.le_refl _) _
  rw [e] at hr
  exact ⟨hr, b.trans (hb.mono b.size), by omega, kept (laid w _ _) hb⟩

end Go.Proofs.Ytgdmhodipjfkoaa
