/- Frames, and rows of them that are read. -/
import Derived.Test.YtnfjplmpaeiagaaCmn
namespace Go.Proofs.Ytnfjplmpaeiagaa
open Go.ChangeShapes Go.WideShapes Go.ChangeAt Go.RowKit Go.Sort

theorem Try.info45 : (Try.prog.info? 45).map (fun i => (i.zero, i.size, i.bytes)) = some (some (.agg #[.int .i64 0, .int .i64 0, .int .i64 0, .int .i64 0, .bool false]), 5, 40) := by kernel_rfl

/-- A frame: house, edition, block, how often it is held, whether it was used. -/
structure Fr where
  h : Int
  e : Int
  b : Int
  d : Int
  u : Bool
  deriving DecidableEq
/-- One that is empty. -/
def Fr.no : Fr := ⟨0, 0, 0, 0, false⟩
def Fr.cells (f : Fr) : List Value := [.int .i64 f.h, .int .i64 f.e, .int .i64 f.b, .int .i64 f.d, .bool f.u]
/-- Its five cells from a place on. -/
structure FrC (w : World) (b off : Nat) (f : Fr) : Prop where
  c0 : w.cell? ⟨b, off, none⟩ = some (.int .i64 f.h)
  c1 : w.cell? ⟨b, off + 1, none⟩ = some (.int .i64 f.e)
  c2 : w.cell? ⟨b, off + 2, none⟩ = some (.int .i64 f.b)
  c3 : w.cell? ⟨b, off + 3, none⟩ = some (.int .i64 f.d)
  c4 : w.cell? ⟨b, off + 4, none⟩ = some (.bool f.u)
theorem FrC.below {w w' : World} {b off : Nat} {f : Fr} (h : FrC w b off f) {n : Nat} (hb : Below n w w') (hn : b < n) : FrC w' b off f :=
  ⟨(hb.cell (p := ⟨b, off, none⟩) hn).trans h.c0, (hb.cell (p := ⟨b, off + 1, none⟩) hn).trans h.c1, (hb.cell (p := ⟨b, off + 2, none⟩) hn).trans h.c2, (hb.cell (p := ⟨b, off + 3, none⟩) hn).trans h.c3, (hb.cell (p := ⟨b, off + 4, none⟩) hn).trans h.c4⟩

/-- The cells of a slice of frames that is read. -/
def FrsAt (w : World) (a : Option Addr) (fs : List Fr) : Prop :=
  fs ≠ [] → ∃ b off, a = some ⟨b, off, none⟩ ∧ ∀ k f, fs[k]? = some f → FrC w b (off + k * 5) f
theorem FrsAt.below {w w' : World} {a : Option Addr} {fs : List Fr} (h : FrsAt w a fs) (hb : Below w.heap.size w w') : FrsAt w' a fs := fun hne => by
  obtain ⟨b, off, ha, hc⟩ := h hne
  exact ⟨b, off, ha, fun k f hk => (hc k f hk).below hb (block_lt_of_cell (hc k f hk).c0)⟩

def frCells (fs : List Fr) : List Value := fs.flatMap Fr.cells
theorem frCells_len (fs : List Fr) : (frCells fs).length = fs.length * 5 := by
  induction fs with
  | nil => rfl
  | cons f fs ih => simp only [frCells, List.flatMap_cons, List.length_append, List.length_cons] at *; rw [ih]; simp [Fr.cells]; omega
theorem frCells_at (fs : List Fr) (k : Nat) (f : Fr) (hk : fs[k]? = some f) (j : Nat) (hj : j < 5) : (frCells fs)[k * 5 + j]? = f.cells[j]? := by
  induction fs generalizing k with
  | nil => simp at hk
  | cons g fs ih =>
    simp only [frCells, List.flatMap_cons]
    cases k with
    | zero =>
      simp only [List.getElem?_cons_zero, Option.some.injEq] at hk
      subst hk
      rw [Nat.zero_mul, Nat.zero_add, List.getElem?_append_left (by simpa [Fr.cells] using hj)]
    | succ k =>
      rw [List.getElem?_append_right (by simp [Fr.cells]; omega)]
      have := ih k (by simpa using hk)
      rw [show (k + 1) * 5 + j - g.cells.length = k * 5 + j by simp [Fr.cells]; omega]
      exact this
/-- One frame of a row, cell by cell another one. -/
theorem frCells_set (fs : List Fr) (k : Nat) (f : Fr) (hk : k < fs.length) :
    (((((frCells fs).set (k * 5) (.int .i64 f.h)).set (k * 5 + 1) (.int .i64 f.e)).set (k * 5 + 2) (.int .i64 f.b)).set (k * 5 + 3) (.int .i64 f.d)).set (k * 5 + 4) (.bool f.u) = frCells (fs.set k f) := by
  apply List.ext_getElem?
  intro i
  by_cases hi : i < fs.length * 5
  · obtain ⟨m, j, hj, rfl⟩ : ∃ m j, j < 5 ∧ i = m * 5 + j := ⟨i / 5, i % 5, Nat.mod_lt _ (by omega), by omega⟩
    by_cases hm : m = k
    · subst hm
      rw [frCells_at (fs.set m f) m f (by simp [hk]) j hj]
      have hl := frCells_len fs
      match j, hj with
      | 0, _ => simp [List.getElem?_set, Fr.cells, hl]; omega
      | 1, _ => simp [List.getElem?_set, Fr.cells, hl]; omega
      | 2, _ => simp [List.getElem?_set, Fr.cells, hl]; omega
      | 3, _ => simp [List.getElem?_set, Fr.cells, hl]; omega
      | 4, _ => simp [List.getElem?_set, Fr.cells, hl]; omega
    · have hf : (fs.set k f)[m]? = some fs[m] := by rw [List.getElem?_set_ne (by omega), List.getElem?_eq_getElem (by omega)]
      rw [frCells_at (fs.set k f) m fs[m] hf j hj, ← frCells_at fs m fs[m] (List.getElem?_eq_getElem (by omega)) j hj]
      rw [List.getElem?_set_ne (by omega), List.getElem?_set_ne (by omega), List.getElem?_set_ne (by omega), List.getElem?_set_ne (by omega), List.getElem?_set_ne (by omega)]
  · rw [List.getElem?_eq_none (by simp [frCells_len]; omega), List.getElem?_eq_none (by simp [frCells_len]; omega)]
theorem owns_frs {w : World} {base : Nat} {e : TypeId} {v : Value} {n : Nat} {fs : List Fr} (h : w.ownsRow base e 5 v n (frCells fs)) :
    ∃ a cap, v = .slice a fs.length cap ∧ n = fs.length ∧ FrsAt w a fs := by
  have hl : fs.length = n := by have := h.1; rw [frCells_len] at this; omega
  obtain ⟨a, cap, rfl⟩ := owns_slice h
  refine ⟨a, cap, by rw [hl], hl.symm, fun hne => ?_⟩
  obtain ⟨g, cap', hv, _⟩ := owns_shape h (by intro h0; have := frCells_len fs; rw [h0] at this; rw [List.length_nil] at this; exact hne (List.eq_nil_of_length_eq_zero (by omega)))
  simp only [Value.slice.injEq] at hv
  obtain ⟨rfl, _, rfl⟩ := hv
  refine ⟨g, 0, rfl, fun k f hk => ?_⟩
  have hkl : k < fs.length := (List.getElem?_eq_some_iff.1 hk).1
  have H : ∀ j, j < 5 → w.cell? ⟨g, 0 + k * 5 + j, none⟩ = f.cells[j]? := fun j hj => by
    rw [Nat.zero_add, h.cellAt (k * 5 + j) (by omega), frCells_at fs k f hk j hj]
  exact ⟨H 0 (by omega), H 1 (by omega), H 2 (by omega), H 3 (by omega), H 4 (by omega)⟩
theorem frs_at {w : World} {base : Nat} {e : TypeId} {a : Option Addr} {n m cap : Nat} {fs : List Fr} (h : w.ownsRow base e 5 (.slice a m cap) n (frCells fs)) : FrsAt w a fs := by
  obtain ⟨a', cap', hv, _, hi⟩ := owns_frs h
  simp only [Value.slice.injEq] at hv
  obtain ⟨rfl, _, _⟩ := hv
  exact hi
theorem made_frs (n : Nat) : (madeCells (Value.agg #[.int .i64 0, .int .i64 0, .int .i64 0, .int .i64 0, .bool false]).cells (n * 5)).toList = frCells (List.replicate n Fr.no) := by
  apply List.ext_getElem?
  intro i
  by_cases hi : i < n * 5
  · obtain ⟨k, j, hj, rfl⟩ : ∃ k j, j < 5 ∧ i = k * 5 + j := ⟨i / 5, i % 5, Nat.mod_lt _ (by omega), by omega⟩
    rw [frCells_at _ k Fr.no (by rw [List.getElem?_replicate, if_pos (by omega)]) j hj]
    have e1 : (k * 5 + j) % 5 = j := by omega
    simp [madeCells, Value.cells, hi, e1]
    match j, hj with
    | 0, _ => rfl
    | 1, _ => rfl
    | 2, _ => rfl
    | 3, _ => rfl
    | 4, _ => rfl
  · rw [List.getElem?_eq_none (by simp [madeCells]; omega), List.getElem?_eq_none (by rw [frCells_len]; simp; omega)]
theorem frs_cells {w : World} {base g n cap : Nat} {e : TypeId} {fs : List Fr} (h : w.ownsRow base e 5 (.slice (some ⟨g, 0, none⟩) n cap) n (frCells fs)) (k : Nat) (hk : k < n) : ∃ f, fs[k]? = some f ∧ FrC w g (k * 5) f := by
  obtain ⟨a, c, hv, hn, hi⟩ := owns_frs h
  simp only [Value.slice.injEq] at hv
  obtain ⟨rfl, _, _⟩ := hv
  have hkl : k < fs.length := by omega
  obtain ⟨b, off, hb, hc⟩ := hi (by intro h0; simp [h0] at hkl)
  simp only [Option.some.injEq, Addr.mk.injEq] at hb
  obtain ⟨rfl, rfl, _⟩ := hb
  refine ⟨fs[k], List.getElem?_eq_getElem hkl, ?_⟩
  have := hc k fs[k] (List.getElem?_eq_getElem hkl)
  rwa [Nat.zero_add] at this
/-- A frame stored into a row. -/
theorem frs_store {w : World} {base g n cap : Nat} {e : TypeId} {fs : List Fr} (h : w.ownsRow base e 5 (.slice (some ⟨g, 0, none⟩) n cap) n (frCells fs)) (k : Nat) (hk : k < n) (f : Fr) :
    (((((w.setCell ⟨g, k * 5, none⟩ (.int .i64 f.h)).setCell ⟨g, k * 5 + 1, none⟩ (.int .i64 f.e)).setCell ⟨g, k * 5 + 2, none⟩ (.int .i64 f.b)).setCell ⟨g, k * 5 + 3, none⟩ (.int .i64 f.d)).setCell ⟨g, k * 5 + 4, none⟩ (.bool f.u)).ownsRow base e 5 (.slice (some ⟨g, 0, none⟩) n cap) n (frCells (fs.set k f)) := by
  have hl : fs.length = n := by have := h.1; rw [frCells_len] at this; omega
  rw [← frCells_set fs k f (by omega)]
  exact (((((h.stored _ _).1.stored _ _).1.stored _ _).1.stored _ _).1.stored _ _).1
theorem below_set5 {n : Nat} {w w' : World} (h : Below n w w') {g : Nat} (hg : n ≤ g) (k : Nat) (f : Fr) :
    Below n w (((((w'.setCell ⟨g, k, none⟩ (.int .i64 f.h)).setCell ⟨g, k + 1, none⟩ (.int .i64 f.e)).setCell ⟨g, k + 2, none⟩ (.int .i64 f.b)).setCell ⟨g, k + 3, none⟩ (.int .i64 f.d)).setCell ⟨g, k + 4, none⟩ (.bool f.u)) :=
  ((((h.setCell (p := ⟨g, k, none⟩) hg _).setCell (p := ⟨g, k + 1, none⟩) hg _).setCell (p := ⟨g, k + 2, none⟩) hg _).setCell (p := ⟨g, k + 3, none⟩) hg _).setCell (p := ⟨g, k + 4, none⟩) hg _
end Go.Proofs.Ytnfjplmpaeiagaa
