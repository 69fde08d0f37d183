/- The program's ring of frames: nodes in a row. -/
import Derived.Test.YtnfjplmpaeiagaaFrm
namespace Go.Proofs.Ytnfjplmpaeiagaa
open Go.ChangeShapes Go.WideShapes Go.ChangeAt Go.RowKit Go.Sort

theorem Try.info65 : (Try.prog.info? 65).map (fun i => (i.zero, i.size, i.bytes)) = some (some (.agg #[.int .i64 0, .int .i64 0, .int .i64 0, .int .i64 0, .bool false, .int .i64 0, .pointer none]), 7, 56) := by kernel_rfl

/-- A node: a frame, its place, the next one. -/
structure Nd where
  f : Fr
  p : Int
  x : Option Addr
def Nd.no : Nd := ⟨Fr.no, 0, none⟩
def Nd.cells (n : Nd) : List Value := [.int .i64 n.f.h, .int .i64 n.f.e, .int .i64 n.f.b, .int .i64 n.f.d, .bool n.f.u, .int .i64 n.p, .pointer n.x]
structure NdC (w : World) (b off : Nat) (n : Nd) : Prop where
  c0 : w.cell? ⟨b, off, none⟩ = some (.int .i64 n.f.h)
  c1 : w.cell? ⟨b, off + 1, none⟩ = some (.int .i64 n.f.e)
  c2 : w.cell? ⟨b, off + 2, none⟩ = some (.int .i64 n.f.b)
  c3 : w.cell? ⟨b, off + 3, none⟩ = some (.int .i64 n.f.d)
  c4 : w.cell? ⟨b, off + 4, none⟩ = some (.bool n.f.u)
  c5 : w.cell? ⟨b, off + 5, none⟩ = some (.int .i64 n.p)
  c6 : w.cell? ⟨b, off + 6, none⟩ = some (.pointer n.x)

def ndCells (ns : List Nd) : List Value := ns.flatMap Nd.cells
theorem ndCells_len (ns : List Nd) : (ndCells ns).length = ns.length * 7 := by
  induction ns with
  | nil => rfl
  | cons f ns ih => simp only [ndCells, List.flatMap_cons, List.length_append, List.length_cons] at *; rw [ih]; simp [Nd.cells]; omega
theorem ndCells_at (ns : List Nd) (k : Nat) (n : Nd) (hk : ns[k]? = some n) (j : Nat) (hj : j < 7) : (ndCells ns)[k * 7 + j]? = n.cells[j]? := by
  induction ns generalizing k with
  | nil => simp at hk
  | cons g ns ih =>
    simp only [ndCells, List.flatMap_cons]
    cases k with
    | zero =>
      simp only [List.getElem?_cons_zero, Option.some.injEq] at hk
      subst hk
      rw [Nat.zero_mul, Nat.zero_add, List.getElem?_append_left (by simpa [Nd.cells] using hj)]
    | succ k =>
      rw [List.getElem?_append_right (by simp [Nd.cells]; omega)]
      have := ih k (by simpa using hk)
      rw [show (k + 1) * 7 + j - g.cells.length = k * 7 + j by simp [Nd.cells]; omega]
      exact this
/-- One node of a row, cell by cell another one. -/
theorem ndCells_set (ns : List Nd) (k : Nat) (n : Nd) (hk : k < ns.length) :
    (((((((ndCells ns).set (k * 7) (.int .i64 n.f.h)).set (k * 7 + 1) (.int .i64 n.f.e)).set (k * 7 + 2) (.int .i64 n.f.b)).set (k * 7 + 3) (.int .i64 n.f.d)).set (k * 7 + 4) (.bool n.f.u)).set (k * 7 + 5) (.int .i64 n.p)).set (k * 7 + 6) (.pointer n.x) = ndCells (ns.set k n) := by
  apply List.ext_getElem?
  intro i
  by_cases hi : i < ns.length * 7
  · obtain ⟨m, j, hj, rfl⟩ : ∃ m j, j < 7 ∧ i = m * 7 + j := ⟨i / 7, i % 7, Nat.mod_lt _ (by omega), by omega⟩
    by_cases hm : m = k
    · subst hm
      rw [ndCells_at (ns.set m n) m n (by simp [hk]) j hj]
      have hl := ndCells_len ns
      match j, hj with
      | 0, _ => simp [List.getElem?_set, Nd.cells, hl]; omega
      | 1, _ => simp [List.getElem?_set, Nd.cells, hl]; omega
      | 2, _ => simp [List.getElem?_set, Nd.cells, hl]; omega
      | 3, _ => simp [List.getElem?_set, Nd.cells, hl]; omega
      | 4, _ => simp [List.getElem?_set, Nd.cells, hl]; omega
      | 5, _ => simp [List.getElem?_set, Nd.cells, hl]; omega
      | 6, _ => simp [List.getElem?_set, Nd.cells, hl]; omega
    · have hf : (ns.set k n)[m]? = some ns[m] := by rw [List.getElem?_set_ne (by omega), List.getElem?_eq_getElem (by omega)]
      rw [ndCells_at (ns.set k n) m ns[m] hf j hj, ← ndCells_at ns m ns[m] (List.getElem?_eq_getElem (by omega)) j hj]
      rw [List.getElem?_set_ne (by omega), List.getElem?_set_ne (by omega), List.getElem?_set_ne (by omega), List.getElem?_set_ne (by omega), List.getElem?_set_ne (by omega), List.getElem?_set_ne (by omega), List.getElem?_set_ne (by omega)]
  · rw [List.getElem?_eq_none (by simp [ndCells_len]; omega), List.getElem?_eq_none (by simp [ndCells_len]; omega)]
theorem made_nds (n : Nat) : (madeCells (Value.agg #[.int .i64 0, .int .i64 0, .int .i64 0, .int .i64 0, .bool false, .int .i64 0, .pointer none]).cells (n * 7)).toList = ndCells (List.replicate n Nd.no) := by
  apply List.ext_getElem?
  intro i
  by_cases hi : i < n * 7
  · obtain ⟨k, j, hj, rfl⟩ : ∃ k j, j < 7 ∧ i = k * 7 + j := ⟨i / 7, i % 7, Nat.mod_lt _ (by omega), by omega⟩
    rw [ndCells_at _ k Nd.no (by rw [List.getElem?_replicate, if_pos (by omega)]) j hj]
    have e1 : (k * 7 + j) % 7 = j := by omega
    simp [madeCells, Value.cells, hi, e1]
    match j, hj with
    | 0, _ => rfl
    | 1, _ => rfl
    | 2, _ => rfl
    | 3, _ => rfl
    | 4, _ => rfl
    | 5, _ => rfl
    | 6, _ => rfl
  · rw [List.getElem?_eq_none (by simp [madeCells]; omega), List.getElem?_eq_none (by rw [ndCells_len]; simp; omega)]

/-- Nodes that lie in a block of their own. -/
def NdsAt (w : World) (base g : Nat) (ns : List Nd) : Prop := w.ownsRow base 65 7 (.slice (some ⟨g, 0, none⟩) 8 8) 8 (ndCells ns)
theorem NdsAt.len {w : World} {base g : Nat} {ns : List Nd} (h : NdsAt w base g ns) : ns.length = 8 := by have := h.1; rw [ndCells_len] at this; omega
theorem NdsAt.cells {w : World} {base g : Nat} {ns : List Nd} (h : NdsAt w base g ns) (k : Nat) (n : Nd) (hk : ns[k]? = some n) : NdC w g (k * 7) n := by
  have hkl : k < ns.length := (List.getElem?_eq_some_iff.1 hk).1
  have hl := h.len
  have H : ∀ j, j < 7 → w.cell? ⟨g, k * 7 + j, none⟩ = n.cells[j]? := fun j hj => by
    rw [World.ownsRow.cellAt h (k * 7 + j) (by omega), ndCells_at ns k n hk j hj]
  exact ⟨H 0 (by omega), H 1 (by omega), H 2 (by omega), H 3 (by omega), H 4 (by omega), H 5 (by omega), H 6 (by omega)⟩
theorem NdsAt.frozen {w : World} {base g : Nat} {ns : List Nd} (h : NdsAt w base g ns) (j : Nat) : w.frozen? ⟨g, j, none⟩ = false := World.ownsRow.frozenAt h j
theorem NdsAt.lt {w : World} {base g : Nat} {ns : List Nd} (h : NdsAt w base g ns) : base ≤ g ∧ g < w.heap.size := World.ownsRow.lt h g rfl
theorem NdsAt.below {w w' : World} {base g n : Nat} {ns : List Nd} (h : NdsAt w base g ns) (hb : Below n w w') (hn : g < n) : NdsAt w' base g ns :=
  u_owns h (fun k hk => by cases hk; exact hb.block g hn)
theorem NdsAt.store {w : World} {base g : Nat} {ns : List Nd} (h : NdsAt w base g ns) (k : Nat) (hk : k < 8) (n : Nd) :
    NdsAt (((((((w.setCell ⟨g, k * 7, none⟩ (.int .i64 n.f.h)).setCell ⟨g, k * 7 + 1, none⟩ (.int .i64 n.f.e)).setCell ⟨g, k * 7 + 2, none⟩ (.int .i64 n.f.b)).setCell ⟨g, k * 7 + 3, none⟩ (.int .i64 n.f.d)).setCell ⟨g, k * 7 + 4, none⟩ (.bool n.f.u)).setCell ⟨g, k * 7 + 5, none⟩ (.int .i64 n.p)).setCell ⟨g, k * 7 + 6, none⟩ (.pointer n.x)) base g (ns.set k n) := by
  have hl := h.len
  unfold NdsAt
  rw [← ndCells_set ns k n (by omega)]
  exact (World.ownsRow.stored (World.ownsRow.stored (World.ownsRow.stored (World.ownsRow.stored (World.ownsRow.stored (World.ownsRow.stored (World.ownsRow.stored h _ _).1 _ _).1 _ _).1 _ _).1 _ _).1 _ _).1 _ _).1
theorem below_set7 {n : Nat} {w w' : World} (h : Below n w w') {g : Nat} (hg : n ≤ g) (k : Nat) (m : Nd) :
    Below n w (((((((w'.setCell ⟨g, k, none⟩ (.int .i64 m.f.h)).setCell ⟨g, k + 1, none⟩ (.int .i64 m.f.e)).setCell ⟨g, k + 2, none⟩ (.int .i64 m.f.b)).setCell ⟨g, k + 3, none⟩ (.int .i64 m.f.d)).setCell ⟨g, k + 4, none⟩ (.bool m.f.u)).setCell ⟨g, k + 5, none⟩ (.int .i64 m.p)).setCell ⟨g, k + 6, none⟩ (.pointer m.x)) :=
  u_set (u_set (u_set (u_set (u_set (u_set (u_set h hg _ _) hg _ _) hg _ _) hg _ _) hg _ _) hg _ _) hg _ _
theorem u_drew {n : Nat} {w w' : World} (h : Below n w w') : Below n w w'.drew := below_drewN h 1
theorem NdsAt.drew {w : World} {base g : Nat} {ns : List Nd} (h : NdsAt w base g ns) : NdsAt w.drew base g ns := h.below (u_drew (Below.refl (g + 1) w)) (by omega)
/-- The ring of frames. -/
def ring (g : Nat) (fs : List Fr) : List Nd := fs.mapIdx (fun k f => ⟨f, (k : Int), some ⟨g, (k + 1) % 8 * 7, none⟩⟩)
theorem ring_at (g : Nat) (fs : List Fr) (k : Nat) (f : Fr) (h : fs[k]? = some f) : (ring g fs)[k]? = some ⟨f, (k : Int), some ⟨g, (k + 1) % 8 * 7, none⟩⟩ := by
  simp [ring, h]
theorem ring_len (g : Nat) (fs : List Fr) : (ring g fs).length = fs.length := by simp [ring]
theorem ring_set (g : Nat) (fs : List Fr) (k : Nat) (f : Fr) : (ring g fs).set k ⟨f, (k : Int), some ⟨g, (k + 1) % 8 * 7, none⟩⟩ = ring g (fs.set k f) := by
  apply List.ext_getElem?
  intro i
  by_cases h : k = i
  · subst h
    by_cases hk : k < fs.length
    · simp [ring, hk]
    · simp [ring, hk]
  · simp [ring, List.getElem?_set_ne h]
theorem ring_take (g : Nat) (fs : List Fr) (k : Nat) (hk : k < fs.length) (n : Nat) (hn : fs.length = n) :
    ((ring g fs).take k ++ List.replicate (n - k) Nd.no).set k ⟨fs[k], (k : Int), some ⟨g, (k + 1) % 8 * 7, none⟩⟩ = (ring g fs).take (k + 1) ++ List.replicate (n - (k + 1)) Nd.no := by
  have hl : ((ring g fs).take k).length = k := by rw [List.length_take, ring_len]; omega
  have hg : (ring g fs)[k]'(by rw [ring_len]; exact hk) = ⟨fs[k], (k : Int), some ⟨g, (k + 1) % 8 * 7, none⟩⟩ := by simp [ring]
  rw [List.set_append_right _ _ (by omega), hl, Nat.sub_self, List.take_succ_eq_append_getElem (by rw [ring_len]; exact hk), hg]
  obtain ⟨m, hm⟩ : ∃ m, n - k = m + 1 := ⟨n - k - 1, by omega⟩
  rw [hm, List.replicate_succ, List.set_cons_zero, show n - (k + 1) = m by omega, List.append_assoc, List.singleton_append]
end Go.Proofs.Ytnfjplmpaeiagaa
