/- Solvers that come in: copied, read. Rows of equations that lie in blocks apart. -/
import Derived.Test.YtbakicgdloakgaaGreatDoorG22
import Derived.Test.YtbakicgdloakgaaGreatDoorG2
namespace Go.Proofs.YtbakicgdloakgaaGreatDoor
open Go.ChangeShapes Go.WideShapes Go.ChangeAt Go.RowKit Go.Sort Go.Shelf
attribute [local go_sem] Oper.semAt_some

theorem Tryz.info124 : (Tryz.prog.info? 124).map (fun i => (i.zero, i.size, i.bytes)) = some (some (.agg #[.slice none 0 0, .string ByteArray.empty]), 2, 40) := by kernel_rfl

def EqV.cells (e : EqV) : List Value := [.slice e.a e.r.length e.c, .string e.d]
def EqV.no : EqV := ⟨none, 0, [], ByteArray.empty⟩
def eqCells (es : List EqV) : List Value := es.flatMap EqV.cells
theorem eqCells_len (es : List EqV) : (eqCells es).length = es.length * 2 := by
  induction es with
  | nil => rfl
  | cons e es ih => simp only [eqCells, List.flatMap_cons, List.length_append, List.length_cons] at *; rw [ih]; simp [EqV.cells]; omega
theorem eqCells_at (es : List EqV) (k : Nat) (e : EqV) (hk : es[k]? = some e) (j : Nat) (hj : j < 2) : (eqCells es)[k * 2 + j]? = e.cells[j]? := by
  induction es generalizing k with
  | nil => simp at hk
  | cons g es ih =>
    simp only [eqCells, List.flatMap_cons]
    cases k with
    | zero =>
      simp only [List.getElem?_cons_zero, Option.some.injEq] at hk
      subst hk
      rw [Nat.zero_mul, Nat.zero_add, List.getElem?_append_left (by simpa [EqV.cells] using hj)]
    | succ k =>
      rw [List.getElem?_append_right (by simp [EqV.cells]; omega)]
      have := ih k (by simpa using hk)
      rw [show (k + 1) * 2 + j - g.cells.length = k * 2 + j by simp [EqV.cells]; omega]
      exact this
theorem eqCells_set (es : List EqV) (k : Nat) (e : EqV) (hk : k < es.length) :
    ((eqCells es).set (k * 2) (.slice e.a e.r.length e.c)).set (k * 2 + 1) (.string e.d) = eqCells (es.set k e) := by
  apply List.ext_getElem?
  intro i
  by_cases hi : i < es.length * 2
  · obtain ⟨m, j, hj, rfl⟩ : ∃ m j, j < 2 ∧ i = m * 2 + j := ⟨i / 2, i % 2, Nat.mod_lt _ (by omega), by omega⟩
    by_cases hm : m = k
    · subst hm
      rw [eqCells_at (es.set m e) m e (by simp [hk]) j hj]
      have hl := eqCells_len es
      match j, hj with
      | 0, _ => simp [List.getElem?_set, EqV.cells, hl]; omega
      | 1, _ => simp [List.getElem?_set, EqV.cells, hl]; omega
    · have hf : (es.set k e)[m]? = some es[m] := by rw [List.getElem?_set_ne (by omega), List.getElem?_eq_getElem (by omega)]
      rw [eqCells_at (es.set k e) m es[m] hf j hj, ← eqCells_at es m es[m] (List.getElem?_eq_getElem (by omega)) j hj]
      rw [List.getElem?_set_ne (by omega), List.getElem?_set_ne (by omega)]
  · rw [List.getElem?_eq_none (by simp [eqCells_len]; omega), List.getElem?_eq_none (by simp [eqCells_len]; omega)]
theorem made_eqs (n : Nat) : (madeCells (Value.agg #[.slice none 0 0, .string ByteArray.empty]).cells (n * 2)).toList = eqCells (List.replicate n EqV.no) := by
  apply List.ext_getElem?
  intro i
  by_cases hi : i < n * 2
  · obtain ⟨k, j, hj, rfl⟩ : ∃ k j, j < 2 ∧ i = k * 2 + j := ⟨i / 2, i % 2, Nat.mod_lt _ (by omega), by omega⟩
    rw [eqCells_at _ k EqV.no (by rw [List.getElem?_replicate, if_pos (by omega)]) j hj]
    have e1 : (k * 2 + j) % 2 = j := by omega
    simp [madeCells, Value.cells, hi, e1]
    match j, hj with
    | 0, _ => rfl
    | 1, _ => rfl
  · rw [List.getElem?_eq_none (by simp [madeCells]; omega), List.getElem?_eq_none (by rw [eqCells_len]; simp; omega)]

/-- Rows that the call owns, none in a block. -/
def RowsOwn (w : World) (base : Nat) (fs : List EqV) : Prop := ∀ f ∈ fs, w.ownsRow base 3 1 (.slice f.a f.r.length f.c) f.r.length (f.r.map (Value.int .i64))
theorem RowsOwn.below {w w' : World} {base : Nat} {fs : List EqV} (h : RowsOwn w base fs) (hb : Below w.heap.size w w') : RowsOwn w' base fs := fun f hf => owns_below (h f hf) hb
theorem RowsOwn.set {w : World} {base : Nat} {fs : List EqV} (h : RowsOwn w base fs) {g : Nat} (hg : g < base) (i : Nat) (u : Value) : RowsOwn (w.setCell ⟨g, i, none⟩ u) base fs := fun f hf => Touch.owns (Touch.setCell _ _ _) (h f hf) hg
theorem RowsOwn.mono {w : World} {base base' : Nat} {fs : List EqV} (h : RowsOwn w base fs) (hb : base' ≤ base) : RowsOwn w base' fs := fun f hf => owns_base (h f hf) hb
/-- Equations that the call owns can be read. -/
theorem eqs_at {w : World} {base base2 : Nat} {e : TypeId} {a : Option Addr} {n m cap : Nat} {fs : List EqV} (h : w.ownsRow base e 2 (.slice a m cap) n (eqCells fs)) (hr : RowsOwn w base2 fs) : EqsAt w a fs := fun hne => by
  have hl : fs.length = n := by have := h.1; rw [eqCells_len] at this; omega
  obtain ⟨g, cap', hv, _⟩ := owns_shape h (by intro h0; have := eqCells_len fs; rw [h0] at this; rw [List.length_nil] at this; exact hne (List.eq_nil_of_length_eq_zero (by omega)))
  simp only [Value.slice.injEq] at hv
  obtain ⟨rfl, rfl, rfl⟩ := hv
  refine ⟨g, 0, rfl, fun k f hk => ?_⟩
  have hkl : k < fs.length := (List.getElem?_eq_some_iff.1 hk).1
  have H : ∀ j, j < 2 → w.cell? ⟨g, 0 + k * 2 + j, none⟩ = f.cells[j]? := fun j hj => by
    rw [Nat.zero_add, h.cellAt (k * 2 + j) (by omega), eqCells_at fs k f hk j hj]
  exact ⟨H 0 (by omega), H 1 (by omega), owns_at (hr f (List.mem_of_getElem? hk))⟩

set_option maxRecDepth 100000 in
set_option maxHeartbeats 1000000 in
theorem toEq_any (a : Option Addr) (c : Nat) (r : List Int) (d : ByteArray) (w : World) (ha : IntsAt w a r) (hr : r.length ≤ 1048576) :
    Calls Tryz.prog 88 #[.agg #[.slice a r.length c, .string d]] w fun e w' => ∃ a' c', e = .returned (.agg #[.slice a' r.length c', .string d]) ∧ w'.ownsRow w.heap.size 3 1 (.slice a' r.length c') r.length (r.map (Value.int .i64)) ∧ Below w.heap.size w w' := by
  have HA := hid ha
  clear ha
  go_enter Tryz.func88, Tryz.ntmps88
  go_wp2_with fail
  refine (toIntS_any a c r _ (HA.out.below (u_b3 _ _ _ _)) hr).mono ?_
  rintro e w1 ⟨v, rfl, o1, b1⟩
  obtain ⟨a', c', rfl⟩ := owns_slice o1
  obtain ⟨hc1, hf1⟩ := u_cell b1
  have hs1 : w.heap.size + 1 + 1 < w1.heap.size := by have := b1.size; simp at this; omega
  have B1 := hid (u_cat (u_b3 _ _ _ _) b1)
  have O1 := hid o1
  clear o1 b1
  go_wp2_with fail
  refine bodyPost_ret (v := .agg #[.slice a' r.length c', .string d]) ?_ rfl ?_
  · simp [results, Tryz.results88, go_sem, hc1]
  · refine ⟨a', c', rfl, owns_base (base := w.heap.size + 1 + 1 + 1) ?_ (by omega), ?_⟩
    · have O2 : w1.ownsRow (w.heap.size + 1 + 1 + 1) 3 1 (.slice a' r.length c') r.length (r.map (Value.int .i64)) := by have := O1.out; simpa using this
      refine Touch.owns (Touch.setCell _ _ _) (Touch.owns (Touch.setCell _ _ _) (Touch.owns (Touch.setCell _ _ _) (Touch.owns (Touch.setCell _ _ _) O2 ?_) ?_) ?_) ?_ <;> (simp only []; omega)
    · refine u_set (u_set (u_set (u_set B1.out ?_ _ _) ?_ _ _) ?_ _ _) ?_ _ _ <;> omega

theorem eqcopy_set (fs : List EqV) (n : Nat) (f : EqV) (h : fs.length < n) : (fs ++ List.replicate (n - fs.length) EqV.no).set fs.length f = (fs ++ [f]) ++ List.replicate (n - (fs.length + 1)) EqV.no := by
  rw [List.set_append_right _ _ (Nat.le_refl _), Nat.sub_self, show n - fs.length = (n - (fs.length + 1)) + 1 by omega, List.replicate_succ, List.set_cons_zero, List.append_assoc]
  rfl

theorem cellsEI : Tryz.prog.cellsOf 3 = 1 := by kernel_rfl
theorem cellsES : Tryz.prog.cellsOf 9 = 1 := by kernel_rfl
theorem cellsEN : Tryz.prog.cellsOf 22 = 1 := by kernel_rfl
theorem cellsEq : Tryz.prog.cellsOf 123 = 2 := by kernel_rfl
theorem cellsEs : Tryz.prog.cellsOf 25 = 1 := by kernel_rfl
theorem cellsSol : Tryz.prog.cellsOf 27 = 3 := by kernel_rfl
set_option maxRecDepth 100000 in
theorem reads_eq {W : World} {cs : List Value} (h : Reads W 123 cs) : ∃ e : EqV, cs = e.cells ∧ IntsAt W e.a e.r ∧ e.r.length ≤ 9223372036854775807 ∧ e.d.size ≤ 9223372036854775807 := by
  obtain ⟨hl, hf⟩ := h.struct Tryz.underlying123
  rw [cellsEq] at hl
  obtain ⟨x0, x1, rfl⟩ : ∃ x0 x1, cs = [x0, x1] := by
    match cs, hl with
    | [x0, x1], _ => exact ⟨x0, x1, rfl⟩
  have g0 : Reads W 22 (List.take (Tryz.prog.cellsOf 22) (List.drop 0 [x0, x1])) := hf 0 _ rfl
  rw [cellsEN] at g0
  have h0 : Reads W 22 [x0] := g0
  have g1 : Reads W 9 (List.take (Tryz.prog.cellsOf 9) (List.drop 1 [x0, x1])) := hf 1 _ rfl
  rw [cellsES] at g1
  have h1 : Reads W 9 [x1] := g1
  obtain ⟨a, len, cap, zs, e0, hrow⟩ := h0.ints Tryz.underlying22 Tryz.underlying3 cellsEI
  obtain ⟨d, e1, hd⟩ := h1.string Tryz.underlying9
  simp only [List.cons.injEq, and_true] at e0 e1
  subst e0 e1
  have hlen := isRow_len hrow
  refine ⟨⟨a, cap, zs.take len, d⟩, by simp only [EqV.cells, hlen], isRow_ints hrow, ?_, by unfold maxLen at hd; omega⟩
  simp only [hlen]
  rcases hrow with ⟨_, rfl, _, _⟩ | ⟨_, _, h1, h2, _⟩
  · omega
  · unfold maxLen at h2; omega
theorem list_ofE {α : Type} (n : Nat) (p : Nat → α → Prop) (h : ∀ k, k < n → ∃ x, p k x) : ∃ xs : List α, xs.length = n ∧ ∀ k x, xs[k]? = some x → p k x := by
  induction n with
  | zero => exact ⟨[], rfl, fun k x hk => by simp at hk⟩
  | succ n ih =>
    obtain ⟨xs, hl, hx⟩ := ih (fun k hk => h k (by omega))
    obtain ⟨y, hy⟩ := h n (by omega)
    refine ⟨xs ++ [y], by simp [hl], fun k x hk => ?_⟩
    by_cases hkn : k < n
    · rw [List.getElem?_append_left (by omega)] at hk; exact hx k x hk
    · rw [List.getElem?_append_right (by omega)] at hk
      by_cases e : k = n
      · subst e; rw [hl] at hk; simp at hk; subst hk; exact hy
      · rw [List.getElem?_eq_none (by simp; omega)] at hk; cases hk
set_option maxRecDepth 100000 in
theorem reads_eqs {W : World} {cs : List Value} (h : Reads W 25 cs) : ∃ a cap es, cs = [.slice a es.length cap] ∧ EqsAt W a es ∧ es.length ≤ 9223372036854775807 ∧ LongE es := by
  rcases h.slice Tryz.underlying25 with h0 | ⟨x, len, cap, h0, hl, hm, hx⟩
  · exact ⟨none, 0, [], h0, fun hne => absurd rfl hne, by simp, fun e he => by simp at he⟩
  · rw [cellsEq] at hx
    obtain ⟨es, hel, hex⟩ := list_ofE len (fun k (e : EqV) => (∀ j, j < 2 → W.cell? ((x.add (k * 2)).add j) = e.cells[j]?) ∧ IntsAt W e.a e.r ∧ e.r.length ≤ 9223372036854775807 ∧ e.d.size ≤ 9223372036854775807) (fun k hk => by
      obtain ⟨cs', h1, h2⟩ := hx k (by omega)
      obtain ⟨e, rfl, hi, hb⟩ := reads_eq h2
      exact ⟨e, fun j hj => (World.cells?_some h1).2.2 j hj, hi, hb⟩)
    subst hel
    refine ⟨some x, cap, es, h0, fun hne => ?_, by unfold maxLen at hm; omega, fun e he => ?_⟩
    · obtain ⟨b, off, spot⟩ := x
      have hpos : 0 < es.length := List.length_pos_iff.2 hne
      have hc := (hex 0 es[0] (List.getElem?_eq_getElem hpos)).1 0 (by omega)
      have hspot : spot = none := by
        have : W.cell? ((({ block := b, off := off, spot := spot } : Addr).add (0 * 2)).add 0) = some (.slice es[0].a es[0].r.length es[0].c) := hc
        simpa [Addr.add] using World.cell?_spot this
      subst hspot
      refine ⟨b, off, rfl, fun k e hk => ?_⟩
      have H : ∀ j, j < 2 → W.cell? ⟨b, off + k * 2 + j, none⟩ = e.cells[j]? := fun j hj => by
        have := (hex k e hk).1 j hj
        rwa [addr_add, addr_add] at this
      exact ⟨H 0 (by omega), H 1 (by omega), (hex k e hk).2.1⟩
    · obtain ⟨k, hk, rfl⟩ := List.getElem_of_mem he
      exact (hex k es[k] (List.getElem?_eq_getElem hk)).2.2
set_option maxRecDepth 100000 in
theorem reads_solver {W : World} {cs : List Value} (h : Reads W 27 cs) : ∃ c z a cap es, cs = [.int .i64 c, .int .i64 z, .slice a es.length cap] ∧ EqsAt W a es ∧ es.length ≤ 9223372036854775807 ∧ LongE es := by
  obtain ⟨hl, hf⟩ := h.struct Tryz.underlying27
  rw [cellsSol] at hl
  obtain ⟨x0, x1, x2, rfl⟩ : ∃ x0 x1 x2, cs = [x0, x1, x2] := by
    match cs, hl with
    | [x0, x1, x2], _ => exact ⟨x0, x1, x2, rfl⟩
  have g0 : Reads W 3 (List.take (Tryz.prog.cellsOf 3) (List.drop 0 [x0, x1, x2])) := hf 0 _ rfl
  rw [cellsEI] at g0
  have h0 : Reads W 3 [x0] := g0
  have g1 : Reads W 3 (List.take (Tryz.prog.cellsOf 3) (List.drop 1 [x0, x1, x2])) := hf 1 _ rfl
  rw [cellsEI] at g1
  have h1 : Reads W 3 [x1] := g1
  have g2 : Reads W 25 (List.take (Tryz.prog.cellsOf 25) (List.drop 2 [x0, x1, x2])) := hf 2 _ rfl
  rw [cellsEs] at g2
  have h2 : Reads W 25 [x2] := g2
  obtain ⟨c, e0, -⟩ := h0.int Tryz.underlying3
  obtain ⟨z, e1, -⟩ := h1.int Tryz.underlying3
  obtain ⟨a, cap, es, e2, r0, r1, r2⟩ := reads_eqs h2
  simp only [List.cons.injEq, and_true] at e0 e1 e2
  subst e0 e1 e2
  exact ⟨c, z, a, cap, es, rfl, r0, r1, r2⟩
end Go.Proofs.YtbakicgdloakgaaGreatDoor
namespace Go.Proofs.YtbakicgdloakgaaGreatDoor
open Go.ChangeShapes Go.WideShapes Go.ChangeAt Go.RowKit Go.Sort Go.Shelf

/-- Rows that lie in blocks apart. -/
def RowsAp (gs : List EqV) : Prop := gs.Pairwise (fun x y => ∀ k, (.slice x.a x.r.length x.c : Value).ownBlock = some k → (.slice y.a y.r.length y.c : Value).ownBlock ≠ some k)
theorem rowsAp_snoc {w : World} {B C : Nat} {gs : List EqV} {e : EqV} (h : RowsAp gs) (hr : RowsOwn w B gs) {w' : World} (he : w'.ownsRow C 3 1 (.slice e.a e.r.length e.c) e.r.length (e.r.map (Value.int .i64))) (hC : w.heap.size ≤ C) : RowsAp (gs ++ [e]) := by
  unfold RowsAp
  rw [List.pairwise_append]
  refine ⟨h, by simp, fun x hx y hy k h1 h2 => ?_⟩
  simp only [List.mem_singleton] at hy
  subst hy
  have h3 := ((hr x hx).lt k h1).2
  have h4 := (he.lt k h2).1
  omega
end Go.Proofs.YtbakicgdloakgaaGreatDoor
