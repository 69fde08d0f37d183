/- Solvers that come in: copied, read. Rows of equations that lie in blocks apart. A solver copied by the laws, its rows apart. Sets of bits put together, bytes put together, an equation without the first numbers of those that are known: the program's. Equations that are gathered in a solver's box, one behind the other. What is known is the same, wherever equations lie. What is left of an equation, link by link: the program's iterator. What is left of an equation in the end, by the program. What is left of an equation, link by link: the program's iterator. What all that is known says of a row, by the program. What is left of an equation in the end, by the program. -/
import Derived.Test.YtbakicgdloakgaaGreatDoorG15
import Derived.Test.YtbakicgdloakgaaGreatDoorG1
import Derived.Test.YtbakicgdloakgaaGreatDoorG12
import Derived.Test.YtbakicgdloakgaaGreatDoorG4
import Derived.Test.YtbakicgdloakgaaGreatDoorG7
import Derived.RangeFuncOwn
import Derived.Deep.RegionHeld3
import Derived.Test.YtbakicgdloakgaaGreatDoorG13
import Derived.Laws.BytesArg
namespace Go.Proofs.YtbakicgdloakgaaGreatDoor
open Go.ChangeShapes Go.WideShapes Go.ChangeAt Go.RowKit Go.Sort Go.Shelf
attribute [local go_sem] Oper.semAt_some

theorem Tryz.info124 : (Tryz.prog.info? 124).map (fun i => (i.zero, i.size, i.bytes)) = some (some (.agg #[.slice none 0 0, .string ByteArray.empty]), 2, 40) := by kernel_rfl

def EqV.cells (e : EqV) : List Value := [.slice e.a e.r.length e.c, .string e.d]
def EqV.no : EqV := ⟨none, 0, [], ByteArray.empty⟩
def eqCells (es : List EqV) : List Value := es.flatMap EqV.cells
theorem eqCells_len (es : List EqV) : (eqCells es).length = es.length * 2 := by
  induction es with
  | nil => rfl
  | cons e es ih => simp only [eqCells, List.flatMap_cons, List.length_append, List.length_cons] at *; rw [ih]; simp [EqV.cells]; omega
theorem eqCells_at (es : List EqV) (k : Nat) (e : EqV) (hk : es[k]? = some e) (j : Nat) (hj : j < 2) : (eqCells es)[k * 2 + j]? = e.cells[j]? := by
  induction es generalizing k with
  | nil => simp at hk
  | cons g es ih =>
    simp only [eqCells, List.flatMap_cons]
    cases k with
    | zero =>
      simp only [List.getElem?_cons_zero, Option.some.injEq] at hk
      subst hk
      rw [Nat.zero_mul, Nat.zero_add, List.getElem?_append_left (by simpa [EqV.cells] using hj)]
    | succ k =>
      rw [List.getElem?_append_right (by simp [EqV.cells]; omega)]
      have := ih k (by simpa using hk)
      rw [show (k + 1) * 2 + j - g.cells.length = k * 2 + j by simp [EqV.cells]; omega]
      exact this
theorem eqCells_set (es : List EqV) (k : Nat) (e : EqV) (hk : k < es.length) :
    ((eqCells es).set (k * 2) (.slice e.a e.r.length e.c)).set (k * 2 + 1) (.string e.d) = eqCells (es.set k e) := by
  apply List.ext_getElem?
  intro i
  by_cases hi : i < es.length * 2
  · obtain ⟨m, j, hj, rfl⟩ : ∃ m j, j < 2 ∧ i = m * 2 + j := ⟨i / 2, i % 2, Nat.mod_lt _ (by omega), by omega⟩
    by_cases hm : m = k
    · subst hm
      rw [eqCells_at (es.set m e) m e (by simp [hk]) j hj]
      have hl := eqCells_len es
      match j, hj with
      | 0, _ => simp [List.getElem?_set, EqV.cells, hl]; omega
      | 1, _ => simp [List.getElem?_set, EqV.cells, hl]; omega
    · have hf : (es.set k e)[m]? = some es[m] := by rw [List.getElem?_set_ne (by omega), List.getElem?_eq_getElem (by omega)]
      rw [eqCells_at (es.set k e) m es[m] hf j hj, ← eqCells_at es m es[m] (List.getElem?_eq_getElem (by omega)) j hj]
      rw [List.getElem?_set_ne (by omega), List.getElem?_set_ne (by omega)]
  · rw [List.getElem?_eq_none (by simp [eqCells_len]; omega), List.getElem?_eq_none (by simp [eqCells_len]; omega)]
theorem made_eqs (n : Nat) : (madeCells (Value.agg #[.slice none 0 0, .string ByteArray.empty]).cells (n * 2)).toList = eqCells (List.replicate n EqV.no) := by
  apply List.ext_getElem?
  intro i
  by_cases hi : i < n * 2
  · obtain ⟨k, j, hj, rfl⟩ : ∃ k j, j < 2 ∧ i = k * 2 + j := ⟨i / 2, i % 2, Nat.mod_lt _ (by omega), by omega⟩
    rw [eqCells_at _ k EqV.no (by rw [List.getElem?_replicate, if_pos (by omega)]) j hj]
    have e1 : (k * 2 + j) % 2 = j := by omega
    simp [madeCells, Value.cells, hi, e1]
    match j, hj with
    | 0, _ => rfl
    | 1, _ => rfl
  · rw [List.getElem?_eq_none (by simp [madeCells]; omega), List.getElem?_eq_none (by rw [eqCells_len]; simp; omega)]

/-- Rows that the call owns, none in a block. -/
def RowsOwn (w : World) (base : Nat) (fs : List EqV) : Prop := ∀ f ∈ fs, w.ownsRow base 3 1 (.slice f.a f.r.length f.c) f.r.length (f.r.map (Value.int .i64))
theorem RowsOwn.below {w w' : World} {base : Nat} {fs : List EqV} (h : RowsOwn w base fs) (hb : Below w.heap.size w w') : RowsOwn w' base fs := fun f hf => owns_below (h f hf) hb
theorem RowsOwn.set {w : World} {base : Nat} {fs : List EqV} (h : RowsOwn w base fs) {g : Nat} (hg : g < base) (i : Nat) (u : Value) : RowsOwn (w.setCell ⟨g, i, none⟩ u) base fs := fun f hf => Touch.owns (Touch.setCell _ _ _) (h f hf) hg
theorem RowsOwn.mono {w : World} {base base' : Nat} {fs : List EqV} (h : RowsOwn w base fs) (hb : base' ≤ base) : RowsOwn w base' fs := fun f hf => owns_base (h f hf) hb
/-- Equations that the call owns can be read. -/
theorem eqs_at {w : World} {base base2 : Nat} {e : TypeId} {a : Option Addr} {n m cap : Nat} {fs : List EqV} (h : w.ownsRow base e 2 (.slice a m cap) n (eqCells fs)) (hr : RowsOwn w base2 fs) : EqsAt w a fs := fun hne => by
  have hl : fs.length = n := by have := h.1; rw [eqCells_len] at this; omega
  obtain ⟨g, cap', hv, _⟩ := owns_shape h (by intro h0; have := eqCells_len fs; rw [h0] at this; rw [List.length_nil] at this; exact hne (List.eq_nil_of_length_eq_zero (by omega)))
  simp only [Value.slice.injEq] at hv
  obtain ⟨rfl, rfl, rfl⟩ := hv
  refine ⟨g, 0, rfl, fun k f hk => ?_⟩
  have hkl : k < fs.length := (List.getElem?_eq_some_iff.1 hk).1
  have H : ∀ j, j < 2 → w.cell? ⟨g, 0 + k * 2 + j, none⟩ = f.cells[j]? := fun j hj => by
    rw [Nat.zero_add, h.cellAt (k * 2 + j) (by omega), eqCells_at fs k f hk j hj]
  exact ⟨H 0 (by omega), H 1 (by omega), owns_at (hr f (List.mem_of_getElem? hk))⟩

set_option maxRecDepth 100000 in
set_option maxHeartbeats 1000000 in
theorem toEq_any (a : Option Addr) (c : Nat) (r : List Int) (d : ByteArray) (w : World) (ha : IntsAt w a r) (hr : r.length ≤ 1048576) :
    Calls Tryz.prog 88 #[.agg #[.slice a r.length c, .string d]] w fun e w' => ∃ a' c', e = .returned (.agg #[.slice a' r.length c', .string d]) ∧ w'.ownsRow w.heap.size 3 1 (.slice a' r.length c') r.length (r.map (Value.int .i64)) ∧ Below w.heap.size w w' := by
  have HA := hid ha
  clear ha
  go_enter Tryz.func88, Tryz.ntmps88
  go_wp2_with fail
  refine (toIntS_any a c r _ (HA.out.below (u_b3 _ _ _ _)) hr).mono ?_
  rintro e w1 ⟨v, rfl, o1, b1⟩
  obtain ⟨a', c', rfl⟩ := owns_slice o1
  obtain ⟨hc1, hf1⟩ := u_cell b1
  have hs1 : w.heap.size + 1 + 1 < w1.heap.size := by have := b1.size; simp at this; omega
  have B1 := hid (u_cat (u_b3 _ _ _ _) b1)
  have O1 := hid o1
  clear o1 b1
  go_wp2_with fail
  refine bodyPost_ret (v := .agg #[.slice a' r.length c', .string d]) ?_ rfl ?_
  · simp [results, Tryz.results88, go_sem, hc1]
  · refine ⟨a', c', rfl, owns_base (base := w.heap.size + 1 + 1 + 1) ?_ (by omega), ?_⟩
    · have O2 : w1.ownsRow (w.heap.size + 1 + 1 + 1) 3 1 (.slice a' r.length c') r.length (r.map (Value.int .i64)) := by have := O1.out; simpa using this
      refine Touch.owns (Touch.setCell _ _ _) (Touch.owns (Touch.setCell _ _ _) (Touch.owns (Touch.setCell _ _ _) (Touch.owns (Touch.setCell _ _ _) O2 ?_) ?_) ?_) ?_ <;> (simp only []; omega)
    · refine u_set (u_set (u_set (u_set B1.out ?_ _ _) ?_ _ _) ?_ _ _) ?_ _ _ <;> omega

theorem eqcopy_set (fs : List EqV) (n : Nat) (f : EqV) (h : fs.length < n) : (fs ++ List.replicate (n - fs.length) EqV.no).set fs.length f = (fs ++ [f]) ++ List.replicate (n - (fs.length + 1)) EqV.no := by
  rw [List.set_append_right _ _ (Nat.le_refl _), Nat.sub_self, show n - fs.length = (n - (fs.length + 1)) + 1 by omega, List.replicate_succ, List.set_cons_zero, List.append_assoc]
  rfl

theorem cellsEI : Tryz.prog.cellsOf 3 = 1 := by kernel_rfl
theorem cellsES : Tryz.prog.cellsOf 9 = 1 := by kernel_rfl
theorem cellsEN : Tryz.prog.cellsOf 22 = 1 := by kernel_rfl
theorem cellsEq : Tryz.prog.cellsOf 123 = 2 := by kernel_rfl
theorem cellsEs : Tryz.prog.cellsOf 25 = 1 := by kernel_rfl
theorem cellsSol : Tryz.prog.cellsOf 27 = 3 := by kernel_rfl
set_option maxRecDepth 100000 in
theorem reads_eq {W : World} {cs : List Value} (h : Reads W 123 cs) : ∃ e : EqV, cs = e.cells ∧ IntsAt W e.a e.r ∧ e.r.length ≤ 9223372036854775807 ∧ e.d.size ≤ 9223372036854775807 := by
  obtain ⟨hl, hf⟩ := h.struct Tryz.underlying123
  rw [cellsEq] at hl
  obtain ⟨x0, x1, rfl⟩ : ∃ x0 x1, cs = [x0, x1] := by
    match cs, hl with
    | [x0, x1], _ => exact ⟨x0, x1, rfl⟩
  have g0 : Reads W 22 (List.take (Tryz.prog.cellsOf 22) (List.drop 0 [x0, x1])) := hf 0 _ rfl
  rw [cellsEN] at g0
  have h0 : Reads W 22 [x0] := g0
  have g1 : Reads W 9 (List.take (Tryz.prog.cellsOf 9) (List.drop 1 [x0, x1])) := hf 1 _ rfl
  rw [cellsES] at g1
  have h1 : Reads W 9 [x1] := g1
  obtain ⟨a, len, cap, zs, e0, hrow⟩ := h0.ints Tryz.underlying22 Tryz.underlying3 cellsEI
  obtain ⟨d, e1, hd⟩ := h1.string Tryz.underlying9
  simp only [List.cons.injEq, and_true] at e0 e1
  subst e0 e1
  have hlen := isRow_len hrow
  refine ⟨⟨a, cap, zs.take len, d⟩, by simp only [EqV.cells, hlen], isRow_ints hrow, ?_, by unfold maxLen at hd; omega⟩
  simp only [hlen]
  rcases hrow with ⟨_, rfl, _, _⟩ | ⟨_, _, h1, h2, _⟩
  · omega
  · unfold maxLen at h2; omega
theorem list_ofE {α : Type} (n : Nat) (p : Nat → α → Prop) (h : ∀ k, k < n → ∃ x, p k x) : ∃ xs : List α, xs.length = n ∧ ∀ k x, xs[k]? = some x → p k x := by
  induction n with
  | zero => exact ⟨[], rfl, fun k x hk => by simp at hk⟩
  | succ n ih =>
    obtain ⟨xs, hl, hx⟩ := ih (fun k hk => h k (by omega))
    obtain ⟨y, hy⟩ := h n (by omega)
    refine ⟨xs ++ [y], by simp [hl], fun k x hk => ?_⟩
    by_cases hkn : k < n
    · rw [List.getElem?_append_left (by omega)] at hk; exact hx k x hk
    · rw [List.getElem?_append_right (by omega)] at hk
      by_cases e : k = n
      · subst e; rw [hl] at hk; simp at hk; subst hk; exact hy
      · rw [List.getElem?_eq_none (by simp; omega)] at hk; cases hk
set_option maxRecDepth 100000 in
theorem reads_eqs {W : World} {cs : List Value} (h : Reads W 25 cs) : ∃ a cap es, cs = [.slice a es.length cap] ∧ EqsAt W a es ∧ es.length ≤ 9223372036854775807 ∧ LongE es := by
  rcases h.slice Tryz.underlying25 with h0 | ⟨x, len, cap, h0, hl, hm, hx⟩
  · exact ⟨none, 0, [], h0, fun hne => absurd rfl hne, by simp, fun e he => by simp at he⟩
  · rw [cellsEq] at hx
    obtain ⟨es, hel, hex⟩ := list_ofE len (fun k (e : EqV) => (∀ j, j < 2 → W.cell? ((x.add (k * 2)).add j) = e.cells[j]?) ∧ IntsAt W e.a e.r ∧ e.r.length ≤ 9223372036854775807 ∧ e.d.size ≤ 9223372036854775807) (fun k hk => by
      obtain ⟨cs', h1, h2⟩ := hx k (by omega)
      obtain ⟨e, rfl, hi, hb⟩ := reads_eq h2
      exact ⟨e, fun j hj => (World.cells?_some h1).2.2 j hj, hi, hb⟩)
    subst hel
    refine ⟨some x, cap, es, h0, fun hne => ?_, by unfold maxLen at hm; omega, fun e he => ?_⟩
    · obtain ⟨b, off, spot⟩ := x
      have hpos : 0 < es.length := List.length_pos_iff.2 hne
      have hc := (hex 0 es[0] (List.getElem?_eq_getElem hpos)).1 0 (by omega)
      have hspot : spot = none := by
        have : W.cell? ((({ block := b, off := off, spot := spot } : Addr).add (0 * 2)).add 0) = some (.slice es[0].a es[0].r.length es[0].c) := hc
        simpa [Addr.add] using World.cell?_spot this
      subst hspot
      refine ⟨b, off, rfl, fun k e hk => ?_⟩
      have H : ∀ j, j < 2 → W.cell? ⟨b, off + k * 2 + j, none⟩ = e.cells[j]? := fun j hj => by
        have := (hex k e hk).1 j hj
        rwa [addr_add, addr_add] at this
      exact ⟨H 0 (by omega), H 1 (by omega), (hex k e hk).2.1⟩
    · obtain ⟨k, hk, rfl⟩ := List.getElem_of_mem he
      exact (hex k es[k] (List.getElem?_eq_getElem hk)).2.2
set_option maxRecDepth 100000 in
theorem reads_solver {W : World} {cs : List Value} (h : Reads W 27 cs) : ∃ c z a cap es, cs = [.int .i64 c, .int .i64 z, .slice a es.length cap] ∧ EqsAt W a es ∧ es.length ≤ 9223372036854775807 ∧ LongE es := by
  obtain ⟨hl, hf⟩ := h.struct Tryz.underlying27
  rw [cellsSol] at hl
  obtain ⟨x0, x1, x2, rfl⟩ : ∃ x0 x1 x2, cs = [x0, x1, x2] := by
    match cs, hl with
    | [x0, x1, x2], _ => exact ⟨x0, x1, x2, rfl⟩
  have g0 : Reads W 3 (List.take (Tryz.prog.cellsOf 3) (List.drop 0 [x0, x1, x2])) := hf 0 _ rfl
  rw [cellsEI] at g0
  have h0 : Reads W 3 [x0] := g0
  have g1 : Reads W 3 (List.take (Tryz.prog.cellsOf 3) (List.drop 1 [x0, x1, x2])) := hf 1 _ rfl
  rw [cellsEI] at g1
  have h1 : Reads W 3 [x1] := g1
  have g2 : Reads W 25 (List.take (Tryz.prog.cellsOf 25) (List.drop 2 [x0, x1, x2])) := hf 2 _ rfl
  rw [cellsEs] at g2
  have h2 : Reads W 25 [x2] := g2
  obtain ⟨c, e0, -⟩ := h0.int Tryz.underlying3
  obtain ⟨z, e1, -⟩ := h1.int Tryz.underlying3
  obtain ⟨a, cap, es, e2, r0, r1, r2⟩ := reads_eqs h2
  simp only [List.cons.injEq, and_true] at e0 e1 e2
  subst e0 e1 e2
  exact ⟨c, z, a, cap, es, rfl, r0, r1, r2⟩
end Go.Proofs.YtbakicgdloakgaaGreatDoor
namespace Go.Proofs.YtbakicgdloakgaaGreatDoor
open Go.ChangeShapes Go.WideShapes Go.ChangeAt Go.RowKit Go.Sort Go.Shelf

/-- Rows that lie in blocks apart. -/
def RowsAp (gs : List EqV) : Prop := gs.Pairwise (fun x y => ∀ k, (.slice x.a x.r.length x.c : Value).ownBlock = some k → (.slice y.a y.r.length y.c : Value).ownBlock ≠ some k)
theorem rowsAp_snoc {w : World} {B C : Nat} {gs : List EqV} {e : EqV} (h : RowsAp gs) (hr : RowsOwn w B gs) {w' : World} (he : w'.ownsRow C 3 1 (.slice e.a e.r.length e.c) e.r.length (e.r.map (Value.int .i64))) (hC : w.heap.size ≤ C) : RowsAp (gs ++ [e]) := by
  unfold RowsAp
  rw [List.pairwise_append]
  refine ⟨h, by simp, fun x hx y hy k h1 h2 => ?_⟩
  simp only [List.mem_singleton] at hy
  subst hy
  have h3 := ((hr x hx).lt k h1).2
  have h4 := (he.lt k h2).1
  omega
end Go.Proofs.YtbakicgdloakgaaGreatDoor
namespace Go.Proofs.YtbakicgdloakgaaGreatDoor
open Go.ChangeShapes Go.WideShapes Go.ChangeAt Go.RowKit Go.Sort Go.Shelf

set_option maxRecDepth 100000 in
set_option maxHeartbeats 2000000 in
theorem toEqS_ap (a : Option Addr) (cap : Nat) (es : List EqV) (w : World) (ha : EqsAt w a es) (hx : es.length ≤ 1048576) (hsm : SmallE es) :
    Calls Tryz.prog 74 #[.slice a es.length cap] w fun e w' => ∃ v fs, e = .returned v ∧ w'.ownsRow w.heap.size 124 2 v fs.length (eqCells fs) ∧ SamV fs es ∧ RowsOwn w' (w.heap.size + 1) fs ∧ RowsAp fs ∧ Below w.heap.size w w' := by
  obtain ⟨i0, hi, hz0, hz1, hz2⟩ := info_parts Tryz.info124
  have HA := hid ha
  have HS := hid hsm
  clear ha hsm
  go_enter Tryz.func74, Tryz.ntmps74
  go_wp2_with (at_make; refine wpList_make_full _ rfl _ _ 34 rfl w.heap.size 124 i0 (.agg #[.slice none 0 0, .string ByteArray.empty]) 2 Tryz.underlying34 hi hz0 hz1 _ _ _ _ es.length rfl rfl rfl rfl (by rw [hz2]; omega) (by unfold maxLen; omega) (Nat.le_refl _) ?_; intro w1 hown1 hgr1)
  have hb1 : Below w.heap.size w w1 := (Below.refl _ _).grown hgr1 (Nat.le_refl _) (fun k hk => by simp at hk)
  rw [made_eqs] at hown1
  have hw1 := (hown1.lt w.heap.size rfl).2
  have HO := hid hown1
  clear hown1 hgr1
  go_loopw [4] (fun i wr => ∃ fs : List EqV, fs.length ≤ es.length ∧ i = .int .i64 fs.length ∧ SamV fs (es.take fs.length) ∧ wr.ownsRow w.heap.size 124 2 (.slice (some ⟨w.heap.size, 0, none⟩) es.length es.length) es.length (eqCells (fs ++ List.replicate (es.length - fs.length) EqV.no)) ∧ RowsOwn wr (w.heap.size + 1) fs ∧ RowsAp fs ∧ Below w.heap.size w wr) (fun i _ => es.length - (intOf i).toNat)
  case atStart => exact ⟨[], Nat.zero_le _, rfl, ⟨rfl, rfl⟩, HO.out, fun f hf => by simp at hf, List.Pairwise.nil, hb1⟩
  case round =>
    obtain ⟨fs, hk, rfl, hsam, hown, hrow, hap, hnx⟩ := hrel
    have HAP := hid hap
    clear hap
    have HM := hid hsam
    have HR := hid hrow
    clear hsam hrow
    by_cases hlt : fs.length < es.length
    · obtain ⟨e, he⟩ : ∃ e, es[fs.length] = e := ⟨_, rfl⟩
      obtain ⟨b, off, rfl, hc⟩ := (HA.out.below hnx) (by intro h; simp [h] at hlt)
      obtain ⟨c0, c1, crow⟩ := hc fs.length e (by rw [List.getElem?_eq_getElem hlt, he])
      have hel := (HS.out e (by rw [← he]; exact List.getElem_mem hlt)).1
      have HE := hid he
      have hgl := (hown.lt w.heap.size rfl).2
      have HOW := hid hown
      have K := hid (toEq_any e.a e.c e.r e.d wr crow hel)
      clear hc he crow hown
      go_wp2_with (go_at_call 88; refine K.out.mono ?_; rintro _ w2 ⟨a', c', rfl, o2, b2⟩; have O2 := hid (owns_below HOW.out b2); have d0 := O2.out.cellAt (fs.length * 2) (by omega); have d1 := O2.out.cellAt (fs.length * 2 + 1) (by omega); rw [← Nat.add_zero (fs.length * 2), eqCells_at _ fs.length EqV.no (by rw [List.getElem?_append_right (Nat.le_refl _), Nat.sub_self, List.getElem?_replicate, if_pos (by omega)]) 0 (by omega)] at d0; rw [eqCells_at _ fs.length EqV.no (by rw [List.getElem?_append_right (Nat.le_refl _), Nat.sub_self, List.getElem?_replicate, if_pos (by omega)]) 1 (by omega)] at d1; simp only [EqV.cells, List.getElem?_cons_zero, List.getElem?_cons_succ, Nat.add_zero] at d0 d1; have hfz := O2.out.frozenAt; have OI := hid o2; have B2 := hid b2; clear o2 b2)
      go_roundw
      case rel =>
        refine ⟨fs ++ [⟨a', c', e.r, e.d⟩], by simp; omega, by simp, ?_, ?_, ?_, rowsAp_snoc HAP.out HR.out OI.out (Nat.le_refl _), ?_⟩
        · rw [List.length_append, List.length_singleton, List.take_succ_eq_append_getElem hlt]
          refine ⟨?_, ?_⟩
          · rw [List.map_append, List.map_append, HM.out.1, HE.out]; rfl
          · rw [List.map_append, List.map_append, HM.out.2, HE.out]; rfl
        · have h1 := ((O2.out.stored (fs.length * 2) (.slice a' e.r.length c')).1.stored (fs.length * 2 + 1) (.string e.d)).1
          rw [eqCells_set _ fs.length ⟨a', c', e.r, e.d⟩ (by simp; omega), eqcopy_set fs es.length _ hlt] at h1
          rw [List.length_append, List.length_singleton]
          exact h1
        · refine RowsOwn.set (RowsOwn.set ?_ (Nat.lt_succ_self _) _ _) (Nat.lt_succ_self _) _ _
          intro f hf
          rcases List.mem_append.1 hf with h | h
          · exact owns_below (HR.out f h) B2.out
          · simp only [List.mem_singleton] at h
            subst h
            exact owns_base OI.out (by omega)
        · exact u_set (u_set (hnx.trans (B2.out.mono hnx.size)) (Nat.le_refl _) _ _) (Nat.le_refl _) _ _
      case measure => simp [intOf]; omega
    · have hfl : fs.length = es.length := by omega
      have HW := hid hown
      have HFL := hid hfl
      clear hown hfl
      go_wp2
      go_ret
      refine ⟨_, fs, rfl, ?_, ?_, HR.out, HAP.out, hnx⟩
      · have := HW.out
        rw [← HFL.out, Nat.sub_self, List.replicate_zero, List.append_nil] at this
        rw [← HFL.out]
        exact this
      · have := HM.out
        rwa [HFL.out, List.take_length] at this

set_option maxRecDepth 100000 in
set_option maxHeartbeats 1000000 in
theorem toSolver_ap (a : Option Addr) (cap : Nat) (es : List EqV) (c z : Int) (w : World) (ha : EqsAt w a es) (hx : es.length ≤ 1048576) (hsm : SmallE es) :
    Calls Tryz.prog 52 #[.agg #[.int .i64 c, .int .i64 z, .slice a es.length cap]] w fun e w' => ∃ a' c' fs, e = .returned (.agg #[.int .i64 c, .int .i64 z, .slice a' fs.length c']) ∧ w'.ownsRow w.heap.size 124 2 (.slice a' fs.length c') fs.length (eqCells fs) ∧ SamV fs es ∧ RowsOwn w' w.heap.size fs ∧ RowsAp fs ∧ Below w.heap.size w w' := by
  have HA := hid ha
  have HS := hid hsm
  clear ha hsm
  go_enter Tryz.func52, Tryz.ntmps52
  go_wp2_with fail
  refine (toEqS_ap a cap es _ (HA.out.below (u_b3 _ _ _ _)) hx HS.out).mono ?_
  rintro e w1 ⟨v, fs, rfl, o1, sm, rw1, ap1, b1⟩
  have AP := hid ap1
  clear ap1
  obtain ⟨a', c', rfl⟩ := owns_slice o1
  obtain ⟨hc1, hf1⟩ := u_cell b1
  have hs1 : w.heap.size + 1 + 1 < w1.heap.size := by have := b1.size; simp at this; omega
  have B1 := hid (u_cat (u_b3 _ _ _ _) b1)
  have O2 := hid (show w1.ownsRow (w.heap.size + 1 + 1 + 1) 124 2 (.slice a' fs.length c') fs.length (eqCells fs) by simpa using o1)
  have R2 := hid (show RowsOwn w1 (w.heap.size + 1 + 1 + 1) fs from rw1.mono (by simp))
  have SM := hid sm
  clear o1 b1 rw1 sm
  go_wp2_with fail
  refine bodyPost_ret (v := .agg #[.int .i64 c, .int .i64 z, .slice a' fs.length c']) ?_ rfl ?_
  · simp [results, Tryz.results52, go_sem, hc1]
  · refine ⟨a', c', fs, rfl, owns_base (base := w.heap.size + 1 + 1 + 1) ?_ (by omega), SM.out, RowsOwn.mono (base := w.heap.size + 1 + 1 + 1) ?_ (by omega), AP.out, ?_⟩
    · repeat (first | exact O2.out | (refine Touch.owns (Touch.setCell _ _ _) ?_ (by simp only []; omega)))
    · repeat (first | exact R2.out | (refine RowsOwn.set ?_ (by omega) _ _))
    · repeat (first | exact B1.out | (refine u_set ?_ (by omega) _ _))
end Go.Proofs.YtbakicgdloakgaaGreatDoor
namespace Go.Proofs.YtbakicgdloakgaaGreatDoor
open Go.ChangeShapes Go.WideShapes Go.ChangeAt Go.RowKit Go.Sort Go.Shelf
attribute [local go_sem] Oper.semAt_some

end Go.Proofs.YtbakicgdloakgaaGreatDoor
namespace Go.Proofs.YtbakicgdloakgaaGreatDoor
open Go.ChangeShapes Go.WideShapes Go.ChangeAt Go.RowKit Go.Sort Go.Shelf

/-- A store into a block of another kind leaves what is owned. -/
theorem own_set_kind {w : World} {base g s n : Nat} {e t : TypeId} {v : Value} {xs : List Value} {cs : Array Value} {i : Nat} {u : Value} (hg : w.heap[g]? = some (.cells cs t (0, 0))) (h : w.ownsRow base e s v n xs) (he : e ≠ t) : (w.setCell ⟨g, i, none⟩ u).ownsRow base e s v n xs := by
  obtain ⟨h1, h2⟩ := h
  refine ⟨h1, ?_⟩
  rcases h2 with h2 | ⟨k, cap, cur, hv, hk, hh, q⟩
  · exact Or.inl h2
  · refine Or.inr ⟨k, cap, cur, hv, hk, ?_, q⟩
    refine set_other hh (fun e2 => ?_) i u
    rw [e2, hg] at hh
    cases hh
    exact he rfl

/-- A solver in a box, its equations owned from behind the box on, their rows from B on. -/
structure OutIs (W : World) (B g : Nat) (c z : Int) (gs : List EqV) (b : Option Addr) (d : Nat) : Prop where
  blk : W.heap[g]? = some (.cells #[.int .i64 c, .int .i64 z, .slice b gs.length d] 36 (0, 0))
  own : W.ownsRow (g + 1) 124 2 (.slice b gs.length d) gs.length (eqCells gs)
  rows : RowsOwn W B gs
theorem OutIs.lt {W : World} {B g : Nat} {c z : Int} {gs : List EqV} {b : Option Addr} {d : Nat} (h : OutIs W B g c z gs b d) : g + 1 ≤ W.heap.size := lt_of_block h.blk
theorem OutIs.below {W W' : World} {B g : Nat} {c z : Int} {gs : List EqV} {b : Option Addr} {d : Nat} (h : OutIs W B g c z gs b d) (hb : Below W.heap.size W W') : OutIs W' B g c z gs b d :=
  ⟨kept h.blk hb, owns_below h.own hb, h.rows.below hb⟩
/-- One equation more. -/
theorem OutIs.app {W w5 : World} {B g : Nat} {c z : Int} {gs : List EqV} {b : Option Addr} {d : Nat} (h : OutIs W B g c z gs b d) (e : EqV) (he : W.ownsRow B 3 1 (.slice e.a e.r.length e.c) e.r.length (e.r.map (Value.int .i64)))
    {v' : Value} (o5 : w5.ownsRow (g + 1) 124 2 v' (gs.length + 1) (eqCells gs ++ (#[.slice e.a e.r.length e.c, .string e.d] : Array Value).toList)) (g5 : (W.alloc (.cells #[.slice e.a e.r.length e.c, .string e.d] 124)).grownBy w5 (.slice b gs.length d : Value).ownBlock) :
    ∃ a' cap', v' = .slice a' (gs.length + 1) cap' ∧ w5.heap[g]? = some (.cells #[.int .i64 c, .int .i64 z, .slice b gs.length d] 36 (0, 0)) ∧ OutIs (w5.setCell ⟨g, 2, none⟩ (.slice a' (gs.length + 1) cap')) B g c z (gs ++ [e]) a' cap' ∧
      Below g W (w5.setCell ⟨g, 2, none⟩ (.slice a' (gs.length + 1) cap')) ∧ KeepsOthers W w5 ∧
      (∀ k cs, W.heap[k]? = some cs → k ≠ g → (.slice b gs.length d : Value).ownBlock ≠ some k → (w5.setCell ⟨g, 2, none⟩ (.slice a' (gs.length + 1) cap')).heap[k]? = some cs) ∧
      (∀ base v n xs, W.ownsRow base 3 1 v n xs → (w5.setCell ⟨g, 2, none⟩ (.slice a' (gs.length + 1) cap')).ownsRow base 3 1 v n xs) := by
  obtain ⟨a', cap', rfl⟩ := owns_slice o5
  obtain ⟨U, hU⟩ : ∃ U, U = W.alloc (.cells #[.slice e.a e.r.length e.c, .string e.d] 124) := ⟨_, rfl⟩
  rw [← hU] at g5
  have bU : Below W.heap.size W U := by rw [hU]; exact u_b1 _ _
  have kU : KeepsOthers W U := by rw [hU]; exact KeepsOthers.alloc _ _
  clear hU
  have O4 := owns_below h.own bU
  have hgl := h.lt
  have hU3 : g + 1 ≤ U.heap.size := Nat.le_trans hgl bU.size
  have b5 : Below (g + 1) W w5 := (bU.mono hgl).trans ((Below.refl _ _).grown g5 hU3 (fun k hk => (O4.lt k hk).1))
  have hg5 : w5.heap[g]? = some (.cells #[.int .i64 c, .int .i64 z, .slice b gs.length d] 36 (0, 0)) := (b5.block g (by omega)).trans h.blk
  have hrow : ∀ base v n xs, W.ownsRow base 3 1 v n xs → (w5.setCell ⟨g, 2, none⟩ (.slice a' (gs.length + 1) cap')).ownsRow base 3 1 v n xs := fun base v n xs ho =>
    own_set_kind hg5 (owns_grown (owns_below ho bU) g5 (owns_kinds (owns_below ho bU) O4 (by decide))) (by decide)
  refine ⟨a', cap', rfl, hg5, ⟨?_, ?_, ?_⟩, u_set (b5.mono (Nat.le_succ g)) (Nat.le_refl g) _ _, ?_, ?_, hrow⟩
  · rw [List.length_append, List.length_singleton]; exact set_block hg5 2 _
  · have e2 : eqCells (gs ++ [e]) = eqCells gs ++ (#[.slice e.a e.r.length e.c, .string e.d] : Array Value).toList := by simp [eqCells, EqV.cells]
    rw [e2, List.length_append, List.length_singleton]
    exact Touch.owns (Touch.setCell w5 ⟨g, 2, none⟩ _) o5 (Nat.lt_succ_self _)
  · intro f hf
    rcases List.mem_append.1 hf with h1 | h1
    · exact hrow _ _ _ _ (h.rows f h1)
    · simp only [List.mem_singleton] at h1
      subst h1
      exact hrow _ _ _ _ he
  · refine kU.trans (KeepsOthers.of_grownBy g5 (fun k o hk ho => ?_))
    rcases O4.2 with ⟨h1, _⟩ | ⟨g', cap', cur', h1, _, h2, _⟩
    · rw [h1] at hk; cases hk
    · rw [h1] at hk
      cases hk
      rw [h2] at ho
      cases ho
      rfl
  · intro k cs hk hkg hko
    refine set_other ?_ hkg _ _
    rw [g5.block k (Nat.lt_of_lt_of_le (lt_of_block hk) bU.size) (fun e => hko e.symm)]
    exact kept hk bU
end Go.Proofs.YtbakicgdloakgaaGreatDoor
namespace Go.Proofs.YtbakicgdloakgaaGreatDoor
open Go.ChangeShapes Go.WideShapes Go.ChangeAt Go.RowKit Go.Sort Go.Shelf

theorem SamV.eqs {c z : Int} {es fs : List EqV} (h : SamV fs es) : SamV (eqsOf c z fs) (eqsOf c z es) := by
  unfold eqsOf
  by_cases hp : solverP c z es
  · rw [if_pos hp, if_pos (h.solver.2 hp)]; exact h
  · rw [if_neg hp, if_neg (fun h1 => hp (h.solver.1 h1))]; exact ⟨rfl, rfl⟩
theorem SamV.pfx {c z : Int} {es fs : List EqV} (h : SamV fs es) : (eqsOf c z fs).map EqV.r = (eqsOf c z es).map EqV.r := h.eqs.1
end Go.Proofs.YtbakicgdloakgaaGreatDoor
namespace Go.Proofs.YtbakicgdloakgaaGreatDoor
open Go.ChangeShapes Go.WideShapes Go.ChangeAt Go.RowKit Go.Sort Go.Shelf
attribute [local go_sem] Oper.semAt_some

theorem BytsAt.own {W W' : World} {q : Nat} {d : List Int} {row : Option Nat} (h : BytsAt W q d) (hg : W.grownBy W' row) (hr : ∀ r, row = some r → ∃ o : Obj, W.heap[r]? = some o ∧ o.isCells = false) : BytsAt W' q d :=
  ⟨Nat.lt_of_lt_of_le h.1 hg.size, fun i hi => cell_kept (h.2 i hi) hg hr⟩
end Go.Proofs.YtbakicgdloakgaaGreatDoor
namespace Go.Proofs.YtbakicgdloakgaaGreatDoor
open Go.ChangeShapes Go.WideShapes Go.ChangeAt Go.RowKit Go.Sort Go.Shelf
attribute [local go_sem] Oper.semAt_some

end Go.Proofs.YtbakicgdloakgaaGreatDoor
namespace Go.Proofs.YtbakicgdloakgaaGreatDoor
open Go.ChangeShapes Go.WideShapes Go.ChangeAt Go.RowKit Go.Sort Go.Shelf
attribute [local go_sem] Oper.semAt_some

end Go.Proofs.YtbakicgdloakgaaGreatDoor
namespace Go.Proofs.YtbakicgdloakgaaGreatDoor
open Go.ChangeShapes Go.WideShapes Go.ChangeAt Go.RowKit Go.Sort Go.Shelf
attribute [local go_sem] Oper.semAt_some

/-- One equation more is taken out. -/
def stepE (s : List Int × List Int) (e : EqV) : List Int × List Int := if hd e.r ∈ s.1 then (xorM s.1 e.r, xorL s.2 (numsOf e.d)) else s
/-- What is said of a row: so many noughts, and what is taken out. -/
def saysS (es : List EqV) (z : Int) (row : List Int) : List Int × List Int := es.foldl stepE (row, List.replicate z.toNat 0)
def saysP (c z : Int) (es : List EqV) (row : List Int) : Prop := solverP c z es ∧ ascB (-1) c row = true ∧ (saysS es z row).1 = []
instance (c z : Int) (es : List EqV) (row : List Int) : Decidable (saysP c z es row) := by unfold saysP; infer_instance
end Go.Proofs.YtbakicgdloakgaaGreatDoor
namespace Go.Proofs.YtbakicgdloakgaaGreatDoor
open Go.ChangeShapes Go.WideShapes Go.ChangeAt Go.RowKit Go.Sort Go.Shelf
attribute [local go_sem] Oper.semAt_some

end Go.Proofs.YtbakicgdloakgaaGreatDoor
