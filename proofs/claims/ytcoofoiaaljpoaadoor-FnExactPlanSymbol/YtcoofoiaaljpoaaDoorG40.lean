/- Arguments that came in, read as data: numbers, texts, structs, slices of whatever. A plan that came in. -/
import Derived.Test.YtcoofoiaaljpoaaDoorG7
import Derived.Deep.Slices
import Derived.SliceStrings
namespace Go.Proofs.YtcoofoiaaljpoaaDoor
open Go.ChangeShapes Go.WideShapes Go.ChangeAt Go.RowKit

/-- Cells that can be read as a value of a type. -/
def Reads (W : World) (t : TypeId) (cs : List Value) : Prop :=
  ∃ (H : Type) (enc : TypeId × Value → H) (fuel : Nat) (x : DataW H × List MemPlace), DataW.trod enc Tryd.prog W 0 (fun _ => true) true fuel t cs = some x

theorem Reads.int {W : World} {t : TypeId} {k : IntKind} {cs : List Value} (ht : Tryd.prog.underlying t = some (.int k)) (h : Reads W t cs) : ∃ n, cs = [.int k n] ∧ (Lit.int k n).wf = true := by
  obtain ⟨H, enc, fuel, x, h⟩ := h
  cases fuel with
  | zero => simp [DataW.trod] at h
  | succ n =>
    unfold DataW.trod at h
    rw [ht] at h
    split at h <;> simp_all
theorem Reads.string {W : World} {t : TypeId} {cs : List Value} (ht : Tryd.prog.underlying t = some .string) (h : Reads W t cs) : ∃ s, cs = [.string s] ∧ s.size ≤ maxLen := by
  obtain ⟨H, enc, fuel, x, h⟩ := h
  cases fuel with
  | zero => simp [DataW.trod] at h
  | succ n =>
    unfold DataW.trod at h
    rw [ht] at h
    split at h <;> simp_all
theorem Reads.bool {W : World} {t : TypeId} {cs : List Value} (ht : Tryd.prog.underlying t = some .bool) (h : Reads W t cs) : ∃ b, cs = [.bool b] := by
  obtain ⟨H, enc, fuel, x, h⟩ := h
  cases fuel with
  | zero => simp [DataW.trod] at h
  | succ n =>
    unfold DataW.trod at h
    rw [ht] at h
    split at h <;> simp_all
theorem Reads.struct {W : World} {t : TypeId} {fs : Array Field} {cs : List Value} (ht : Tryd.prog.underlying t = some (.struct fs)) (h : Reads W t cs) :
    cs.length = Tryd.prog.cellsOf t ∧ ∀ (i : Nat) (f : Field), fs[i]? = some f → Reads W f.type ((cs.drop f.offset).take (Tryd.prog.cellsOf f.type)) := by
  obtain ⟨H, enc, fuel, x, h⟩ := h
  obtain ⟨xs, n, _, _, hl, hx, hf⟩ := DataW.trod_struct ht h
  refine ⟨hl, fun i f hi => ?_⟩
  have h1 := hf i f hi
  have : i < fs.size := by
    rcases Nat.lt_or_ge i fs.size with h | h
    · exact h
    · rw [Array.getElem?_eq_none h] at hi; simp at hi
  rw [List.getElem?_eq_getElem (by omega)] at h1
  exact ⟨H, enc, n, _, h1⟩
theorem Reads.slice {W : World} {t e : TypeId} {cs : List Value} (ht : Tryd.prog.underlying t = some (.slice e)) (h : Reads W t cs) :
    cs = [.slice none 0 0] ∨ ∃ (a : Addr) (len cap : Nat), cs = [.slice (some a) len cap] ∧ len ≤ cap ∧ cap ≤ maxLen ∧
      ∀ i, i < cap → ∃ cs', W.cells? 0 (a.add (i * Tryd.prog.cellsOf e)) (Tryd.prog.cellsOf e) = some cs' ∧ Reads W e cs' := by
  obtain ⟨H, enc, fuel, x, h⟩ := h
  rcases Go.Deep.open_slice ht h with ⟨h0, _⟩ | ⟨a, len, cap, m, n, D, Pl, h0, _, hl, hm, hmm, _, hx⟩
  · exact Or.inl h0
  · refine Or.inr ⟨a, len, cap, h0, hl, hm, fun i hi => ?_⟩
    obtain ⟨cs', h1, h2⟩ := hx i (by rw [hmm]; simpa using hi)
    exact ⟨cs', h1, H, enc, n, _, h2⟩
theorem Reads.ints {W : World} {t e : TypeId} {k : IntKind} {cs : List Value} (ht : Tryd.prog.underlying t = some (.slice e)) (he : Tryd.prog.underlying e = some (.int k)) (hc : Tryd.prog.cellsOf e = 1) (h : Reads W t cs) :
    ∃ a len cap zs, cs = [.slice a len cap] ∧ IsRow k W a len cap zs := by
  obtain ⟨H, enc, fuel, x, h⟩ := h
  rcases open_ints ht he hc h with ⟨hcs, _⟩ | ⟨x, l, c, zs, hcs, _, hl, hm, hz, _, hcell, hwz⟩
  · exact ⟨none, 0, 0, [], hcs, .inl ⟨rfl, rfl, rfl, rfl⟩⟩
  · exact ⟨some x, l, c, zs, hcs, .inr ⟨_, rfl, hl, hm, by simpa using hz, hcell, hwz⟩⟩
set_option maxRecDepth 100000 in
/-- The cells of an argument that is a struct. -/
theorem Reads.arg {H : Type} {enc : TypeId × Value → H} {W : World} {t : TypeId} {fs : Array Field} {r : Reach} {b0 : Nat} {v : Value} {d : DataW H} {ps : List MemPlace} (ht : Tryd.prog.underlying t = some (.struct fs))
    (hv : Value.okWide Tryd.prog W r b0 t v) (h : DataW.Trod enc Tryd.prog W 0 (fun _ => true) true t v d ps) : ∃ cs : List Value, v = .agg cs.toArray ∧ Reads W t cs := by
  obtain ⟨cs, rfl, _⟩ := okWide_struct ht hv
  obtain ⟨m, hm⟩ := h
  refine ⟨cs.toList, by simp, H, enc, m, (d, ps), ?_⟩
  simpa [Value.cells] using hm
end Go.Proofs.YtcoofoiaaljpoaaDoor
namespace Go.Proofs.YtcoofoiaaljpoaaDoor
open Go.ChangeShapes Go.WideShapes Go.ChangeAt Go.RowKit

theorem cellsI : Tryd.prog.cellsOf 3 = 1 := by kernel_rfl
theorem cellsNs : Tryd.prog.cellsOf 22 = 1 := by kernel_rfl
theorem cellsPlan : Tryd.prog.cellsOf 24 = 4 := by kernel_rfl
set_option maxRecDepth 100000 in
theorem reads_plan {W : World} {cs : List Value} (h : Reads W 24 cs) : ∃ long size a1 n1 k1 z1 a2 n2 k2 z2, cs = [.int .i64 long, .int .i64 size, .slice a1 n1 k1, .slice a2 n2 k2] ∧
    (Lit.int .i64 long).wf = true ∧ (Lit.int .i64 size).wf = true ∧ IsRow .i64 W a1 n1 k1 z1 ∧ IsRow .i64 W a2 n2 k2 z2 := by
  obtain ⟨hl, hf⟩ := h.struct Tryd.underlying24
  rw [cellsPlan] at hl
  obtain ⟨x0, x1, x2, x3, rfl⟩ : ∃ x0 x1 x2 x3, cs = [x0, x1, x2, x3] := by
    match cs, hl with
    | [x0, x1, x2, x3], _ => exact ⟨x0, x1, x2, x3, rfl⟩
  have g0 : Reads W 3 (List.take (Tryd.prog.cellsOf 3) (List.drop 0 [x0, x1, x2, x3])) := hf 0 _ rfl
  rw [cellsI] at g0
  have h0 : Reads W 3 [x0] := g0
  have g1 : Reads W 3 (List.take (Tryd.prog.cellsOf 3) (List.drop 1 [x0, x1, x2, x3])) := hf 1 _ rfl
  rw [cellsI] at g1
  have h1 : Reads W 3 [x1] := g1
  have g2 : Reads W 22 (List.take (Tryd.prog.cellsOf 22) (List.drop 2 [x0, x1, x2, x3])) := hf 2 _ rfl
  rw [cellsNs] at g2
  have h2 : Reads W 22 [x2] := g2
  have g3 : Reads W 22 (List.take (Tryd.prog.cellsOf 22) (List.drop 3 [x0, x1, x2, x3])) := hf 3 _ rfl
  rw [cellsNs] at g3
  have h3 : Reads W 22 [x3] := g3
  obtain ⟨long, e0, wf0⟩ := h0.int Tryd.underlying3
  obtain ⟨size, e1, wf1⟩ := h1.int Tryd.underlying3
  obtain ⟨a1, n1, k1, z1, e2, r1⟩ := h2.ints Tryd.underlying22 Tryd.underlying3 cellsI
  obtain ⟨a2, n2, k2, z2, e3, r2⟩ := h3.ints Tryd.underlying22 Tryd.underlying3 cellsI
  simp only [List.cons.injEq, and_true] at e0 e1 e2 e3
  subst e0 e1 e2 e3
  exact ⟨long, size, a1, n1, k1, z1, a2, n2, k2, z2, rfl, wf0, wf1, r1, r2⟩
theorem isRow_le {k : IntKind} {w : World} {a : Option Addr} {len cap : Nat} {zs : List Int} (h : IsRow k w a len cap zs) : len ≤ 9223372036854775807 := by
  rcases h with ⟨_, rfl, _, rfl⟩ | ⟨x, _, h1, h2, h3, _⟩
  · omega
  · unfold maxLen at h2; omega
end Go.Proofs.YtcoofoiaaljpoaaDoor
