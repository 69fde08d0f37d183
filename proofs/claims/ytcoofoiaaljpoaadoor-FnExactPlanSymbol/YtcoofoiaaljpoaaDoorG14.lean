/- Rows of texts that are read. A text cut into the blocks of any plan, by the program. -/
import Derived.Test.YtcoofoiaaljpoaaDoorG0
import Derived.Test.YtcoofoiaaljpoaaDoorG13
namespace Go.Proofs.YtcoofoiaaljpoaaDoor
open Go.ChangeShapes Go.WideShapes Go.ChangeAt Go.RowKit

theorem Tryd.info9 : (Tryd.prog.info? 9).map (fun i => (i.zero, i.size, i.bytes)) = some (some (.string ByteArray.empty), 1, 16) := by kernel_rfl

/-- The cells of a slice of texts that is read. -/
def StrsAt (w : World) (a : Option Addr) (ss : List ByteArray) : Prop :=
  ss ≠ [] → ∃ b off, a = some ⟨b, off, none⟩ ∧ ∀ i, i < ss.length → w.cell? ⟨b, off + i, none⟩ = some (.string (ss.getD i ByteArray.empty))

theorem owns_strs {w : World} {base : Nat} {e : TypeId} {v : Value} {n : Nat} {ss : List ByteArray} (h : w.ownsRow base e 1 v n (ss.map Value.string)) :
    ∃ a cap, v = .slice a ss.length cap ∧ n = ss.length ∧ StrsAt w a ss := by
  have hl : ss.length = n := by simpa using h.1
  obtain ⟨a, cap, rfl⟩ := owns_slice h
  refine ⟨a, cap, by rw [hl], hl.symm, fun hne => ?_⟩
  obtain ⟨g, cap', hv, _⟩ := owns_shape h (by simpa using hne)
  simp only [Value.slice.injEq] at hv
  obtain ⟨rfl, _, rfl⟩ := hv
  refine ⟨g, 0, rfl, fun k hk => ?_⟩
  rw [Nat.zero_add, h.cellAt k (by omega)]
  simp [hk, List.getD]
theorem StrsAt.below {w w' : World} {a : Option Addr} {ss : List ByteArray} (h : StrsAt w a ss) (hb : Below w.heap.size w w') : StrsAt w' a ss := fun hne => by
  obtain ⟨b, off, ha, hc⟩ := h hne
  refine ⟨b, off, ha, fun i hi => ?_⟩
  rw [hb.cell (p := ⟨b, off + i, none⟩) (block_lt_of_cell (hc i hi))]
  exact hc i hi
theorem getS_eq {ss : List ByteArray} {k : Nat} (h : k < ss.length) : ss.getD k ByteArray.empty = ss[k] := by simp [List.getD, h]
end Go.Proofs.YtcoofoiaaljpoaaDoor
namespace Go.Proofs.YtcoofoiaaljpoaaDoor
open Go.ChangeShapes Go.WideShapes Go.ChangeAt Go.RowKit Go.Sort

/-- What PlanCut answers. -/
def blkR (t : ByteArray) (long size : Int) (ws gs : List Int) : List ByteArray := if planP long size ws gs ∧ (t.size : Int) = long then blkP t long.toNat size.toNat else []
theorem own_strs {w : World} {base : Nat} {a : Option Addr} {c : Nat} {R : List ByteArray} (h : w.ownsRow base 9 1 (.slice a R.length c) R.length (R.map Value.string)) : StrsAt w a R := by
  obtain ⟨a', c', e, -, hs⟩ := owns_strs h
  cases e
  exact hs
theorem blkR_len (t : ByteArray) (long size : Int) (ws gs : List Int) : (blkR t long size ws gs).length ≤ 24 := by
  unfold blkR
  split
  · next h =>
    have hc := h.1.1
    have l1 : (long.toNat : Int) = long := by have := hc.1; omega
    have l2 : (size.toNat : Int) = size := by have := hc.2.2.1; omega
    unfold blkP
    rw [l1, l2, cutP_len]
    have := hc.2.2.2.2
    omega
  · simp
theorem impl_cut (long size : Int) (a1 a2 : Option Addr) (c1 c2 : Nat) (ws gs : List Int) (t : ByteArray) (w : World) (ha1 : IntsAt w a1 ws) (ha2 : IntsAt w a2 gs) (hx : ws.length ≤ 1048576) (hy : gs.length ≤ 1048576) :
    Calls Tryd.prog 18 #[.agg #[.int .i64 long, .int .i64 size, .slice a1 ws.length c1, .slice a2 gs.length c2], .string t] w fun e w' => ∃ a c, e = .returned (.slice a (blkR t long size ws gs).length c) ∧ w'.ownsRow w.heap.size 9 1 (.slice a (blkR t long size ws gs).length c) (blkR t long size ws gs).length ((blkR t long size ws gs).map Value.string) ∧ Below w.heap.size w w' := by
  by_cases h : planP long size ws gs ∧ (t.size : Int) = long
  · have hR : blkR t long size ws gs = blkP t long.toNat size.toNat := if_pos h
    have hc := h.1.1
    obtain ⟨L, rfl⟩ : ∃ L : Nat, long = L := ⟨long.toNat, by have := hc.1; omega⟩
    obtain ⟨S, rfl⟩ : ∃ S : Nat, size = S := ⟨size.toNat, by have := hc.2.2.1; omega⟩
    rw [Int.toNat_natCast, Int.toNat_natCast] at hR
    rw [hR]
    exact implPlanCut_in L S a1 a2 c1 c2 ws gs t w ha1 ha2 hx hy h.1 (by omega)
  · have hR : blkR t long size ws gs = [] := if_neg h
    rw [hR]
    refine (implPlanCut_out long size a1 a2 c1 c2 ws gs t w ha1 ha2 hx hy h).mono ?_
    rintro e w' ⟨rfl, b⟩
    exact ⟨none, 0, rfl, ⟨rfl, .inl ⟨rfl, rfl⟩⟩, b⟩
end Go.Proofs.YtcoofoiaaljpoaaDoor
