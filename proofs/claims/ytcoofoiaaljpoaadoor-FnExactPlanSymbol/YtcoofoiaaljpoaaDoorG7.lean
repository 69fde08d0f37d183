/- Rows of ints that came in. The model's test 'in limits', by its answer. Plans: what is ok, by the model and by the program. -/
import Derived.Test.YtcoofoiaaljpoaaDoorG6
import Derived.Test.YtcoofoiaaljpoaaDoorG0
import Derived.Deep.RegionHeld3
import Derived.Deep.DrawnRows
namespace Go.Proofs.YtcoofoiaaljpoaaDoor
open Go.ChangeShapes Go.WideShapes Go.ChangeAt Go.RowKit

theorem isRow_len {k : IntKind} {w : World} {a : Option Addr} {len cap : Nat} {zs : List Int} (h : IsRow k w a len cap zs) : (zs.take len).length = len := by
  rcases h with ⟨_, rfl, _, rfl⟩ | ⟨x, _, h1, h2, h3, _⟩
  · rfl
  · rw [List.length_take]; omega

theorem isRow_ints {w : World} {a : Option Addr} {len cap : Nat} {zs : List Int} (h : IsRow .i64 w a len cap zs) : IntsAt w a (zs.take len) := by
  intro hne
  rcases h with ⟨_, rfl, _, rfl⟩ | ⟨x, rfl, h1, h2, h3, h4, _⟩
  · simp at hne
  · have hpos : 0 < len := by
      rcases Nat.eq_zero_or_pos len with h | h
      · subst h; simp at hne
      · exact h
    obtain ⟨b, off, spot⟩ := x
    have hc := h4 0 (by omega)
    have hspot : spot = none := by simpa [Addr.add] using World.cell?_spot hc
    subst hspot
    refine ⟨b, off, rfl, fun i hi => ?_⟩
    have hi' : i < len := by rw [List.length_take] at hi; omega
    have e : (zs.take len).getD i 0 = zs.getD i 0 := by simp [List.getD, hi']
    rw [e, ← addr_add]
    exact h4 i (by omega)

theorem getD_eq {xs : List Int} {k : Nat} (h : k < xs.length) : xs.getD k 0 = xs[k] := by simp [List.getD, h]
theorem copy_set (xs : List Int) (k : Nat) (h : k < xs.length) : (xs.take k ++ List.replicate (xs.length - k) (0 : Int)).set k (xs.getD k 0) = xs.take (k + 1) ++ List.replicate (xs.length - (k + 1)) 0 := by
  have hl : (xs.take k).length = k := by rw [List.length_take]; omega
  rw [List.set_append_right _ _ (by omega), hl, Nat.sub_self, List.take_succ_eq_append_getElem h, getD_eq h]
  obtain ⟨m, hm⟩ : ∃ m, xs.length - k = m + 1 := ⟨xs.length - k - 1, by omega⟩
  rw [hm, List.replicate_succ, List.set_cons_zero, show xs.length - (k + 1) = m by omega, List.append_assoc, List.singleton_append]
theorem made_ints (n : Nat) : (madeCells (Value.int .i64 0).cells (n * 1)).toList = (List.replicate n (0 : Int)).map (Value.int .i64) := by
  apply List.ext_getElem
  · simp [madeCells]
  · intro i h1 h2
    simp [madeCells, Value.cells, Nat.mod_one]
end Go.Proofs.YtcoofoiaaljpoaaDoor
namespace Go.Proofs.YtcoofoiaaljpoaaDoor
open Go.ChangeShapes Go.WideShapes Go.ChangeAt Go.RowKit

set_option maxRecDepth 100000 in
theorem l1In_yes (n lo hi : Int) (w : World) (h : lo ≤ n ∧ n ≤ hi) :
    Calls Tryd.prog 11 #[.int .i64 n, .int .i64 lo, .int .i64 hi] w fun e w' => e = .returned (.bool true) ∧ w' = w := by
  obtain ⟨h1, h2⟩ := h
  go_enter Tryd.func11, Tryd.ntmps11
  go_wp2
  go_ret
  exact ⟨rfl, rfl⟩

set_option maxRecDepth 100000 in
theorem l1In_no (n lo hi : Int) (w : World) (h : n < lo ∨ hi < n) :
    Calls Tryd.prog 11 #[.int .i64 n, .int .i64 lo, .int .i64 hi] w fun e w' => e = .returned (.bool false) ∧ w' = w := by
  by_cases h1 : n < lo
  · clear h
    go_enter Tryd.func11, Tryd.ntmps11
    go_wp2
    go_ret
    exact ⟨rfl, rfl⟩
  · have h2 : hi < n := by omega
    have h3 : lo ≤ n := by omega
    have h4 : decide (n ≤ hi) = false := by simp; omega
    clear h h1
    go_enter Tryd.func11, Tryd.ntmps11
    go_wp2
    go_ret
    exact ⟨rfl, rfl⟩
end Go.Proofs.YtcoofoiaaljpoaaDoor
namespace Go.Proofs.YtcoofoiaaljpoaaDoor
open Go.ChangeShapes Go.WideShapes Go.ChangeAt Go.RowKit

/-- All that was there is read as it was. -/
theorem bcell {W w1 : World} (hb : Below W.heap.size W w1) : (∀ b o, b < W.heap.size → w1.cell? ⟨b, o, none⟩ = W.cell? ⟨b, o, none⟩) ∧ (∀ b o, b < W.heap.size → w1.frozen? ⟨b, o, none⟩ = W.frozen? ⟨b, o, none⟩) :=
  ⟨fun b o h => hb.cell (p := ⟨b, o, none⟩) h, fun b o h => hb.frozen (p := ⟨b, o, none⟩) h⟩
theorem below_alloc' (w : World) (o : Obj) : Below w.heap.size w (w.alloc o) := (Below.refl _ _).alloc (Nat.le_refl _) o
theorem below_cat' {a b c : World} (h : Below a.heap.size a b) (k : Below b.heap.size b c) : Below a.heap.size a c := h.trans (k.mono h.size)

/-- How many blocks. -/
def cntI (long size : Int) : Int := (long + size - 1) / size
/-- The window ahead of a place. -/
def prev0 (ws : List Int) (k : Nat) : Int := if k = 0 then 0 else ws.getD (k - 1) 0
theorem prev0_succ (ws : List Int) (k : Nat) : prev0 ws (k + 1) = ws.getD k 0 := by simp [prev0]
/-- Windows that ascend up to all blocks. -/
def winP (n : Int) (ws : List Int) : Prop := 1 ≤ ws.length ∧ ws.length ≤ 3 ∧ (∀ k, k < ws.length → prev0 ws k < ws.getD k 0) ∧ prev0 ws ws.length = n
instance (n : Int) (ws : List Int) : Decidable (winP n ws) := by unfold winP; infer_instance
/-- Weights that may be. -/
def wgtP (m : Nat) (gs : List Int) : Prop := (∀ k, k < gs.length → 1 ≤ gs.getD k 0 ∧ gs.getD k 0 ≤ 99) ∧ gs.length = m
instance (m : Nat) (gs : List Int) : Decidable (wgtP m gs) := by unfold wgtP; infer_instance
/-- Sizes that may be. -/
def sizP (long size : Int) : Prop := 1 ≤ long ∧ long ≤ 300 ∧ 1 ≤ size ∧ size ≤ 16 ∧ cntI long size ≤ 24
instance (long size : Int) : Decidable (sizP long size) := by unfold sizP; infer_instance
/-- A plan that is ok. -/
def planP (long size : Int) (ws gs : List Int) : Prop := sizP long size ∧ winP (cntI long size) ws ∧ wgtP ws.length gs
instance (long size : Int) (ws gs : List Int) : Decidable (planP long size ws gs) := by unfold planP; infer_instance

theorem cnt_pos (long size : Int) (h : 1 ≤ long) (h2 : 1 ≤ size) : 1 ≤ cntI long size := by
  unfold cntI
  rw [Int.le_ediv_iff_mul_le (by omega)]
  omega
theorem cnt_le (long size : Int) (h : 1 ≤ long) (h2 : 1 ≤ size) (h3 : long ≤ 300) : cntI long size ≤ 300 := by
  unfold cntI
  have := Int.ediv_le_of_le_mul (a := long + size - 1) (b := 300) (c := size) (by omega) (by
    have : 300 * size = 300 * (size - 1) + 300 := by omega
    have : 0 ≤ 299 * (size - 1) := by omega
    omega)
  exact this

set_option maxRecDepth 100000 in
theorem divideUp_any (a b : Int) (w : World) (h1 : 1 ≤ a) (h2 : a ≤ 1000) (h3 : 1 ≤ b) (h4 : b ≤ 1000) :
    Calls Tryd.prog 52 #[.int .i64 a, .int .i64 b] w fun e w' => e = .returned (.int .i64 (cntI a b)) ∧ w' = w := by
  go_enter Tryd.func52, Tryd.ntmps52
  go_wp2
  go_ret
  exact ⟨ret_int (by unfold cntI; first | rfl | (rw [Int.tdiv_eq_ediv_of_nonneg (by omega)])), rfl⟩

set_option maxRecDepth 100000 in
theorem implCount (long size : Int) (a1 a2 : Option Addr) (n1 c1 n2 c2 : Nat) (w : World) (h1 : 1 ≤ long) (h2 : long ≤ 300) (h3 : 1 ≤ size) (h4 : size ≤ 16) :
    Calls Tryd.prog 40 #[.agg #[.int .i64 long, .int .i64 size, .slice a1 n1 c1, .slice a2 n2 c2]] w fun e w' => e = .returned (.int .i64 (cntI long size)) ∧ Below w.heap.size w w' := by
  go_enter Tryd.func40, Tryd.ntmps40
  go_wp2_with (go_at_call 52; refine (divideUp_any _ _ _ (by omega) (by omega) (by omega) (by omega)).mono ?_; rintro e w' ⟨rfl, rfl⟩)
  go_ret
  exact ⟨rfl, below_alloc' _ _⟩

set_option maxRecDepth 100000 in
theorem specCount (long size : Int) (a1 a2 : Option Addr) (n1 c1 n2 c2 : Nat) (w : World) (h1 : 1 ≤ long) (h2 : long ≤ 300) (h3 : 1 ≤ size) (h4 : size ≤ 16) :
    Calls Tryd.prog 21 #[.agg #[.int .i64 long, .int .i64 size, .slice a1 n1 c1, .slice a2 n2 c2]] w fun e w' => e = .returned (.int .i64 (cntI long size)) ∧ Below w.heap.size w w' := by
  go_enter Tryd.func21, Tryd.ntmps21
  go_wp2
  go_ret
  exact ⟨ret_int (by unfold cntI; first | rfl | (rw [Int.tdiv_eq_ediv_of_nonneg (by omega)])), below_alloc' _ _⟩
end Go.Proofs.YtcoofoiaaljpoaaDoor
