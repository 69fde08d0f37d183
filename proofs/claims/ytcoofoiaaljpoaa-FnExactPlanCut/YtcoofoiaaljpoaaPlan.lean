/- Plans: what is ok, by the model and by the program. -/
import Derived.Test.YtcoofoiaaljpoaaIntsR
import Derived.Test.YtcoofoiaaljpoaaIn
import Derived.Deep.RegionHeld3
import Derived.Deep.DrawnRows
namespace Go.Proofs.Ytcoofoiaaljpoaa
open Go.ChangeShapes Go.WideShapes Go.ChangeAt Go.RowKit

/-- All that was there is read as it was. -/
theorem bcell {W w1 : World} (hb : Below W.heap.size W w1) : (∀ b o, b < W.heap.size → w1.cell? ⟨b, o, none⟩ = W.cell? ⟨b, o, none⟩) ∧ (∀ b o, b < W.heap.size → w1.frozen? ⟨b, o, none⟩ = W.frozen? ⟨b, o, none⟩) :=
  ⟨fun b o h => hb.cell (p := ⟨b, o, none⟩) h, fun b o h => hb.frozen (p := ⟨b, o, none⟩) h⟩
theorem below_alloc' (w : World) (o : Obj) : Below w.heap.size w (w.alloc o) := (Below.refl _ _).alloc (Nat.le_refl _) o
theorem below_cat' {a b c : World} (h : Below a.heap.size a b) (k : Below b.heap.size b c) : Below a.heap.size a c := h.trans (k.mono h.size)

/-- How many blocks. -/
def cntI (long size : Int) : Int := (long + size - 1) / size
/-- The window ahead of a place. -/
def prev0 (ws : List Int) (k : Nat) : Int := if k = 0 then 0 else ws.getD (k - 1) 0
theorem prev0_succ (ws : List Int) (k : Nat) : prev0 ws (k + 1) = ws.getD k 0 := by simp [prev0]
/-- Windows that ascend up to all blocks. -/
def winP (n : Int) (ws : List Int) : Prop := 1 ≤ ws.length ∧ ws.length ≤ 3 ∧ (∀ k, k < ws.length → prev0 ws k < ws.getD k 0) ∧ prev0 ws ws.length = n
instance (n : Int) (ws : List Int) : Decidable (winP n ws) := by unfold winP; infer_instance
/-- Weights that may be. -/
def wgtP (m : Nat) (gs : List Int) : Prop := (∀ k, k < gs.length → 1 ≤ gs.getD k 0 ∧ gs.getD k 0 ≤ 99) ∧ gs.length = m
instance (m : Nat) (gs : List Int) : Decidable (wgtP m gs) := by unfold wgtP; infer_instance
/-- Sizes that may be. -/
def sizP (long size : Int) : Prop := 1 ≤ long ∧ long ≤ 300 ∧ 1 ≤ size ∧ size ≤ 16 ∧ cntI long size ≤ 24
instance (long size : Int) : Decidable (sizP long size) := by unfold sizP; infer_instance
/-- A plan that is ok. -/
def planP (long size : Int) (ws gs : List Int) : Prop := sizP long size ∧ winP (cntI long size) ws ∧ wgtP ws.length gs
instance (long size : Int) (ws gs : List Int) : Decidable (planP long size ws gs) := by unfold planP; infer_instance

theorem cnt_pos (long size : Int) (h : 1 ≤ long) (h2 : 1 ≤ size) : 1 ≤ cntI long size := by
  unfold cntI
  rw [Int.le_ediv_iff_mul_le (by omega)]
  omega
theorem cnt_le (long size : Int) (h : 1 ≤ long) (h2 : 1 ≤ size) (h3 : long ≤ 300) : cntI long size ≤ 300 := by
  unfold cntI
  have := Int.ediv_le_of_le_mul (a := long + size - 1) (b := 300) (c := size) (by omega) (by
    have : 300 * size = 300 * (size - 1) + 300 := by omega
    have : 0 ≤ 299 * (size - 1) := by omega
    omega)
  exact this

set_option maxRecDepth 100000 in
theorem divideUp_any (a b : Int) (w : World) (h1 : 1 ≤ a) (h2 : a ≤ 1000) (h3 : 1 ≤ b) (h4 : b ≤ 1000) :
    Calls Try.prog 33 #[.int .i64 a, .int .i64 b] w fun e w' => e = .returned (.int .i64 (cntI a b)) ∧ w' = w := by
  go_enter Try.func33, Try.ntmps33
  go_wp2
  go_ret
  exact ⟨ret_int (by unfold cntI; first | rfl | (rw [Int.tdiv_eq_ediv_of_nonneg (by omega)])), rfl⟩

set_option maxRecDepth 100000 in
theorem implCount (long size : Int) (a1 a2 : Option Addr) (n1 c1 n2 c2 : Nat) (w : World) (h1 : 1 ≤ long) (h2 : long ≤ 300) (h3 : 1 ≤ size) (h4 : size ≤ 16) :
    Calls Try.prog 27 #[.agg #[.int .i64 long, .int .i64 size, .slice a1 n1 c1, .slice a2 n2 c2]] w fun e w' => e = .returned (.int .i64 (cntI long size)) ∧ Below w.heap.size w w' := by
  go_enter Try.func27, Try.ntmps27
  go_wp2_with (go_at_call 33; refine (divideUp_any _ _ _ (by omega) (by omega) (by omega) (by omega)).mono ?_; rintro e w' ⟨rfl, rfl⟩)
  go_ret
  exact ⟨rfl, below_alloc' _ _⟩

set_option maxRecDepth 100000 in
theorem specCount (long size : Int) (a1 a2 : Option Addr) (n1 c1 n2 c2 : Nat) (w : World) (h1 : 1 ≤ long) (h2 : long ≤ 300) (h3 : 1 ≤ size) (h4 : size ≤ 16) :
    Calls Try.prog 24 #[.agg #[.int .i64 long, .int .i64 size, .slice a1 n1 c1, .slice a2 n2 c2]] w fun e w' => e = .returned (.int .i64 (cntI long size)) ∧ Below w.heap.size w w' := by
  go_enter Try.func24, Try.ntmps24
  go_wp2
  go_ret
  exact ⟨ret_int (by unfold cntI; first | rfl | (rw [Int.tdiv_eq_ediv_of_nonneg (by omega)])), below_alloc' _ _⟩
end Go.Proofs.Ytcoofoiaaljpoaa
