/- A list of a solver, ok or not; links of one block. Plans: what is ok, by the model and by the program. -/
import Derived.Test.YtfciopjcbeccgaaGreatDoorG13
import Derived.Test.YtfciopjcbeccgaaGreatDoorG8
import Derived.Test.YtfciopjcbeccgaaGreatDoorG0
import Derived.Deep.RegionHeld3
import Derived.Deep.DrawnRows
namespace Go.Proofs.YtfciopjcbeccgaaGreatDoor
open Go.ChangeShapes Go.WideShapes Go.ChangeAt Go.RowKit Go.Sort Go.Shelf
attribute [local go_sem] Oper.semAt_some

theorem one_row (r : List Int) (at' : Int) : (r.length = 1 ∧ hd r = at') ↔ r = [at'] := by
  constructor
  · rintro ⟨h1, h2⟩
    match r, h1 with
    | [x], _ => rw [show x = at' from h2]
  · rintro rfl; exact ⟨rfl, rfl⟩
/-- The equations of a solver that is ok; none of others. -/
def eqsOf (c z : Int) (es : List EqV) : List EqV := if solverP c z es then es else []
/-- What a list of a solver is, ok or not. -/
theorem listO_any {w : World} {c z : Int} {es : List EqV} {e : Ending} {w' : World} (h : ListO w c z es e w') :
    ∃ (c' z' : Int) (ls : List Lk), e = .returned (.tuple #[.agg #[.int .i64 c', .int .i64 z', .pointer (ptrOf ls)], .bool (decide (solverP c z es))]) ∧ LksAt w' w.heap.size ls ∧ SameE ls (eqsOf c z es) ∧ RowsL ls ∧ ls.length ≤ 24 ∧ Below w.heap.size w w' := by
  obtain ⟨b, ⟨hp, ls, rfl, hL, hs⟩ | ⟨hp, rfl⟩⟩ := h
  · have he : eqsOf c z es = es := if_pos hp
    refine ⟨c, z, ls, by rw [decide_eq_true hp], hL, by rw [he]; exact hs, hs.rows hp.1.1.2 hp.2, ?_, b⟩
    have h1 := congrArg List.length hs.1
    rw [List.length_map, List.length_map] at h1
    have := okE_24 hp.2 (by have := hp.1.1.1; omega) hp.1.1.2
    omega
  · have he : eqsOf c z es = [] := if_neg hp
    exact ⟨0, 0, [], by rw [decide_eq_false hp]; rfl, LksAt.nil _ _, by rw [he]; exact ⟨rfl, rfl⟩, fun l hl => by simp at hl, by simp, b⟩
end Go.Proofs.YtfciopjcbeccgaaGreatDoor
namespace Go.Proofs.YtfciopjcbeccgaaGreatDoor
open Go.ChangeShapes Go.WideShapes Go.ChangeAt Go.RowKit

/-- All that was there is read as it was. -/
theorem bcell {W w1 : World} (hb : Below W.heap.size W w1) : (∀ b o, b < W.heap.size → w1.cell? ⟨b, o, none⟩ = W.cell? ⟨b, o, none⟩) ∧ (∀ b o, b < W.heap.size → w1.frozen? ⟨b, o, none⟩ = W.frozen? ⟨b, o, none⟩) :=
  ⟨fun b o h => hb.cell (p := ⟨b, o, none⟩) h, fun b o h => hb.frozen (p := ⟨b, o, none⟩) h⟩
theorem below_alloc' (w : World) (o : Obj) : Below w.heap.size w (w.alloc o) := (Below.refl _ _).alloc (Nat.le_refl _) o
theorem below_cat' {a b c : World} (h : Below a.heap.size a b) (k : Below b.heap.size b c) : Below a.heap.size a c := h.trans (k.mono h.size)

/-- How many blocks. -/
def cntI (long size : Int) : Int := (long + size - 1) / size
/-- The window ahead of a place. -/
def prev0 (ws : List Int) (k : Nat) : Int := if k = 0 then 0 else ws.getD (k - 1) 0
theorem prev0_succ (ws : List Int) (k : Nat) : prev0 ws (k + 1) = ws.getD k 0 := by simp [prev0]
/-- Windows that ascend up to all blocks. -/
def winP (n : Int) (ws : List Int) : Prop := 1 ≤ ws.length ∧ ws.length ≤ 3 ∧ (∀ k, k < ws.length → prev0 ws k < ws.getD k 0) ∧ prev0 ws ws.length = n
instance (n : Int) (ws : List Int) : Decidable (winP n ws) := by unfold winP; infer_instance
/-- Weights that may be. -/
def wgtP (m : Nat) (gs : List Int) : Prop := (∀ k, k < gs.length → 1 ≤ gs.getD k 0 ∧ gs.getD k 0 ≤ 99) ∧ gs.length = m
instance (m : Nat) (gs : List Int) : Decidable (wgtP m gs) := by unfold wgtP; infer_instance
/-- Sizes that may be. -/
def sizP (long size : Int) : Prop := 1 ≤ long ∧ long ≤ 300 ∧ 1 ≤ size ∧ size ≤ 16 ∧ cntI long size ≤ 24
instance (long size : Int) : Decidable (sizP long size) := by unfold sizP; infer_instance
/-- A plan that is ok. -/
def planP (long size : Int) (ws gs : List Int) : Prop := sizP long size ∧ winP (cntI long size) ws ∧ wgtP ws.length gs
instance (long size : Int) (ws gs : List Int) : Decidable (planP long size ws gs) := by unfold planP; infer_instance

theorem cnt_pos (long size : Int) (h : 1 ≤ long) (h2 : 1 ≤ size) : 1 ≤ cntI long size := by
  unfold cntI
  rw [Int.le_ediv_iff_mul_le (by omega)]
  omega
theorem cnt_le (long size : Int) (h : 1 ≤ long) (h2 : 1 ≤ size) (h3 : long ≤ 300) : cntI long size ≤ 300 := by
  unfold cntI
  have := Int.ediv_le_of_le_mul (a := long + size - 1) (b := 300) (c := size) (by omega) (by
    have : 300 * size = 300 * (size - 1) + 300 := by omega
    have : 0 ≤ 299 * (size - 1) := by omega
    omega)
  exact this

set_option maxRecDepth 100000 in
theorem divideUp_any (a b : Int) (w : World) (h1 : 1 ≤ a) (h2 : a ≤ 1000) (h3 : 1 ≤ b) (h4 : b ≤ 1000) :
    Calls Tryz.prog 67 #[.int .i64 a, .int .i64 b] w fun e w' => e = .returned (.int .i64 (cntI a b)) ∧ w' = w := by
  go_enter Tryz.func67, Tryz.ntmps67
  go_wp2
  go_ret
  exact ⟨ret_int (by unfold cntI; first | rfl | (rw [Int.tdiv_eq_ediv_of_nonneg (by omega)])), rfl⟩

set_option maxRecDepth 100000 in
theorem implCount (long size : Int) (a1 a2 : Option Addr) (n1 c1 n2 c2 : Nat) (w : World) (h1 : 1 ≤ long) (h2 : long ≤ 300) (h3 : 1 ≤ size) (h4 : size ≤ 16) :
    Calls Tryz.prog 50 #[.agg #[.int .i64 long, .int .i64 size, .slice a1 n1 c1, .slice a2 n2 c2]] w fun e w' => e = .returned (.int .i64 (cntI long size)) ∧ Below w.heap.size w w' := by
  go_enter Tryz.func50, Tryz.ntmps50
  go_wp2_with (go_at_call 67; refine (divideUp_any _ _ _ (by omega) (by omega) (by omega) (by omega)).mono ?_; rintro e w' ⟨rfl, rfl⟩)
  go_ret
  exact ⟨rfl, below_alloc' _ _⟩

set_option maxRecDepth 100000 in
theorem specCount (long size : Int) (a1 a2 : Option Addr) (n1 c1 n2 c2 : Nat) (w : World) (h1 : 1 ≤ long) (h2 : long ≤ 300) (h3 : 1 ≤ size) (h4 : size ≤ 16) :
    Calls Tryz.prog 43 #[.agg #[.int .i64 long, .int .i64 size, .slice a1 n1 c1, .slice a2 n2 c2]] w fun e w' => e = .returned (.int .i64 (cntI long size)) ∧ Below w.heap.size w w' := by
  go_enter Tryz.func43, Tryz.ntmps43
  go_wp2
  go_ret
  exact ⟨ret_int (by unfold cntI; first | rfl | (rw [Int.tdiv_eq_ediv_of_nonneg (by omega)])), below_alloc' _ _⟩
end Go.Proofs.YtfciopjcbeccgaaGreatDoor
