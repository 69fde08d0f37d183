/- Solvers marked and held, as the laws do it; what is kept. -/
import Derived.Test.YtbakicgdloakgaaGreatDoorG28
namespace Go.Proofs.YtbakicgdloakgaaGreatDoor
open Go.ChangeShapes Go.WideShapes Go.ChangeAt Go.RowKit Go.Sort Go.Shelf

/-- Outside of some blocks all is as it was. -/
def KeepOut (w w' : World) (lo hi : Nat) : Prop := ∀ g, g < w.heap.size → (g < lo ∨ hi ≤ g) → w'.heap[g]? = w.heap[g]?
theorem KeepOut.blk {w w' : World} {lo hi k : Nat} {o : Obj} (h : KeepOut w w' lo hi) (X : w.heap[k]? = some o) (hk : k < lo ∨ hi ≤ k) : w'.heap[k]? = some o := (h k (lt_of_block X) hk).trans X
theorem KeepOut.owns {w w' : World} {lo hi base s n : Nat} {e : TypeId} {v : Value} {xs : List Value} (h : KeepOut w w' lo hi) (ho : w.ownsRow base e s v n xs) (hk : ∀ k, v.ownBlock = some k → k < lo ∨ hi ≤ k) : w'.ownsRow base e s v n xs :=
  u_owns ho (fun k e => h k (ho.lt k e).2 (hk k e))
theorem KeepOut.rows {w w' : World} {lo hi base : Nat} {fs : List EqV} (h : KeepOut w w' lo hi) (ho : RowsOwn w base fs) (hk : ∀ f ∈ fs, ∀ k, (rowV f).ownBlock = some k → k < lo ∨ hi ≤ k) : RowsOwn w' base fs := fun f hf => h.owns (ho f hf) (hk f hf)

set_option maxRecDepth 100000 in
set_option maxHeartbeats 2000000 in
theorem markSolver_any (base : Nat) (cc zz : Int) (a : Option Addr) (c : Nat) (fs : List EqV) (k : Nat) (w : World) (hown : w.ownsRow base 124 2 (.slice a fs.length c) fs.length (eqCells fs)) (hrow : RowsOwn w base fs) (hap : RowsAp fs) (hlen : fs.length ≤ 1048576) (hsm : ∀ f ∈ fs, f.r.length ≤ 1048576) (hb : base ≤ w.heap.size) (k0 : 0 < k) (k1 : k ≤ 100000000000000) :
    Calls Tryz.prog 62 #[.agg #[.int .i64 cc, .int .i64 zz, .slice a fs.length c], .int .i64 k] w fun e w' => e = .returned (.int .i64 ((k + cntE fs : Nat) : Int)) ∧ w'.ownsRow base 124 2 (.slice a fs.length c) fs.length (eqCells (mkE k fs)) ∧ RowsOwn w' base (mkE k fs) ∧ Below base w w' ∧ MkKeep w w' (.slice a fs.length c) fs := by
  have K := hid (fun W (bW : Below w.heap.size w W) => markEqS_any base a c fs k W (owns_below hown bW) (hrow.below bW) hap hlen hsm (Nat.le_trans hb bW.size) k0 k1)
  clear hown hrow hap hsm
  go_enter Tryz.func62, Tryz.ntmps62
  go_wp2_with fail
  refine (K.out _ (u_b1 _ _)).mono ?_
  rintro e w2 ⟨rfl, o2, r2, b2, k2⟩
  have O2 := hid o2
  have R2 := hid r2
  have B2 := hid (((u_b1 w (.cells #[.int .i64 cc, .int .i64 zz, .slice a fs.length c] 36)).mono hb).trans b2)
  have K2 := hid (show MkKeep w w2 (.slice a fs.length c) fs from fun g hg h1 h2 => (k2 g (by simp; omega) h1 h2).trans (Below.heap_alloc _ _ _ hg))
  clear o2 r2 b2 k2 K
  go_wp2_with fail
  go_ret
  exact ⟨rfl, O2.out, R2.out, B2.out, K2.out⟩

end Go.Proofs.YtbakicgdloakgaaGreatDoor
