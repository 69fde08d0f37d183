/- Solvers marked and held, as the laws do it; what is kept. Plans that are marked, as the laws do it. Plans that are held, as the laws do it. Gettings that the call owns: kept, marked, held, as the laws do it. -/
import Derived.Test.YtegldmdcdnnegaaGreatDoorG31
import Derived.Test.YtegldmdcdnnegaaGreatDoorG29
import Derived.Test.YtegldmdcdnnegaaGreatDoorG30
namespace Go.Proofs.YtegldmdcdnnegaaGreatDoor
open Go.ChangeShapes Go.WideShapes Go.ChangeAt Go.RowKit Go.Sort Go.Shelf

/-- Outside of some blocks all is as it was. -/
def KeepOut (w w' : World) (lo hi : Nat) : Prop := ∀ g, g < w.heap.size → (g < lo ∨ hi ≤ g) → w'.heap[g]? = w.heap[g]?
theorem keepOut_of {w w' : World} {v : Value} {fs : List EqV} {lo hi : Nat} (h : MkKeep w w' v fs) (hv : ∀ k, v.ownBlock = some k → lo ≤ k ∧ k < hi) (hf : ∀ f ∈ fs, ∀ k, (rowV f).ownBlock = some k → lo ≤ k ∧ k < hi) : KeepOut w w' lo hi := fun g hg ho =>
  h g hg (fun e => by have := hv g e; omega) (fun f hm e => by have := hf f hm g e; omega)
theorem keepOut_row {w w' : World} {v : Value} {lo hi : Nat} (h : w.grownBy w' v.ownBlock) (hv : ∀ k, v.ownBlock = some k → lo ≤ k ∧ k < hi) : KeepOut w w' lo hi := fun g hg ho =>
  h.block g hg (fun e => by have := hv g e.symm; omega)
theorem KeepOut.blk {w w' : World} {lo hi k : Nat} {o : Obj} (h : KeepOut w w' lo hi) (X : w.heap[k]? = some o) (hk : k < lo ∨ hi ≤ k) : w'.heap[k]? = some o := (h k (lt_of_block X) hk).trans X
theorem KeepOut.owns {w w' : World} {lo hi base s n : Nat} {e : TypeId} {v : Value} {xs : List Value} (h : KeepOut w w' lo hi) (ho : w.ownsRow base e s v n xs) (hk : ∀ k, v.ownBlock = some k → k < lo ∨ hi ≤ k) : w'.ownsRow base e s v n xs :=
  u_owns ho (fun k e => h k (ho.lt k e).2 (hk k e))
theorem KeepOut.rows {w w' : World} {lo hi base : Nat} {fs : List EqV} (h : KeepOut w w' lo hi) (ho : RowsOwn w base fs) (hk : ∀ f ∈ fs, ∀ k, (rowV f).ownBlock = some k → k < lo ∨ hi ≤ k) : RowsOwn w' base fs := fun f hf => h.owns (ho f hf) (hk f hf)

set_option maxRecDepth 100000 in
set_option maxHeartbeats 2000000 in
theorem markSolver_any (base : Nat) (cc zz : Int) (a : Option Addr) (c : Nat) (fs : List EqV) (k : Nat) (w : World) (hown : w.ownsRow base 81 2 (.slice a fs.length c) fs.length (eqCells fs)) (hrow : RowsOwn w base fs) (hap : RowsAp fs) (hlen : fs.length ≤ 1048576) (hsm : ∀ f ∈ fs, f.r.length ≤ 1048576) (hb : base ≤ w.heap.size) (k0 : 0 < k) (k1 : k ≤ 100000000000000) :
    Calls Tryz.prog 27 #[.agg #[.int .i64 cc, .int .i64 zz, .slice a fs.length c], .int .i64 k] w fun e w' => e = .returned (.int .i64 ((k + cntE fs : Nat) : Int)) ∧ w'.ownsRow base 81 2 (.slice a fs.length c) fs.length (eqCells (mkE k fs)) ∧ RowsOwn w' base (mkE k fs) ∧ Below base w w' ∧ MkKeep w w' (.slice a fs.length c) fs := by
  have K := hid (fun W (bW : Below w.heap.size w W) => markEqS_any base a c fs k W (owns_below hown bW) (hrow.below bW) hap hlen hsm (Nat.le_trans hb bW.size) k0 k1)
  clear hown hrow hap hsm
  go_enter Tryz.func27, Tryz.ntmps27
  go_wp2_with fail
  refine (K.out _ (u_b1 _ _)).mono ?_
  rintro e w2 ⟨rfl, o2, r2, b2, k2⟩
  have O2 := hid o2
  have R2 := hid r2
  have B2 := hid (((u_b1 w (.cells #[.int .i64 cc, .int .i64 zz, .slice a fs.length c] 34)).mono hb).trans b2)
  have K2 := hid (show MkKeep w w2 (.slice a fs.length c) fs from fun g hg h1 h2 => (k2 g (by simp; omega) h1 h2).trans (Below.heap_alloc _ _ _ hg))
  clear o2 r2 b2 k2 K
  go_wp2_with fail
  go_ret
  exact ⟨rfl, O2.out, R2.out, B2.out, K2.out⟩

set_option maxRecDepth 100000 in
set_option maxHeartbeats 2000000 in
theorem heldSolver_any (cc zz : Int) (a : Option Addr) (c : Nat) (fs : List EqV) (k : Nat) (w : World) (h : EqsAt w a (mkE k fs)) (hlen : fs.length ≤ 1048576) (hsm : ∀ f ∈ fs, f.r.length ≤ 1048576) (k0 : 0 < k) (k1 : k ≤ 100000000000000) :
    Calls Tryz.prog 29 #[.agg #[.int .i64 cc, .int .i64 zz, .slice a fs.length c], .int .i64 k] w fun e w' => e = .returned (.int .i64 ((k + cntE fs : Nat) : Int)) ∧ Below w.heap.size w w' := by
  have K := hid (fun W (bW : Below w.heap.size w W) => heldEqS_any a c fs k W (h.below bW) hlen hsm k0 k1)
  have hcl := cntE_le hsm
  clear h hsm
  go_enter Tryz.func29, Tryz.ntmps29
  go_wp2_with fail
  refine (K.out _ (u_b1 _ _)).mono ?_
  rintro e w2 ⟨rfl, b2⟩
  have B2 := hid (u_cat (u_b1 _ _) b2)
  have hnn : ¬ (((k + cntE fs : Nat) : Int) < 0) := by omega
  clear b2 K
  go_wp2_with fail
  go_ret
  exact ⟨rfl, B2.out⟩
end Go.Proofs.YtegldmdcdnnegaaGreatDoor
namespace Go.Proofs.YtegldmdcdnnegaaGreatDoor
open Go.ChangeShapes Go.WideShapes Go.ChangeAt Go.RowKit Go.Sort

set_option maxRecDepth 100000 in
set_option maxHeartbeats 1000000 in
theorem markPlan_any (base : Nat) (long size : Int) (a1 a2 : Option Addr) (c1 c2 : Nat) (ws gs : List Int) (k : Int) (w : World) (o1 : w.ownsRow base 3 1 (.slice a1 ws.length c1) ws.length (ws.map (Value.int .i64))) (o2 : w.ownsRow base 3 1 (.slice a2 gs.length c2) gs.length (gs.map (Value.int .i64))) (ap : Apart (.slice a1 ws.length c1) (.slice a2 gs.length c2)) (hb : base ≤ w.heap.size) (hx : ws.length ≤ 1048576) (hy : gs.length ≤ 1048576) (k0 : 0 ≤ k) (k1 : k ≤ 1048576) :
    Calls Tryz.prog 26 #[.agg #[.int .i64 long, .int .i64 size, .slice a1 ws.length c1, .slice a2 gs.length c2], .int .i64 k] w fun e w' => e = .returned (.int .i64 (k + ws.length + gs.length)) ∧
      w'.ownsRow base 3 1 (.slice a1 ws.length c1) ws.length ((marks k ws.length).map (Value.int .i64)) ∧ w'.ownsRow base 3 1 (.slice a2 gs.length c2) gs.length ((marks (k + ws.length) gs.length).map (Value.int .i64)) ∧ Below base w w' ∧ ∀ g, g < w.heap.size → (.slice a1 ws.length c1 : Value).ownBlock ≠ some g → (.slice a2 gs.length c2 : Value).ownBlock ≠ some g → w'.heap[g]? = w.heap[g]? := by
  have O1 := hid (owns_below o1 (below_alloc' w (.cells #[.int .i64 long, .int .i64 size, .slice a1 ws.length c1, .slice a2 gs.length c2] 31)))
  have O2 := hid (owns_below o2 (below_alloc' w (.cells #[.int .i64 long, .int .i64 size, .slice a1 ws.length c1, .slice a2 gs.length c2] 31)))
  have X0 := hid (laid w #[.int .i64 long, .int .i64 size, .slice a1 ws.length c1, .slice a2 gs.length c2] 31)
  have n1 : (.slice a1 ws.length c1 : Value).ownBlock ≠ some w.heap.size := fun h => by have := (o1.lt _ h).2; omega
  have n2 : (.slice a2 gs.length c2 : Value).ownBlock ≠ some w.heap.size := fun h => by have := (o2.lt _ h).2; omega
  have N1 := hid n1
  have N2 := hid n2
  have AP := hid ap
  clear o1 o2 ap n1 n2
  go_enter Tryz.func26, Tryz.ntmps26
  go_wp2_with fail
  refine (markIntS_any base _ ws.length ws k _ (by exact O1.out) (by omega) (by omega) (by omega)).mono ?_
  rintro e w1 ⟨rfl, m1, g1⟩
  have M1 := hid m1
  have G1 := hid g1
  have P2 := hid (owns_grown O2.out g1 AP.out.2)
  have X1 := hid ((g1.block w.heap.size (by simp) (fun h => N1.out h.symm)).trans X0.out)
  clear m1 g1
  have p3 := box_cell X1.out 3 (v := .slice a2 gs.length c2) rfl
  go_wp2_with fail
  refine (markIntS_any base _ gs.length gs (k + ws.length) _ (by exact P2.out) (by omega) (by omega) (by omega)).mono ?_
  rintro e w2 ⟨rfl, m2, g2⟩
  have b1 := grown_base G1.out O1.out (by simp; omega)
  have hz := b1.size
  go_wp2_with fail
  go_ret
  refine ⟨ret_int (by omega), owns_grown M1.out g2 AP.out.1, m2, (((Below.refl base w).alloc hb _).trans b1).trans (grown_base g2 P2.out (by simp at hz; omega)), fun g hg hn1 hn2 => ?_⟩
  have hs : g < (w.alloc (.cells #[.int .i64 long, .int .i64 size, .slice a1 ws.length c1, .slice a2 gs.length c2] 31)).heap.size := by simp; omega
  rw [g2.block g (Nat.lt_of_lt_of_le hs G1.out.size) (fun h => hn2 h.symm), G1.out.block g hs (fun h => hn1 h.symm)]
  exact (below_alloc' w _).block g hg
end Go.Proofs.YtegldmdcdnnegaaGreatDoor
namespace Go.Proofs.YtegldmdcdnnegaaGreatDoor
open Go.ChangeShapes Go.WideShapes Go.ChangeAt Go.RowKit Go.Sort

set_option maxRecDepth 100000 in
theorem heldPlan_any (long size : Int) (a1 a2 : Option Addr) (n1 n2 c1 c2 : Nat) (k : Int) (w : World) (i1 : IntsAt w a1 (marks k n1)) (i2 : IntsAt w a2 (marks (k + n1) n2)) (hx : n1 ≤ 1048576) (hy : n2 ≤ 1048576) (k0 : 0 ≤ k) (k1 : k ≤ 1048576) :
    Calls Tryz.prog 28 #[.agg #[.int .i64 long, .int .i64 size, .slice a1 n1 c1, .slice a2 n2 c2], .int .i64 k] w fun e w' => e = .returned (.int .i64 (k + n1 + n2)) ∧ Below w.heap.size w w' := by
  have I1 := hid (i1.below (below_alloc' w (.cells #[.int .i64 long, .int .i64 size, .slice a1 n1 c1, .slice a2 n2 c2] 31)))
  have I2 := hid (i2.below (below_alloc' w (.cells #[.int .i64 long, .int .i64 size, .slice a1 n1 c1, .slice a2 n2 c2] 31)))
  clear i1 i2
  go_enter Tryz.func28, Tryz.ntmps28
  go_wp2_with fail
  refine (heldIntS_any a1 c1 n1 k _ (by exact I1.out) (by omega) (by omega) (by omega)).mono ?_
  rintro e w1 ⟨rfl, rfl⟩
  go_wp2_with fail
  refine (heldIntS_any a2 c2 n2 (k + n1) _ (by exact I2.out) (by omega) (by omega) (by omega)).mono ?_
  rintro e w1 ⟨rfl, rfl⟩
  go_wp2_with fail
  go_ret
  exact ⟨ret_int (by omega), below_alloc' _ _⟩
end Go.Proofs.YtegldmdcdnnegaaGreatDoor
namespace Go.Proofs.YtegldmdcdnnegaaGreatDoor
open Go.ChangeShapes Go.WideShapes Go.ChangeAt Go.RowKit Go.Sort Go.Shelf
attribute [local go_sem] Oper.semAt_some

/-- A getting that can be read. -/
structure GAt (w : World) (a1 a2 a : Option Addr) (ws gs : List Int) (es : List EqV) : Prop where
  i1 : IntsAt w a1 ws
  i2 : IntsAt w a2 gs
  eq : EqsAt w a es
theorem GAt.below {w w' : World} {a1 a2 a : Option Addr} {ws gs : List Int} {es : List EqV} (h : GAt w a1 a2 a ws gs es) (hb : Below w.heap.size w w') : GAt w' a1 a2 a ws gs es :=
  ⟨h.i1.below hb, h.i2.below hb, h.eq.below hb⟩
/-- Where it lies. -/
structure GIn (lo hi : Nat) (b1 b2 a : Option Addr) (n1 n2 d1 d2 c : Nat) (fs : List EqV) : Prop where
  l1 : ∀ k, (.slice b1 n1 d1 : Value).ownBlock = some k → lo ≤ k ∧ k < hi
  l2 : ∀ k, (.slice b2 n2 d2 : Value).ownBlock = some k → lo ≤ k ∧ k < hi
  le : ∀ k, (.slice a fs.length c : Value).ownBlock = some k → lo ≤ k ∧ k < hi
  lr : ∀ f ∈ fs, ∀ k, (rowV f).ownBlock = some k → lo ≤ k ∧ k < hi
theorem GetOwn.at' {w : World} {base : Nat} {ws gs : List Int} {b1 b2 : Option Addr} {d1 d2 : Nat} {a : Option Addr} {c : Nat} {fs : List EqV} (h : GetOwn w base ws gs b1 b2 d1 d2 a c fs) : GAt w b1 b2 a ws gs fs :=
  ⟨owns_at h.o1, owns_at h.o2, h.eqs⟩
theorem GetOwn.in' {w : World} {base : Nat} {ws gs : List Int} {b1 b2 : Option Addr} {d1 d2 : Nat} {a : Option Addr} {c : Nat} {fs : List EqV} (h : GetOwn w base ws gs b1 b2 d1 d2 a c fs) : GIn base w.heap.size b1 b2 a ws.length gs.length d1 d2 c fs := by
  obtain ⟨n, hn, _, _, h1, h2⟩ := h.up
  refine ⟨h.o1.lt, h.o2.lt, fun k hk => ?_, fun f hf k hk => ?_⟩
  · have := h1.lt k hk; omega
  · have := (h2 f hf).lt k hk; omega
theorem GetOwn.below {w w' : World} {base : Nat} {ws gs : List Int} {b1 b2 : Option Addr} {d1 d2 : Nat} {a : Option Addr} {c : Nat} {fs : List EqV} (h : GetOwn w base ws gs b1 b2 d1 d2 a c fs) (hb : Below w.heap.size w w') : GetOwn w' base ws gs b1 b2 d1 d2 a c fs := by
  obtain ⟨n, h1, h2, h3, h4, h5⟩ := h.up
  exact ⟨owns_below h.o1 hb, owns_below h.o2 hb, h.ap, n, h1, h2, h3, owns_below h4 hb, h5.below hb⟩
theorem GetOwn.mono {w : World} {base base' : Nat} {ws gs : List Int} {b1 b2 : Option Addr} {d1 d2 : Nat} {a : Option Addr} {c : Nat} {fs : List EqV} (h : GetOwn w base ws gs b1 b2 d1 d2 a c fs) (hb : base' ≤ base) : GetOwn w base' ws gs b1 b2 d1 d2 a c fs := by
  obtain ⟨n, h1, h2, h3, h4, h5⟩ := h.up
  exact ⟨owns_base h.o1 hb, owns_base h.o2 hb, h.ap, n, by omega, h2, h3, h4, h5⟩
theorem GetOwn.keep {w w' : World} {base lo hi lo2 hi2 : Nat} {ws gs : List Int} {b1 b2 : Option Addr} {d1 d2 : Nat} {a : Option Addr} {c : Nat} {fs : List EqV} (h : GetOwn w base ws gs b1 b2 d1 d2 a c fs) (hi' : GIn lo2 hi2 b1 b2 a ws.length gs.length d1 d2 c fs) (k : KeepOut w w' lo hi) (ho : hi2 ≤ lo ∨ hi ≤ lo2) : GetOwn w' base ws gs b1 b2 d1 d2 a c fs := by
  obtain ⟨n, h1, h2, h3, h4, h5⟩ := h.up
  exact ⟨k.owns h.o1 (fun j hj => by have := hi'.l1 j hj; omega), k.owns h.o2 (fun j hj => by have := hi'.l2 j hj; omega), h.ap, n, h1, h2, h3, k.owns h4 (fun j hj => by have := hi'.le j hj; omega), k.rows h5 (fun f hf j hj => by have := hi'.lr f hf j hj; omega)⟩
theorem own_nil (w : World) (base : Nat) : GetOwn w base [] [] none none 0 0 none 0 [] :=
  ⟨⟨rfl, .inl ⟨rfl, rfl⟩⟩, ⟨rfl, .inl ⟨rfl, rfl⟩⟩, ⟨fun k hk => (by cases hk), fun k hk => (by cases hk)⟩, base, Nat.le_refl _, (fun k hk => by cases hk), (fun k hk => by cases hk), ⟨rfl, .inl ⟨rfl, rfl⟩⟩, fun f hf => by simp at hf⟩

/-- A getting as it was marked. -/
structure GMk (w : World) (k : Nat) (b1 b2 a : Option Addr) (n1 n2 : Nat) (fs : List EqV) : Prop where
  i1 : IntsAt w b1 (marks k n1)
  i2 : IntsAt w b2 (marks ((k : Int) + n1) n2)
  eq : EqsAt w a (mkE (k + n1 + n2) fs)
theorem GMk.below {w w' : World} {k : Nat} {b1 b2 a : Option Addr} {n1 n2 : Nat} {fs : List EqV} (h : GMk w k b1 b2 a n1 n2 fs) (hb : Below w.heap.size w w') : GMk w' k b1 b2 a n1 n2 fs :=
  ⟨h.i1.below hb, h.i2.below hb, h.eq.below hb⟩

set_option maxRecDepth 100000 in
set_option maxHeartbeats 2000000 in
theorem heldGetting_at (L S C Z : Int) (b1 b2 a : Option Addr) (n1 n2 d1 d2 c : Nat) (fs : List EqV) (k : Nat) (w : World) (h : GMk w k b1 b2 a n1 n2 fs) (h1 : n1 ≤ 1048576) (h2 : n2 ≤ 1048576) (hl : fs.length ≤ 1048576) (hsm : ∀ f ∈ fs, f.r.length ≤ 1048576) (k0 : 0 < k) (k1 : k ≤ 1000) :
    Calls Tryz.prog 10 #[.agg #[.int .i64 L, .int .i64 S, .slice b1 n1 d1, .slice b2 n2 d2, .int .i64 C, .int .i64 Z, .slice a fs.length c], .int .i64 k] w fun e w' => e = .returned (.int .i64 ((k + n1 + n2 + cntE fs : Nat) : Int)) ∧ Below w.heap.size w w' := by
  have hcl := cntE_le hsm
  have HX := hid (laid w #[.int .i64 L, .int .i64 S, .slice b1 n1 d1, .slice b2 n2 d2, .int .i64 C, .int .i64 Z, .slice a fs.length c] 36)
  have HB := hid (u_b1 w (.cells #[.int .i64 L, .int .i64 S, .slice b1 n1 d1, .slice b2 n2 d2, .int .i64 C, .int .i64 Z, .slice a fs.length c] 36))
  have H := hid (h.below HB.out)
  have HS := hid hsm
  clear h hsm
  obtain ⟨W0, hW0⟩ : ∃ W0, W0 = w.alloc (.cells #[.int .i64 L, .int .i64 S, .slice b1 n1 d1, .slice b2 n2 d2, .int .i64 C, .int .i64 Z, .slice a fs.length c] 36) := ⟨_, rfl⟩
  rw [← hW0] at HX HB H
  go_enter Tryz.func10, Tryz.ntmps10
  repeat ((fail_if_success (with_reducible show Code.wp _ (Code.region 1 _ _) _ _ _)); (first | go_values | go_skip | go_guarded | go_step | go_upon | go_back | go_simp))
  rw [← hW0]
  clear hW0
  have q0 := box_cell HX.out 0 (v := .int .i64 L) rfl
  have q1 := box_cell HX.out 1 (v := .int .i64 S) rfl
  have q2 := box_cell HX.out 2 (v := .slice b1 n1 d1) rfl
  have q3 := box_cell HX.out 3 (v := .slice b2 n2 d2) rfl
  go_wp2_with fail
  refine (heldPlan_any L S b1 b2 n1 n2 d1 d2 (k : Int) _ H.out.i1 H.out.i2 h1 h2 (by omega) (by omega)).mono ?_
  rintro e w1 ⟨rfl, bb⟩
  have HX1 := hid (kept HX.out bb)
  have HB1 := hid (u_cat HB.out bb)
  have H1 := hid (H.out.below bb)
  have hnn : ¬ ((k : Int) + n1 + n2 < 0) := by omega
  clear bb q0 q1 q2 q3 HX HB H
  have q4 := box_cell HX1.out 4 (v := .int .i64 C) rfl
  have q5 := box_cell HX1.out 5 (v := .int .i64 Z) rfl
  have q6 := box_cell HX1.out 6 (v := .slice a fs.length c) rfl
  have K := heldSolver_any C Z a c fs (k + n1 + n2) w1 H1.out.eq hl HS.out (by omega) (by omega)
  rw [show (((k + n1 + n2 : Nat) : Int)) = (k : Int) + n1 + n2 by omega] at K
  have K := hid K
  go_wp2_with fail
  refine K.out.mono ?_
  rintro e w2 ⟨rfl, bb⟩
  have B2 := hid (u_cat HB1.out bb)
  have hn2 : ¬ (((k + n1 + n2 + cntE fs : Nat) : Int) < 0) := by omega
  clear bb K q4 q5 q6
  go_wp2_with fail
  go_ret
  exact ⟨rfl, B2.out⟩

set_option maxRecDepth 100000 in
set_option maxHeartbeats 4000000 in
theorem markGetting_at (base : Nat) (L S C Z : Int) (ws gs : List Int) (b1 b2 a : Option Addr) (d1 d2 c : Nat) (fs : List EqV) (k : Nat) (w : World) (h : GetOwn w base ws gs b1 b2 d1 d2 a c fs) (hap : RowsAp fs) (hb : base ≤ w.heap.size) (h1 : ws.length ≤ 1048576) (h2 : gs.length ≤ 1048576) (hl : fs.length ≤ 1048576) (hsm : ∀ f ∈ fs, f.r.length ≤ 1048576) (k0 : 0 < k) (k1 : k ≤ 1000) :
    Calls Tryz.prog 9 #[.agg #[.int .i64 L, .int .i64 S, .slice b1 ws.length d1, .slice b2 gs.length d2, .int .i64 C, .int .i64 Z, .slice a fs.length c], .int .i64 k] w fun e w' => e = .returned (.int .i64 ((k + ws.length + gs.length + cntE fs : Nat) : Int)) ∧ GMk w' k b1 b2 a ws.length gs.length fs ∧ (∀ lo hi, GIn lo hi b1 b2 a ws.length gs.length d1 d2 c fs → KeepOut w w' lo hi) ∧ Below base w w' := by
  have hcl := cntE_le hsm
  have HX := hid (laid w #[.int .i64 L, .int .i64 S, .slice b1 ws.length d1, .slice b2 gs.length d2, .int .i64 C, .int .i64 Z, .slice a fs.length c] 36)
  have HB := hid (u_b1 w (.cells #[.int .i64 L, .int .i64 S, .slice b1 ws.length d1, .slice b2 gs.length d2, .int .i64 C, .int .i64 Z, .slice a fs.length c] 36))
  have HI := hid h.in'
  have H := hid (h.below HB.out)
  have HS := hid hsm
  clear h hsm
  obtain ⟨W0, hW0⟩ : ∃ W0, W0 = w.alloc (.cells #[.int .i64 L, .int .i64 S, .slice b1 ws.length d1, .slice b2 gs.length d2, .int .i64 C, .int .i64 Z, .slice a fs.length c] 36) := ⟨_, rfl⟩
  have hs0 : w.heap.size + 1 ≤ W0.heap.size := by rw [hW0]; simp
  rw [← hW0] at HX HB H
  go_enter Tryz.func9, Tryz.ntmps9
  repeat ((fail_if_success (with_reducible show Code.wp _ (Code.region 1 _ _) _ _ _)); (first | go_values | go_skip | go_guarded | go_step | go_upon | go_back | go_simp))
  rw [← hW0]
  clear hW0
  have q0 := box_cell HX.out 0 (v := .int .i64 L) rfl
  have q1 := box_cell HX.out 1 (v := .int .i64 S) rfl
  have q2 := box_cell HX.out 2 (v := .slice b1 ws.length d1) rfl
  have q3 := box_cell HX.out 3 (v := .slice b2 gs.length d2) rfl
  go_wp2_with fail
  refine (markPlan_any base L S b1 b2 d1 d2 ws gs (k : Int) _ H.out.o1 H.out.o2 H.out.ap (by omega) h1 h2 (by omega) (by omega)).mono ?_
  rintro e w1 ⟨rfl, m1, m2, bb, kk⟩
  have KK := hid kk
  have M1 := hid m1
  have M2 := hid m2
  have hs1 := bb.size
  have HX1 := hid ((KK.out _ (lt_of_block HX.out) (fun e => by have := HI.out.l1 _ e; omega) (fun e => by have := HI.out.l2 _ e; omega)).trans HX.out)
  have BB := hid (show Below base w w1 from (HB.out.mono hb).trans bb)
  obtain ⟨n, u1, u2, u3, u4, u5⟩ := H.out.up
  have O4 := hid (u_owns u4 (fun j e => KK.out j (u4.lt j e).2 (fun e2 => by have := u2 j e2; have := u4.lt j e; omega) (fun e2 => by have := u3 j e2; have := u4.lt j e; omega)))
  have R4 := hid (show RowsOwn w1 n fs from fun f hf => u_owns (u5 f hf) (fun j e => KK.out j ((u5 f hf).lt j e).2 (fun e2 => by have := u2 j e2; have := (u5 f hf).lt j e; omega) (fun e2 => by have := u3 j e2; have := (u5 f hf).lt j e; omega)))
  have U2 := hid u2
  have U3 := hid u3
  have U4 := hid (fun j e => (u4.lt j e).1)
  have U5 := hid (fun f hf j e => ((u5 f hf).lt j e).1)
  have U1 := hid u1
  have hs1' : W0.heap.size ≤ w1.heap.size := hs1
  clear kk m1 m2 bb q0 q1 q2 q3 u1 u2 u3 u4 u5 hs1
  have q4 := box_cell HX1.out 4 (v := .int .i64 C) rfl
  have q5 := box_cell HX1.out 5 (v := .int .i64 Z) rfl
  have q6 := box_cell HX1.out 6 (v := .slice a fs.length c) rfl
  have K := markSolver_any base C Z a c fs (k + ws.length + gs.length) w1 (owns_base O4.out U1.out) (R4.out.mono U1.out) hap hl HS.out (by omega) (by omega) (by omega)
  rw [show (((k + ws.length + gs.length : Nat) : Int)) = (k : Int) + ws.length + gs.length by omega] at K
  replace K := hid K
  go_wp2_with fail
  refine K.out.mono ?_
  rintro e w2 ⟨rfl, o2, r2, bq, k2⟩
  have K2 := hid k2
  have N1 := hid (show ∀ j, (.slice b1 ws.length d1 : Value).ownBlock = some j → w2.heap[j]? = w1.heap[j]? from fun j e => K2.out j (M1.out.lt j e).2 (fun e2 => by have := U4.out j e2; have := U2.out j e; omega) (fun f hf e2 => by have := U5.out f hf j e2; have := U2.out j e; omega))
  have N2 := hid (show ∀ j, (.slice b2 gs.length d2 : Value).ownBlock = some j → w2.heap[j]? = w1.heap[j]? from fun j e => K2.out j (M2.out.lt j e).2 (fun e2 => by have := U4.out j e2; have := U3.out j e; omega) (fun f hf e2 => by have := U5.out f hf j e2; have := U3.out j e; omega))
  have G1 := hid (owns_at (u_owns M1.out N1.out))
  have G2 := hid (owns_at (u_owns M2.out N2.out))
  have G3 := hid (eqs_at (by rw [← mkE_len fs (k + ws.length + gs.length)] at o2; exact o2) r2)
  have BK := hid (BB.out.trans bq)
  have KO := hid (show ∀ lo hi, GIn lo hi b1 b2 a ws.length gs.length d1 d2 c fs → KeepOut w w2 lo hi from fun lo hi hi' g hg ho => by
    have e1 := k2 g (by omega) (fun e => by have := hi'.le g e; omega) (fun f hf e => by have := hi'.lr f hf g e; omega)
    have e2 := KK.out g (by omega) (fun e => by have := hi'.l1 g e; omega) (fun e => by have := hi'.l2 g e; omega)
    exact (e1.trans e2).trans (HB.out.block g hg))
  clear o2 r2 bq k2 K q4 q5 q6
  go_wp2_with fail
  go_ret
  exact ⟨rfl, ⟨G1.out, G2.out, G3.out⟩, KO.out, BK.out⟩
end Go.Proofs.YtegldmdcdnnegaaGreatDoor
