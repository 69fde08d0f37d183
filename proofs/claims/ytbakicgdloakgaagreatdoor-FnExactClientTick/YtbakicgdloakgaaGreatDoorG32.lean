/- An equation learnt by the program: where nothing of its row is left. An equation learnt by the program: where something of its row is left. A solver out of the program's list. A solver out of the program's list. An equation learnt by the program. An equation learnt by the program. Gettings that the call owns: kept, marked, held, as the laws do it. Clients that the call owns: marked, held, as the laws do it. -/
import Derived.Test.YtbakicgdloakgaaGreatDoorG31
import Derived.Test.YtbakicgdloakgaaGreatDoorG24
import Derived.Test.YtbakicgdloakgaaGreatDoorG23
import Derived.Laws.BytesArg
import Derived.Test.YtbakicgdloakgaaGreatDoorG5
import Derived.Test.YtbakicgdloakgaaGreatDoorG21
import Derived.Test.YtbakicgdloakgaaGreatDoorG25
import Derived.Test.YtbakicgdloakgaaGreatDoorG29
import Derived.Test.YtbakicgdloakgaaGreatDoorG11
namespace Go.Proofs.YtbakicgdloakgaaGreatDoor
open Go.ChangeShapes Go.WideShapes Go.ChangeAt Go.RowKit Go.Sort Go.Shelf
attribute [local go_sem] Oper.semAt_some

end Go.Proofs.YtbakicgdloakgaaGreatDoor
namespace Go.Proofs.YtbakicgdloakgaaGreatDoor
open Go.ChangeShapes Go.WideShapes Go.ChangeAt Go.RowKit Go.Sort Go.Shelf
attribute [local go_sem] Oper.semAt_some

end Go.Proofs.YtbakicgdloakgaaGreatDoor
namespace Go.Proofs.YtbakicgdloakgaaGreatDoor
open Go.ChangeShapes Go.WideShapes Go.ChangeAt Go.RowKit Go.Sort Go.Shelf
attribute [local go_sem] Oper.semAt_some

end Go.Proofs.YtbakicgdloakgaaGreatDoor
namespace Go.Proofs.YtbakicgdloakgaaGreatDoor
open Go.ChangeShapes Go.WideShapes Go.ChangeAt Go.RowKit Go.Sort Go.Shelf
attribute [local go_sem] Oper.semAt_some

end Go.Proofs.YtbakicgdloakgaaGreatDoor
namespace Go.Proofs.YtbakicgdloakgaaGreatDoor
open Go.ChangeShapes Go.WideShapes Go.ChangeAt Go.RowKit Go.Sort Go.Shelf
attribute [local go_sem] Oper.semAt_some

end Go.Proofs.YtbakicgdloakgaaGreatDoor
namespace Go.Proofs.YtbakicgdloakgaaGreatDoor
open Go.ChangeShapes Go.WideShapes Go.ChangeAt Go.RowKit Go.Sort Go.Shelf
attribute [local go_sem] Oper.semAt_some

/-- A list that the program holds is what is known. -/
structure ListAt (w : World) (sb so base : Nat) (cs : Option Addr → Array Value) (ct : TypeId) (c z : Int) (ls : List Lk) : Prop where
  box : w.heap[sb]? = some (.cells (cs (ptrOf ls)) ct (0, 0))
  at' : LksAt w 0 ls
  ok : okV c z (valsL ls)
  byt : ∀ l ∈ ls, BytesL l.d
  low : ∀ l ∈ ls, base ≤ l.b
  sb_ : base ≤ sb
end Go.Proofs.YtbakicgdloakgaaGreatDoor
namespace Go.Proofs.YtbakicgdloakgaaGreatDoor
open Go.ChangeShapes Go.WideShapes Go.ChangeAt Go.RowKit Go.Sort Go.Shelf
attribute [local go_sem] Oper.semAt_some

/-- A getting that can be read. -/
structure GAt (w : World) (a1 a2 a : Option Addr) (ws gs : List Int) (es : List EqV) : Prop where
  i1 : IntsAt w a1 ws
  i2 : IntsAt w a2 gs
  eq : EqsAt w a es
theorem GAt.below {w w' : World} {a1 a2 a : Option Addr} {ws gs : List Int} {es : List EqV} (h : GAt w a1 a2 a ws gs es) (hb : Below w.heap.size w w') : GAt w' a1 a2 a ws gs es :=
  ⟨h.i1.below hb, h.i2.below hb, h.eq.below hb⟩
/-- Where it lies. -/
structure GIn (lo hi : Nat) (b1 b2 a : Option Addr) (n1 n2 d1 d2 c : Nat) (fs : List EqV) : Prop where
  l1 : ∀ k, (.slice b1 n1 d1 : Value).ownBlock = some k → lo ≤ k ∧ k < hi
  l2 : ∀ k, (.slice b2 n2 d2 : Value).ownBlock = some k → lo ≤ k ∧ k < hi
  le : ∀ k, (.slice a fs.length c : Value).ownBlock = some k → lo ≤ k ∧ k < hi
  lr : ∀ f ∈ fs, ∀ k, (rowV f).ownBlock = some k → lo ≤ k ∧ k < hi
theorem GetOwn.at' {w : World} {base : Nat} {ws gs : List Int} {b1 b2 : Option Addr} {d1 d2 : Nat} {a : Option Addr} {c : Nat} {fs : List EqV} (h : GetOwn w base ws gs b1 b2 d1 d2 a c fs) : GAt w b1 b2 a ws gs fs :=
  ⟨owns_at h.o1, owns_at h.o2, h.eqs⟩
theorem GetOwn.in' {w : World} {base : Nat} {ws gs : List Int} {b1 b2 : Option Addr} {d1 d2 : Nat} {a : Option Addr} {c : Nat} {fs : List EqV} (h : GetOwn w base ws gs b1 b2 d1 d2 a c fs) : GIn base w.heap.size b1 b2 a ws.length gs.length d1 d2 c fs := by
  obtain ⟨n, hn, _, _, h1, h2⟩ := h.up
  refine ⟨h.o1.lt, h.o2.lt, fun k hk => ?_, fun f hf k hk => ?_⟩
  · have := h1.lt k hk; omega
  · have := (h2 f hf).lt k hk; omega
theorem GetOwn.below {w w' : World} {base : Nat} {ws gs : List Int} {b1 b2 : Option Addr} {d1 d2 : Nat} {a : Option Addr} {c : Nat} {fs : List EqV} (h : GetOwn w base ws gs b1 b2 d1 d2 a c fs) (hb : Below w.heap.size w w') : GetOwn w' base ws gs b1 b2 d1 d2 a c fs := by
  obtain ⟨n, h1, h2, h3, h4, h5⟩ := h.up
  exact ⟨owns_below h.o1 hb, owns_below h.o2 hb, h.ap, n, h1, h2, h3, owns_below h4 hb, h5.below hb⟩
theorem GetOwn.mono {w : World} {base base' : Nat} {ws gs : List Int} {b1 b2 : Option Addr} {d1 d2 : Nat} {a : Option Addr} {c : Nat} {fs : List EqV} (h : GetOwn w base ws gs b1 b2 d1 d2 a c fs) (hb : base' ≤ base) : GetOwn w base' ws gs b1 b2 d1 d2 a c fs := by
  obtain ⟨n, h1, h2, h3, h4, h5⟩ := h.up
  exact ⟨owns_base h.o1 hb, owns_base h.o2 hb, h.ap, n, by omega, h2, h3, h4, h5⟩
theorem GetOwn.keep {w w' : World} {base lo hi lo2 hi2 : Nat} {ws gs : List Int} {b1 b2 : Option Addr} {d1 d2 : Nat} {a : Option Addr} {c : Nat} {fs : List EqV} (h : GetOwn w base ws gs b1 b2 d1 d2 a c fs) (hi' : GIn lo2 hi2 b1 b2 a ws.length gs.length d1 d2 c fs) (k : KeepOut w w' lo hi) (ho : hi2 ≤ lo ∨ hi ≤ lo2) : GetOwn w' base ws gs b1 b2 d1 d2 a c fs := by
  obtain ⟨n, h1, h2, h3, h4, h5⟩ := h.up
  exact ⟨k.owns h.o1 (fun j hj => by have := hi'.l1 j hj; omega), k.owns h.o2 (fun j hj => by have := hi'.l2 j hj; omega), h.ap, n, h1, h2, h3, k.owns h4 (fun j hj => by have := hi'.le j hj; omega), k.rows h5 (fun f hf j hj => by have := hi'.lr f hf j hj; omega)⟩
/-- A getting as it was marked. -/
structure GMk (w : World) (k : Nat) (b1 b2 a : Option Addr) (n1 n2 : Nat) (fs : List EqV) : Prop where
  i1 : IntsAt w b1 (marks k n1)
  i2 : IntsAt w b2 (marks ((k : Int) + n1) n2)
  eq : EqsAt w a (mkE (k + n1 + n2) fs)
theorem GMk.below {w w' : World} {k : Nat} {b1 b2 a : Option Addr} {n1 n2 : Nat} {fs : List EqV} (h : GMk w k b1 b2 a n1 n2 fs) (hb : Below w.heap.size w w') : GMk w' k b1 b2 a n1 n2 fs :=
  ⟨h.i1.below hb, h.i2.below hb, h.eq.below hb⟩

set_option maxRecDepth 100000 in
set_option maxHeartbeats 4000000 in
theorem markGetting_at (base : Nat) (L S C Z : Int) (ws gs : List Int) (b1 b2 a : Option Addr) (d1 d2 c : Nat) (fs : List EqV) (k : Nat) (w : World) (h : GetOwn w base ws gs b1 b2 d1 d2 a c fs) (hap : RowsAp fs) (hb : base ≤ w.heap.size) (h1 : ws.length ≤ 1048576) (h2 : gs.length ≤ 1048576) (hl : fs.length ≤ 1048576) (hsm : ∀ f ∈ fs, f.r.length ≤ 1048576) (k0 : 0 < k) (k1 : k ≤ 1000) :
    Calls Tryz.prog 36 #[.agg #[.int .i64 L, .int .i64 S, .slice b1 ws.length d1, .slice b2 gs.length d2, .int .i64 C, .int .i64 Z, .slice a fs.length c], .int .i64 k] w fun e w' => e = .returned (.int .i64 ((k + ws.length + gs.length + cntE fs : Nat) : Int)) ∧ GMk w' k b1 b2 a ws.length gs.length fs ∧ (∀ lo hi, GIn lo hi b1 b2 a ws.length gs.length d1 d2 c fs → KeepOut w w' lo hi) ∧ Below base w w' := by
  have hcl := cntE_le hsm
  have HX := hid (laid w #[.int .i64 L, .int .i64 S, .slice b1 ws.length d1, .slice b2 gs.length d2, .int .i64 C, .int .i64 Z, .slice a fs.length c] 38)
  have HB := hid (u_b1 w (.cells #[.int .i64 L, .int .i64 S, .slice b1 ws.length d1, .slice b2 gs.length d2, .int .i64 C, .int .i64 Z, .slice a fs.length c] 38))
  have HI := hid h.in'
  have H := hid (h.below HB.out)
  have HS := hid hsm
  clear h hsm
  obtain ⟨W0, hW0⟩ : ∃ W0, W0 = w.alloc (.cells #[.int .i64 L, .int .i64 S, .slice b1 ws.length d1, .slice b2 gs.length d2, .int .i64 C, .int .i64 Z, .slice a fs.length c] 38) := ⟨_, rfl⟩
  have hs0 : w.heap.size + 1 ≤ W0.heap.size := by rw [hW0]; simp
  rw [← hW0] at HX HB H
  go_enter Tryz.func36, Tryz.ntmps36
  repeat ((fail_if_success (with_reducible show Code.wp _ (Code.region 1 _ _) _ _ _)); (first | go_values | go_skip | go_guarded | go_step | go_upon | go_back | go_simp))
  rw [← hW0]
  clear hW0
  have q0 := box_cell HX.out 0 (v := .int .i64 L) rfl
  have q1 := box_cell HX.out 1 (v := .int .i64 S) rfl
  have q2 := box_cell HX.out 2 (v := .slice b1 ws.length d1) rfl
  have q3 := box_cell HX.out 3 (v := .slice b2 gs.length d2) rfl
  go_wp2_with fail
  refine (markPlan_any base L S b1 b2 d1 d2 ws gs (k : Int) _ H.out.o1 H.out.o2 H.out.ap (by omega) h1 h2 (by omega) (by omega)).mono ?_
  rintro e w1 ⟨rfl, m1, m2, bb, kk⟩
  have KK := hid kk
  have M1 := hid m1
  have M2 := hid m2
  have hs1 := bb.size
  have HX1 := hid ((KK.out _ (lt_of_block HX.out) (fun e => by have := HI.out.l1 _ e; omega) (fun e => by have := HI.out.l2 _ e; omega)).trans HX.out)
  have BB := hid (show Below base w w1 from (HB.out.mono hb).trans bb)
  obtain ⟨n, u1, u2, u3, u4, u5⟩ := H.out.up
  have O4 := hid (u_owns u4 (fun j e => KK.out j (u4.lt j e).2 (fun e2 => by have := u2 j e2; have := u4.lt j e; omega) (fun e2 => by have := u3 j e2; have := u4.lt j e; omega)))
  have R4 := hid (show RowsOwn w1 n fs from fun f hf => u_owns (u5 f hf) (fun j e => KK.out j ((u5 f hf).lt j e).2 (fun e2 => by have := u2 j e2; have := (u5 f hf).lt j e; omega) (fun e2 => by have := u3 j e2; have := (u5 f hf).lt j e; omega)))
  have U2 := hid u2
  have U3 := hid u3
  have U4 := hid (fun j e => (u4.lt j e).1)
  have U5 := hid (fun f hf j e => ((u5 f hf).lt j e).1)
  have U1 := hid u1
  have hs1' : W0.heap.size ≤ w1.heap.size := hs1
  clear kk m1 m2 bb q0 q1 q2 q3 u1 u2 u3 u4 u5 hs1
  have q4 := box_cell HX1.out 4 (v := .int .i64 C) rfl
  have q5 := box_cell HX1.out 5 (v := .int .i64 Z) rfl
  have q6 := box_cell HX1.out 6 (v := .slice a fs.length c) rfl
  have K := markSolver_any base C Z a c fs (k + ws.length + gs.length) w1 (owns_base O4.out U1.out) (R4.out.mono U1.out) hap hl HS.out (by omega) (by omega) (by omega)
  rw [show (((k + ws.length + gs.length : Nat) : Int)) = (k : Int) + ws.length + gs.length by omega] at K
  replace K := hid K
  go_wp2_with fail
  refine K.out.mono ?_
  rintro e w2 ⟨rfl, o2, r2, bq, k2⟩
  have K2 := hid k2
  have N1 := hid (show ∀ j, (.slice b1 ws.length d1 : Value).ownBlock = some j → w2.heap[j]? = w1.heap[j]? from fun j e => K2.out j (M1.out.lt j e).2 (fun e2 => by have := U4.out j e2; have := U2.out j e; omega) (fun f hf e2 => by have := U5.out f hf j e2; have := U2.out j e; omega))
  have N2 := hid (show ∀ j, (.slice b2 gs.length d2 : Value).ownBlock = some j → w2.heap[j]? = w1.heap[j]? from fun j e => K2.out j (M2.out.lt j e).2 (fun e2 => by have := U4.out j e2; have := U3.out j e; omega) (fun f hf e2 => by have := U5.out f hf j e2; have := U3.out j e; omega))
  have G1 := hid (owns_at (u_owns M1.out N1.out))
  have G2 := hid (owns_at (u_owns M2.out N2.out))
  have G3 := hid (eqs_at (by rw [← mkE_len fs (k + ws.length + gs.length)] at o2; exact o2) r2)
  have BK := hid (BB.out.trans bq)
  have KO := hid (show ∀ lo hi, GIn lo hi b1 b2 a ws.length gs.length d1 d2 c fs → KeepOut w w2 lo hi from fun lo hi hi' g hg ho => by
    have e1 := k2 g (by omega) (fun e => by have := hi'.le g e; omega) (fun f hf e => by have := hi'.lr f hf g e; omega)
    have e2 := KK.out g (by omega) (fun e => by have := hi'.l1 g e; omega) (fun e => by have := hi'.l2 g e; omega)
    exact (e1.trans e2).trans (HB.out.block g hg))
  clear o2 r2 bq k2 K q4 q5 q6
  go_wp2_with fail
  go_ret
  exact ⟨rfl, ⟨G1.out, G2.out, G3.out⟩, KO.out, BK.out⟩
end Go.Proofs.YtbakicgdloakgaaGreatDoor
namespace Go.Proofs.YtbakicgdloakgaaGreatDoor
open Go.ChangeShapes Go.WideShapes Go.ChangeAt Go.RowKit Go.Sort Go.Shelf
attribute [local go_sem] Oper.semAt_some

set_option maxRecDepth 100000 in
set_option maxHeartbeats 4000000 in
theorem markClient_at (base : Nat) (i t s ed : Int) (nm : ByteArray) (L S C Z : Int) (ws gs : List Int) (b1 b2 a : Option Addr) (d1 d2 c : Nat) (fs : List EqV) (k : Nat) (w : World) (h : GetOwn w base ws gs b1 b2 d1 d2 a c fs) (hap : RowsAp fs) (hb : base ≤ w.heap.size) (h1 : ws.length ≤ 1048576) (h2 : gs.length ≤ 1048576) (hl : fs.length ≤ 1048576) (hsm : ∀ f ∈ fs, f.r.length ≤ 1048576) (k0 : 0 < k) (k1 : k ≤ 1000) :
    Calls Tryz.prog 13 #[.agg #[.int .i64 i, .int .i64 t, .int .i64 s, .string nm, .int .i64 ed, .int .i64 L, .int .i64 S, .slice b1 ws.length d1, .slice b2 gs.length d2, .int .i64 C, .int .i64 Z, .slice a fs.length c], .int .i64 k] w fun e w' => e = .returned (.int .i64 ((k + ws.length + gs.length + cntE fs : Nat) : Int)) ∧ GMk w' k b1 b2 a ws.length gs.length fs ∧ (∀ lo hi, GIn lo hi b1 b2 a ws.length gs.length d1 d2 c fs → KeepOut w w' lo hi) ∧ Below base w w' := by
  obtain ⟨W0, hW0⟩ : ∃ W0, W0 = w.alloc (.cells #[.int .i64 i, .int .i64 t, .int .i64 s, .string nm, .int .i64 ed, .int .i64 L, .int .i64 S, .slice b1 ws.length d1, .slice b2 gs.length d2, .int .i64 C, .int .i64 Z, .slice a fs.length c] 40) := ⟨_, rfl⟩
  have X := hid (show W0.heap[w.heap.size]? = some (.cells #[.int .i64 i, .int .i64 t, .int .i64 s, .string nm, .int .i64 ed, .int .i64 L, .int .i64 S, .slice b1 ws.length d1, .slice b2 gs.length d2, .int .i64 C, .int .i64 Z, .slice a fs.length c] 40 (0, 0)) by rw [hW0]; exact laid _ _ _)
  have B0 := hid (show Below w.heap.size w W0 by rw [hW0]; exact u_b1 _ _)
  have hs0 : w.heap.size ≤ W0.heap.size := B0.out.size
  have H := hid (h.below B0.out)
  have HS := hid hsm
  clear h hsm
  have y0 := box_cell X.out 0 (v := .int .i64 i) rfl
  have y1 := box_cell X.out 1 (v := .int .i64 t) rfl
  have y2 := box_cell X.out 2 (v := .int .i64 s) rfl
  have y3 := box_cell X.out 3 (v := .string nm) rfl
  have y4 := box_cell X.out 4 (v := .int .i64 ed) rfl
  have y5 := box_cell X.out 5 (v := .int .i64 L) rfl
  have y6 := box_cell X.out 6 (v := .int .i64 S) rfl
  have y7 := box_cell X.out 7 (v := .slice b1 ws.length d1) rfl
  have y8 := box_cell X.out 8 (v := .slice b2 gs.length d2) rfl
  have y9 := box_cell X.out 9 (v := .int .i64 C) rfl
  have y10 := box_cell X.out 10 (v := .int .i64 Z) rfl
  have y11 := box_cell X.out 11 (v := .slice a fs.length c) rfl
  go_enter Tryz.func13, Tryz.ntmps13
  repeat ((fail_if_success (with_reducible show Code.wp _ (Code.region 1 _ _) _ _ _)); (first | go_values | go_skip | go_guarded | go_step | go_upon | go_back | go_simp))
  rw [← hW0]
  clear hW0
  go_wp2_with fail
  refine (markGetting_at base L S C Z ws gs b1 b2 a d1 d2 c fs k W0 H.out hap (by omega) h1 h2 hl HS.out k0 k1).mono ?_
  rintro e w1 ⟨rfl, m, ko, bb⟩
  have M := hid m
  have KO := hid (show ∀ lo hi, GIn lo hi b1 b2 a ws.length gs.length d1 d2 c fs → KeepOut w w1 lo hi from fun lo hi hi' g hg ho => (ko lo hi hi' g (by omega) ho).trans (B0.out.block g hg))
  have B := hid ((B0.out.mono hb).trans bb)
  clear m ko bb
  clear y0 y1 y2 y3 y4 y5 y6 y7 y8 y9 y10 y11
  go_wp2_with fail
  go_ret
  exact ⟨rfl, M.out, KO.out, B.out⟩
end Go.Proofs.YtbakicgdloakgaaGreatDoor
