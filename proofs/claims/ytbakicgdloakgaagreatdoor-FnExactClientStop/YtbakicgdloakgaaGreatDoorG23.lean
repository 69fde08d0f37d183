/- Gettings that the call owns: kept, marked, held, as the laws do it. Clients that the call owns: marked, held, as the laws do it. Clients laid anew, their rows apart, as the laws do it. -/
import Derived.Test.YtbakicgdloakgaaGreatDoorG17
import Derived.Test.YtbakicgdloakgaaGreatDoorG19
import Derived.Test.YtbakicgdloakgaaGreatDoorG6
import Derived.Test.YtbakicgdloakgaaGreatDoorG18
namespace Go.Proofs.YtbakicgdloakgaaGreatDoor
open Go.ChangeShapes Go.WideShapes Go.ChangeAt Go.RowKit Go.Sort Go.Shelf
attribute [local go_sem] Oper.semAt_some

/-- A getting that can be read. -/
structure GAt (w : World) (a1 a2 a : Option Addr) (ws gs : List Int) (es : List EqV) : Prop where
  i1 : IntsAt w a1 ws
  i2 : IntsAt w a2 gs
  eq : EqsAt w a es
theorem GAt.below {w w' : World} {a1 a2 a : Option Addr} {ws gs : List Int} {es : List EqV} (h : GAt w a1 a2 a ws gs es) (hb : Below w.heap.size w w') : GAt w' a1 a2 a ws gs es :=
  ⟨h.i1.below hb, h.i2.below hb, h.eq.below hb⟩
/-- Where it lies. -/
structure GIn (lo hi : Nat) (b1 b2 a : Option Addr) (n1 n2 d1 d2 c : Nat) (fs : List EqV) : Prop where
  l1 : ∀ k, (.slice b1 n1 d1 : Value).ownBlock = some k → lo ≤ k ∧ k < hi
  l2 : ∀ k, (.slice b2 n2 d2 : Value).ownBlock = some k → lo ≤ k ∧ k < hi
  le : ∀ k, (.slice a fs.length c : Value).ownBlock = some k → lo ≤ k ∧ k < hi
  lr : ∀ f ∈ fs, ∀ k, (rowV f).ownBlock = some k → lo ≤ k ∧ k < hi
theorem GetOwn.at' {w : World} {base : Nat} {ws gs : List Int} {b1 b2 : Option Addr} {d1 d2 : Nat} {a : Option Addr} {c : Nat} {fs : List EqV} (h : GetOwn w base ws gs b1 b2 d1 d2 a c fs) : GAt w b1 b2 a ws gs fs :=
  ⟨owns_at h.o1, owns_at h.o2, h.eqs⟩
theorem GetOwn.in' {w : World} {base : Nat} {ws gs : List Int} {b1 b2 : Option Addr} {d1 d2 : Nat} {a : Option Addr} {c : Nat} {fs : List EqV} (h : GetOwn w base ws gs b1 b2 d1 d2 a c fs) : GIn base w.heap.size b1 b2 a ws.length gs.length d1 d2 c fs := by
  obtain ⟨n, hn, _, _, h1, h2⟩ := h.up
  refine ⟨h.o1.lt, h.o2.lt, fun k hk => ?_, fun f hf k hk => ?_⟩
  · have := h1.lt k hk; omega
  · have := (h2 f hf).lt k hk; omega
theorem GetOwn.below {w w' : World} {base : Nat} {ws gs : List Int} {b1 b2 : Option Addr} {d1 d2 : Nat} {a : Option Addr} {c : Nat} {fs : List EqV} (h : GetOwn w base ws gs b1 b2 d1 d2 a c fs) (hb : Below w.heap.size w w') : GetOwn w' base ws gs b1 b2 d1 d2 a c fs := by
  obtain ⟨n, h1, h2, h3, h4, h5⟩ := h.up
  exact ⟨owns_below h.o1 hb, owns_below h.o2 hb, h.ap, n, h1, h2, h3, owns_below h4 hb, h5.below hb⟩
theorem GetOwn.mono {w : World} {base base' : Nat} {ws gs : List Int} {b1 b2 : Option Addr} {d1 d2 : Nat} {a : Option Addr} {c : Nat} {fs : List EqV} (h : GetOwn w base ws gs b1 b2 d1 d2 a c fs) (hb : base' ≤ base) : GetOwn w base' ws gs b1 b2 d1 d2 a c fs := by
  obtain ⟨n, h1, h2, h3, h4, h5⟩ := h.up
  exact ⟨owns_base h.o1 hb, owns_base h.o2 hb, h.ap, n, by omega, h2, h3, h4, h5⟩
theorem GetOwn.keep {w w' : World} {base lo hi lo2 hi2 : Nat} {ws gs : List Int} {b1 b2 : Option Addr} {d1 d2 : Nat} {a : Option Addr} {c : Nat} {fs : List EqV} (h : GetOwn w base ws gs b1 b2 d1 d2 a c fs) (hi' : GIn lo2 hi2 b1 b2 a ws.length gs.length d1 d2 c fs) (k : KeepOut w w' lo hi) (ho : hi2 ≤ lo ∨ hi ≤ lo2) : GetOwn w' base ws gs b1 b2 d1 d2 a c fs := by
  obtain ⟨n, h1, h2, h3, h4, h5⟩ := h.up
  exact ⟨k.owns h.o1 (fun j hj => by have := hi'.l1 j hj; omega), k.owns h.o2 (fun j hj => by have := hi'.l2 j hj; omega), h.ap, n, h1, h2, h3, k.owns h4 (fun j hj => by have := hi'.le j hj; omega), k.rows h5 (fun f hf j hj => by have := hi'.lr f hf j hj; omega)⟩
theorem own_nil (w : World) (base : Nat) : GetOwn w base [] [] none none 0 0 none 0 [] :=
  ⟨⟨rfl, .inl ⟨rfl, rfl⟩⟩, ⟨rfl, .inl ⟨rfl, rfl⟩⟩, ⟨fun k hk => (by cases hk), fun k hk => (by cases hk)⟩, base, Nat.le_refl _, (fun k hk => by cases hk), (fun k hk => by cases hk), ⟨rfl, .inl ⟨rfl, rfl⟩⟩, fun f hf => by simp at hf⟩

/-- A getting as it was marked. -/
structure GMk (w : World) (k : Nat) (b1 b2 a : Option Addr) (n1 n2 : Nat) (fs : List EqV) : Prop where
  i1 : IntsAt w b1 (marks k n1)
  i2 : IntsAt w b2 (marks ((k : Int) + n1) n2)
  eq : EqsAt w a (mkE (k + n1 + n2) fs)
theorem GMk.below {w w' : World} {k : Nat} {b1 b2 a : Option Addr} {n1 n2 : Nat} {fs : List EqV} (h : GMk w k b1 b2 a n1 n2 fs) (hb : Below w.heap.size w w') : GMk w' k b1 b2 a n1 n2 fs :=
  ⟨h.i1.below hb, h.i2.below hb, h.eq.below hb⟩

set_option maxRecDepth 100000 in
set_option maxHeartbeats 2000000 in
theorem heldGetting_at (L S C Z : Int) (b1 b2 a : Option Addr) (n1 n2 d1 d2 c : Nat) (fs : List EqV) (k : Nat) (w : World) (h : GMk w k b1 b2 a n1 n2 fs) (h1 : n1 ≤ 1048576) (h2 : n2 ≤ 1048576) (hl : fs.length ≤ 1048576) (hsm : ∀ f ∈ fs, f.r.length ≤ 1048576) (k0 : 0 < k) (k1 : k ≤ 1000) :
    Calls Tryz.prog 38 #[.agg #[.int .i64 L, .int .i64 S, .slice b1 n1 d1, .slice b2 n2 d2, .int .i64 C, .int .i64 Z, .slice a fs.length c], .int .i64 k] w fun e w' => e = .returned (.int .i64 ((k + n1 + n2 + cntE fs : Nat) : Int)) ∧ Below w.heap.size w w' := by
  have hcl := cntE_le hsm
  have HX := hid (laid w #[.int .i64 L, .int .i64 S, .slice b1 n1 d1, .slice b2 n2 d2, .int .i64 C, .int .i64 Z, .slice a fs.length c] 38)
  have HB := hid (u_b1 w (.cells #[.int .i64 L, .int .i64 S, .slice b1 n1 d1, .slice b2 n2 d2, .int .i64 C, .int .i64 Z, .slice a fs.length c] 38))
  have H := hid (h.below HB.out)
  have HS := hid hsm
  clear h hsm
  obtain ⟨W0, hW0⟩ : ∃ W0, W0 = w.alloc (.cells #[.int .i64 L, .int .i64 S, .slice b1 n1 d1, .slice b2 n2 d2, .int .i64 C, .int .i64 Z, .slice a fs.length c] 38) := ⟨_, rfl⟩
  rw [← hW0] at HX HB H
  go_enter Tryz.func38, Tryz.ntmps38
  repeat ((fail_if_success (with_reducible show Code.wp _ (Code.region 1 _ _) _ _ _)); (first | go_values | go_skip | go_guarded | go_step | go_upon | go_back | go_simp))
  rw [← hW0]
  clear hW0
  have q0 := box_cell HX.out 0 (v := .int .i64 L) rfl
  have q1 := box_cell HX.out 1 (v := .int .i64 S) rfl
  have q2 := box_cell HX.out 2 (v := .slice b1 n1 d1) rfl
  have q3 := box_cell HX.out 3 (v := .slice b2 n2 d2) rfl
  go_wp2_with fail
  refine (heldPlan_any L S b1 b2 n1 n2 d1 d2 (k : Int) _ H.out.i1 H.out.i2 h1 h2 (by omega) (by omega)).mono ?_
  rintro e w1 ⟨rfl, bb⟩
  have HX1 := hid (kept HX.out bb)
  have HB1 := hid (u_cat HB.out bb)
  have H1 := hid (H.out.below bb)
  have hnn : ¬ ((k : Int) + n1 + n2 < 0) := by omega
  clear bb q0 q1 q2 q3 HX HB H
  have q4 := box_cell HX1.out 4 (v := .int .i64 C) rfl
  have q5 := box_cell HX1.out 5 (v := .int .i64 Z) rfl
  have q6 := box_cell HX1.out 6 (v := .slice a fs.length c) rfl
  have K := heldSolver_any C Z a c fs (k + n1 + n2) w1 H1.out.eq hl HS.out (by omega) (by omega)
  rw [show (((k + n1 + n2 : Nat) : Int)) = (k : Int) + n1 + n2 by omega] at K
  have K := hid K
  go_wp2_with fail
  refine K.out.mono ?_
  rintro e w2 ⟨rfl, bb⟩
  have B2 := hid (u_cat HB1.out bb)
  have hn2 : ¬ (((k + n1 + n2 + cntE fs : Nat) : Int) < 0) := by omega
  clear bb K q4 q5 q6
  go_wp2_with fail
  go_ret
  exact ⟨rfl, B2.out⟩

set_option maxRecDepth 100000 in
set_option maxHeartbeats 4000000 in
theorem markGetting_at (base : Nat) (L S C Z : Int) (ws gs : List Int) (b1 b2 a : Option Addr) (d1 d2 c : Nat) (fs : List EqV) (k : Nat) (w : World) (h : GetOwn w base ws gs b1 b2 d1 d2 a c fs) (hap : RowsAp fs) (hb : base ≤ w.heap.size) (h1 : ws.length ≤ 1048576) (h2 : gs.length ≤ 1048576) (hl : fs.length ≤ 1048576) (hsm : ∀ f ∈ fs, f.r.length ≤ 1048576) (k0 : 0 < k) (k1 : k ≤ 1000) :
    Calls Tryz.prog 36 #[.agg #[.int .i64 L, .int .i64 S, .slice b1 ws.length d1, .slice b2 gs.length d2, .int .i64 C, .int .i64 Z, .slice a fs.length c], .int .i64 k] w fun e w' => e = .returned (.int .i64 ((k + ws.length + gs.length + cntE fs : Nat) : Int)) ∧ GMk w' k b1 b2 a ws.length gs.length fs ∧ (∀ lo hi, GIn lo hi b1 b2 a ws.length gs.length d1 d2 c fs → KeepOut w w' lo hi) ∧ Below base w w' := by
  have hcl := cntE_le hsm
  have HX := hid (laid w #[.int .i64 L, .int .i64 S, .slice b1 ws.length d1, .slice b2 gs.length d2, .int .i64 C, .int .i64 Z, .slice a fs.length c] 38)
  have HB := hid (u_b1 w (.cells #[.int .i64 L, .int .i64 S, .slice b1 ws.length d1, .slice b2 gs.length d2, .int .i64 C, .int .i64 Z, .slice a fs.length c] 38))
  have HI := hid h.in'
  have H := hid (h.below HB.out)
  have HS := hid hsm
  clear h hsm
  obtain ⟨W0, hW0⟩ : ∃ W0, W0 = w.alloc (.cells #[.int .i64 L, .int .i64 S, .slice b1 ws.length d1, .slice b2 gs.length d2, .int .i64 C, .int .i64 Z, .slice a fs.length c] 38) := ⟨_, rfl⟩
  have hs0 : w.heap.size + 1 ≤ W0.heap.size := by rw [hW0]; simp
  rw [← hW0] at HX HB H
  go_enter Tryz.func36, Tryz.ntmps36
  repeat ((fail_if_success (with_reducible show Code.wp _ (Code.region 1 _ _) _ _ _)); (first | go_values | go_skip | go_guarded | go_step | go_upon | go_back | go_simp))
  rw [← hW0]
  clear hW0
  have q0 := box_cell HX.out 0 (v := .int .i64 L) rfl
  have q1 := box_cell HX.out 1 (v := .int .i64 S) rfl
  have q2 := box_cell HX.out 2 (v := .slice b1 ws.length d1) rfl
  have q3 := box_cell HX.out 3 (v := .slice b2 gs.length d2) rfl
  go_wp2_with fail
  refine (markPlan_any base L S b1 b2 d1 d2 ws gs (k : Int) _ H.out.o1 H.out.o2 H.out.ap (by omega) h1 h2 (by omega) (by omega)).mono ?_
  rintro e w1 ⟨rfl, m1, m2, bb, kk⟩
  have KK := hid kk
  have M1 := hid m1
  have M2 := hid m2
  have hs1 := bb.size
  have HX1 := hid ((KK.out _ (lt_of_block HX.out) (fun e => by have := HI.out.l1 _ e; omega) (fun e => by have := HI.out.l2 _ e; omega)).trans HX.out)
  have BB := hid (show Below base w w1 from (HB.out.mono hb).trans bb)
  obtain ⟨n, u1, u2, u3, u4, u5⟩ := H.out.up
  have O4 := hid (u_owns u4 (fun j e => KK.out j (u4.lt j e).2 (fun e2 => by have := u2 j e2; have := u4.lt j e; omega) (fun e2 => by have := u3 j e2; have := u4.lt j e; omega)))
  have R4 := hid (show RowsOwn w1 n fs from fun f hf => u_owns (u5 f hf) (fun j e => KK.out j ((u5 f hf).lt j e).2 (fun e2 => by have := u2 j e2; have := (u5 f hf).lt j e; omega) (fun e2 => by have := u3 j e2; have := (u5 f hf).lt j e; omega)))
  have U2 := hid u2
  have U3 := hid u3
  have U4 := hid (fun j e => (u4.lt j e).1)
  have U5 := hid (fun f hf j e => ((u5 f hf).lt j e).1)
  have U1 := hid u1
  have hs1' : W0.heap.size ≤ w1.heap.size := hs1
  clear kk m1 m2 bb q0 q1 q2 q3 u1 u2 u3 u4 u5 hs1
  have q4 := box_cell HX1.out 4 (v := .int .i64 C) rfl
  have q5 := box_cell HX1.out 5 (v := .int .i64 Z) rfl
  have q6 := box_cell HX1.out 6 (v := .slice a fs.length c) rfl
  have K := markSolver_any base C Z a c fs (k + ws.length + gs.length) w1 (owns_base O4.out U1.out) (R4.out.mono U1.out) hap hl HS.out (by omega) (by omega) (by omega)
  rw [show (((k + ws.length + gs.length : Nat) : Int)) = (k : Int) + ws.length + gs.length by omega] at K
  replace K := hid K
  go_wp2_with fail
  refine K.out.mono ?_
  rintro e w2 ⟨rfl, o2, r2, bq, k2⟩
  have K2 := hid k2
  have N1 := hid (show ∀ j, (.slice b1 ws.length d1 : Value).ownBlock = some j → w2.heap[j]? = w1.heap[j]? from fun j e => K2.out j (M1.out.lt j e).2 (fun e2 => by have := U4.out j e2; have := U2.out j e; omega) (fun f hf e2 => by have := U5.out f hf j e2; have := U2.out j e; omega))
  have N2 := hid (show ∀ j, (.slice b2 gs.length d2 : Value).ownBlock = some j → w2.heap[j]? = w1.heap[j]? from fun j e => K2.out j (M2.out.lt j e).2 (fun e2 => by have := U4.out j e2; have := U3.out j e; omega) (fun f hf e2 => by have := U5.out f hf j e2; have := U3.out j e; omega))
  have G1 := hid (owns_at (u_owns M1.out N1.out))
  have G2 := hid (owns_at (u_owns M2.out N2.out))
  have G3 := hid (eqs_at (by rw [← mkE_len fs (k + ws.length + gs.length)] at o2; exact o2) r2)
  have BK := hid (BB.out.trans bq)
  have KO := hid (show ∀ lo hi, GIn lo hi b1 b2 a ws.length gs.length d1 d2 c fs → KeepOut w w2 lo hi from fun lo hi hi' g hg ho => by
    have e1 := k2 g (by omega) (fun e => by have := hi'.le g e; omega) (fun f hf e => by have := hi'.lr f hf g e; omega)
    have e2 := KK.out g (by omega) (fun e => by have := hi'.l1 g e; omega) (fun e => by have := hi'.l2 g e; omega)
    exact (e1.trans e2).trans (HB.out.block g hg))
  clear o2 r2 bq k2 K q4 q5 q6
  go_wp2_with fail
  go_ret
  exact ⟨rfl, ⟨G1.out, G2.out, G3.out⟩, KO.out, BK.out⟩
end Go.Proofs.YtbakicgdloakgaaGreatDoor
namespace Go.Proofs.YtbakicgdloakgaaGreatDoor
open Go.ChangeShapes Go.WideShapes Go.ChangeAt Go.RowKit Go.Sort Go.Shelf
attribute [local go_sem] Oper.semAt_some

set_option maxRecDepth 100000 in
set_option maxHeartbeats 2000000 in
theorem heldClient_at (i t s ed : Int) (nm : ByteArray) (L S C Z : Int) (b1 b2 a : Option Addr) (n1 n2 d1 d2 c : Nat) (fs : List EqV) (k : Nat) (w : World) (h : GMk w k b1 b2 a n1 n2 fs) (h1 : n1 ≤ 1048576) (h2 : n2 ≤ 1048576) (hl : fs.length ≤ 1048576) (hsm : ∀ f ∈ fs, f.r.length ≤ 1048576) (k0 : 0 < k) (k1 : k ≤ 1000) :
    Calls Tryz.prog 15 #[.agg #[.int .i64 i, .int .i64 t, .int .i64 s, .string nm, .int .i64 ed, .int .i64 L, .int .i64 S, .slice b1 n1 d1, .slice b2 n2 d2, .int .i64 C, .int .i64 Z, .slice a fs.length c], .int .i64 k] w fun e w' => e = .returned (.int .i64 ((k + n1 + n2 + cntE fs : Nat) : Int)) ∧ Below w.heap.size w w' := by
  have hcl := cntE_le hsm
  have hnn : ¬ (((k + n1 + n2 + cntE fs : Nat) : Int) < 0) := by omega
  obtain ⟨W0, hW0⟩ : ∃ W0, W0 = w.alloc (.cells #[.int .i64 i, .int .i64 t, .int .i64 s, .string nm, .int .i64 ed, .int .i64 L, .int .i64 S, .slice b1 n1 d1, .slice b2 n2 d2, .int .i64 C, .int .i64 Z, .slice a fs.length c] 40) := ⟨_, rfl⟩
  have X := hid (show W0.heap[w.heap.size]? = some (.cells #[.int .i64 i, .int .i64 t, .int .i64 s, .string nm, .int .i64 ed, .int .i64 L, .int .i64 S, .slice b1 n1 d1, .slice b2 n2 d2, .int .i64 C, .int .i64 Z, .slice a fs.length c] 40 (0, 0)) by rw [hW0]; exact laid _ _ _)
  have B0 := hid (show Below w.heap.size w W0 by rw [hW0]; exact u_b1 _ _)
  have hs0 : w.heap.size ≤ W0.heap.size := B0.out.size
  have H := hid (h.below B0.out)
  have HS := hid hsm
  clear h hsm
  have y0 := box_cell X.out 0 (v := .int .i64 i) rfl
  have y1 := box_cell X.out 1 (v := .int .i64 t) rfl
  have y2 := box_cell X.out 2 (v := .int .i64 s) rfl
  have y3 := box_cell X.out 3 (v := .string nm) rfl
  have y4 := box_cell X.out 4 (v := .int .i64 ed) rfl
  have y5 := box_cell X.out 5 (v := .int .i64 L) rfl
  have y6 := box_cell X.out 6 (v := .int .i64 S) rfl
  have y7 := box_cell X.out 7 (v := .slice b1 n1 d1) rfl
  have y8 := box_cell X.out 8 (v := .slice b2 n2 d2) rfl
  have y9 := box_cell X.out 9 (v := .int .i64 C) rfl
  have y10 := box_cell X.out 10 (v := .int .i64 Z) rfl
  have y11 := box_cell X.out 11 (v := .slice a fs.length c) rfl
  go_enter Tryz.func15, Tryz.ntmps15
  repeat ((fail_if_success (with_reducible show Code.wp _ (Code.region 1 _ _) _ _ _)); (first | go_values | go_skip | go_guarded | go_step | go_upon | go_back | go_simp))
  rw [← hW0]
  clear hW0
  go_wp2_with fail
  refine (heldGetting_at L S C Z b1 b2 a n1 n2 d1 d2 c fs k W0 H.out h1 h2 hl HS.out k0 k1).mono ?_
  rintro e w1 ⟨rfl, bb⟩
  have B := hid (u_cat B0.out bb)
  clear bb
  clear y0 y1 y2 y3 y4 y5 y6 y7 y8 y9 y10 y11
  go_wp2_with fail
  go_ret
  exact ⟨rfl, B.out⟩

set_option maxRecDepth 100000 in
set_option maxHeartbeats 4000000 in
theorem markClient_at (base : Nat) (i t s ed : Int) (nm : ByteArray) (L S C Z : Int) (ws gs : List Int) (b1 b2 a : Option Addr) (d1 d2 c : Nat) (fs : List EqV) (k : Nat) (w : World) (h : GetOwn w base ws gs b1 b2 d1 d2 a c fs) (hap : RowsAp fs) (hb : base ≤ w.heap.size) (h1 : ws.length ≤ 1048576) (h2 : gs.length ≤ 1048576) (hl : fs.length ≤ 1048576) (hsm : ∀ f ∈ fs, f.r.length ≤ 1048576) (k0 : 0 < k) (k1 : k ≤ 1000) :
    Calls Tryz.prog 13 #[.agg #[.int .i64 i, .int .i64 t, .int .i64 s, .string nm, .int .i64 ed, .int .i64 L, .int .i64 S, .slice b1 ws.length d1, .slice b2 gs.length d2, .int .i64 C, .int .i64 Z, .slice a fs.length c], .int .i64 k] w fun e w' => e = .returned (.int .i64 ((k + ws.length + gs.length + cntE fs : Nat) : Int)) ∧ GMk w' k b1 b2 a ws.length gs.length fs ∧ (∀ lo hi, GIn lo hi b1 b2 a ws.length gs.length d1 d2 c fs → KeepOut w w' lo hi) ∧ Below base w w' := by
  obtain ⟨W0, hW0⟩ : ∃ W0, W0 = w.alloc (.cells #[.int .i64 i, .int .i64 t, .int .i64 s, .string nm, .int .i64 ed, .int .i64 L, .int .i64 S, .slice b1 ws.length d1, .slice b2 gs.length d2, .int .i64 C, .int .i64 Z, .slice a fs.length c] 40) := ⟨_, rfl⟩
  have X := hid (show W0.heap[w.heap.size]? = some (.cells #[.int .i64 i, .int .i64 t, .int .i64 s, .string nm, .int .i64 ed, .int .i64 L, .int .i64 S, .slice b1 ws.length d1, .slice b2 gs.length d2, .int .i64 C, .int .i64 Z, .slice a fs.length c] 40 (0, 0)) by rw [hW0]; exact laid _ _ _)
  have B0 := hid (show Below w.heap.size w W0 by rw [hW0]; exact u_b1 _ _)
  have hs0 : w.heap.size ≤ W0.heap.size := B0.out.size
  have H := hid (h.below B0.out)
  have HS := hid hsm
  clear h hsm
  have y0 := box_cell X.out 0 (v := .int .i64 i) rfl
  have y1 := box_cell X.out 1 (v := .int .i64 t) rfl
  have y2 := box_cell X.out 2 (v := .int .i64 s) rfl
  have y3 := box_cell X.out 3 (v := .string nm) rfl
  have y4 := box_cell X.out 4 (v := .int .i64 ed) rfl
  have y5 := box_cell X.out 5 (v := .int .i64 L) rfl
  have y6 := box_cell X.out 6 (v := .int .i64 S) rfl
  have y7 := box_cell X.out 7 (v := .slice b1 ws.length d1) rfl
  have y8 := box_cell X.out 8 (v := .slice b2 gs.length d2) rfl
  have y9 := box_cell X.out 9 (v := .int .i64 C) rfl
  have y10 := box_cell X.out 10 (v := .int .i64 Z) rfl
  have y11 := box_cell X.out 11 (v := .slice a fs.length c) rfl
  go_enter Tryz.func13, Tryz.ntmps13
  repeat ((fail_if_success (with_reducible show Code.wp _ (Code.region 1 _ _) _ _ _)); (first | go_values | go_skip | go_guarded | go_step | go_upon | go_back | go_simp))
  rw [← hW0]
  clear hW0
  go_wp2_with fail
  refine (markGetting_at base L S C Z ws gs b1 b2 a d1 d2 c fs k W0 H.out hap (by omega) h1 h2 hl HS.out k0 k1).mono ?_
  rintro e w1 ⟨rfl, m, ko, bb⟩
  have M := hid m
  have KO := hid (show ∀ lo hi, GIn lo hi b1 b2 a ws.length gs.length d1 d2 c fs → KeepOut w w1 lo hi from fun lo hi hi' g hg ho => (ko lo hi hi' g (by omega) ho).trans (B0.out.block g hg))
  have B := hid ((B0.out.mono hb).trans bb)
  clear m ko bb
  clear y0 y1 y2 y3 y4 y5 y6 y7 y8 y9 y10 y11
  go_wp2_with fail
  go_ret
  exact ⟨rfl, M.out, KO.out, B.out⟩
end Go.Proofs.YtbakicgdloakgaaGreatDoor
namespace Go.Proofs.YtbakicgdloakgaaGreatDoor
open Go.ChangeShapes Go.WideShapes Go.ChangeAt Go.RowKit Go.Sort Go.Shelf
attribute [local go_sem] Oper.semAt_some

set_option maxRecDepth 100000 in
set_option maxHeartbeats 4000000 in
theorem toClient_ap (i t s ed : Int) (nm : ByteArray) (L S : Int) (a1 a2 : Option Addr) (c1 c2 : Nat) (ws gs : List Int) (C Z : Int) (a : Option Addr) (cap : Nat) (es : List EqV) (w : World) (ha1 : IntsAt w a1 ws) (ha2 : IntsAt w a2 gs) (hx : ws.length ≤ 1048576) (hy : gs.length ≤ 1048576) (ha : EqsAt w a es) (hz : es.length ≤ 1048576) (hsm : SmallE es) :
    Calls Tryz.prog 9 #[.agg #[.int .i64 i, .int .i64 t, .int .i64 s, .string nm, .int .i64 ed, .int .i64 L, .int .i64 S, .slice a1 ws.length c1, .slice a2 gs.length c2, .int .i64 C, .int .i64 Z, .slice a es.length cap]] w fun e w' => ∃ b1 d1 b2 d2 a' c' fs, e = .returned (.agg #[.int .i64 i, .int .i64 t, .int .i64 s, .string nm, .int .i64 ed, .int .i64 L, .int .i64 S, .slice b1 ws.length d1, .slice b2 gs.length d2, .int .i64 C, .int .i64 Z, .slice a' fs.length c']) ∧ GetOwn w' w.heap.size ws gs b1 b2 d1 d2 a' c' fs ∧ SamV fs es ∧ RowsAp fs ∧ Below w.heap.size w w' := by
  have HA := hid ha
  have HS := hid hsm
  have H1 := hid ha1
  have H2 := hid ha2
  clear ha hsm ha1 ha2
  obtain ⟨W0, hW0⟩ : ∃ W0, W0 = ((w.alloc (.cells #[.int .i64 i, .int .i64 t, .int .i64 s, .string nm, .int .i64 ed, .int .i64 L, .int .i64 S, .slice a1 ws.length c1, .slice a2 gs.length c2, .int .i64 C, .int .i64 Z, .slice a es.length cap] 31)).alloc (.cells #[.int .i64 0, .int .i64 0, .int .i64 0, .string ⟨#[]⟩, .int .i64 0, .int .i64 0, .int .i64 0, .slice none 0 0, .slice none 0 0, .int .i64 0, .int .i64 0, .slice none 0 0] 40)).alloc (.cells #[.int .i64 i, .int .i64 t, .int .i64 s, .string nm, .int .i64 ed, .int .i64 0, .int .i64 0, .slice none 0 0, .slice none 0 0, .int .i64 0, .int .i64 0, .slice none 0 0] 40) := ⟨_, rfl⟩
  have B0 := hid (show Below w.heap.size w W0 by rw [hW0]; exact u_cat (u_b2 _ _ _) (u_b1 _ _))
  have hs0 : W0.heap.size = w.heap.size + 3 := by rw [hW0]; simp
  have X1 := hid (show W0.heap[w.heap.size + 1]? = some (.cells #[.int .i64 0, .int .i64 0, .int .i64 0, .string ⟨#[]⟩, .int .i64 0, .int .i64 0, .int .i64 0, .slice none 0 0, .slice none 0 0, .int .i64 0, .int .i64 0, .slice none 0 0] 40 (0, 0)) by rw [hW0]; exact kept (u_laid _ _ _ (by simp)) (u_b1 _ _))
  have X2 := hid (show W0.heap[w.heap.size + 1 + 1]? = some (.cells #[.int .i64 i, .int .i64 t, .int .i64 s, .string nm, .int .i64 ed, .int .i64 0, .int .i64 0, .slice none 0 0, .slice none 0 0, .int .i64 0, .int .i64 0, .slice none 0 0] 40 (0, 0)) by rw [hW0]; exact u_laid _ _ _ (by simp))
  go_enter Tryz.func9, Tryz.ntmps9
  go_wp2_with fail
  rw [← hW0]
  clear hW0
  refine (toGetting_ap L S a1 a2 c1 c2 ws gs C Z a cap es _ (H1.out.below B0.out) (H2.out.below B0.out) hx hy (HA.out.below B0.out) hz HS.out).mono ?_
  rintro e w1 ⟨b1, d1, b2, d2, a', c', fs, rfl, o, sm, ap, bb⟩
  have O := hid o
  have AP := hid ap
  have SM := hid sm
  have hs1 := bb.size
  replace X2 := hid (kept X2.out bb)
  replace X1 := hid (kept X1.out bb)
  have B := hid (u_cat B0.out bb)
  clear o sm ap bb
  have r0 := box_cell X2.out 0 (v := .int .i64 i) rfl
  have r1 := box_cell X2.out 1 (v := .int .i64 t) rfl
  have r2 := box_cell X2.out 2 (v := .int .i64 s) rfl
  have r3 := box_cell X2.out 3 (v := .string nm) rfl
  have r4 := box_cell X2.out 4 (v := .int .i64 ed) rfl
  have r5 := box_cell X2.out 5 (v := .int .i64 0) rfl
  have r6 := box_cell X2.out 6 (v := .int .i64 0) rfl
  have r7 := box_cell X2.out 7 (v := .slice none 0 0) rfl
  have r8 := box_cell X2.out 8 (v := .slice none 0 0) rfl
  have r9 := box_cell X2.out 9 (v := .int .i64 0) rfl
  have r10 := box_cell X2.out 10 (v := .int .i64 0) rfl
  have r11 := box_cell X2.out 11 (v := .slice none 0 0) rfl
  have z2 := box_frozen X2.out
  repeat ((fail_if_success (with_reducible show Code.wp _ (Code.region 8 _ _) _ _ _)); (first | go_values | go_skip | go_guarded | go_step | go_upon | go_back | go_simp))
  obtain ⟨V1, hV1⟩ : ∃ V1, V1 = (((((((w1.setCell ⟨w.heap.size + 1 + 1, 5, none⟩ (.int .i64 L)).setCell ⟨w.heap.size + 1 + 1, 6, none⟩ (.int .i64 S)).setCell ⟨w.heap.size + 1 + 1, 7, none⟩ (.slice b1 ws.length d1)).setCell ⟨w.heap.size + 1 + 1, 8, none⟩ (.slice b2 gs.length d2)).setCell ⟨w.heap.size + 1 + 1, 9, none⟩ (.int .i64 C)).setCell ⟨w.heap.size + 1 + 1, 10, none⟩ (.int .i64 Z)).setCell ⟨w.heap.size + 1 + 1, 11, none⟩ (.slice a' fs.length c')) := ⟨_, rfl⟩
  have hq : V1 = setsC w1 (w.heap.size + 1 + 1) [.int .i64 L, .int .i64 S, .slice b1 ws.length d1, .slice b2 gs.length d2, .int .i64 C, .int .i64 Z, .slice a' fs.length c'] 5 := hV1
  have Y2 := hid (show V1.heap[w.heap.size + 1 + 1]? = some (.cells #[.int .i64 i, .int .i64 t, .int .i64 s, .string nm, .int .i64 ed, .int .i64 L, .int .i64 S, .slice b1 ws.length d1, .slice b2 gs.length d2, .int .i64 C, .int .i64 Z, .slice a' fs.length c'] 40 (0, 0)) by rw [hq, sets_block [.int .i64 L, .int .i64 S, .slice b1 ws.length d1, .slice b2 gs.length d2, .int .i64 C, .int .i64 Z, .slice a' fs.length c'] 5 w1 #[.int .i64 i, .int .i64 t, .int .i64 s, .string nm, .int .i64 ed, .int .i64 0, .int .i64 0, .slice none 0 0, .slice none 0 0, .int .i64 0, .int .i64 0, .slice none 0 0] X2.out]; simp [setsA])
  have Y1 := hid (show V1.heap[w.heap.size + 1]? = some (.cells #[.int .i64 0, .int .i64 0, .int .i64 0, .string ⟨#[]⟩, .int .i64 0, .int .i64 0, .int .i64 0, .slice none 0 0, .slice none 0 0, .int .i64 0, .int .i64 0, .slice none 0 0] 40 (0, 0)) by rw [hq]; exact sets_other (by omega) _ _ _ X1.out)
  have YB := hid (show Below w.heap.size w V1 by rw [hq]; exact sets_below (by omega) _ _ _ B.out)
  have YO := hid (show GetOwn V1 W0.heap.size ws gs b1 b2 d1 d2 a' c' fs by rw [hq]; exact sets_own (by omega) _ _ _ O.out)
  rw [← hV1]
  clear hV1 hq X1 X2 B O r0 r1 r2 r3 r4 r5 r6 r7 r8 r9 r10 r11 z2
  have r0 := box_cell Y2.out 0 (v := .int .i64 i) rfl
  have r1 := box_cell Y2.out 1 (v := .int .i64 t) rfl
  have r2 := box_cell Y2.out 2 (v := .int .i64 s) rfl
  have r3 := box_cell Y2.out 3 (v := .string nm) rfl
  have r4 := box_cell Y2.out 4 (v := .int .i64 ed) rfl
  have r5 := box_cell Y2.out 5 (v := .int .i64 L) rfl
  have r6 := box_cell Y2.out 6 (v := .int .i64 S) rfl
  have r7 := box_cell Y2.out 7 (v := .slice b1 ws.length d1) rfl
  have r8 := box_cell Y2.out 8 (v := .slice b2 gs.length d2) rfl
  have r9 := box_cell Y2.out 9 (v := .int .i64 C) rfl
  have r10 := box_cell Y2.out 10 (v := .int .i64 Z) rfl
  have r11 := box_cell Y2.out 11 (v := .slice a' fs.length c') rfl
  have s0 := box_cell Y1.out 0 (v := .int .i64 0) rfl
  have s1 := box_cell Y1.out 1 (v := .int .i64 0) rfl
  have s2 := box_cell Y1.out 2 (v := .int .i64 0) rfl
  have s3 := box_cell Y1.out 3 (v := .string ⟨#[]⟩) rfl
  have s4 := box_cell Y1.out 4 (v := .int .i64 0) rfl
  have s5 := box_cell Y1.out 5 (v := .int .i64 0) rfl
  have s6 := box_cell Y1.out 6 (v := .int .i64 0) rfl
  have s7 := box_cell Y1.out 7 (v := .slice none 0 0) rfl
  have s8 := box_cell Y1.out 8 (v := .slice none 0 0) rfl
  have s9 := box_cell Y1.out 9 (v := .int .i64 0) rfl
  have s10 := box_cell Y1.out 10 (v := .int .i64 0) rfl
  have s11 := box_cell Y1.out 11 (v := .slice none 0 0) rfl
  have z1 := box_frozen Y1.out
  go_wp2_with fail
  obtain ⟨V3, hV3⟩ : ∃ V3, V3 = ((((((((((((V1.setCell ⟨w.heap.size + 1, 0, none⟩ (.int .i64 i)).setCell ⟨w.heap.size + 1, 1, none⟩ (.int .i64 t)).setCell ⟨w.heap.size + 1, 2, none⟩ (.int .i64 s)).setCell ⟨w.heap.size + 1, 3, none⟩ (.string nm)).setCell ⟨w.heap.size + 1, 4, none⟩ (.int .i64 ed)).setCell ⟨w.heap.size + 1, 5, none⟩ (.int .i64 L)).setCell ⟨w.heap.size + 1, 6, none⟩ (.int .i64 S)).setCell ⟨w.heap.size + 1, 7, none⟩ (.slice b1 ws.length d1)).setCell ⟨w.heap.size + 1, 8, none⟩ (.slice b2 gs.length d2)).setCell ⟨w.heap.size + 1, 9, none⟩ (.int .i64 C)).setCell ⟨w.heap.size + 1, 10, none⟩ (.int .i64 Z)).setCell ⟨w.heap.size + 1, 11, none⟩ (.slice a' fs.length c')) := ⟨_, rfl⟩
  have hq : V3 = setsC V1 (w.heap.size + 1) [.int .i64 i, .int .i64 t, .int .i64 s, .string nm, .int .i64 ed, .int .i64 L, .int .i64 S, .slice b1 ws.length d1, .slice b2 gs.length d2, .int .i64 C, .int .i64 Z, .slice a' fs.length c'] 0 := hV3
  have Z1 : V3.heap[w.heap.size + 1]? = some (.cells #[.int .i64 i, .int .i64 t, .int .i64 s, .string nm, .int .i64 ed, .int .i64 L, .int .i64 S, .slice b1 ws.length d1, .slice b2 gs.length d2, .int .i64 C, .int .i64 Z, .slice a' fs.length c'] 40 (0, 0)) := by rw [hq, sets_block [.int .i64 i, .int .i64 t, .int .i64 s, .string nm, .int .i64 ed, .int .i64 L, .int .i64 S, .slice b1 ws.length d1, .slice b2 gs.length d2, .int .i64 C, .int .i64 Z, .slice a' fs.length c'] 0 V1 #[.int .i64 0, .int .i64 0, .int .i64 0, .string ⟨#[]⟩, .int .i64 0, .int .i64 0, .int .i64 0, .slice none 0 0, .slice none 0 0, .int .i64 0, .int .i64 0, .slice none 0 0] Y1.out]; simp [setsA]
  have B3 : Below w.heap.size w V3 := by rw [hq]; exact sets_below (by omega) _ _ _ YB.out
  have O3 : GetOwn V3 W0.heap.size ws gs b1 b2 d1 d2 a' c' fs := by rw [hq]; exact sets_own (by omega) _ _ _ YO.out
  rw [← hV3]
  clear hV3 hq
  have y0 := box_cell Z1 0 (v := .int .i64 i) rfl
  have y1 := box_cell Z1 1 (v := .int .i64 t) rfl
  have y2 := box_cell Z1 2 (v := .int .i64 s) rfl
  have y3 := box_cell Z1 3 (v := .string nm) rfl
  have y4 := box_cell Z1 4 (v := .int .i64 ed) rfl
  have y5 := box_cell Z1 5 (v := .int .i64 L) rfl
  have y6 := box_cell Z1 6 (v := .int .i64 S) rfl
  have y7 := box_cell Z1 7 (v := .slice b1 ws.length d1) rfl
  have y8 := box_cell Z1 8 (v := .slice b2 gs.length d2) rfl
  have y9 := box_cell Z1 9 (v := .int .i64 C) rfl
  have y10 := box_cell Z1 10 (v := .int .i64 Z) rfl
  have y11 := box_cell Z1 11 (v := .slice a' fs.length c') rfl
  refine bodyPost_ret (v := .agg #[.int .i64 i, .int .i64 t, .int .i64 s, .string nm, .int .i64 ed, .int .i64 L, .int .i64 S, .slice b1 ws.length d1, .slice b2 gs.length d2, .int .i64 C, .int .i64 Z, .slice a' fs.length c']) ?_ rfl ⟨b1, d1, b2, d2, a', c', fs, rfl, O3.mono (by omega), SM.out, AP.out, B3⟩
  unfold results; rw [Tryz.results9]; simp [go_sem, y0, y1, y2, y3, y4, y5, y6, y7, y8, y9, y10, y11]
end Go.Proofs.YtbakicgdloakgaaGreatDoor
