/- Solvers that come in: read, measured, compared. -/
import Derived.Test.YtbakicgdloakgaaGreatDoorG18
import Derived.Test.YtbakicgdloakgaaGreatDoorG6
import Derived.Test.YtbakicgdloakgaaGreatDoorG1
namespace Go.Proofs.YtbakicgdloakgaaGreatDoor
open Go.ChangeShapes Go.WideShapes Go.ChangeAt Go.RowKit Go.Sort Go.Shelf
attribute [local go_sem] Oper.semAt_some

/-- The same equations, wherever they lie. -/
def SamV (es fs : List EqV) : Prop := es.map EqV.r = fs.map EqV.r ∧ es.map EqV.d = fs.map EqV.d
theorem SamV.len {es fs : List EqV} (h : SamV es fs) : es.length = fs.length := by
  have := congrArg List.length h.1
  rwa [List.length_map, List.length_map] at this
theorem SamV.at {es fs : List EqV} (h : SamV es fs) {k : Nat} (h1 : k < es.length) (h2 : k < fs.length) : es[k].r = fs[k].r ∧ es[k].d = fs[k].d := by
  have e1 := congrArg (fun l => l[k]?) h.1
  have e2 := congrArg (fun l => l[k]?) h.2
  simp only [List.getElem?_map, List.getElem?_eq_getElem h1, List.getElem?_eq_getElem h2, Option.map_some, Option.some.injEq] at e1 e2
  exact ⟨e1, e2⟩
theorem SamV.symm {es fs : List EqV} (h : SamV es fs) : SamV fs es := ⟨h.1.symm, h.2.symm⟩
theorem SamV.trans {es fs gs : List EqV} (h : SamV es fs) (k : SamV fs gs) : SamV es gs := ⟨h.1.trans k.1, h.2.trans k.2⟩
theorem SamV.ok {c z : Int} : ∀ {es fs : List EqV}, SamV es fs → (okE c z es ↔ okE c z fs)
  | [], [], _ => Iff.rfl
  | [], f :: fs, h => by have := h.len; simp at this
  | e :: es, [], h => by have := h.len; simp at this
  | e :: es, f :: fs, h => by
    obtain ⟨h1, h2⟩ := h
    simp only [List.map_cons, List.cons.injEq] at h1 h2
    have ih := SamV.ok (c := c) (z := z) (es := es) (fs := fs) ⟨h1.2, h2.2⟩
    show (ascB (-1) c e.r = true ∧ (e.d.size : Int) = z ∧ fits e.r (es.map EqV.r)) ∧ okE c z es ↔ (ascB (-1) c f.r = true ∧ (f.d.size : Int) = z ∧ fits f.r (fs.map EqV.r)) ∧ okE c z fs
    rw [h1.1, h2.1, h1.2, ih]
theorem SamV.solver {c z : Int} {es fs : List EqV} (h : SamV es fs) : solverP c z es ↔ solverP c z fs := by
  unfold solverP
  rw [h.ok]
theorem SamV.small {es fs : List EqV} (h : SamV es fs) (hs : SmallE es) : SmallE fs := fun f hf => by
  obtain ⟨k, hk, rfl⟩ := List.getElem_of_mem hf
  have hk2 : k < es.length := by rw [h.len]; exact hk
  obtain ⟨e1, e2⟩ := h.at hk2 hk
  have := hs es[k] (List.getElem_mem hk2)
  rw [e1, e2] at this
  exact this

/-- What a measure says: too much, or what it has seen and what is left. -/
def szP (P : Prop) (left v : Int) : Prop := v < 0 ∨ P ∧ 0 ≤ v ∧ v ≤ left
set_option maxRecDepth 100000 in
theorem szIntS_ex (a : Option Addr) (n c : Nat) (left : Int) (w : World) (hn : n ≤ 9223372036854775807) (h0 : 0 ≤ left) (h1 : left ≤ 1048576) :
    Calls Tryz.prog 66 #[.slice a n c, .int .i64 left] w fun e w' => ∃ v : Int, e = .returned (.int .i64 v) ∧ szP ((n : Int) ≤ left) left v ∧ w' = w := by
  by_cases h : (n : Int) ≤ left
  · have h2 : ¬ (left - n < 0) := by omega
    have H := hid h
    clear h
    go_enter Tryz.func66, Tryz.ntmps66
    go_wp2
    go_ret
    exact ⟨_, rfl, .inr ⟨H.out, by omega, by omega⟩, rfl⟩
  · have h2 : left - n < 0 := by omega
    go_enter Tryz.func66, Tryz.ntmps66
    go_wp2
    go_ret
    exact ⟨_, rfl, .inl (by omega), rfl⟩

set_option maxRecDepth 100000 in
set_option maxHeartbeats 1000000 in
theorem szEq_ex (a : Option Addr) (n c : Nat) (d : ByteArray) (left : Int) (w : World) (hn : n ≤ 9223372036854775807) (hd : d.size ≤ 9223372036854775807) (h0 : 0 ≤ left) (h1 : left ≤ 1048576) :
    Calls Tryz.prog 85 #[.agg #[.slice a n c, .string d], .int .i64 left] w fun e w' => ∃ v : Int, e = .returned (.int .i64 v) ∧ szP ((n : Int) ≤ left ∧ (d.size : Int) ≤ left) left v ∧ Below w.heap.size w w' := by
  go_enter Tryz.func85, Tryz.ntmps85
  go_wp2_with fail
  refine (szIntS_ex a n c left _ hn h0 h1).mono ?_
  rintro e w1 ⟨v, rfl, hv, rfl⟩
  by_cases hv0 : v < 0
  · clear hv
    go_wp2_with fail
    go_ret
    exact ⟨_, rfl, .inl (by omega), u_b1 _ _⟩
  · obtain ⟨g1, g2, g3⟩ : (n : Int) ≤ left ∧ 0 ≤ v ∧ v ≤ left := hv.resolve_left hv0
    clear hv
    by_cases hs : (d.size : Int) ≤ v
    · have hs2 : ¬ (v - d.size < 0) := by omega
      go_wp2_with fail
      go_ret
      exact ⟨_, rfl, .inr ⟨⟨g1, by omega⟩, by omega, by omega⟩, u_b1 _ _⟩
    · have hs2 : v - d.size < 0 := by omega
      go_wp2_with fail
      go_ret
      exact ⟨_, rfl, .inl (by omega), u_b1 _ _⟩

/-- How long what comes in may be at all. -/
def LongE (es : List EqV) : Prop := ∀ e ∈ es, e.r.length ≤ 9223372036854775807 ∧ e.d.size ≤ 9223372036854775807

set_option maxRecDepth 100000 in
set_option maxHeartbeats 1000000 in
theorem eqEq_same (a b : Option Addr) (ca cb : Nat) (r : List Int) (d : ByteArray) (w : World) (ha : IntsAt w a r) (hb : IntsAt w b r) (hr : r.length ≤ 1048576) :
    Calls Tryz.prog 94 #[.agg #[.slice a r.length ca, .string d], .agg #[.slice b r.length cb, .string d]] w fun e w' => e = .returned (.bool true) ∧ Below w.heap.size w w' := by
  have HA := hid ha
  have HB := hid hb
  have B0 := u_b2 w (.cells #[.slice a r.length ca, .string d] 124) (.cells #[.slice b r.length cb, .string d] 124)
  have K := hid (eqIntS_any a b ca cb r r _ (HA.out.below B0) (HB.out.below B0) (by omega))
  rw [decide_eq_true rfl] at K
  clear ha hb
  go_enter Tryz.func94, Tryz.ntmps94
  go_wp2_with (go_at_call 79; refine K.out.mono ?_; rintro _ w1 ⟨rfl, n, rfl⟩)
  go_ret
  exact ⟨rfl, below_drewN B0 n⟩

set_option maxRecDepth 100000 in
set_option maxHeartbeats 2000000 in
theorem eqEqS_same (a b : Option Addr) (ca cb : Nat) (es fs : List EqV) (w : World) (ha : EqsAt w a es) (hb : EqsAt w b fs) (hs : SamV es fs) (hx : es.length ≤ 1048576) (hsm : SmallE es) :
    Calls Tryz.prog 80 #[.slice a es.length ca, .slice b fs.length cb] w fun e w' => e = .returned (.bool true) ∧ Below w.heap.size w w' := by
  have HA := hid ha
  have HB := hid hb
  have HM := hid hs
  have HS := hid hsm
  rw [← hs.len]
  clear ha hb hs hsm
  go_enter Tryz.func80, Tryz.ntmps80
  go_wp2
  go_loopw [5] (fun i wr => ∃ k : Nat, k ≤ es.length ∧ i = .int .i64 k ∧ Below w.heap.size w wr) (fun i _ => es.length - (intOf i).toNat)
  case atStart => exact ⟨0, Nat.zero_le _, rfl, Below.refl _ _⟩
  case round =>
    obtain ⟨k, hk, rfl, B⟩ := hrel
    by_cases hlt : k < es.length
    · have hlt2 : k < fs.length := by rw [← HM.out.len]; exact hlt
      obtain ⟨e, he⟩ : ∃ e, es[k] = e := ⟨_, rfl⟩
      obtain ⟨f, hf⟩ : ∃ f, fs[k] = f := ⟨_, rfl⟩
      obtain ⟨b1, o1, rfl, h1⟩ := (HA.out.below B) (by intro h; simp [h] at hlt)
      obtain ⟨b2, o2, rfl, h2⟩ := (HB.out.below B) (by intro h; simp [h] at hlt2)
      obtain ⟨c0, c1, crow⟩ := h1 k e (by rw [List.getElem?_eq_getElem hlt, he])
      obtain ⟨d0, d1, drow⟩ := h2 k f (by rw [List.getElem?_eq_getElem hlt2, hf])
      have hef := HM.out.at hlt hlt2
      rw [he, hf] at hef
      obtain ⟨hr, hd⟩ := hef
      rw [← hr] at d0 drow
      rw [← hd] at d1
      have hrl := (HS.out e (by rw [← he]; exact List.getElem_mem hlt)).1
      have k1 := hid (rg (w := wr) (fun w' hb => eqEq_same e.a f.a e.c f.c e.r e.d w' (crow.below hb) (drow.below hb) hrl))
      have r0 := cell_regrown c0
      have r1 := cell_regrown c1
      have s0 := cell_regrown d0
      have s1 := cell_regrown d1
      have HBB := hid B
      have n2 : (k : Int) < es.length := by omega
      clear c0 c1 d0 d1 h1 h2 he hf hr hd crow drow B
      go_wp2
      refine wp_region_quiet_below (by kernel_rfl) (by kernel_rfl) ?_
      repeat (first | go_big_quiet_step ((go_at_call 94; with_reducible exact k1.out _ _)) | quiet_step ((go_at_call 94; with_reducible exact k1.out _ _)))
      refine wpQuiet_nil ?_
      intro V2 hw'
      obtain ⟨⟨dq, osq⟩, hw''⟩ := hw'
      have hbq := below_regrown wr dq osq
      rw [← hw''] at hbq
      clear hw'' dq osq r0 r1 s0 s1
      go_wp2
      go_roundw
      case rel => exact ⟨k + 1, by omega, by go_num, u_cat HBB.out hbq⟩
      case measure => simp [intOf]; omega
    · go_wp2
      go_ret
      exact ⟨rfl, B⟩

set_option maxRecDepth 100000 in
set_option maxHeartbeats 1000000 in
theorem eqSolver_same (a b : Option Addr) (ca cb : Nat) (es fs : List EqV) (c z : Int) (w : World) (ha : EqsAt w a es) (hb : EqsAt w b fs) (hs : SamV es fs) (hx : es.length ≤ 1048576) (hsm : SmallE es) :
    Calls Tryz.prog 60 #[.agg #[.int .i64 c, .int .i64 z, .slice a es.length ca], .agg #[.int .i64 c, .int .i64 z, .slice b fs.length cb]] w fun e w' => e = .returned (.bool true) ∧ Below w.heap.size w w' := by
  have HA := hid ha
  have HB := hid hb
  clear ha hb
  have B0 := u_b2 w (.cells #[.int .i64 c, .int .i64 z, .slice a es.length ca] 36) (.cells #[.int .i64 c, .int .i64 z, .slice b fs.length cb] 36)
  have K := hid (eqEqS_same a b ca cb es fs _ (HA.out.below B0) (HB.out.below B0) hs hx hsm)
  go_enter Tryz.func60, Tryz.ntmps60
  go_wp2_with (go_at_call 80; refine K.out.mono ?_; rintro _ w1 ⟨rfl, b1⟩)
  go_ret
  exact ⟨rfl, u_cat B0 b1⟩
end Go.Proofs.YtbakicgdloakgaaGreatDoor
