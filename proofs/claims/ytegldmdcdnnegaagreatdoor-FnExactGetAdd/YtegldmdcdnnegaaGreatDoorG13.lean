/- Solvers that come in: read, measured, compared. What is known behind an equation that was learnt: values alone. -/
import Derived.Test.YtegldmdcdnnegaaGreatDoorG6
import Derived.Test.YtegldmdcdnnegaaGreatDoorG12
namespace Go.Proofs.YtegldmdcdnnegaaGreatDoor
open Go.ChangeShapes Go.WideShapes Go.ChangeAt Go.RowKit Go.Sort Go.Shelf
attribute [local go_sem] Oper.semAt_some

/-- The same equations, wherever they lie. -/
def SamV (es fs : List EqV) : Prop := es.map EqV.r = fs.map EqV.r ∧ es.map EqV.d = fs.map EqV.d
theorem SamV.len {es fs : List EqV} (h : SamV es fs) : es.length = fs.length := by
  have := congrArg List.length h.1
  rwa [List.length_map, List.length_map] at this
theorem SamV.at {es fs : List EqV} (h : SamV es fs) {k : Nat} (h1 : k < es.length) (h2 : k < fs.length) : es[k].r = fs[k].r ∧ es[k].d = fs[k].d := by
  have e1 := congrArg (fun l => l[k]?) h.1
  have e2 := congrArg (fun l => l[k]?) h.2
  simp only [List.getElem?_map, List.getElem?_eq_getElem h1, List.getElem?_eq_getElem h2, Option.map_some, Option.some.injEq] at e1 e2
  exact ⟨e1, e2⟩
theorem SamV.symm {es fs : List EqV} (h : SamV es fs) : SamV fs es := ⟨h.1.symm, h.2.symm⟩
theorem SamV.trans {es fs gs : List EqV} (h : SamV es fs) (k : SamV fs gs) : SamV es gs := ⟨h.1.trans k.1, h.2.trans k.2⟩
theorem SamV.ok {c z : Int} : ∀ {es fs : List EqV}, SamV es fs → (okE c z es ↔ okE c z fs)
  | [], [], _ => Iff.rfl
  | [], f :: fs, h => by have := h.len; simp at this
  | e :: es, [], h => by have := h.len; simp at this
  | e :: es, f :: fs, h => by
    obtain ⟨h1, h2⟩ := h
    simp only [List.map_cons, List.cons.injEq] at h1 h2
    have ih := SamV.ok (c := c) (z := z) (es := es) (fs := fs) ⟨h1.2, h2.2⟩
    show (ascB (-1) c e.r = true ∧ (e.d.size : Int) = z ∧ fits e.r (es.map EqV.r)) ∧ okE c z es ↔ (ascB (-1) c f.r = true ∧ (f.d.size : Int) = z ∧ fits f.r (fs.map EqV.r)) ∧ okE c z fs
    rw [h1.1, h2.1, h1.2, ih]
theorem SamV.solver {c z : Int} {es fs : List EqV} (h : SamV es fs) : solverP c z es ↔ solverP c z fs := by
  unfold solverP
  rw [h.ok]
theorem SamV.small {es fs : List EqV} (h : SamV es fs) (hs : SmallE es) : SmallE fs := fun f hf => by
  obtain ⟨k, hk, rfl⟩ := List.getElem_of_mem hf
  have hk2 : k < es.length := by rw [h.len]; exact hk
  obtain ⟨e1, e2⟩ := h.at hk2 hk
  have := hs es[k] (List.getElem_mem hk2)
  rw [e1, e2] at this
  exact this

/-- What a measure says: too much, or what it has seen and what is left. -/
def szP (P : Prop) (left v : Int) : Prop := v < 0 ∨ P ∧ 0 ≤ v ∧ v ≤ left
set_option maxRecDepth 100000 in
theorem szIntS_ex (a : Option Addr) (n c : Nat) (left : Int) (w : World) (hn : n ≤ 9223372036854775807) (h0 : 0 ≤ left) (h1 : left ≤ 1048576) :
    Calls Tryz.prog 30 #[.slice a n c, .int .i64 left] w fun e w' => ∃ v : Int, e = .returned (.int .i64 v) ∧ szP ((n : Int) ≤ left) left v ∧ w' = w := by
  by_cases h : (n : Int) ≤ left
  · have h2 : ¬ (left - n < 0) := by omega
    have H := hid h
    clear h
    go_enter Tryz.func30, Tryz.ntmps30
    go_wp2
    go_ret
    exact ⟨_, rfl, .inr ⟨H.out, by omega, by omega⟩, rfl⟩
  · have h2 : left - n < 0 := by omega
    go_enter Tryz.func30, Tryz.ntmps30
    go_wp2
    go_ret
    exact ⟨_, rfl, .inl (by omega), rfl⟩

set_option maxRecDepth 100000 in
set_option maxHeartbeats 1000000 in
theorem szEq_ex (a : Option Addr) (n c : Nat) (d : ByteArray) (left : Int) (w : World) (hn : n ≤ 9223372036854775807) (hd : d.size ≤ 9223372036854775807) (h0 : 0 ≤ left) (h1 : left ≤ 1048576) :
    Calls Tryz.prog 65 #[.agg #[.slice a n c, .string d], .int .i64 left] w fun e w' => ∃ v : Int, e = .returned (.int .i64 v) ∧ szP ((n : Int) ≤ left ∧ (d.size : Int) ≤ left) left v ∧ Below w.heap.size w w' := by
  go_enter Tryz.func65, Tryz.ntmps65
  go_wp2_with fail
  refine (szIntS_ex a n c left _ hn h0 h1).mono ?_
  rintro e w1 ⟨v, rfl, hv, rfl⟩
  by_cases hv0 : v < 0
  · clear hv
    go_wp2_with fail
    go_ret
    exact ⟨_, rfl, .inl (by omega), u_b1 _ _⟩
  · obtain ⟨g1, g2, g3⟩ : (n : Int) ≤ left ∧ 0 ≤ v ∧ v ≤ left := hv.resolve_left hv0
    clear hv
    by_cases hs : (d.size : Int) ≤ v
    · have hs2 : ¬ (v - d.size < 0) := by omega
      go_wp2_with fail
      go_ret
      exact ⟨_, rfl, .inr ⟨⟨g1, by omega⟩, by omega, by omega⟩, u_b1 _ _⟩
    · have hs2 : v - d.size < 0 := by omega
      go_wp2_with fail
      go_ret
      exact ⟨_, rfl, .inl (by omega), u_b1 _ _⟩

/-- How long what comes in may be at all. -/
def LongE (es : List EqV) : Prop := ∀ e ∈ es, e.r.length ≤ 9223372036854775807 ∧ e.d.size ≤ 9223372036854775807

set_option maxRecDepth 100000 in
set_option maxHeartbeats 2000000 in
theorem szEqS_ex (a : Option Addr) (cap : Nat) (es : List EqV) (w : World) (ha : EqsAt w a es) (hn : es.length ≤ 9223372036854775807) (hL : LongE es) :
    Calls Tryz.prog 31 #[.slice a es.length cap, .int .i64 1048576] w fun e w' => ∃ v : Int, e = .returned (.int .i64 v) ∧ szP (es.length ≤ 1048576 ∧ SmallE es) 1048576 v ∧ Below w.heap.size w w' := by
  have HA := hid ha
  have HL := hid hL
  clear ha hL
  by_cases h : (es.length : Int) ≤ 1048576
  · have h2 : ¬ (1048576 - (es.length : Int) < 0) := by omega
    go_enter Tryz.func31, Tryz.ntmps31
    go_wp2
    go_loopw [1, 5] (fun l i wr => ∃ (k : Nat) (v : Int), k ≤ es.length ∧ i = .int .i64 k ∧ l = .int .i64 v ∧ 0 ≤ v ∧ v ≤ 1048576 ∧ (∀ j (hj : j < es.length), j < k → es[j].r.length ≤ 1048576 ∧ es[j].d.size ≤ 1048576) ∧ Below w.heap.size w wr) (fun _ i _ => es.length - (intOf i).toNat)
    case atStart => exact ⟨0, _, by omega, rfl, rfl, by omega, by omega, fun j hj h => by omega, Below.refl _ _⟩
    case round =>
      obtain ⟨k, v, hk, rfl, rfl, hv0, hv1, hall, B⟩ := hrel
      have HB := hid B
      have HS := hid hall
      clear hall
      by_cases hlt : k < es.length
      · obtain ⟨e, he⟩ : ∃ e, es[k] = e := ⟨_, rfl⟩
        have hm : e ∈ es := by rw [← he]; exact List.getElem_mem hlt
        obtain ⟨b, off, rfl, hc⟩ := (HA.out.below B) (by intro h; simp [h] at hlt)
        obtain ⟨c0, c1, -⟩ := hc k e (by rw [List.getElem?_eq_getElem hlt, he])
        have K := hid (szEq_ex e.a e.r.length e.c e.d v wr (HL.out e hm).1 (HL.out e hm).2 hv0 hv1)
        have HE := hid he
        clear hc he hm B
        go_wp2_with fail
        refine K.out.mono ?_
        rintro _ w1 ⟨u, rfl, hu, b1⟩
        have HU := hid hu
        clear hu c0 c1
        by_cases hu0 : u < 0
        · go_wp2_with fail
          go_ret
          exact ⟨_, rfl, .inl (by omega), u_cat HB.out b1⟩
        · have HU2 := hid (HU.out.resolve_left hu0)
          go_wp2_with fail
          go_roundw
          case rel => exact ⟨k + 1, u, by omega, by go_num, rfl, HU2.out.2.1, by have := HU2.out.2.2; omega, fun j hj hjk => (by
            rcases Nat.lt_succ_iff_lt_or_eq.1 hjk with h | h
            · exact HS.out j hj h
            · subst h; rw [HE.out]; have := HU2.out.1; omega), u_cat HB.out b1⟩
          case measure => simp [intOf]; omega
      · go_wp2
        go_ret
        exact ⟨_, rfl, .inr ⟨⟨by omega, fun e he => by
          obtain ⟨j, hj, rfl⟩ := List.getElem_of_mem he
          exact HS.out j hj (by omega)⟩, hv0, hv1⟩, HB.out⟩
  · have h2 : 1048576 - (es.length : Int) < 0 := by omega
    go_enter Tryz.func31, Tryz.ntmps31
    go_wp2
    go_ret
    exact ⟨_, rfl, .inl (by omega), Below.refl _ _⟩

set_option maxRecDepth 100000 in
set_option maxHeartbeats 1000000 in
theorem szSolver_ex (a : Option Addr) (cap : Nat) (es : List EqV) (c z : Int) (w : World) (ha : EqsAt w a es) (hn : es.length ≤ 9223372036854775807) (hL : LongE es) :
    Calls Tryz.prog 12 #[.agg #[.int .i64 c, .int .i64 z, .slice a es.length cap], .int .i64 1048576] w fun e w' => ∃ v : Int, e = .returned (.int .i64 v) ∧ szP (es.length ≤ 1048576 ∧ SmallE es) 1048576 v ∧ Below w.heap.size w w' := by
  have HA := hid ha
  clear ha
  go_enter Tryz.func12, Tryz.ntmps12
  go_wp2_with fail
  refine (szEqS_ex a cap es _ (HA.out.below (u_b1 _ _)) hn hL).mono ?_
  rintro e w1 ⟨v, rfl, hv, b1⟩
  have HB := hid (u_cat (u_b1 _ _) b1)
  clear b1
  by_cases hv0 : v < 0
  · clear hv
    go_wp2_with fail
    go_ret
    exact ⟨_, rfl, .inl (by omega), HB.out⟩
  · have HV := hid hv
    clear hv
    go_wp2_with fail
    go_ret
    exact ⟨_, rfl, HV.out, HB.out⟩

set_option maxRecDepth 100000 in
set_option maxHeartbeats 1000000 in
theorem eqEq_same (a b : Option Addr) (ca cb : Nat) (r : List Int) (d : ByteArray) (w : World) (ha : IntsAt w a r) (hb : IntsAt w b r) (hr : r.length ≤ 1048576) :
    Calls Tryz.prog 99 #[.agg #[.slice a r.length ca, .string d], .agg #[.slice b r.length cb, .string d]] w fun e w' => e = .returned (.bool true) ∧ Below w.heap.size w w' := by
  have HA := hid ha
  have HB := hid hb
  have B0 := u_b2 w (.cells #[.slice a r.length ca, .string d] 81) (.cells #[.slice b r.length cb, .string d] 81)
  have K := hid (eqIntS_any a b ca cb r r _ (HA.out.below B0) (HB.out.below B0) (by omega))
  rw [decide_eq_true rfl] at K
  clear ha hb
  go_enter Tryz.func99, Tryz.ntmps99
  go_wp2_with (go_at_call 59; refine K.out.mono ?_; rintro _ w1 ⟨rfl, n, rfl⟩)
  go_ret
  exact ⟨rfl, below_drewN B0 n⟩

set_option maxRecDepth 100000 in
set_option maxHeartbeats 2000000 in
theorem eqEqS_same (a b : Option Addr) (ca cb : Nat) (es fs : List EqV) (w : World) (ha : EqsAt w a es) (hb : EqsAt w b fs) (hs : SamV es fs) (hx : es.length ≤ 1048576) (hsm : SmallE es) :
    Calls Tryz.prog 60 #[.slice a es.length ca, .slice b fs.length cb] w fun e w' => e = .returned (.bool true) ∧ Below w.heap.size w w' := by
  have HA := hid ha
  have HB := hid hb
  have HM := hid hs
  have HS := hid hsm
  rw [← hs.len]
  clear ha hb hs hsm
  go_enter Tryz.func60, Tryz.ntmps60
  go_wp2
  go_loopw [5] (fun i wr => ∃ k : Nat, k ≤ es.length ∧ i = .int .i64 k ∧ Below w.heap.size w wr) (fun i _ => es.length - (intOf i).toNat)
  case atStart => exact ⟨0, Nat.zero_le _, rfl, Below.refl _ _⟩
  case round =>
    obtain ⟨k, hk, rfl, B⟩ := hrel
    by_cases hlt : k < es.length
    · have hlt2 : k < fs.length := by rw [← HM.out.len]; exact hlt
      obtain ⟨e, he⟩ : ∃ e, es[k] = e := ⟨_, rfl⟩
      obtain ⟨f, hf⟩ : ∃ f, fs[k] = f := ⟨_, rfl⟩
      obtain ⟨b1, o1, rfl, h1⟩ := (HA.out.below B) (by intro h; simp [h] at hlt)
      obtain ⟨b2, o2, rfl, h2⟩ := (HB.out.below B) (by intro h; simp [h] at hlt2)
      obtain ⟨c0, c1, crow⟩ := h1 k e (by rw [List.getElem?_eq_getElem hlt, he])
      obtain ⟨d0, d1, drow⟩ := h2 k f (by rw [List.getElem?_eq_getElem hlt2, hf])
      have hef := HM.out.at hlt hlt2
      rw [he, hf] at hef
      obtain ⟨hr, hd⟩ := hef
      rw [← hr] at d0 drow
      rw [← hd] at d1
      have hrl := (HS.out e (by rw [← he]; exact List.getElem_mem hlt)).1
      have k1 := hid (rg (w := wr) (fun w' hb => eqEq_same e.a f.a e.c f.c e.r e.d w' (crow.below hb) (drow.below hb) hrl))
      have r0 := cell_regrown c0
      have r1 := cell_regrown c1
      have s0 := cell_regrown d0
      have s1 := cell_regrown d1
      have HBB := hid B
      have n2 : (k : Int) < es.length := by omega
      clear c0 c1 d0 d1 h1 h2 he hf hr hd crow drow B
      go_wp2
      refine wp_region_quiet_below (by kernel_rfl) (by kernel_rfl) ?_
      repeat (first | go_big_quiet_step ((go_at_call 99; with_reducible exact k1.out _ _)) | quiet_step ((go_at_call 99; with_reducible exact k1.out _ _)))
      refine wpQuiet_nil ?_
      intro V2 hw'
      obtain ⟨⟨dq, osq⟩, hw''⟩ := hw'
      have hbq := below_regrown wr dq osq
      rw [← hw''] at hbq
      clear hw'' dq osq r0 r1 s0 s1
      go_wp2
      go_roundw
      case rel => exact ⟨k + 1, by omega, by go_num, u_cat HBB.out hbq⟩
      case measure => simp [intOf]; omega
    · go_wp2
      go_ret
      exact ⟨rfl, B⟩

set_option maxRecDepth 100000 in
set_option maxHeartbeats 1000000 in
theorem eqSolver_same (a b : Option Addr) (ca cb : Nat) (es fs : List EqV) (c z : Int) (w : World) (ha : EqsAt w a es) (hb : EqsAt w b fs) (hs : SamV es fs) (hx : es.length ≤ 1048576) (hsm : SmallE es) :
    Calls Tryz.prog 25 #[.agg #[.int .i64 c, .int .i64 z, .slice a es.length ca], .agg #[.int .i64 c, .int .i64 z, .slice b fs.length cb]] w fun e w' => e = .returned (.bool true) ∧ Below w.heap.size w w' := by
  have HA := hid ha
  have HB := hid hb
  clear ha hb
  have B0 := u_b2 w (.cells #[.int .i64 c, .int .i64 z, .slice a es.length ca] 34) (.cells #[.int .i64 c, .int .i64 z, .slice b fs.length cb] 34)
  have K := hid (eqEqS_same a b ca cb es fs _ (HA.out.below B0) (HB.out.below B0) hs hx hsm)
  go_enter Tryz.func25, Tryz.ntmps25
  go_wp2_with (go_at_call 60; refine K.out.mono ?_; rintro _ w1 ⟨rfl, b1⟩)
  go_ret
  exact ⟨rfl, u_cat B0 b1⟩
end Go.Proofs.YtegldmdcdnnegaaGreatDoor
namespace Go.Proofs.YtegldmdcdnnegaaGreatDoor
open Go.ChangeShapes Go.WideShapes Go.ChangeAt Go.RowKit Go.Sort Go.Shelf

/-- A row and its data. -/
abbrev Vl := List Int × ByteArray
def valsE (es : List EqV) : List Vl := es.map (fun e => (e.r, e.d))
theorem vals_same {fs es : List EqV} : valsE fs = valsE es ↔ SamV fs es := by
  constructor
  · intro h
    have h1 := congrArg (List.map Prod.fst) h
    have h2 := congrArg (List.map Prod.snd) h
    simp only [valsE, List.map_map] at h1 h2
    exact ⟨h1, h2⟩
  · rintro ⟨h1, h2⟩
    induction fs generalizing es with
    | nil => cases es with
      | nil => rfl
      | cons e es => simp at h1
    | cons f fs ih => cases es with
      | nil => simp at h1
      | cons e es =>
        simp only [List.map_cons, List.cons.injEq] at h1 h2
        simp only [valsE, List.map_cons, h1.1, h2.1]
        rw [show List.map (fun e => (e.r, e.d)) fs = List.map (fun e => (e.r, e.d)) es from ih h1.2 h2.2]
/-- Put together with what is learnt, where that one's first number is in the row. -/
def mixE (s : List Int × List Int) (k : Vl) : Vl := if hd s.1 ∈ k.1 then (xorM k.1 s.1, strOfNums (xorL (numsOf k.2) s.2)) else k
/-- Ahead of the first whose first number is greater. -/
def insE (e : Vl) : List Vl → List Vl
  | [] => [e]
  | k :: ks => if hd e.1 < hd k.1 then e :: k :: ks else k :: insE e ks
def learnE (s : List Int × List Int) (ks : List Vl) : List Vl := insE (s.1, strOfNums s.2) (ks.map (mixE s))
/-- What is still to be handed out: in its place, if that was not yet. -/
def restE (e : Vl) (done : Bool) (ks : List Vl) : List Vl := if done then ks else insE e ks
theorem rest_done (e k : Vl) (ks : List Vl) : restE e true (k :: ks) = k :: restE e true ks := rfl
theorem rest_new {e k : Vl} {ks : List Vl} (h : hd e.1 < hd k.1) : restE e false (k :: ks) = e :: k :: restE e true ks := by
  show insE e (k :: ks) = _
  rw [insE, if_pos h]
  rfl
theorem rest_old {e k : Vl} {ks : List Vl} (h : ¬ hd e.1 < hd k.1) : restE e false (k :: ks) = k :: restE e false ks := by
  show insE e (k :: ks) = _
  rw [insE, if_neg h]
  rfl
theorem ins_mem {e x : Vl} : ∀ {ks : List Vl}, x ∈ insE e ks ↔ x = e ∨ x ∈ ks
  | [] => by simp [insE]
  | k :: ks => by
    unfold insE
    split
    · simp
    · rw [List.mem_cons, ins_mem, List.mem_cons]
      constructor
      · rintro (h | h | h)
        · exact .inr (.inl h)
        · exact .inl h
        · exact .inr (.inr h)
      · rintro (h | h | h)
        · exact .inr (.inl h)
        · exact .inl h
        · exact .inr (.inr h)
theorem ins_len (e : Vl) : ∀ (ks : List Vl), (insE e ks).length = ks.length + 1
  | [] => rfl
  | k :: ks => by
    unfold insE
    split
    · rfl
    · rw [List.length_cons, ins_len e ks, List.length_cons]
theorem ins_pair {R : Vl → Vl → Prop} {e : Vl} : ∀ {ks : List Vl}, ks.Pairwise R → ks.Pairwise (fun a b => hd a.1 < hd b.1) → (∀ k ∈ ks, hd e.1 < hd k.1 → R e k) → (∀ k ∈ ks, ¬ hd e.1 < hd k.1 → R k e) → (insE e ks).Pairwise R
  | [], _, _, _, _ => by simp [insE]
  | k :: ks, hl, hu, h1, h2 => by
    obtain ⟨hl1, hl2⟩ := List.pairwise_cons.1 hl
    obtain ⟨hu1, hu2⟩ := List.pairwise_cons.1 hu
    unfold insE
    split
    · rename_i h
      refine List.pairwise_cons.2 ⟨fun x hx => ?_, hl⟩
      rcases List.mem_cons.1 hx with rfl | hx'
      · exact h1 _ (List.mem_cons_self ..) h
      · exact h1 x hx (by have := hu1 x hx'; omega)
    · rename_i h
      refine List.pairwise_cons.2 ⟨fun x hx => ?_, ins_pair hl2 hu2 (fun y hy => h1 y (List.mem_cons_of_mem _ hy)) (fun y hy => h2 y (List.mem_cons_of_mem _ hy))⟩
      rcases ins_mem.1 hx with rfl | hx'
      · exact h2 _ (List.mem_cons_self ..) h
      · exact hl1 x hx'
/-- In its form, by values. -/
def okV (c z : Int) (ks : List Vl) : Prop := (∀ k ∈ ks, ascB (-1) c k.1 = true ∧ (k.2.size : Int) = z ∧ k.1 ≠ []) ∧ ks.Pairwise (fun a b => fit1 a.1 b.1)
theorem ok_vals {c z : Int} {es : List EqV} : okE c z es ↔ okV c z (valsE es) := by
  rw [okE_iff]
  unfold okV valsE
  rw [List.pairwise_map, List.pairwise_iff_getElem]
  constructor
  · intro h
    refine ⟨fun k hk => ?_, fun i j hi hj hij => (h i hi).2 j hj hij⟩
    obtain ⟨e, he, rfl⟩ := List.mem_map.1 hk
    obtain ⟨i, hi, rfl⟩ := List.getElem_of_mem he
    exact (h i hi).1
  · rintro ⟨h1, h2⟩ i hi
    exact ⟨h1 _ (List.mem_map.2 ⟨es[i], List.getElem_mem hi, rfl⟩), fun j hj hij => h2 i j hi hj hij⟩
theorem mix_facts {s : List Int × List Int} {k : Vl} (hs : ascB (-1) 24 s.1 = true) (hk : ascB (-1) 24 k.1 = true) (hs0 : s.1 ≠ []) (hk0 : k.1 ≠ []) (hf : hd k.1 ∉ s.1) :
    (mixE s k).1 ≠ [] ∧ hd (mixE s k).1 = hd k.1 ∧ ascB (-1) 24 (mixE s k).1 = true ∧ hd s.1 ∉ (mixE s k).1 ∧ (∀ x, 0 ≤ x → x ∉ k.1 → x ∉ s.1 → x ∉ (mixE s k).1) := by
  have hm := hd_mem hs0
  have h0 := (asc_mem hs hm).1
  unfold mixE
  by_cases hin : hd s.1 ∈ k.1
  · rw [if_pos hin]
    have hx := hd_xor hk hs hs0 hin (fun e => hf (by rw [← e]; exact hm))
    refine ⟨hx.1, hx.2, xorM_asc hk hs, fun h => (mem_xor hk hs (by omega)).1 h ⟨fun _ => hm, fun _ => hin⟩, fun x x0 h1 h2 h => (mem_xor hk hs x0).1 h ⟨fun h3 => absurd h3 h1, fun h3 => absurd h3 h2⟩⟩
  · rw [if_neg hin]
    exact ⟨hk0, rfl, hk, hin, fun x _ h1 _ => h1⟩
theorem asc_low {lo hi hi' : Int} {xs : List Int} (h : ascB lo hi xs = true) (hb : ∀ x ∈ xs, x < hi') : ascB lo hi' xs = true := by
  induction xs generalizing lo with
  | nil => rfl
  | cons x r ih =>
    obtain ⟨h1, h2⟩ := asc_cons.1 h
    exact asc_cons.2 ⟨⟨h1.1, hb x (List.mem_cons_self ..)⟩, ih h2 (fun y hy => hb y (List.mem_cons_of_mem _ hy))⟩
theorem xor_low {xs ys : List Int} {c : Int} (hx : ascB (-1) 24 xs = true) (hy : ascB (-1) 24 ys = true) (bx : ∀ x ∈ xs, x < c) (b_y : ∀ x ∈ ys, x < c) : ∀ x ∈ xorM xs ys, x < c := fun x hm => by
  have h0 := (asc_mem (xorM_asc hx hy) hm).1
  by_cases h1 : x ∈ xs
  · exact bx x h1
  · by_cases h2 : x ∈ ys
    · exact b_y x h2
    · exact absurd ((mem_xor hx hy (by omega)).1 hm) (fun k => k ⟨fun h => absurd h h1, fun h => absurd h h2⟩)
theorem less_low {c z : Int} {es : List EqV} (hok : okE c z es) (hc : c ≤ 24) : ∀ {s : List Int × List Int}, ascB (-1) 24 s.1 = true → (∀ x ∈ s.1, x < c) → (s.2.length : Int) = z →
    ascB (-1) 24 (es.foldl stepE s).1 = true ∧ (∀ x ∈ (es.foldl stepE s).1, x < c) ∧ ((es.foldl stepE s).2.length : Int) = z := by
  induction es with
  | nil => intro s h1 h2 h3; exact ⟨h1, h2, h3⟩
  | cons e es ih =>
    intro s h1 h2 h3
    obtain ⟨⟨ha, hz, -⟩, hr⟩ := hok
    have ha24 := asc_up ha hc
    refine ih hr (stepE_asc h1 ha24) ?_ (by rw [stepE_len (by omega)]; exact h3)
    unfold stepE
    split
    · exact xor_low h1 ha24 h2 (fun x hx => (asc_mem ha hx).2)
    · exact h2
/-- What was in its form is in its form behind what was learnt. -/
theorem learn_ok {c z : Int} {es : List EqV} {row d : List Int} (hok : okE c z es) (hc : c ≤ 24) (hrow : ascB (-1) c row = true) (hd' : (d.length : Int) = z) (hne : (es.foldl stepE (row, d)).1 ≠ []) : okV c z (learnE (es.foldl stepE (row, d)) (valsE es)) := by
  obtain ⟨h1, h2, h3⟩ := less_low hok hc (s := (row, d)) (asc_up hrow hc) (fun x hx => (asc_mem hrow hx).2) hd'
  have hfree : ∀ e ∈ es, hd e.r ∉ (es.foldl stepE (row, d)).1 := fun e he => less_free hok hc (asc_up hrow hc) he
  obtain ⟨s, hs⟩ : ∃ s, s = es.foldl stepE (row, d) := ⟨_, rfl⟩
  rw [← hs] at h1 h2 h3 hfree hne ⊢
  have hv := ok_vals.1 hok
  have hfv : ∀ k ∈ valsE es, hd k.1 ∉ s.1 := fun k hk => by
    obtain ⟨e, he, rfl⟩ := List.mem_map.1 hk
    exact hfree e he
  have hmx : ∀ k ∈ valsE es, _ := fun k hk => mix_facts (s := s) (k := k) h1 (asc_up (hv.1 k hk).1 hc) hne (hv.1 k hk).2.2 (hfv k hk)
  have hpair : ((valsE es).map (mixE s)).Pairwise (fun a b => fit1 a.1 b.1) := by
    rw [List.pairwise_map]
    refine List.Pairwise.imp_of_mem (fun {a b} ha hb hab => ?_) hv.2
    obtain ⟨-, a2, -, -, a5⟩ := hmx a ha
    obtain ⟨-, b2, -, -, -⟩ := hmx b hb
    refine ⟨by rw [a2, b2]; exact hab.1, ?_⟩
    rw [b2]
    exact a5 _ (by have := (asc_mem (hv.1 b hb).1 (hd_mem (hv.1 b hb).2.2)).1; omega) hab.2 (hfv b hb)
  refine ⟨fun k hk => ?_, ins_pair hpair (hpair.imp (fun h => h.1)) ?_ ?_⟩
  · rcases ins_mem.1 hk with rfl | hk'
    · exact ⟨asc_low h1 h2, by rw [strOfNums_size]; exact h3, hne⟩
    · obtain ⟨k0, hk0, rfl⟩ := List.mem_map.1 hk'
      obtain ⟨m1, -, m3, -, -⟩ := hmx k0 hk0
      have hk1 := hv.1 k0 hk0
      refine ⟨asc_low m3 ?_, ?_, m1⟩
      · unfold mixE
        split
        · exact xor_low (asc_up hk1.1 hc) h1 (fun x hx => (asc_mem hk1.1 hx).2) h2
        · exact fun x hx => (asc_mem hk1.1 hx).2
      · unfold mixE
        split
        · show ((strOfNums (xorL (numsOf k0.2) s.2)).size : Int) = z
          rw [strOfNums_size, xorL_len _ _ (by rw [numsOf_len]; have := hk1.2.1; omega), numsOf_len]
          exact hk1.2.1
        · exact hk1.2.1
  · intro k hk hlt
    obtain ⟨k0, hk0, rfl⟩ := List.mem_map.1 hk
    obtain ⟨-, m2, -, -, -⟩ := hmx k0 hk0
    exact ⟨hlt, by rw [m2]; exact hfv k0 hk0⟩
  · intro k hk hge
    obtain ⟨k0, hk0, rfl⟩ := List.mem_map.1 hk
    obtain ⟨-, m2, -, m4, -⟩ := hmx k0 hk0
    refine ⟨?_, m4⟩
    have hneq : hd k0.1 ≠ hd s.1 := fun e => hfv k0 hk0 (by rw [e]; exact hd_mem hne)
    show hd (mixE s k0).1 < hd s.1
    have h4 : ¬ hd s.1 < hd (mixE s k0).1 := hge
    omega
end Go.Proofs.YtegldmdcdnnegaaGreatDoor
