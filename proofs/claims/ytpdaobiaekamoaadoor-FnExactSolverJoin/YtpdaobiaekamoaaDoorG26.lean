/- What the model knows of equations. What is known is the same, wherever equations lie. What is said of a row is the same, wherever equations lie. The measure of solvers, from what is left. -/
import Derived.Test.YtpdaobiaekamoaaDoorG19
import Derived.Test.YtpdaobiaekamoaaDoorG25
import Derived.Test.YtpdaobiaekamoaaDoorG11
import Derived.Test.YtpdaobiaekamoaaDoorG17
import Derived.Test.YtpdaobiaekamoaaDoorG9
namespace Go.Proofs.YtpdaobiaekamoaaDoor
open Go.ChangeShapes Go.WideShapes Go.ChangeAt Go.RowKit Go.Sort Go.Shelf
attribute [local go_sem] Oper.semAt_some

theorem getE_take_none {es : List EqV} {at' : Int} (h : ∀ i (hi : i < es.length), es[i].r ≠ [at']) : getE es at' = none := getE_none (fun r hr => by
  obtain ⟨e, he, rfl⟩ := List.mem_map.1 hr
  obtain ⟨i, hi, rfl⟩ := List.getElem_of_mem he
  exact h i hi)

set_option maxHeartbeats 2000000 in
theorem l3Get_any (a : Option Addr) (cap : Nat) (es : List EqV) (c z at' : Int) (w : World) (ha : EqsAt w a es) (hsm : SmallE es) (hl : es.length ≤ 1048576) :
    Calls Tryd.prog 46 #[.agg #[.int .i64 c, .int .i64 z, .slice a es.length cap], .int .i64 at'] w fun e w' => e = .returned (.tuple #[.string (gotS (getE es at')), .bool (getE es at').isSome]) ∧ Below w.heap.size w w' := by
  have HA := hid (ha.below (u_b1 w (.cells #[.int .i64 c, .int .i64 z, .slice a es.length cap] 29)))
  have HS := hid hsm
  clear ha hsm
  go_enter Tryd.func46, Tryd.ntmps46
  go_wp2
  obtain ⟨W0, hW0⟩ : ∃ W0, W0 = w.alloc (.cells #[.int .i64 c, .int .i64 z, .slice a es.length cap] 29) := ⟨_, rfl⟩
  have X0 := laid w #[.int .i64 c, .int .i64 z, .slice a es.length cap] 29
  have HB := hid (u_b1 w (.cells #[.int .i64 c, .int .i64 z, .slice a es.length cap] 29))
  rw [← hW0] at X0 HB HA ⊢
  clear hW0
  have q2 := box_cell X0 2 (v := .slice a es.length cap) rfl
  clear X0
  go_loop [6] (fun i => ∃ k : Nat, k ≤ es.length ∧ i = .int .i64 k ∧ ∀ j (hj : j < es.length), j < k → es[j].r ≠ [at']) (fun i => es.length - (intOf i).toNat)
  case atStart => exact ⟨0, by omega, rfl, fun j hj h => by omega⟩
  case round =>
    obtain ⟨k, hk, rfl, hall⟩ := hrel
    have HL := hid hall
    clear hall
    by_cases hlt : k < es.length
    · obtain ⟨e, he⟩ : ∃ e, es[k] = e := ⟨_, rfl⟩
      have hel := (HS.out e (by rw [← he]; exact List.getElem_mem hlt)).1
      obtain ⟨b, off, rfl, hc⟩ := HA.out (by intro h; simp [h] at hlt)
      obtain ⟨c0, c1, crow⟩ := hc k e (by rw [List.getElem?_eq_getElem hlt, he])
      have HE := hid he
      clear he hc
      by_cases h1 : e.r.length = 1
      · have h1' : ((e.r.length : Int) == 1) = true := by simp [h1]
        have h1'' : (0 : Int) < e.r.length := by omega
        obtain ⟨rb, ro, hra, hrc⟩ := hd_cell crow (by intro h; simp [h] at h1)
        rw [hra] at c0
        by_cases h2 : hd e.r = at'
        · have h2' : (hd e.r == at') = true := by simpa using h2
          have HG := hid (show getE es at' = some e by
            rw [← HE.out]
            exact getE_at hlt (by rw [HE.out]; exact (one_row _ _).1 ⟨h1, h2⟩) (fun j hj => HL.out j (by omega) hj))
          clear h1 h2 crow
          generalize hd e.r = H at hrc h2'
          go_wp2
          go_ret2
          exact ⟨by rw [HG.out]; rfl, HB.out⟩
        · have h2' : (hd e.r == at') = false := by simpa using h2
          have HN := hid (show es[k].r ≠ [at'] by rw [HE.out]; exact fun h => h2 ((one_row _ _).2 h).2)
          clear h1 h2 crow
          generalize hd e.r = H at hrc h2'
          go_wp2
          go_round
          case rel => exact ⟨k + 1, by omega, by go_num, fun j hj hjk => (by
            rcases Nat.lt_succ_iff_lt_or_eq.1 hjk with h | h
            · exact HL.out j hj h
            · subst h; exact HN.out)⟩
          case measure => simp [intOf]; omega
      · have h1' : ((e.r.length : Int) == 1) = false := by simp; omega
        have HN := hid (show es[k].r ≠ [at'] by rw [HE.out]; exact fun h => h1 ((one_row _ _).2 h).1)
        clear h1 crow
        go_wp2
        go_round
        case rel => exact ⟨k + 1, by omega, by go_num, fun j hj hjk => (by
          rcases Nat.lt_succ_iff_lt_or_eq.1 hjk with h | h
          · exact HL.out j hj h
          · subst h; exact HN.out)⟩
        case measure => simp [intOf]; omega
    · have HG := hid (show getE es at' = none from getE_take_none (fun i hi => HL.out i hi (by omega)))
      go_wp2
      go_ret2
      exact ⟨by rw [HG.out]; rfl, HB.out⟩

theorem eqsOf_yes {c z : Int} {es : List EqV} (h : solverP c z es) : eqsOf c z es = es := if_pos h
theorem eqsOf_no {c z : Int} {es : List EqV} (h : ¬ solverP c z es) : eqsOf c z es = [] := if_neg h

theorem pfx_spec : ∀ (rs : List (List Int)) (n : Nat), n ≤ pfx n rs ∧ pfx n rs ≤ n + rs.length ∧ (∀ i, n + i < pfx n rs → rs[i]? = some [((n + i : Nat) : Int)]) ∧ rs[pfx n rs - n]? ≠ some [((pfx n rs : Nat) : Int)]
  | [], n => ⟨Nat.le_refl _, Nat.le_refl _, fun i hi => by simp only [pfx] at hi; omega, by simp⟩
  | r :: rs, n => by
    by_cases h : r = [(n : Int)]
    · have e : pfx n (r :: rs) = pfx (n + 1) rs := by show (if r = [(n : Int)] then pfx (n + 1) rs else n) = _; rw [if_pos h]
      obtain ⟨h1, h2, h3, h4⟩ := pfx_spec rs (n + 1)
      rw [e]
      refine ⟨by omega, by rw [List.length_cons]; omega, fun i hi => ?_, ?_⟩
      · cases i with
        | zero => simpa using h
        | succ i =>
          have := h3 i (by omega)
          rw [List.getElem?_cons_succ, this]
          congr 3
          omega
      · rw [show pfx (n + 1) rs - n = (pfx (n + 1) rs - (n + 1)) + 1 by omega, List.getElem?_cons_succ]
        exact h4
    · have e : pfx n (r :: rs) = n := by show (if r = [(n : Int)] then pfx (n + 1) rs else n) = _; rw [if_neg h]
      rw [e]
      refine ⟨Nat.le_refl _, by omega, fun i hi => by omega, ?_⟩
      rw [Nat.sub_self, List.getElem?_cons_zero]
      intro h2
      exact h (Option.some.inj h2)
theorem hd_ge {c z : Int} {es : List EqV} (h : okE c z es) : ∀ (i : Nat) (hi : i < es.length), (i : Int) ≤ hd es[i].r := by
  have h' := okE_iff.1 h
  intro i
  induction i with
  | zero =>
    intro hi
    have := asc_mem (h' 0 hi).1.1 (hd_mem (h' 0 hi).1.2.2)
    omega
  | succ i ih =>
    intro hi
    have h1 := ih (by omega)
    have h2 := ((h' i (by omega)).2 (i + 1) hi (by omega)).1
    omega
theorem prefix_known {c z : Int} {es : List EqV} (h : okE c z es) : (∀ n : Nat, n < pfx 0 (es.map EqV.r) → (getE es n).isSome = true) ∧ getE es (pfx 0 (es.map EqV.r) : Nat) = none := by
  obtain ⟨h1, h2, h3, h4⟩ := pfx_spec (es.map EqV.r) 0
  rw [Nat.sub_zero] at h4
  simp only [Nat.zero_add] at h2 h3
  rw [List.length_map] at h2
  have hr : ∀ n : Nat, n < pfx 0 (es.map EqV.r) → ∃ hn : n < es.length, es[n].r = [(n : Int)] := fun n hn => by
    have hl : n < es.length := by omega
    have := h3 n hn
    rw [List.getElem?_map, List.getElem?_eq_getElem hl, Option.map_some] at this
    exact ⟨hl, Option.some.inj this⟩
  refine ⟨fun n hn => ?_, getE_take_none (fun i hi he => ?_)⟩
  · obtain ⟨hl, he⟩ := hr n hn
    unfold getE
    rw [List.find?_isSome]
    exact ⟨es[n], List.getElem_mem hl, by simpa using he⟩
  · generalize hp : pfx 0 (es.map EqV.r) = p at *
    rcases Nat.lt_trichotomy i p with hlt | heq | hgt
    · obtain ⟨_, h5⟩ := hr i hlt
      rw [h5] at he
      have := List.cons.inj he
      omega
    · subst heq
      rw [List.getElem?_map, List.getElem?_eq_getElem hi, Option.map_some, he] at h4
      exact h4 rfl
    · have h5 := hd_ge h p (by omega)
      have h6 := ((okE_iff.1 h p (by omega)).2 i hi hgt).1
      rw [he] at h6
      have : hd [(p : Int)] = p := rfl
      omega

set_option maxHeartbeats 2000000 in
theorem l3Prefix_any (a : Option Addr) (cap : Nat) (es : List EqV) (c z : Int) (w : World) (ha : EqsAt w a es) (hsm : SmallE es) (hl : es.length ≤ 1048576) (ho : okE c z es) :
    Calls Tryd.prog 49 #[.agg #[.int .i64 c, .int .i64 z, .slice a es.length cap]] w fun e w' => e = .returned (.int .i64 (pfx 0 (es.map EqV.r))) ∧ Below w.heap.size w w' := by
  have HA := hid ha
  have HS := hid hsm
  have HP := hid (prefix_known ho)
  have hpl : pfx 0 (es.map EqV.r) ≤ es.length := by
    have := (pfx_spec (es.map EqV.r) 0).2.1
    rw [List.length_map] at this
    omega
  clear ha hsm ho
  generalize pfx 0 (es.map EqV.r) = p at HP hpl
  go_enter Tryd.func49, Tryd.ntmps49
  go_wp2
  obtain ⟨W0, hW0⟩ : ∃ W0, W0 = w.alloc (.cells #[.int .i64 c, .int .i64 z, .slice a es.length cap] 29) := ⟨_, rfl⟩
  have X0 := laid w #[.int .i64 c, .int .i64 z, .slice a es.length cap] 29
  have HB := hid (u_b1 w (.cells #[.int .i64 c, .int .i64 z, .slice a es.length cap] 29))
  rw [← hW0] at X0 HB ⊢
  clear hW0
  go_loopw [3, 4, 5] (fun i _ _ wr => ∃ n : Nat, n ≤ p ∧ i = .int .i64 n ∧ wr.heap[w.heap.size]? = some (.cells #[.int .i64 c, .int .i64 z, .slice a es.length cap] 29 (0, 0)) ∧ Below w.heap.size w wr) (fun i _ _ _ => p - (intOf i).toNat)
  case atStart => exact ⟨0, by omega, rfl, X0, HB.out⟩
  case round =>
    clear X0 HB W0
    obtain ⟨n, hn, rfl, X, B⟩ := hrel
    have q0 := box_cell X 0 (v := .int .i64 c) rfl
    have q1 := box_cell X 1 (v := .int .i64 z) rfl
    have q2 := box_cell X 2 (v := .slice a es.length cap) rfl
    have K := hid (l3Get_any a cap es c z n wr (HA.out.below B) HS.out hl)
    have HX := hid X
    have HB := hid B
    clear X B
    by_cases hlt : n < p
    · rw [HP.out.1 n hlt] at K
      go_wp2_with (go_at_call 46; refine K.out.mono ?_; rintro e w2 ⟨rfl, b2⟩)
      go_roundw
      case rel => exact ⟨n + 1, by omega, by go_num, kept HX.out b2, u_cat HB.out b2⟩
      case measure => simp [intOf]; omega
    · obtain rfl : n = p := by omega
      rw [HP.out.2] at K
      simp only [Option.isSome_none, gotS] at K
      go_wp2_with (go_at_call 46; refine K.out.mono ?_; rintro e w2 ⟨rfl, b2⟩)
      go_ret
      exact ⟨rfl, u_cat HB.out b2⟩
end Go.Proofs.YtpdaobiaekamoaaDoor
namespace Go.Proofs.YtpdaobiaekamoaaDoor
open Go.ChangeShapes Go.WideShapes Go.ChangeAt Go.RowKit Go.Sort Go.Shelf

theorem SamV.eqs {c z : Int} {es fs : List EqV} (h : SamV fs es) : SamV (eqsOf c z fs) (eqsOf c z es) := by
  unfold eqsOf
  by_cases hp : solverP c z es
  · rw [if_pos hp, if_pos (h.solver.2 hp)]; exact h
  · rw [if_neg hp, if_neg (fun h1 => hp (h.solver.1 h1))]; exact ⟨rfl, rfl⟩
theorem SamV.rank {c z : Int} {es fs : List EqV} (h : SamV fs es) : (eqsOf c z fs).length = (eqsOf c z es).length := h.eqs.len
theorem SamV.pfx {c z : Int} {es fs : List EqV} (h : SamV fs es) : (eqsOf c z fs).map EqV.r = (eqsOf c z es).map EqV.r := h.eqs.1
theorem SamV.find {at' : Int} : ∀ {es fs : List EqV}, SamV fs es → gotS (getE fs at') = gotS (getE es at') ∧ (getE fs at').isSome = (getE es at').isSome
  | [], [], _ => ⟨rfl, rfl⟩
  | [], f :: fs, h => by have := h.len; simp at this
  | e :: es, [], h => by have := h.len; simp at this
  | e :: es, f :: fs, h => by
    obtain ⟨h1, h2⟩ := h
    simp only [List.map_cons, List.cons.injEq] at h1 h2
    have ih := SamV.find (at' := at') (es := es) (fs := fs) ⟨h1.2, h2.2⟩
    unfold getE at ih ⊢
    by_cases hp : e.r = [at']
    · rw [List.find?_cons_of_pos (a := f) (by rw [h1.1]; simpa using hp), List.find?_cons_of_pos (a := e) (by simpa using hp)]
      exact ⟨h2.1, rfl⟩
    · rw [List.find?_cons_of_neg (a := f) (by rw [h1.1]; simpa using hp), List.find?_cons_of_neg (a := e) (by simpa using hp)]
      exact ih
theorem SamV.got {c z : Int} {es fs : List EqV} (h : SamV fs es) (at' : Int) : gotS (getE (eqsOf c z fs) at') = gotS (getE (eqsOf c z es) at') ∧ (getE (eqsOf c z fs) at').isSome = (getE (eqsOf c z es) at').isSome := h.eqs.find
end Go.Proofs.YtpdaobiaekamoaaDoor
namespace Go.Proofs.YtpdaobiaekamoaaDoor
open Go.ChangeShapes Go.WideShapes Go.ChangeAt Go.RowKit Go.Sort Go.Shelf

theorem SamV.steps : ∀ {es fs : List EqV}, SamV fs es → ∀ s, fs.foldl stepE s = es.foldl stepE s
  | [], [], _, _ => rfl
  | [], f :: fs, h, _ => by have := h.len; simp at this
  | e :: es, [], h, _ => by have := h.len; simp at this
  | e :: es, f :: fs, h, s => by
    obtain ⟨h1, h2⟩ := h
    simp only [List.map_cons, List.cons.injEq] at h1 h2
    have e1 : stepE s f = stepE s e := by unfold stepE; rw [h1.1, h2.1]
    rw [List.foldl_cons, List.foldl_cons, e1]
    exact SamV.steps ⟨h1.2, h2.2⟩ _
theorem SamV.says {c z : Int} {es fs : List EqV} (h : SamV fs es) (row : List Int) : saysT c z fs row = saysT c z es row ∧ decide (saysP c z fs row) = decide (saysP c z es row) := by
  have e : saysS fs z row = saysS es z row := h.steps _
  have e2 : saysP c z fs row ↔ saysP c z es row := by
    unfold saysP
    rw [e]
    exact ⟨fun k => ⟨h.solver.1 k.1, k.2⟩, fun k => ⟨h.solver.2 k.1, k.2⟩⟩
  constructor
  · unfold saysT
    rw [e]
    by_cases hp : saysP c z es row
    · rw [if_pos hp, if_pos (e2.2 hp)]
    · rw [if_neg hp, if_neg (fun k => hp (e2.1 k))]
  · exact decide_eq_decide.2 e2
theorem owns_cap {w : World} {base : Nat} {e : TypeId} {a : Option Addr} {n m cap : Nat} {xs : List Value} (h : w.ownsRow base e 1 (.slice a m cap) n xs) : a = none → cap = 0 := by
  intro ha
  subst ha
  rcases h.2 with ⟨hv, -⟩ | ⟨g, cap', cur, hv, -⟩
  · cases hv; rfl
  · cases hv
end Go.Proofs.YtpdaobiaekamoaaDoor
namespace Go.Proofs.YtpdaobiaekamoaaDoor
open Go.ChangeShapes Go.WideShapes Go.ChangeAt Go.RowKit Go.Sort Go.Shelf
attribute [local go_sem] Oper.semAt_some

set_option maxHeartbeats 2000000 in
theorem szEqS_left (a : Option Addr) (cap : Nat) (es : List EqV) (lf : Int) (w : World) (ha : EqsAt w a es) (hn : es.length ≤ 9223372036854775807) (hL : LongE es) (h0 : 0 ≤ lf) (h1 : lf ≤ 1048576) :
    Calls Tryd.prog 32 #[.slice a es.length cap, .int .i64 lf] w fun e w' => ∃ v : Int, e = .returned (.int .i64 v) ∧ szP (es.length ≤ 1048576 ∧ SmallE es) 1048576 v ∧ Below w.heap.size w w' := by
  have HA := hid ha
  have HL := hid hL
  clear ha hL
  by_cases h : (es.length : Int) ≤ lf
  · have h2 : ¬ (lf - (es.length : Int) < 0) := by omega
    go_enter Tryd.func32, Tryd.ntmps32
    go_wp2
    go_loopw [1, 5] (fun l i wr => ∃ (k : Nat) (v : Int), k ≤ es.length ∧ i = .int .i64 k ∧ l = .int .i64 v ∧ 0 ≤ v ∧ v ≤ 1048576 ∧ (∀ j (hj : j < es.length), j < k → es[j].r.length ≤ 1048576 ∧ es[j].d.size ≤ 1048576) ∧ Below w.heap.size w wr) (fun _ i _ => es.length - (intOf i).toNat)
    case atStart => exact ⟨0, _, by omega, rfl, rfl, by omega, by omega, fun j hj h => by omega, Below.refl _ _⟩
    case round =>
      obtain ⟨k, v, hk, rfl, rfl, hv0, hv1, hall, B⟩ := hrel
      have HB := hid B
      have HS := hid hall
      clear hall
      by_cases hlt : k < es.length
      · obtain ⟨e, he⟩ : ∃ e, es[k] = e := ⟨_, rfl⟩
        have hm : e ∈ es := by rw [← he]; exact List.getElem_mem hlt
        obtain ⟨b, off, rfl, hc⟩ := (HA.out.below B) (by intro h; simp [h] at hlt)
        obtain ⟨c0, c1, -⟩ := hc k e (by rw [List.getElem?_eq_getElem hlt, he])
        have K := hid (szEq_ex e.a e.r.length e.c e.d v wr (HL.out e hm).1 (HL.out e hm).2 hv0 hv1)
        have HE := hid he
        clear hc he hm B
        go_wp2_with fail
        refine K.out.mono ?_
        rintro _ w1 ⟨u, rfl, hu, b1⟩
        have HU := hid hu
        clear hu c0 c1
        by_cases hu0 : u < 0
        · go_wp2_with fail
          go_ret
          exact ⟨_, rfl, .inl (by omega), u_cat HB.out b1⟩
        · have HU2 := hid (HU.out.resolve_left hu0)
          go_wp2_with fail
          go_roundw
          case rel => exact ⟨k + 1, u, by omega, by go_num, rfl, HU2.out.2.1, by have := HU2.out.2.2; omega, fun j hj hjk => (by
            rcases Nat.lt_succ_iff_lt_or_eq.1 hjk with h | h
            · exact HS.out j hj h
            · subst h; rw [HE.out]; have := HU2.out.1; omega), u_cat HB.out b1⟩
          case measure => simp [intOf]; omega
      · go_wp2
        go_ret
        exact ⟨_, rfl, .inr ⟨⟨by omega, fun e he => by
          obtain ⟨j, hj, rfl⟩ := List.getElem_of_mem he
          exact HS.out j hj (by omega)⟩, hv0, hv1⟩, HB.out⟩
  · have h2 : lf - (es.length : Int) < 0 := by omega
    go_enter Tryd.func32, Tryd.ntmps32
    go_wp2
    go_ret
    exact ⟨_, rfl, .inl (by omega), Below.refl _ _⟩

set_option maxHeartbeats 1000000 in
theorem szSolver_left (a : Option Addr) (cap : Nat) (es : List EqV) (c z lf : Int) (w : World) (ha : EqsAt w a es) (hn : es.length ≤ 9223372036854775807) (hL : LongE es) (h0 : 0 ≤ lf) (h1 : lf ≤ 1048576) :
    Calls Tryd.prog 10 #[.agg #[.int .i64 c, .int .i64 z, .slice a es.length cap], .int .i64 lf] w fun e w' => ∃ v : Int, e = .returned (.int .i64 v) ∧ szP (es.length ≤ 1048576 ∧ SmallE es) 1048576 v ∧ Below w.heap.size w w' := by
  have HA := hid ha
  clear ha
  go_enter Tryd.func10, Tryd.ntmps10
  go_wp2_with fail
  refine (szEqS_left a cap es lf _ (HA.out.below (u_b1 _ _)) hn hL h0 h1).mono ?_
  rintro e w1 ⟨v, rfl, hv, b1⟩
  have HB := hid (u_cat (u_b1 _ _) b1)
  clear b1
  by_cases hv0 : v < 0
  · clear hv
    go_wp2_with fail
    go_ret
    exact ⟨_, rfl, .inl (by omega), HB.out⟩
  · have HV := hid hv
    clear hv
    go_wp2_with fail
    go_ret
    exact ⟨_, rfl, HV.out, HB.out⟩

end Go.Proofs.YtpdaobiaekamoaaDoor
