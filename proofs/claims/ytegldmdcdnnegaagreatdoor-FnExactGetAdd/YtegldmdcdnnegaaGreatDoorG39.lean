/- What is known is the same, wherever equations lie. What is said of a row is the same, wherever equations lie. An equation learnt by the model. The row of a symbol, by the model. A plan of a region (Fru) over any class of worlds, with forks of three. -/
import Derived.Test.YtegldmdcdnnegaaGreatDoorG34
import Derived.Test.YtegldmdcdnnegaaGreatDoorG16
import Derived.Test.YtegldmdcdnnegaaGreatDoorG8
import Derived.Test.YtegldmdcdnnegaaGreatDoorG38
import Derived.Test.YtegldmdcdnnegaaGreatDoorG17
import Derived.Test.YtegldmdcdnnegaaGreatDoorG12
import Derived.Test.YtegldmdcdnnegaaGreatDoorG26
import Derived.Test.YtegldmdcdnnegaaGreatDoorG35
namespace Go.Proofs.YtegldmdcdnnegaaGreatDoor
open Go.ChangeShapes Go.WideShapes Go.ChangeAt Go.RowKit Go.Sort Go.Shelf

theorem SamV.eqs {c z : Int} {es fs : List EqV} (h : SamV fs es) : SamV (eqsOf c z fs) (eqsOf c z es) := by
  unfold eqsOf
  by_cases hp : solverP c z es
  · rw [if_pos hp, if_pos (h.solver.2 hp)]; exact h
  · rw [if_neg hp, if_neg (fun h1 => hp (h.solver.1 h1))]; exact ⟨rfl, rfl⟩
theorem SamV.rank {c z : Int} {es fs : List EqV} (h : SamV fs es) : (eqsOf c z fs).length = (eqsOf c z es).length := h.eqs.len
theorem SamV.pfx {c z : Int} {es fs : List EqV} (h : SamV fs es) : (eqsOf c z fs).map EqV.r = (eqsOf c z es).map EqV.r := h.eqs.1
theorem SamV.find {at' : Int} : ∀ {es fs : List EqV}, SamV fs es → gotS (getE fs at') = gotS (getE es at') ∧ (getE fs at').isSome = (getE es at').isSome
  | [], [], _ => ⟨rfl, rfl⟩
  | [], f :: fs, h => by have := h.len; simp at this
  | e :: es, [], h => by have := h.len; simp at this
  | e :: es, f :: fs, h => by
    obtain ⟨h1, h2⟩ := h
    simp only [List.map_cons, List.cons.injEq] at h1 h2
    have ih := SamV.find (at' := at') (es := es) (fs := fs) ⟨h1.2, h2.2⟩
    unfold getE at ih ⊢
    by_cases hp : e.r = [at']
    · rw [List.find?_cons_of_pos (a := f) (by rw [h1.1]; simpa using hp), List.find?_cons_of_pos (a := e) (by simpa using hp)]
      exact ⟨h2.1, rfl⟩
    · rw [List.find?_cons_of_neg (a := f) (by rw [h1.1]; simpa using hp), List.find?_cons_of_neg (a := e) (by simpa using hp)]
      exact ih
theorem SamV.got {c z : Int} {es fs : List EqV} (h : SamV fs es) (at' : Int) : gotS (getE (eqsOf c z fs) at') = gotS (getE (eqsOf c z es) at') ∧ (getE (eqsOf c z fs) at').isSome = (getE (eqsOf c z es) at').isSome := h.eqs.find
end Go.Proofs.YtegldmdcdnnegaaGreatDoor
namespace Go.Proofs.YtegldmdcdnnegaaGreatDoor
open Go.ChangeShapes Go.WideShapes Go.ChangeAt Go.RowKit Go.Sort Go.Shelf

theorem SamV.steps : ∀ {es fs : List EqV}, SamV fs es → ∀ s, fs.foldl stepE s = es.foldl stepE s
  | [], [], _, _ => rfl
  | [], f :: fs, h, _ => by have := h.len; simp at this
  | e :: es, [], h, _ => by have := h.len; simp at this
  | e :: es, f :: fs, h, s => by
    obtain ⟨h1, h2⟩ := h
    simp only [List.map_cons, List.cons.injEq] at h1 h2
    have e1 : stepE s f = stepE s e := by unfold stepE; rw [h1.1, h2.1]
    rw [List.foldl_cons, List.foldl_cons, e1]
    exact SamV.steps ⟨h1.2, h2.2⟩ _
theorem SamV.says {c z : Int} {es fs : List EqV} (h : SamV fs es) (row : List Int) : saysT c z fs row = saysT c z es row ∧ decide (saysP c z fs row) = decide (saysP c z es row) := by
  have e : saysS fs z row = saysS es z row := h.steps _
  have e2 : saysP c z fs row ↔ saysP c z es row := by
    unfold saysP
    rw [e]
    exact ⟨fun k => ⟨h.solver.1 k.1, k.2⟩, fun k => ⟨h.solver.2 k.1, k.2⟩⟩
  constructor
  · unfold saysT
    rw [e]
    by_cases hp : saysP c z es row
    · rw [if_pos hp, if_pos (e2.2 hp)]
    · rw [if_neg hp, if_neg (fun k => hp (e2.1 k))]
  · exact decide_eq_decide.2 e2
theorem owns_cap {w : World} {base : Nat} {e : TypeId} {a : Option Addr} {n m cap : Nat} {xs : List Value} (h : w.ownsRow base e 1 (.slice a m cap) n xs) : a = none → cap = 0 := by
  intro ha
  subst ha
  rcases h.2 with ⟨hv, -⟩ | ⟨g, cap', cur, hv, -⟩
  · cases hv; rfl
  · cases hv
end Go.Proofs.YtegldmdcdnnegaaGreatDoor
namespace Go.Proofs.YtegldmdcdnnegaaGreatDoor
open Go.ChangeShapes Go.WideShapes Go.ChangeAt Go.RowKit Go.Sort Go.Shelf
attribute [local go_sem] Oper.semAt_some

theorem l3Add_any (a : Option Addr) (cap : Nat) (es : List EqV) (c : Int) (n : Nat) (ar : Option Addr) (cr : Nat) (row dn : List Int) (w : World) (ha : EqsAt w a es) (hl : es.length ≤ 1048576) (hsm : SmallE es) (hcap : ∀ e ∈ es, e.a = none → e.c = 0) (hp : solverP c n es) (hrow : IntsAt w ar row) (hasc : ascB (-1) c row = true) (hcr : ar = none → cr = 0) (hdn : dn.length = n) (hdb : BytesL dn) :
    Calls Tryz.prog 16 #[.agg #[.int .i64 c, .int .i64 (n : Int), .slice a es.length cap], .slice ar row.length cr, .string (strOfNums dn)] w fun e w' => AddO w w' (w.heap.size + 2) c n (learnV es row dn) (learnC es row dn n) e := by
  have c2 := hp.1.1.2
  have h24 := asc_up hasc c2
  by_cases hnil : (es.foldl stepE (row, dn)).1 = []
  · unfold learnV learnC
    rw [if_pos hnil, if_pos hnil]
    refine (l3Add_known a cap es c n ar cr row dn w ha hl hsm hcap (okRows hp) (by have := hp.1.2; omega) hrow h24 hcr hdn hdb hnil).mono ?_
    rintro e w' ⟨a', c', gs, rfl, h1, h2, h3, h4⟩
    exact ⟨a', c', gs, rfl, h1, vals_same.2 h2, h3, h4⟩
  · unfold learnV learnC
    rw [if_neg hnil, if_neg hnil]
    refine (l3Add_new a cap es c n ar cr row dn w ha hl hsm hcap (okRows hp) (by have := hp.1.2; omega) hrow h24 hcr hdn hdb hp.2 c2 hnil).mono ?_
    rintro e w' ⟨a', c', gs, rfl, h1, h2, h3, h4⟩
    exact ⟨a', c', gs, rfl, h1, h2, h3, h4⟩
end Go.Proofs.YtegldmdcdnnegaaGreatDoor
namespace Go.Proofs.YtegldmdcdnnegaaGreatDoor
open Go.ChangeShapes Go.WideShapes Go.ChangeAt Go.RowKit Go.Sort

set_option maxHeartbeats 4000000 in
set_option maxRecDepth 100000 in
theorem l5Window_any (long size id : Int) (a1 a2 : Option Addr) (c1 c2 : Nat) (ws gs : List Int) (w : World) (ha1 : IntsAt w a1 ws) (ha2 : IntsAt w a2 gs) (hw : winP (cntI long size) ws) (hg : wgtP ws.length gs) (i0 : 0 ≤ id) (i1 : id ≤ 9999) :
    Calls Tryz.prog 43 #[.agg #[.int .i64 long, .int .i64 size, .slice a1 ws.length c1, .slice a2 gs.length c2], .int .i64 id] w fun e w' => e = .returned (.int .i64 (winN ws gs id)) ∧ Below w.heap.size w w' := by
  have hgl : gs.length ≤ 3 := by have := hw.2.1; have := hg.2; omega
  have X1 := hid (laid w #[.int .i64 long, .int .i64 size, .slice a1 ws.length c1, .slice a2 gs.length c2] 31)
  have J1 := hid (ha1.alloc (.cells #[.int .i64 long, .int .i64 size, .slice a1 ws.length c1, .slice a2 gs.length c2] 31))
  have J2 := hid (ha2.alloc (.cells #[.int .i64 long, .int .i64 size, .slice a1 ws.length c1, .slice a2 gs.length c2] 31))
  have HW := hid hw
  have HG := hid hg
  have hll : ws.length = gs.length := hg.2.symm
  have HL := hid hll
  clear ha1 ha2 hw hg hll
  go_enter Tryz.func43, Tryz.ntmps43
  go_wp2_with fail
  go_loop [5, 6] (fun u i => ∃ j : Nat, j ≤ gs.length ∧ i = .int .i64 j ∧ u = .int .i64 ((gs.take j).sum)) (fun _ i => gs.length - (intOf i).toNat)
  case atStart => exact ⟨0, Nat.zero_le _, rfl, rfl⟩
  case round =>
    obtain ⟨j, hj, rfl, rfl⟩ := hrel
    have hs := wgt_sum HG.out j hj
    by_cases hjl : j < gs.length
    · obtain ⟨b2, o2, rfl, hc2⟩ := J2.out (by intro h; simp [h] at hjl)
      have g1 := hc2 j hjl
      have hgg := HG.out.1 j hjl
      have HS := hid (sum_snoc gs j hjl)
      obtain ⟨Y, hY⟩ : ∃ Y, Y = gs.getD j 0 := ⟨_, rfl⟩
      obtain ⟨U, hU⟩ : ∃ U, U = (gs.take j).sum := ⟨_, rfl⟩
      rw [← hY] at g1 hgg HS
      rw [← hU] at hs HS ⊢
      obtain ⟨y1, y2⟩ := hgg
      obtain ⟨u1, u2, u3⟩ := hs
      clear hc2 hY hU
      go_wp2_with fail
      go_round
      case rel => exact ⟨j + 1, by omega, by go_num, by rw [HS.out]⟩
      case measure => simp [intOf]; omega
    · obtain rfl : j = gs.length := by omega
      rw [List.take_length] at hs ⊢
      obtain ⟨k0, k1, k2, k3⟩ := pk_bd HG.out HW.out.1 HW.out.2.1 id
      have hnx : nextI id = nx id := nextI_in (by omega) (by omega)
      have hnb := next_bd id
      have EK := hid (show nx id / 256 % gs.sum = pkOf gs id by
        unfold pkOf; rw [pickI_in hnb.1 hnb.2 (by omega) (by omega), hnx])
      rw [hnx] at hnb
      clear hs hnx
      go_wp2_with fail
      refine (l4Next_any id _ (by omega) (by omega)).mono ?_
      rintro e wa ⟨rfl, hq⟩
      subst hq
      go_wp2_with fail
      refine (l4Pick_any (nx id) gs.sum _ hnb.1 hnb.2 (by omega) (by omega)).mono ?_
      rintro e wb ⟨rfl, hq⟩
      rw [EK.out]
      subst hq
      obtain ⟨pk, hpk⟩ : ∃ pk, pk = pkOf gs id := ⟨_, rfl⟩
      have EW := hid (show winOf ws gs pk = winN ws gs id by rw [hpk]; rfl)
      rw [← hpk] at k0 k1 ⊢
      have HK := hid k1
      clear hpk EK k1 hnb
      go_wp2_with fail
      go_loop [7, 8] (fun u i => ∃ j : Nat, j ≤ gs.length ∧ i = .int .i64 j ∧ u = .int .i64 (pk - (gs.take j).sum) ∧ (gs.take j).sum ≤ pk ∧ winOf ws gs pk = winOf (ws.drop j) (gs.drop j) (pk - (gs.take j).sum)) (fun _ i => gs.length - (intOf i).toNat)
      case atStart => exact ⟨0, Nat.zero_le _, rfl, by simp, by simpa using k0, by simp⟩
      case round =>
        obtain ⟨j, hj, rfl, rfl, s2, hwj⟩ := hrel
        have hs := wgt_sum HG.out j hj
        have HWJ := hid hwj
        have hkk := HK.out
        clear hwj
        by_cases hlt : j < gs.length
        · have hjw : j < ws.length := by have := HL.out; omega
          obtain ⟨b2, o2, rfl, hc2⟩ := J2.out (by intro h; simp [h] at hlt)
          obtain ⟨b1, o1, rfl, hc1⟩ := J1.out (by intro h; simp [h] at hjw)
          have g1 := hc2 j hlt
          have g2 := hc1 j hjw
          have hgg := HG.out.1 j hlt
          have HS := hid (sum_snoc gs j hlt)
          have HD1 := hid (drop_at hjw)
          have HD2 := hid (drop_at hlt)
          obtain ⟨Y, hY⟩ : ∃ Y, Y = gs.getD j 0 := ⟨_, rfl⟩
          obtain ⟨V, hV⟩ : ∃ V, V = ws.getD j 0 := ⟨_, rfl⟩
          obtain ⟨U, hU⟩ : ∃ U, U = (gs.take j).sum := ⟨_, rfl⟩
          rw [← hY] at g1 hgg HS HD2
          rw [← hV] at g2 HD1
          rw [← hU] at hs s2 HWJ HS ⊢
          clear hc1 hc2 hY hV hU
          obtain ⟨y1, y2⟩ := hgg
          obtain ⟨u1, u2, u3⟩ := hs
          have jl : (j : Int) < (ws.length : Int) := by omega
          by_cases hk : pk - U < Y
          · have HR := hid (show winOf ws gs pk = V by rw [HWJ.out, HD1.out, HD2.out, winOf_yes hk])
            go_wp2_with fail
            go_ret
            exact ⟨ret_int (by rw [← EW.out, HR.out]), below_alloc' _ _⟩
          · have HR := hid (show winOf ws gs pk = winOf (ws.drop (j + 1)) (gs.drop (j + 1)) (pk - (U + Y)) by rw [HWJ.out, HD1.out, HD2.out, winOf_no hk, show pk - U - Y = pk - (U + Y) by omega])
            go_wp2_with fail
            go_round
            case rel => exact ⟨j + 1, by omega, by go_num, by rw [HS.out]; go_num, by rw [HS.out]; omega, by rw [HS.out]; exact HR.out⟩
            case measure => simp [intOf]; omega
        · obtain rfl : j = gs.length := by omega
          rw [List.take_length] at s2
          omega

set_option maxHeartbeats 2000000 in
set_option maxRecDepth 100000 in
theorem l5Row_any (long size id : Int) (a1 a2 : Option Addr) (c1 c2 : Nat) (ws gs : List Int) (w : World) (ha1 : IntsAt w a1 ws) (ha2 : IntsAt w a2 gs) (hp : planP long size ws gs) (i0 : 0 ≤ id) (i1 : id ≤ 9999) :
    Calls Tryz.prog 17 #[.agg #[.int .i64 long, .int .i64 size, .slice a1 ws.length c1, .slice a2 gs.length c2], .int .i64 id] w fun e w' => ∃ v, e = .returned v ∧ w'.ownsRow w.heap.size 3 1 v (rowI long size ws gs id).length ((rowI long size ws gs id).map (Value.int .i64)) ∧ Below w.heap.size w w' := by
  obtain ⟨⟨l1, l2, l3, l4, l5⟩, hw, hg⟩ := hp
  have I1 := hid (ha1.alloc (.cells #[.int .i64 long, .int .i64 size, .slice a1 ws.length c1, .slice a2 gs.length c2] 31))
  have I2 := hid (ha2.alloc (.cells #[.int .i64 long, .int .i64 size, .slice a1 ws.length c1, .slice a2 gs.length c2] 31))
  have HW := hid hw
  have HG := hid hg
  clear ha1 ha2 hw hg
  by_cases hlt : id < cntI long size
  · have HR := hid (show rowI long size ws gs id = [id] from if_pos hlt)
    go_enter Tryz.func17, Tryz.ntmps17
    go_wp2_with fail
    refine (specCount long size _ _ _ _ _ _ _ l1 l2 l3 l4).mono ?_
    rintro e w1 ⟨rfl, b1⟩
    go_wp2_with fail
    go_ret
    have b2 := below_cat' (below_alloc' _ _) b1
    refine ⟨_, rfl, ?_, below_cat' b2 (below_alloc' _ _)⟩
    rw [HR.out]
    exact owns_base (own_one id) b2.size
  · have HR := hid (show rowI long size ws gs id = drawI (winN ws gs id).toNat id from if_neg hlt)
    go_enter Tryz.func17, Tryz.ntmps17
    go_wp2_with fail
    refine (specCount long size _ _ _ _ _ _ _ l1 l2 l3 l4).mono ?_
    rintro e w1 ⟨rfl, b1⟩
    have X1 := hid (kept (laid w #[.int .i64 long, .int .i64 size, .slice a1 ws.length c1, .slice a2 gs.length c2] 31) b1)
    have J1 := hid (I1.out.below b1)
    have J2 := hid (I2.out.below b1)
    have B1 := hid (below_cat' (below_alloc' _ _) b1)
    clear b1 I1 I2
    have p0 := box_cell X1.out 0 (v := .int .i64 long) rfl
    have p1 := box_cell X1.out 1 (v := .int .i64 size) rfl
    have p2 := box_cell X1.out 2 (v := .slice a1 ws.length c1) rfl
    have p3 := box_cell X1.out 3 (v := .slice a2 gs.length c2) rfl
    obtain ⟨v1, v2⟩ := win_bd HW.out HG.out l5 id
    go_wp2_with fail
    refine (l5Window_any long size id a1 a2 c1 c2 ws gs _ J1.out J2.out HW.out HG.out i0 i1).mono ?_
    rintro e wc ⟨rfl, bc⟩
    obtain ⟨N, hN⟩ := Int.eq_ofNat_of_zero_le (show 0 ≤ winN ws gs id by omega)
    have HN := hid hN
    rw [hN] at v1 v2 ⊢
    have B3 := hid (below_cat' B1.out bc)
    clear bc hN
    go_wp2_with fail
    refine (l4Row_any N id _ (by omega) (by omega) (by omega) (by omega)).mono ?_
    rintro e wd ⟨v, rfl, ho, bd⟩
    go_wp2_with fail
    go_ret
    refine ⟨v, rfl, ?_, below_cat' B3.out bd⟩
    rw [HR.out, HN.out, Int.toNat_natCast]
    exact owns_base ho B3.out.size
end Go.Proofs.YtegldmdcdnnegaaGreatDoor
namespace Go.Proofs.YtegldmdcdnnegaaGreatDoor
open Go.ChangeShapes Go.WideShapes Go.ChangeAt Go.RowKit Go.Sort

inductive Plm where
  | done : Plm
  | pull (ks : List (Nat × Nat)) (r : Plm) : Plm
  | step (k : Nat) (r : Plm) : Plm
  | fork (k : Nat) (r : Plm) (o : Plm) : Plm
/-- A step, or a fork of steps: what is ready, in this order. -/
def Plm.size : Plm → Nat
  | .done => 0
  | .pull ks r => (ixs ks).length + r.size
  | .step _ r => r.size + 1
  | .fork _ r _ => r.size + 1
/-- The steps that a fork offers. -/
def Plm.heads : Plm → List Nat
  | .step k _ => [k]
  | .fork k _ o => k :: o.heads
  | _ => []
def plmB (md : Region.Mode) (l : List Oper) (c : Nat) : Bool → Option (List Nat) → Plm → Array Bool → Bool
  | _, none, .done, L => Region.ready md l.toArray L == []
  | b, none, .pull ks r, L => b && ks.all (fun p => decide (p.1 + p.2 ≤ l.length)) && frontL md l.toArray (setAll L (ixs ks)) (ixs ks) L && (cutOut l ks).all readOp &&
      (ixs ks).all (fun i => decide (i < c) && (List.range' c (l.length - c)).all (fun j => behind md l.toArray i l.length j)) && plmB md l c b none r (setAll L (ixs ks))
  | b, none, .step k r, L => decide (k < l.length) && (Region.ready md l.toArray L == [k]) && plmB md l c (b && decide (k < c)) none r (L.setIfInBounds k true)
  | b, none, .fork k r o, L => decide (k < l.length) && (Region.ready md l.toArray L).all (fun i => i == k || o.heads.contains i) && !(Region.ready md l.toArray L == []) && plmB md l c (b && decide (k < c)) none r (L.setIfInBounds k true) &&
      (o.size == r.size + 1) && plmB md l c b (some []) o L
  | b, some _, .step k r, L => decide (k < l.length) && plmB md l c (b && decide (k < c)) none r (L.setIfInBounds k true)
  | b, some _, .fork k r o, L => decide (k < l.length) && plmB md l c (b && decide (k < c)) none r (L.setIfInBounds k true) && (o.size == r.size + 1) && plmB md l c b (some []) o L
  | _, some _, _, _ => false

section
variable {P : Program} {l : List Oper} {md : Region.Mode} {Q : Exit → Act → World → Prop} {C : World → Prop} {c : Nat}

def wpPlm (P : Program) (l : List Oper) (Q : Exit → Act → World → Prop) (C : World → Prop) (c : Nat) : Plm → Act → World → Prop
  | .done, a, w => Q .normal a w
  | .pull ks r, a, w => wpQuiet P l.toArray C (fun a' => wpPlm P l Q C c r a' w) (cutOut l ks) a
  | .step k r, a, w => wpOne P l.toArray Q (fun a' w' => (k < c → C w') ∧ wpPlm P l Q C c r a' w') ((l.drop k).take 1) a w
  | .fork k r o, a, w => wpOne P l.toArray Q (fun a' w' => (k < c → C w') ∧ wpPlm P l Q C c r a' w') ((l.drop k).take 1) a w ∧ wpPlm P l Q C c o a w

theorem plm_done {a : Act} {w : World} (h : Q .normal a w) : wpPlm P l Q C c .done a w := h
theorem plm_pull {ks : List (Nat × Nat)} {r : Plm} {a : Act} {w : World} (h : wpQuiet P l.toArray C (fun a' => wpPlm P l Q C c r a' w) (cutOut l ks) a) : wpPlm P l Q C c (.pull ks r) a w := h
theorem plm_step {k : Nat} {r : Plm} {o : Oper} {a : Act} {w : World} (ho : l[k]? = some o) (h : ∀ K : Act → World → Prop, (∀ a' w', C w' → wpPlm P l Q C c r a' w' → K a' w') → if Region.wanted o (yielded l.toArray a.tmps) then o.wp P a w K Q else C w ∧ K (a.put o.dst undef) w) : wpPlm P l Q C c (.step k r) a w := by
  have hd : (l.drop k).take 1 = [o] := by
    obtain ⟨hl, he⟩ := List.getElem?_eq_some_iff.1 ho
    rw [List.drop_eq_getElem_cons hl, he]; rfl
  show wpOne P l.toArray Q _ ((l.drop k).take 1) a w
  rw [hd]
  have h1 := h (fun a' w' => (k < c → C w') ∧ wpPlm P l Q C c r a' w') (fun _ _ k1 k2 => ⟨fun _ => k1, k2⟩)
  show if Region.wanted o (yielded l.toArray a.tmps) = true then o.wp P a w _ Q else _
  by_cases hw : Region.wanted o (yielded l.toArray a.tmps) = true
  · rw [if_pos hw] at h1 ⊢
    exact h1
  · rw [if_neg hw] at h1 ⊢
    exact h1.2
theorem plm_last {k : Nat} {r : Plm} {o : Oper} {a : Act} {w : World} (ho : l[k]? = some o) (hk : ¬ k < c) (h : ∀ K : Act → World → Prop, (∀ a' w', wpPlm P l Q C c r a' w' → K a' w') → if Region.wanted o (yielded l.toArray a.tmps) then o.wp P a w K Q else K (a.put o.dst undef) w) : wpPlm P l Q C c (.step k r) a w := by
  have hd : (l.drop k).take 1 = [o] := by
    obtain ⟨hl, he⟩ := List.getElem?_eq_some_iff.1 ho
    rw [List.drop_eq_getElem_cons hl, he]; rfl
  show wpOne P l.toArray Q _ ((l.drop k).take 1) a w
  rw [hd]
  exact h (fun a' w' => (k < c → C w') ∧ wpPlm P l Q C c r a' w') (fun _ _ k2 => ⟨fun h => absurd h hk, k2⟩)
theorem plm_fork {k : Nat} {r o : Plm} {a : Act} {w : World} (h : wpPlm P l Q C c (.step k r) a w) (h' : wpPlm P l Q C c o a w) : wpPlm P l Q C c (.fork k r o) a w := ⟨h, h'⟩

mutual
theorem wpMid_plm (hs : Region.noSelect l.toArray = true) (hQ : ∀ c a d v w, Q (.panic c) (a.put d v) w → Q (.panic c) a w) :
    ∀ (p : Plm) (b : Bool) (listed : Array Bool) (a : Act) (w : World), Shut md l.toArray listed → (b = true → C w) → plmB md l c b none p listed = true → wpPlm P l Q C c p a w → wpMid P md l.toArray Q C c p.size listed a w
  | .done, _, listed, a, w, _, _, hB, h => ⟨by simpa [plmB] using hB, h⟩
  | .pull ks r, b, listed, a, w, hsh, hC, hB, h => by
    simp only [plmB, Bool.and_eq_true] at hB
    obtain ⟨⟨⟨⟨⟨hb, hks⟩, hf⟩, hrd⟩, hpost⟩, hr⟩ := hB
    have hl := lies_cut l ks hks
    have h1 := wpMid_lexW (P := P) (md := md) (Q := Q) (C := C) (c := c) (b := r.size) hs hQ (hC hb) (K := fun a' => wpPlm P l Q C c r a' w)
      (fun a' hsh' hK => wpMid_plm hs hQ r b _ a' w hsh' hC hr hK) (ixs ks) (cutOut l ks) listed a hl (fun i hi => by
        have h2 := List.all_eq_true.1 hpost i hi
        simp only [Bool.and_eq_true, decide_eq_true_eq] at h2
        refine ⟨h2.1, fun j hj hjl => ?_⟩
        have hjl' : j < l.length := by simpa using hjl
        have h3 := List.all_eq_true.1 h2.2 j (List.mem_range'_1.2 ⟨hj, by omega⟩)
        simpa using h3) hsh hrd hf h
    rw [← lies_len hl] at h1
    exact h1
  | .step k r, b, listed, a, w, hsh, hC, hB, h => by
    simp only [plmB, Bool.and_eq_true, decide_eq_true_eq, beq_iff_eq] at hB
    obtain ⟨⟨hk, hr⟩, hB'⟩ := hB
    refine ⟨fun he => (by rw [hr] at he; cases he), fun i hi => ?_⟩
    have hi' := hi
    rw [hr] at hi'
    obtain rfl : i = k := by simpa using hi'
    exact wpOp_mono (fun a' w' h2 => ⟨h2.1, wpMid_plm hs hQ r _ _ a' w' (hsh.set hi) (fun hbk => h2.1 (by simp only [Bool.and_eq_true, decide_eq_true_eq] at hbk; exact hbk.2)) hB' h2.2⟩) (wpOp_one hk h)
  | .fork k r o, b, listed, a, w, hsh, hC, hB, h => by
    simp only [plmB, Bool.and_eq_true, decide_eq_true_eq, beq_iff_eq, Bool.not_eq_true'] at hB
    obtain ⟨⟨⟨⟨⟨hk, hall⟩, hne⟩, hB1⟩, hsz⟩, hB2⟩ := hB
    refine ⟨fun he => (by rw [he] at hne; simp at hne), fun i hi => ?_⟩
    have h3 := List.all_eq_true.1 hall i hi
    simp only [Bool.or_eq_true, beq_iff_eq] at h3
    by_cases hik : i = k
    · subst hik
      exact wpOp_mono (fun a' w' h2 => ⟨h2.1, wpMid_plm hs hQ r _ _ a' w' (hsh.set hi) (fun hbk => h2.1 (by simp only [Bool.and_eq_true, decide_eq_true_eq] at hbk; exact hbk.2)) hB1 h2.2⟩) (wpOp_one hk h.1)
    · have h4 := wpOther_plm hs hQ o b listed a w i hsh hC hB2 h.2 (by simpa using h3.resolve_left hik) hi
      rw [hsz] at h4
      exact h4
theorem wpOther_plm (hs : Region.noSelect l.toArray = true) (hQ : ∀ c a d v w, Q (.panic c) (a.put d v) w → Q (.panic c) a w) :
    ∀ (p : Plm) (b : Bool) (listed : Array Bool) (a : Act) (w : World) (i : Nat), Shut md l.toArray listed → (b = true → C w) → plmB md l c b (some []) p listed = true → wpPlm P l Q C c p a w → i ∈ p.heads → i ∈ Region.ready md l.toArray listed →
      wpOp P l.toArray Q i (fun a' w' => (i < c → C w') ∧ wpMid P md l.toArray Q C c (p.size - 1) (listed.setIfInBounds i true) a' w') a w
  | .done, _, _, _, _, _, _, _, hB, _, _, _ => by simp [plmB] at hB
  | .pull _ _, _, _, _, _, _, _, _, hB, _, _, _ => by simp [plmB] at hB
  | .step k r, b, listed, a, w, i, hsh, hC, hB, h, hm, hi => by
    simp only [plmB, Bool.and_eq_true, decide_eq_true_eq] at hB
    obtain rfl : i = k := by simpa [Plm.heads] using hm
    exact wpOp_mono (fun a' w' h2 => ⟨h2.1, wpMid_plm hs hQ r _ _ a' w' (hsh.set hi) (fun hbk => h2.1 (by simp only [Bool.and_eq_true, decide_eq_true_eq] at hbk; exact hbk.2)) hB.2 h2.2⟩) (wpOp_one hB.1 h)
  | .fork k r o, b, listed, a, w, i, hsh, hC, hB, h, hm, hi => by
    simp only [plmB, Bool.and_eq_true, decide_eq_true_eq, beq_iff_eq] at hB
    obtain ⟨⟨⟨hk, hB1⟩, hsz⟩, hB2⟩ := hB
    by_cases hik : i = k
    · subst hik
      exact wpOp_mono (fun a' w' h2 => ⟨h2.1, wpMid_plm hs hQ r _ _ a' w' (hsh.set hi) (fun hbk => h2.1 (by simp only [Bool.and_eq_true, decide_eq_true_eq] at hbk; exact hbk.2)) hB1 h2.2⟩) (wpOp_one hk h.1)
    · have h4 := wpOther_plm hs hQ o b listed a w i hsh hC hB2 h.2 (by
        rcases List.mem_cons.1 (show i ∈ k :: o.heads from hm) with h5 | h5
        · exact absurd h5 hik
        · exact h5) hi
      rw [hsz] at h4
      exact h4
end
end

def plamB (l : List Oper) (c : Nat) (p : Plm) : Bool := Region.noSelect l.toArray && (p.size == l.length) && plmB .any l c true none p (Array.replicate l.length false)
/-- In any class that the region's start lies in. -/
theorem wp_plam {P : Program} {id : Nat} {K : Act → World → Prop} {Q : Exit → Act → World → Prop} {a : Act} {w : World} {l : List Oper} (C : World → Prop) (c : Nat) (p : Plm) (hm : P.follows .mixedOrders = true) (hB : plamB l c p = true)
    (hC : ∀ w1, (∃ p : Regrown, w1 = grow (redrawn w p.d) p.os) → C w1)
    (h : ∀ w1, (∃ p : Regrown, w1 = grow (redrawn w p.d) p.os) → wpPlm P l (Exit.then K (fun _ _ _ => False)) C c p a w1) : (Code.region id l.toArray true).wp P (Exit.then K Q) a w := by
  simp only [plamB, Bool.and_eq_true, beq_iff_eq] at hB
  obtain ⟨⟨hs, hsz⟩, hB⟩ := hB
  have hr : ∃ p : Regrown, grow (redrawn w (w.drawn + 1)) #[] = grow (redrawn w p.d) p.os := ⟨⟨w.drawn + 1, #[]⟩, rfl⟩
  refine Code.wp_mono (fun e _ _ h => by cases e <;> first | exact h | exact h.elim) (wp_region_any (Q := Exit.then K (fun _ _ _ => False)) hm ?_)
  have h1 := wpMid_plm (P := P) (Q := Exit.then K (fun _ _ _ => False)) (C := C) (md := .any) hs (fun _ _ _ _ _ h => h.elim) p true (Array.replicate l.length false) a _ (fun k o _ hk => by simp [Array.getElem?_replicate] at hk; split at hk <;> simp_all) (fun _ => hC _ hr) hB (h _ hr)
  rw [hsz] at h1
  have h2 := wpAny_of_wpMid _ _ _ _ h1
  rw [grow_empty] at h2
  rw [List.size_toArray]
  exact h2
end Go.Proofs.YtegldmdcdnnegaaGreatDoor
