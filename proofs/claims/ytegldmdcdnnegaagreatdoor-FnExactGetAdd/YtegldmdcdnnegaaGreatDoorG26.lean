/- The row of a symbol of a plan that is ok, by the program. A drawn row ascends, and has at least one number. Which block a getting wants: the first of a hundred that it lacks. A region that draws its order, walked by a plan: reads taken at once wherever they come, what must come next, and forks of two. The plan for a length: what it is. What was appended to nothing; what is owned stays owned. -/
import Derived.Test.YtegldmdcdnnegaaGreatDoorG22
import Derived.Test.YtegldmdcdnnegaaGreatDoorG25
import Derived.Test.YtegldmdcdnnegaaGreatDoorG12
import Derived.Test.YtegldmdcdnnegaaGreatDoorG0
namespace Go.Proofs.YtegldmdcdnnegaaGreatDoor
open Go.ChangeShapes Go.WideShapes Go.ChangeAt Go.RowKit Go.Sort

/-- The row of a symbol. -/
def rowI (long size : Int) (ws gs : List Int) (id : Int) : List Int := if id < cntI long size then [id] else drawI (winN ws gs id).toNat id
theorem own_one {w : World} (x : Int) : (w.alloc (.cells #[.int .i64 x] 3)).ownsRow w.heap.size 3 1 (.slice (some ⟨w.heap.size, 0, none⟩) 1 1) 1 [.int .i64 x] :=
  World.ownsRow_lit w #[.int .i64 x] 1 (Nat.le_refl _) (by unfold maxLen; omega) rfl

set_option maxHeartbeats 4000000 in
set_option maxRecDepth 100000 in
theorem implRow_any (long size id : Int) (a1 a2 : Option Addr) (c1 c2 : Nat) (ws gs : List Int) (w : World) (ha1 : IntsAt w a1 ws) (ha2 : IntsAt w a2 gs) (hp : planP long size ws gs) (i0 : 0 ≤ id) (i1 : id ≤ 9999) (hT : Tab w) :
    Calls Tryz.prog 52 #[.agg #[.int .i64 long, .int .i64 size, .slice a1 ws.length c1, .slice a2 gs.length c2], .int .i64 id] w fun e w' => ∃ v, e = .returned v ∧ w'.ownsRow w.heap.size 3 1 v (rowI long size ws gs id).length ((rowI long size ws gs id).map (Value.int .i64)) ∧ Below w.heap.size w w' := by
  obtain ⟨⟨l1, l2, l3, l4, l5⟩, hw, hg⟩ := hp
  have hgl : gs.length ≤ 3 := by have := hw.2.1; have := hg.2; omega
  have I1 := hid (ha1.alloc (.cells #[.int .i64 long, .int .i64 size, .slice a1 ws.length c1, .slice a2 gs.length c2] 31))
  have I2 := hid (ha2.alloc (.cells #[.int .i64 long, .int .i64 size, .slice a1 ws.length c1, .slice a2 gs.length c2] 31))
  have HW := hid hw
  have HG := hid hg
  have HT := hid hT
  clear ha1 ha2 hw hg hT
  by_cases hlt : id < cntI long size
  · have HR := hid (show rowI long size ws gs id = [id] from if_pos hlt)
    go_enter Tryz.func52, Tryz.ntmps52
    go_wp2_with fail
    refine (implCount long size _ _ _ _ _ _ _ l1 l2 l3 l4).mono ?_
    rintro e w1 ⟨rfl, b1⟩
    go_wp2_with fail
    go_ret
    have b2 := below_cat' (below_alloc' _ _) b1
    refine ⟨_, rfl, ?_, below_cat' b2 (below_alloc' _ _)⟩
    rw [HR.out]
    exact owns_base (own_one id) b2.size
  · have HR := hid (show rowI long size ws gs id = drawI (winN ws gs id).toNat id from if_neg hlt)
    go_enter Tryz.func52, Tryz.ntmps52
    go_wp2_with fail
    refine (implCount long size _ _ _ _ _ _ _ l1 l2 l3 l4).mono ?_
    rintro e w1 ⟨rfl, b1⟩
    have X1 := hid (kept (laid w #[.int .i64 long, .int .i64 size, .slice a1 ws.length c1, .slice a2 gs.length c2] 31) b1)
    have J1 := hid (I1.out.below b1)
    have J2 := hid (I2.out.below b1)
    have B1 := hid (below_cat' (below_alloc' _ _) b1)
    clear b1 I1 I2
    have p0 := box_cell X1.out 0 (v := .int .i64 long) rfl
    have p1 := box_cell X1.out 1 (v := .int .i64 size) rfl
    have p2 := box_cell X1.out 2 (v := .slice a1 ws.length c1) rfl
    have p3 := box_cell X1.out 3 (v := .slice a2 gs.length c2) rfl
    go_wp2_with fail
    go_loop [5, 19] (fun u i => ∃ j : Nat, j ≤ gs.length ∧ i = .int .i64 j ∧ u = .int .i64 ((gs.take j).sum)) (fun _ i => gs.length - (intOf i).toNat)
    case atStart => exact ⟨0, Nat.zero_le _, rfl, rfl⟩
    case round =>
      obtain ⟨j, hj, rfl, rfl⟩ := hrel
      have hs := wgt_sum HG.out j hj
      by_cases hjl : j < gs.length
      · obtain ⟨b2, o2, rfl, hc2⟩ := J2.out (by intro h; simp [h] at hjl)
        have g1 := hc2 j hjl
        have hgg := HG.out.1 j hjl
        have HS := hid (sum_snoc gs j hjl)
        obtain ⟨Y, hY⟩ : ∃ Y, Y = gs.getD j 0 := ⟨_, rfl⟩
        obtain ⟨U, hU⟩ : ∃ U, U = (gs.take j).sum := ⟨_, rfl⟩
        rw [← hY] at g1 hgg HS
        rw [← hU] at hs HS ⊢
        obtain ⟨y1, y2⟩ := hgg
        obtain ⟨u1, u2, u3⟩ := hs
        clear hc2 hY hU
        go_wp2_with fail
        go_round
        case rel => exact ⟨j + 1, by omega, by go_num, by rw [HS.out]⟩
        case measure => simp [intOf]; omega
      · obtain rfl : j = gs.length := by omega
        rw [List.take_length] at hs ⊢
        have hpk := pk_bd HG.out HW.out.1 HW.out.2.1 id
        have hwb := win_bd HW.out HG.out l5 id
        obtain ⟨k0, k1, k2, k3⟩ := hpk
        obtain ⟨v1, v2⟩ := hwb
        have EK := hid (show pickI (nextI id) gs.sum = pkOf gs id from rfl)
        have EW := hid (show winOf ws gs (pkOf gs id) = winN ws gs id from rfl)
        clear hs
        go_wp2_with fail
        refine (implNext id _).mono ?_
        rintro e wa ⟨rfl, hq⟩
        subst hq
        go_wp2_with fail
        refine (implPick (nextI id) gs.sum _).mono ?_
        rintro e wb ⟨rfl, hq⟩
        subst hq
        rw [EK.out]
        obtain ⟨pk, hpk⟩ : ∃ pk, pk = pkOf gs id := ⟨_, rfl⟩
        rw [← hpk] at k0 k1 EW ⊢
        have KP := hid hpk
        clear hpk EK
        have T1 := hid (HT.out.below B1.out)
        have bA := below_alloc' wb (.cells #[.int .i64 pk] 3)
        have hcl : (wb.alloc (.cells #[.int .i64 pk] 3)).cell? ⟨wb.heap.size, 0, none⟩ = some (.int .i64 pk) := box_cell (laid wb #[.int .i64 pk] 3) 0 rfl
        have K1 := hid (J1.out.below bA)
        have K2 := hid (J2.out.below bA)
        have X2 := hid (kept X1.out bA)
        have CL := hid hcl
        have B2 := hid (below_cat' B1.out bA)
        clear bA hcl p0 p1 p2 p3
        have p0 := box_cell X2.out 0 (v := .int .i64 long) rfl
        have p1 := box_cell X2.out 1 (v := .int .i64 size) rfl
        have p2 := box_cell X2.out 2 (v := .slice a1 ws.length c1) rfl
        have p3 := box_cell X2.out 3 (v := .slice a2 gs.length c2) rfl
        go_wp2_with fail
        refine (window_any long size a1 a2 c1 c2 ws gs pk wb.heap.size _ K1.out K2.out CL.out HG.out.2.symm hgl HG.out.1 k0 k1).mono ?_
        rintro e wc ⟨rfl, bc⟩
        rw [EW.out]
        obtain ⟨N, hN⟩ := Int.eq_ofNat_of_zero_le (show 0 ≤ winN ws gs id by omega)
        have HN := hid hN
        rw [hN] at v1 v2 ⊢
        have B3 := hid (below_cat' B2.out bc)
        have T3 := hid (HT.out.below B3.out)
        clear bc hN
        go_wp2_with fail
        refine (implRowDraw_in N id _ (by omega) (by omega) (by omega) (by omega) T3.out).mono ?_
        rintro e wd ⟨v, rfl, ho, bd⟩
        go_wp2_with fail
        go_ret
        refine ⟨v, rfl, ?_, below_cat' B3.out bd⟩
        rw [HR.out, HN.out, Int.toNat_natCast]
        exact owns_base ho B3.out.size
end Go.Proofs.YtegldmdcdnnegaaGreatDoor
namespace Go.Proofs.YtegldmdcdnnegaaGreatDoor
open Go.ChangeShapes Go.WideShapes Go.ChangeAt Go.RowKit

theorem range_asc' (n : Nat) : ascB (-1) n ((List.range n).map fun (i : Nat) => (i : Int)) = true := by
  have := asc_filter (fun _ => true) n 0 (-1) (by omega)
  rw [List.filter_eq_self.2 (by simp), ← List.range_eq_range'] at this
  exact asc_hi this (by omega)
theorem degOf_pos (ds : List Int) (p : Int) (h : ds ≠ []) : 1 ≤ degOf ds p := by
  cases ds with
  | nil => exact absurd rfl h
  | cons d r => rw [degOf]; split <;> omega
theorem drawSt_asc (count : Nat) (s : Int) (k : Nat) (h : k ≤ count) :
    ascB (-1) count (drawSt count s k).2.1 = true ∧ ascB (-1) count (drawSt count s k).2.2 = true ∧ ∀ z, z ∈ (drawSt count s k).2.1 → z ∉ (drawSt count s k).2.2 := by
  induction k with
  | zero => exact ⟨range_asc' count, rfl, fun z _ hz => by cases hz⟩
  | succ k ih =>
    obtain ⟨i1, i2, i3⟩ := ih (by omega)
    have hl := (drawSt_len count s k (by omega)).1
    have hp := pick_lt (drawSt count s k).1 (drawSt count s k).2.1.length (by omega)
    obtain ⟨i, hi⟩ : ∃ i, i = (nx (drawSt count s k).1 / 256 % (drawSt count s k).2.1.length).toNat := ⟨_, rfl⟩
    have hlt : i < (drawSt count s k).2.1.length := by omega
    simp only [drawSt]
    rw [← hi]
    obtain ⟨e1, e2⟩ := erase_both i1 i hlt
    have hm : (drawSt count s k).2.1.getD i 0 ∈ (drawSt count s k).2.1 := by rw [getD_eq hlt]; exact List.getElem_mem hlt
    have hb := asc_mem i1 hm
    refine ⟨e1, into_asc i2 hb.1 hb.2 (i3 _ hm), fun z hz hz2 => ?_⟩
    have q := (e2 z).1 hz
    rcases (into_mem _ _ _ _).1 hz2 with h1 | h1
    · exact q.2 h1
    · exact i3 z q.1 h1
theorem drawI_ok (count : Nat) (seed : Int) (h1 : 1 ≤ count) (h2 : count ≤ 24) : rowOkB (drawI count seed) count = true ∧ 1 ≤ (drawI count seed).length ∧ (drawI count seed).length ≤ count := by
  have hn := drawN_le count seed h1
  have ha := (drawSt_asc count (nx (nx seed)) (drawN count seed) hn).2.1
  have hl := (drawSt_len count (nx (nx seed)) (drawN count seed) hn).2
  have hp : 1 ≤ drawN count seed := degOf_pos _ _ (by intro e; have := degI_len count h1; rw [e] at this; simp at this; omega)
  have ha' : ascB (-1) count (drawI count seed) = true := ha
  have hl' : (drawI count seed).length = drawN count seed := hl
  refine ⟨?_, by omega, by omega⟩
  unfold rowOkB
  rw [ha', decide_eq_true (by omega)]
  rfl
end Go.Proofs.YtegldmdcdnnegaaGreatDoor
namespace Go.Proofs.YtegldmdcdnnegaaGreatDoor
open Go.ChangeShapes Go.WideShapes Go.ChangeAt Go.RowKit Go.Sort

theorem win_le {n : Int} {ws gs : List Int} (hw : winP n ws) (hg : wgtP ws.length gs) (id : Int) : 1 ≤ winN ws gs id ∧ winN ws gs id ≤ n := by
  obtain ⟨p1, p2, _, _⟩ := pk_bd hg hw.1 hw.2.1 id
  have hm := winOf_mem ws gs (pkOf gs id) hg.2.symm p1 p2
  obtain ⟨k, hk, he⟩ := List.getElem_of_mem hm
  have hup := hw.2.2.1
  have hlast : prev0 ws ws.length = ws.getD (ws.length - 1) 0 := by unfold prev0; rw [if_neg (by have := hw.1; omega)]
  have e : winN ws gs id = ws.getD k 0 := by rw [getD_eq hk]; exact he.symm
  have l1 := upR_le hup (ws.length - 1 - k) k (by omega)
  rw [show k + (ws.length - 1 - k) = ws.length - 1 by omega, ← hlast, hw.2.2.2] at l1
  have l2 := upR_le hup k 0 (by omega)
  rw [Nat.zero_add] at l2
  have l3 := hup 0 hw.1
  have : prev0 ws 0 = 0 := rfl
  omega
theorem rowI_asc {L S : Int} {ws gs : List Int} {id : Int} (hp : planP L S ws gs) (i0 : 0 ≤ id) : ascB (-1) (cntI L S) (rowI L S ws gs id) = true ∧ (rowI L S ws gs id).length ≤ 24 := by
  unfold rowI
  by_cases h : id < cntI L S
  · rw [if_pos h]
    exact ⟨asc_cons.2 ⟨⟨by omega, h⟩, rfl⟩, by simp⟩
  · rw [if_neg h]
    obtain ⟨h1, h2⟩ := win_le hp.2.1 hp.2.2 id
    have h24 : cntI L S ≤ 24 := hp.1.2.2.2.2
    obtain ⟨N, hN⟩ := Int.eq_ofNat_of_zero_le (show 0 ≤ winN ws gs id by omega)
    rw [hN, Int.toNat_natCast]
    obtain ⟨k1, k2, k3⟩ := drawI_ok N id (by omega) (by omega)
    refine ⟨?_, by omega⟩
    have ha : ascB (-1) N (drawI N id) = true := by unfold rowOkB at k1; simp at k1; exact k1.2
    exact asc_hi ha (by omega)
end Go.Proofs.YtegldmdcdnnegaaGreatDoor
namespace Go.Proofs.YtegldmdcdnnegaaGreatDoor
open Go.ChangeShapes Go.WideShapes Go.ChangeAt Go.RowKit Go.Sort

inductive Pln where
  | done : Pln
  | pull (ks : List (Nat × Nat)) (r : Pln) : Pln
  | step (k : Nat) (r : Pln) : Pln
  | fork (k : Nat) (r : Pln) (k' : Nat) (r' : Pln) : Pln
def Pln.size : Pln → Nat
  | .done => 0
  | .pull ks r => (ixs ks).length + r.size
  | .step _ r => r.size + 1
  | .fork _ r _ _ => r.size + 1
def setAll (L : Array Bool) (ks : List Nat) : Array Bool := ks.foldl (fun b k => b.setIfInBounds k true) L
def plnB (md : Region.Mode) (l : List Oper) (c : Nat) : Bool → Pln → Array Bool → Bool
  | _, .done, L => Region.ready md l.toArray L == []
  | b, .pull ks r, L => b && ks.all (fun p => decide (p.1 + p.2 ≤ l.length)) && frontL md l.toArray (setAll L (ixs ks)) (ixs ks) L && (cutOut l ks).all readOp &&
      (ixs ks).all (fun i => decide (i < c) && (List.range' c (l.length - c)).all (fun j => behind md l.toArray i l.length j)) && plnB md l c b r (setAll L (ixs ks))
  | b, .step k r, L => decide (k < l.length) && (Region.ready md l.toArray L == [k]) && plnB md l c (b && decide (k < c)) r (L.setIfInBounds k true)
  | b, .fork k r k' r', L => decide (k < l.length) && decide (k' < l.length) && (r.size == r'.size) && (Region.ready md l.toArray L == [k, k'] || Region.ready md l.toArray L == [k', k]) &&
      plnB md l c (b && decide (k < c)) r (L.setIfInBounds k true) && plnB md l c (b && decide (k' < c)) r' (L.setIfInBounds k' true)

section
variable {P : Program} {l : List Oper} {md : Region.Mode} {Q : Exit → Act → World → Prop} {C : World → Prop} {c : Nat}

/-- One operation; where it is ahead of c the class is kept. -/
def wpOne (P : Program) (ops : Array Oper) (Q : Exit → Act → World → Prop) (R : Act → World → Prop) : List Oper → Act → World → Prop
  | o :: _, a, w => if Region.wanted o (yielded ops a.tmps) then o.wp P a w R Q else R (a.put o.dst undef) w
  | [], _, _ => False
def wpPln (P : Program) (l : List Oper) (Q : Exit → Act → World → Prop) (C : World → Prop) (c : Nat) : Pln → Act → World → Prop
  | .done, a, w => Q .normal a w
  | .pull ks r, a, w => wpQuiet P l.toArray C (fun a' => wpPln P l Q C c r a' w) (cutOut l ks) a
  | .step k r, a, w => wpOne P l.toArray Q (fun a' w' => (k < c → C w') ∧ wpPln P l Q C c r a' w') ((l.drop k).take 1) a w
  | .fork k r k' r', a, w => wpOne P l.toArray Q (fun a' w' => (k < c → C w') ∧ wpPln P l Q C c r a' w') ((l.drop k).take 1) a w ∧ wpOne P l.toArray Q (fun a' w' => (k' < c → C w') ∧ wpPln P l Q C c r' a' w') ((l.drop k').take 1) a w

theorem pln_done {a : Act} {w : World} (h : Q .normal a w) : wpPln P l Q C c .done a w := h
theorem pln_pull {ks : List (Nat × Nat)} {r : Pln} {a : Act} {w : World} (h : wpQuiet P l.toArray C (fun a' => wpPln P l Q C c r a' w) (cutOut l ks) a) : wpPln P l Q C c (.pull ks r) a w := h
theorem pln_step {k : Nat} {r : Pln} {o : Oper} {a : Act} {w : World} (ho : l[k]? = some o) (_hk : k < c) (h : ∀ K : Act → World → Prop, (∀ a' w', C w' → wpPln P l Q C c r a' w' → K a' w') → if Region.wanted o (yielded l.toArray a.tmps) then o.wp P a w K Q else C w ∧ K (a.put o.dst undef) w) : wpPln P l Q C c (.step k r) a w := by
  have hd : (l.drop k).take 1 = [o] := by
    obtain ⟨hl, he⟩ := List.getElem?_eq_some_iff.1 ho
    rw [List.drop_eq_getElem_cons hl, he]; rfl
  show wpOne P l.toArray Q _ ((l.drop k).take 1) a w
  rw [hd]
  have h1 := h (fun a' w' => (k < c → C w') ∧ wpPln P l Q C c r a' w') (fun _ _ k1 k2 => ⟨fun _ => k1, k2⟩)
  show if Region.wanted o (yielded l.toArray a.tmps) = true then o.wp P a w _ Q else _
  by_cases hw : Region.wanted o (yielded l.toArray a.tmps) = true
  · rw [if_pos hw] at h1 ⊢
    exact h1
  · rw [if_neg hw] at h1 ⊢
    exact h1.2
theorem pln_last {k : Nat} {r : Pln} {o : Oper} {a : Act} {w : World} (ho : l[k]? = some o) (hk : ¬ k < c) (h : ∀ K : Act → World → Prop, (∀ a' w', wpPln P l Q C c r a' w' → K a' w') → if Region.wanted o (yielded l.toArray a.tmps) then o.wp P a w K Q else K (a.put o.dst undef) w) : wpPln P l Q C c (.step k r) a w := by
  have hd : (l.drop k).take 1 = [o] := by
    obtain ⟨hl, he⟩ := List.getElem?_eq_some_iff.1 ho
    rw [List.drop_eq_getElem_cons hl, he]; rfl
  show wpOne P l.toArray Q _ ((l.drop k).take 1) a w
  rw [hd]
  exact h (fun a' w' => (k < c → C w') ∧ wpPln P l Q C c r a' w') (fun _ _ k2 => ⟨fun h => absurd h hk, k2⟩)
theorem pln_fork {k k' : Nat} {r r' : Pln} {a : Act} {w : World} (h : wpPln P l Q C c (.step k r) a w) (h' : wpPln P l Q C c (.step k' r') a w) : wpPln P l Q C c (.fork k r k' r') a w := ⟨h, h'⟩

theorem wpOp_one {k : Nat} {R : Act → World → Prop} {a : Act} {w : World} (hk : k < l.length) (h : wpOne P l.toArray Q R ((l.drop k).take 1) a w) : wpOp P l.toArray Q k R a w := by
  have h0 : l.toArray[k]? = some l[k] := by simp [hk]
  rw [List.drop_eq_getElem_cons hk, List.take_succ_cons, List.take_zero] at h
  unfold wpOne at h
  unfold wpOp
  simp only [h0]
  by_cases hw : Region.wanted l[k] (yielded l.toArray a.tmps) = true
  · simp only [hw, if_true] at h ⊢
    exact .inl h
  · simp only [hw] at h ⊢
    exact h

theorem wpMid_lexW (hs : Region.noSelect l.toArray = true) (hQ : ∀ c a d v w, Q (.panic c) (a.put d v) w → Q (.panic c) a w)
    {L1 : Array Bool} {b : Nat} {K : Act → Prop} {w : World} (hw : C w) (hK : ∀ a, Shut md l.toArray L1 → K a → wpMid P md l.toArray Q C c b L1 a w) :
    ∀ (is : List Nat) (m : List Oper) (listed : Array Bool) (a : Act), Lies l.toArray is m → (∀ i ∈ is, i < c ∧ ∀ j, c ≤ j → j < l.toArray.size → behind md l.toArray i l.toArray.size j = true) →
      Shut md l.toArray listed → m.all readOp = true → frontL md l.toArray L1 is listed = true → wpQuiet P l.toArray C K m a → wpMid P md l.toArray Q C c (m.length + b) listed a w
  | [], [], listed, a, _, _, hsh, _, hB, h => by
    have e : listed = L1 := by simpa [frontL] using hB
    rw [e] at hsh ⊢
    rw [List.length_nil, Nat.zero_add]
    exact hK a hsh h
  | k :: is, o :: m, listed, a, hl, hpost, hsh, hp, hB, h => by
    have h0 : l.toArray[k]? = some o := hl.1
    simp only [frontL, Bool.and_eq_true] at hB
    obtain ⟨⟨hr, hf⟩, hB'⟩ := hB
    simp only [List.all_cons, Bool.and_eq_true] at hp
    have hst : qOp P l.toArray C k (wpQuiet P l.toArray C K m) a := by unfold qOp; simp only [h0]; exact h
    obtain ⟨v, hy, hK'⟩ := yieldsIn_of_qOp h0 hst
    have hY : YieldsIf P l.toArray C o v a := by
      rcases hy with ⟨h1, h2⟩ | h1
      · exact .inl ⟨h1, fun w' hw' => readOp_run hp.1 _ w' (h2 w' hw')⟩
      · exact .inr h1
    have hr' : k ∈ Region.ready md l.toArray listed := by simpa using hr
    have hc := hpost k (List.mem_cons_self ..)
    rw [show (o :: m).length + b = (m.length + b) + 1 by simp; omega]
    exact wpMid_first h0 hs hQ hc.2 hc.1 _ listed a w hsh (Region.free_spec h0 hf) hr' hY hw
      (wpMid_lexW hs hQ hw hK is m _ _ hl.2 (fun i hi => hpost i (List.mem_cons_of_mem _ hi)) (hsh.set hr') hp.2 hB' hK')
  | [], _ :: _, _, _, h, _, _, _, _, _ => h.elim
  | _ :: _, [], _, _, h, _, _, _, _, _ => h.elim

theorem wpMid_pln (hs : Region.noSelect l.toArray = true) (hQ : ∀ c a d v w, Q (.panic c) (a.put d v) w → Q (.panic c) a w) :
    ∀ (p : Pln) (b : Bool) (listed : Array Bool) (a : Act) (w : World), Shut md l.toArray listed → (b = true → C w) → plnB md l c b p listed = true → wpPln P l Q C c p a w → wpMid P md l.toArray Q C c p.size listed a w
  | .done, _, listed, a, w, _, _, hB, h => ⟨by simpa [plnB] using hB, h⟩
  | .pull ks r, b, listed, a, w, hsh, hC, hB, h => by
    simp only [plnB, Bool.and_eq_true] at hB
    obtain ⟨⟨⟨⟨⟨hb, hks⟩, hf⟩, hrd⟩, hpost⟩, hr⟩ := hB
    have hl := lies_cut l ks hks
    have h1 := wpMid_lexW (P := P) (md := md) (Q := Q) (C := C) (c := c) (b := r.size) hs hQ (hC hb) (K := fun a' => wpPln P l Q C c r a' w)
      (fun a' hsh' hK => wpMid_pln hs hQ r b _ a' w hsh' hC hr hK) (ixs ks) (cutOut l ks) listed a hl (fun i hi => by
        have h2 := List.all_eq_true.1 hpost i hi
        simp only [Bool.and_eq_true, decide_eq_true_eq] at h2
        refine ⟨h2.1, fun j hj hjl => ?_⟩
        have hjl' : j < l.length := by simpa using hjl
        have h3 := List.all_eq_true.1 h2.2 j (List.mem_range'_1.2 ⟨hj, by omega⟩)
        simpa using h3) hsh hrd hf h
    rw [← lies_len hl] at h1
    exact h1
  | .step k r, b, listed, a, w, hsh, hC, hB, h => by
    simp only [plnB, Bool.and_eq_true, decide_eq_true_eq, beq_iff_eq] at hB
    obtain ⟨⟨hk, hr⟩, hB'⟩ := hB
    refine ⟨fun he => (by rw [hr] at he; cases he), fun i hi => ?_⟩
    have hi' := hi
    rw [hr] at hi'
    obtain rfl : i = k := by simpa using hi'
    exact wpOp_mono (fun a' w' h2 => ⟨h2.1, wpMid_pln hs hQ r _ _ a' w' (hsh.set hi) (fun hbk => h2.1 (by simp only [Bool.and_eq_true, decide_eq_true_eq] at hbk; exact hbk.2)) hB' h2.2⟩) (wpOp_one hk h)
  | .fork k r k' r', b, listed, a, w, hsh, hC, hB, h => by
    simp only [plnB, Bool.and_eq_true, Bool.or_eq_true, decide_eq_true_eq, beq_iff_eq] at hB
    obtain ⟨⟨⟨⟨⟨hk, hk'⟩, hsz⟩, hr⟩, hB1⟩, hB2⟩ := hB
    refine ⟨fun he => (by rcases hr with hr | hr <;> rw [hr] at he <;> cases he), fun i hi => ?_⟩
    have hi2 : i = k ∨ i = k' := by rcases hr with hr | hr <;> rw [hr] at hi <;> simp at hi <;> omega
    by_cases hik : i = k
    · subst hik
      exact wpOp_mono (fun a' w' h2 => ⟨h2.1, wpMid_pln hs hQ r _ _ a' w' (hsh.set hi) (fun hbk => h2.1 (by simp only [Bool.and_eq_true, decide_eq_true_eq] at hbk; exact hbk.2)) hB1 h2.2⟩) (wpOp_one hk h.1)
    · obtain rfl : i = k' := by omega
      show wpOp _ _ _ _ (fun a' w' => _ ∧ wpMid P md l.toArray Q C c r.size _ a' w') a w
      rw [hsz]
      exact wpOp_mono (fun a' w' h2 => ⟨h2.1, wpMid_pln hs hQ r' _ _ a' w' (hsh.set hi) (fun hbk => h2.1 (by simp only [Bool.and_eq_true, decide_eq_true_eq] at hbk; exact hbk.2)) hB2 h2.2⟩) (wpOp_one hk' h.2)
end

def planB (l : List Oper) (c : Nat) (p : Pln) : Bool := Region.noSelect l.toArray && (p.size == l.length) && plnB .any l c true p (Array.replicate l.length false)
theorem any_plan {P : Program} {C : World → Prop} {Q : Exit → Act → World → Prop} {a : Act} {w : World} {l : List Oper} (c : Nat) (p : Pln) (hB : planB l c p = true) (hQ : ∀ c a d v w, Q (.panic c) (a.put d v) w → Q (.panic c) a w) (hC : C w)
    (h : wpPln P l Q C c p a w) : wpAny P .any l.toArray Q l.toArray.size (Array.replicate l.toArray.size false) a w := by
  simp only [planB, Bool.and_eq_true, beq_iff_eq] at hB
  obtain ⟨⟨hs, hsz⟩, hB⟩ := hB
  have h1 := wpMid_pln (P := P) (Q := Q) (C := C) (md := .any) hs hQ p true (Array.replicate l.length false) a w (fun k o _ hk => by simp [Array.getElem?_replicate] at hk; split at hk <;> simp_all) (fun _ => hC) hB h
  rw [hsz] at h1
  have h2 := wpAny_of_wpMid _ _ _ _ h1
  simpa using h2
/-- In the class of worlds that are grown from the region's start. -/
theorem wp_plan {P : Program} {id : Nat} {K : Act → World → Prop} {Q : Exit → Act → World → Prop} {a : Act} {w : World} {l : List Oper} (c : Nat) (p : Pln) (hm : P.follows .mixedOrders = true) (hB : planB l c p = true)
    (h : ∀ w1, (∃ p : Regrown, w1 = grow (redrawn w p.d) p.os) → wpPln P l (Exit.then K (fun _ _ _ => False)) (fun w' => ∃ p : Regrown, w' = grow (redrawn w p.d) p.os) c p a w1) : (Code.region id l.toArray true).wp P (Exit.then K Q) a w :=
  Code.wp_mono (fun e _ _ h => by cases e <;> first | exact h | exact h.elim) (wp_region_any (Q := Exit.then K (fun _ _ _ => False)) hm (any_plan (C := fun w' => ∃ p : Regrown, w' = grow (redrawn w p.d) p.os) c p hB (fun _ _ _ _ _ h => h.elim) ⟨⟨w.drawn + 1, #[]⟩, by rw [grow_empty]; rfl⟩ (h _ ⟨⟨w.drawn + 1, #[]⟩, by rw [grow_empty]; rfl⟩)))
end Go.Proofs.YtegldmdcdnnegaaGreatDoor
namespace Go.Proofs.YtegldmdcdnnegaaGreatDoor
open Go.ChangeShapes Go.WideShapes Go.ChangeAt Go.RowKit Go.Sort

/-- The size, how many blocks, the first quarter of them. -/
def forS (long : Int) : Int := max 8 (cntI long 24)
def forN (long : Int) : Int := cntI long (forS long)
def forK (long : Int) : Int := cntI (forN long) 4
def forW (long : Int) : List Int := if forK long < forN long then [forK long, forN long] else [forN long]
def forG (long : Int) : List Int := if forK long < forN long then [2, 3] else [1]

/-- A plan of the call's own. -/
def PlanO (w : World) (base : Nat) (long size : Int) (ws gs : List Int) (v : Value) : Prop :=
  ∃ v1 v2, v = .agg #[.int .i64 long, .int .i64 size, v1, v2] ∧ w.ownsRow base 3 1 v1 ws.length (ws.map (Value.int .i64)) ∧ w.ownsRow base 3 1 v2 gs.length (gs.map (Value.int .i64)) ∧ Apart v1 v2

theorem cntI_24 (long : Int) (h1 : 1 ≤ long) (h2 : long ≤ 300) : 1 ≤ cntI long 24 ∧ cntI long 24 ≤ 13 := by unfold cntI; omega
theorem forS_bd (long : Int) (h1 : 1 ≤ long) (h2 : long ≤ 300) : 8 ≤ forS long ∧ forS long ≤ 13 := by
  have := cntI_24 long h1 h2
  unfold forS; omega
/-- As long as there are too many blocks a block is too small. -/
theorem for_step (long s : Int) (_h1 : 1 ≤ long) (_h2 : long ≤ 300) (h3 : 1 ≤ s) : 24 < cntI long s ↔ s < cntI long 24 := by
  unfold cntI
  rw [Int.lt_iff_add_one_le, Int.le_ediv_iff_mul_le (by omega)]
  omega
theorem own_laid {w : World} {base g : Nat} (xs : List Int) (h : w.heap[g]? = some (.cells (xs.map (Value.int .i64)).toArray 3 (0, 0))) (hb : base ≤ g) (hx : xs.length ≤ 1000) :
    w.ownsRow base 3 1 (.slice (some ⟨g, 0, none⟩) xs.length xs.length) xs.length (xs.map (Value.int .i64)) :=
  ⟨by simp, Or.inr ⟨g, xs.length, _, rfl, hb, h, Nat.le_refl _, by unfold maxLen; omega, by simp, by simp [List.take_of_length_le]⟩⟩
theorem apart_of {g1 g2 n1 c1 n2 c2 : Nat} (h : g1 ≠ g2) : Apart (.slice (some ⟨g1, 0, none⟩) n1 c1) (.slice (some ⟨g2, 0, none⟩) n2 c2) :=
  ⟨fun k a b => by simp [Value.ownBlock] at a b; omega, fun k a b => by simp [Value.ownBlock] at a b; omega⟩
theorem planO_nil (w : World) (base : Nat) : PlanO w base 0 0 [] [] (.agg #[.int .i64 0, .int .i64 0, .slice none 0 0, .slice none 0 0]) :=
  ⟨_, _, rfl, World.ownsRow_nil _ _ _ _, World.ownsRow_nil _ _ _ _, fun k a => by simp [Value.ownBlock] at a, fun k a => by simp [Value.ownBlock] at a⟩
theorem World.size_alloc' (w : World) (o : Obj) : (w.alloc o).heap.size = w.heap.size + 1 := by simp
theorem below_set' {w w' : World} (h : Below w.heap.size w w') {p : Addr} (hp : w.heap.size ≤ p.block) (u : Value) : Below w.heap.size w (w'.setCell p u) := h.setCell hp u
theorem below2' (w : World) (a b : Obj) : Below w.heap.size w ((w.alloc a).alloc b) :=
  ((Below.refl _ _).alloc (Nat.le_refl _) _).alloc (by simp) _
theorem planO_slices {w : World} {base : Nat} {long size : Int} {ws gs : List Int} {v : Value} (h : PlanO w base long size ws gs v) : ∃ a1 c1 a2 c2, v = .agg #[.int .i64 long, .int .i64 size, .slice a1 ws.length c1, .slice a2 gs.length c2] ∧
    w.ownsRow base 3 1 (.slice a1 ws.length c1) ws.length (ws.map (Value.int .i64)) ∧ w.ownsRow base 3 1 (.slice a2 gs.length c2) gs.length (gs.map (Value.int .i64)) ∧ Apart (.slice a1 ws.length c1) (.slice a2 gs.length c2) := by
  obtain ⟨v1, v2, rfl, o1, o2, ap⟩ := h
  obtain ⟨a1, c1, rfl⟩ := owns_slice o1
  obtain ⟨a2, c2, rfl⟩ := owns_slice o2
  exact ⟨a1, c1, a2, c2, rfl, o1, o2, ap⟩
end Go.Proofs.YtegldmdcdnnegaaGreatDoor
namespace Go.Proofs.YtegldmdcdnnegaaGreatDoor
open Go.ChangeShapes Go.WideShapes Go.ChangeAt Go.RowKit Go.Sort

/-- 'append([]int{}, xs...)': a row of its own. -/
theorem append_copy {P : Program} {w : World} {ops : Array Oper} {rest : List Oper} {o : Oper} {a : Act} {Q : Exit → Act → World → Prop} (t e : TypeId) (i : TypeInfo) (z : Value) (bytes : Nat)
    (ht : P.underlying t = some (.slice e)) (hi : P.info? e = some i) (hz : i.zero = some z) (hz1 : i.size = 1) (hz2 : i.bytes = bytes) (hzs : z.cells.size = 1)
    {g b off m cap : Nat} {xs : List Int} (s x : Operand) (hgd : o.guard = none) (ho : o.op = .call { callee := .builtin .append, args := #[s, x], argTypes := #[t, t] })
    (hs : a.eval s = .slice (some ⟨g, 0, none⟩) 0 0) (hx : a.eval x = .slice (some ⟨b, off, none⟩) m cap) (hg : g = w.heap.size) (hm : xs.length = m)
    (hc : ∀ i, i < xs.length → w.cell? ⟨b, off + i, none⟩ = some (.int .i64 (xs.getD i 0))) (hbd : m * bytes ≤ 140737488355328) (hml : m ≤ 9223372036854775807)
    (h : ∀ v' w', w'.ownsRow w.heap.size e 1 v' m (xs.map (Value.int .i64)) → Below w.heap.size w w' → wpList P ops Q rest (a.put o.dst v') w') :
    wpList P ops Q (o :: rest) a (w.alloc (.cells #[] e)) := by
  subst hg
  have ho1 : (w.alloc (.cells #[] e)).ownsRow w.heap.size e 1 (.slice (some ⟨w.heap.size, 0, none⟩) 0 0) 0 [] := World.ownsRow_lit w #[] 0 (Nat.le_refl _) (Nat.zero_le _) rfl
  refine wpList_append_own _ hgd s x t ho w.heap.size e i z 1 bytes ht hi hz hz1 hz2 hzs (by decide) _ 0 [] hs ho1 ⟨b, off, none⟩ m cap (xs.map (Value.int .i64)) hx (by simp [hm]) ?_ (by intro u hu; obtain ⟨y, -, rfl⟩ := List.mem_map.1 hu; rfl) (by unfold maxLen; omega) (by rw [Nat.zero_add]; exact hbd) (by simp) ?_
  · intro j u hj
    have hjl : j < xs.length := by have := (List.getElem?_eq_some_iff.1 hj).1; simpa using this
    have hci := hc j hjl
    rw [addr_add, World.cell?_of_block (w := w) (Below.heap_alloc _ _ _ (block_lt_of_cell hci)), hci]
    rw [← hj]; simp [List.getD, hjl]
  · intro v' w' h1 h2 _
    refine h v' w' ?_ (((Below.refl _ _).alloc (Nat.le_refl _) _).grown h2 (by simp) (fun j hj => (ho1.lt j hj).1))
    simpa using h1
theorem owns_set {w : World} {base : Nat} {e : TypeId} {size : Nat} {v : Value} {n : Nat} {xs : List Value} (h : w.ownsRow base e size v n xs) {p : Addr} (hp : p.block < base) (u : Value) : (w.setCell p u).ownsRow base e size v n xs := by
  obtain ⟨h1, h2⟩ := h
  refine ⟨h1, ?_⟩
  rcases h2 with h2 | ⟨g, cap, cur, hv, hg, hh, r⟩
  · exact Or.inl h2
  · exact Or.inr ⟨g, cap, cur, hv, hg, by rw [Below.heap_setCell _ p _ g (by omega)]; exact hh, r⟩
end Go.Proofs.YtegldmdcdnnegaaGreatDoor
