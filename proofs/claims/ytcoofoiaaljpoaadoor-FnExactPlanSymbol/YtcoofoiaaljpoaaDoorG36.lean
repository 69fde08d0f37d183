/- The row of a symbol, by the program's PlanRow. A drawn row ascends, and has at least one number. Which block a getting wants: the first of a hundred that it lacks. -/
import Derived.Test.YtcoofoiaaljpoaaDoorG34
import Derived.Test.YtcoofoiaaljpoaaDoorG33
namespace Go.Proofs.YtcoofoiaaljpoaaDoor
open Go.ChangeShapes Go.WideShapes Go.ChangeAt Go.RowKit Go.Sort

/-- What PlanRow answers. -/
def rowP (long size : Int) (ws gs : List Int) (id : Int) : List Int := if planP long size ws gs ∧ 0 ≤ id ∧ id ≤ 9999 then rowI long size ws gs id else []

set_option maxHeartbeats 2000000 in
theorem implPlanRow (long size id : Int) (a1 a2 : Option Addr) (c1 c2 : Nat) (ws gs : List Int) (w : World) (ha1 : IntsAt w a1 ws) (ha2 : IntsAt w a2 gs) (hx : ws.length ≤ 1152921504606846976) (hy : gs.length ≤ 1152921504606846976) (hT : Tab w) :
    Calls Tryd.prog 19 #[.agg #[.int .i64 long, .int .i64 size, .slice a1 ws.length c1, .slice a2 gs.length c2], .int .i64 id] w fun e w' => ∃ v, e = .returned v ∧ w'.ownsRow w.heap.size 3 1 v (rowP long size ws gs id).length ((rowP long size ws gs id).map (Value.int .i64)) ∧ Below w.heap.size w w' := by
  have I1 := hid (ha1.alloc (.cells #[.int .i64 long, .int .i64 size, .slice a1 ws.length c1, .slice a2 gs.length c2] 28))
  have I2 := hid (ha2.alloc (.cells #[.int .i64 long, .int .i64 size, .slice a1 ws.length c1, .slice a2 gs.length c2] 28))
  have HT := hid hT
  clear ha1 ha2 hT
  by_cases hp : planP long size ws gs
  · have HD := hid (decide_eq_true hp)
    have HP := hid hp
    by_cases hi : 0 ≤ id ∧ id ≤ 9999
    · have HR := hid (show rowP long size ws gs id = rowI long size ws gs id from if_pos ⟨hp, hi⟩)
      have HI := hid (decide_eq_true hi)
      obtain ⟨i0, i1⟩ := hi
      clear hp
      go_enter Tryd.func19, Tryd.ntmps19
      go_wp2_with fail
      refine (implPlanOk long size a1 a2 c1 c2 ws gs _ I1.out I2.out hx hy).mono ?_
      rintro e w1 ⟨rfl, b1⟩
      rw [HD.out]
      have X1 := hid (kept (laid w #[.int .i64 long, .int .i64 size, .slice a1 ws.length c1, .slice a2 gs.length c2] 28) b1)
      have J1 := hid (I1.out.below b1)
      have J2 := hid (I2.out.below b1)
      have B1 := hid (below_cat' (below_alloc' _ _) b1)
      have T1 := hid (HT.out.below B1.out)
      clear b1
      have p0 := box_cell X1.out 0 (v := .int .i64 long) rfl
      have p1 := box_cell X1.out 1 (v := .int .i64 size) rfl
      have p2 := box_cell X1.out 2 (v := .slice a1 ws.length c1) rfl
      have p3 := box_cell X1.out 3 (v := .slice a2 gs.length c2) rfl
      go_wp2_with fail
      refine (idOk_any id _).mono ?_
      rintro e wa ⟨rfl, hq⟩
      subst hq
      rw [HI.out]
      go_wp2_with fail
      refine (implRow_any long size id a1 a2 c1 c2 ws gs _ J1.out J2.out HP.out i0 i1 T1.out).mono ?_
      rintro e wb ⟨v, rfl, ho, bb⟩
      go_wp2_with fail
      go_ret
      refine ⟨v, rfl, ?_, below_cat' B1.out bb⟩
      rw [HR.out]
      exact owns_base ho B1.out.size
    · have HR := hid (show rowP long size ws gs id = [] from if_neg (fun h => hi h.2))
      have HI := hid (decide_eq_false hi)
      clear hp hi
      go_enter Tryd.func19, Tryd.ntmps19
      go_wp2_with fail
      refine (implPlanOk long size a1 a2 c1 c2 ws gs _ I1.out I2.out hx hy).mono ?_
      rintro e w1 ⟨rfl, b1⟩
      rw [HD.out]
      have B1 := hid (below_cat' (below_alloc' _ _) b1)
      clear b1
      go_wp2_with fail
      refine (idOk_any id _).mono ?_
      rintro e wa ⟨rfl, hq⟩
      subst hq
      rw [HI.out]
      go_wp2_with fail
      go_ret
      refine ⟨_, rfl, ?_, B1.out⟩
      rw [HR.out]
      exact World.ownsRow_nil _ _ _ _
  · have HR := hid (show rowP long size ws gs id = [] from if_neg (fun h => hp h.1))
    have HD := hid (decide_eq_false hp)
    clear hp
    go_enter Tryd.func19, Tryd.ntmps19
    go_wp2_with fail
    refine (implPlanOk long size a1 a2 c1 c2 ws gs _ I1.out I2.out hx hy).mono ?_
    rintro e w1 ⟨rfl, b1⟩
    rw [HD.out]
    have B1 := hid (below_cat' (below_alloc' _ _) b1)
    clear b1
    go_wp2_with fail
    go_ret
    refine ⟨_, rfl, ?_, B1.out⟩
    rw [HR.out]
    exact World.ownsRow_nil _ _ _ _
end Go.Proofs.YtcoofoiaaljpoaaDoor
namespace Go.Proofs.YtcoofoiaaljpoaaDoor
open Go.ChangeShapes Go.WideShapes Go.ChangeAt Go.RowKit

theorem range_asc' (n : Nat) : ascB (-1) n ((List.range n).map fun (i : Nat) => (i : Int)) = true := by
  have := asc_filter (fun _ => true) n 0 (-1) (by omega)
  rw [List.filter_eq_self.2 (by simp), ← List.range_eq_range'] at this
  exact asc_hi this (by omega)
theorem degOf_pos (ds : List Int) (p : Int) (h : ds ≠ []) : 1 ≤ degOf ds p := by
  cases ds with
  | nil => exact absurd rfl h
  | cons d r => rw [degOf]; split <;> omega
theorem drawSt_asc (count : Nat) (s : Int) (k : Nat) (h : k ≤ count) :
    ascB (-1) count (drawSt count s k).2.1 = true ∧ ascB (-1) count (drawSt count s k).2.2 = true ∧ ∀ z, z ∈ (drawSt count s k).2.1 → z ∉ (drawSt count s k).2.2 := by
  induction k with
  | zero => exact ⟨range_asc' count, rfl, fun z _ hz => by cases hz⟩
  | succ k ih =>
    obtain ⟨i1, i2, i3⟩ := ih (by omega)
    have hl := (drawSt_len count s k (by omega)).1
    have hp := pick_lt (drawSt count s k).1 (drawSt count s k).2.1.length (by omega)
    obtain ⟨i, hi⟩ : ∃ i, i = (nx (drawSt count s k).1 / 256 % (drawSt count s k).2.1.length).toNat := ⟨_, rfl⟩
    have hlt : i < (drawSt count s k).2.1.length := by omega
    simp only [drawSt]
    rw [← hi]
    obtain ⟨e1, e2⟩ := erase_both i1 i hlt
    have hm : (drawSt count s k).2.1.getD i 0 ∈ (drawSt count s k).2.1 := by rw [getD_eq hlt]; exact List.getElem_mem hlt
    have hb := asc_mem i1 hm
    refine ⟨e1, into_asc i2 hb.1 hb.2 (i3 _ hm), fun z hz hz2 => ?_⟩
    have q := (e2 z).1 hz
    rcases (into_mem _ _ _ _).1 hz2 with h1 | h1
    · exact q.2 h1
    · exact i3 z q.1 h1
theorem drawI_ok (count : Nat) (seed : Int) (h1 : 1 ≤ count) (h2 : count ≤ 24) : rowOkB (drawI count seed) count = true ∧ 1 ≤ (drawI count seed).length ∧ (drawI count seed).length ≤ count := by
  have hn := drawN_le count seed h1
  have ha := (drawSt_asc count (nx (nx seed)) (drawN count seed) hn).2.1
  have hl := (drawSt_len count (nx (nx seed)) (drawN count seed) hn).2
  have hp : 1 ≤ drawN count seed := degOf_pos _ _ (by intro e; have := degI_len count h1; rw [e] at this; simp at this; omega)
  have ha' : ascB (-1) count (drawI count seed) = true := ha
  have hl' : (drawI count seed).length = drawN count seed := hl
  refine ⟨?_, by omega, by omega⟩
  unfold rowOkB
  rw [ha', decide_eq_true (by omega)]
  rfl
end Go.Proofs.YtcoofoiaaljpoaaDoor
namespace Go.Proofs.YtcoofoiaaljpoaaDoor
open Go.ChangeShapes Go.WideShapes Go.ChangeAt Go.RowKit Go.Sort

theorem win_le {n : Int} {ws gs : List Int} (hw : winP n ws) (hg : wgtP ws.length gs) (id : Int) : 1 ≤ winN ws gs id ∧ winN ws gs id ≤ n := by
  obtain ⟨p1, p2, _, _⟩ := pk_bd hg hw.1 hw.2.1 id
  have hm := winOf_mem ws gs (pkOf gs id) hg.2.symm p1 p2
  obtain ⟨k, hk, he⟩ := List.getElem_of_mem hm
  have hup := hw.2.2.1
  have hlast : prev0 ws ws.length = ws.getD (ws.length - 1) 0 := by unfold prev0; rw [if_neg (by have := hw.1; omega)]
  have e : winN ws gs id = ws.getD k 0 := by rw [getD_eq hk]; exact he.symm
  have l1 := upR_le hup (ws.length - 1 - k) k (by omega)
  rw [show k + (ws.length - 1 - k) = ws.length - 1 by omega, ← hlast, hw.2.2.2] at l1
  have l2 := upR_le hup k 0 (by omega)
  rw [Nat.zero_add] at l2
  have l3 := hup 0 hw.1
  have : prev0 ws 0 = 0 := rfl
  omega
theorem rowI_asc {L S : Int} {ws gs : List Int} {id : Int} (hp : planP L S ws gs) (i0 : 0 ≤ id) : ascB (-1) (cntI L S) (rowI L S ws gs id) = true ∧ (rowI L S ws gs id).length ≤ 24 := by
  unfold rowI
  by_cases h : id < cntI L S
  · rw [if_pos h]
    exact ⟨asc_cons.2 ⟨⟨by omega, h⟩, rfl⟩, by simp⟩
  · rw [if_neg h]
    obtain ⟨h1, h2⟩ := win_le hp.2.1 hp.2.2 id
    have h24 : cntI L S ≤ 24 := hp.1.2.2.2.2
    obtain ⟨N, hN⟩ := Int.eq_ofNat_of_zero_le (show 0 ≤ winN ws gs id by omega)
    rw [hN, Int.toNat_natCast]
    obtain ⟨k1, k2, k3⟩ := drawI_ok N id (by omega) (by omega)
    refine ⟨?_, by omega⟩
    have ha : ascB (-1) N (drawI N id) = true := by unfold rowOkB at k1; simp at k1; exact k1.2
    exact asc_hi ha (by omega)
end Go.Proofs.YtcoofoiaaljpoaaDoor
