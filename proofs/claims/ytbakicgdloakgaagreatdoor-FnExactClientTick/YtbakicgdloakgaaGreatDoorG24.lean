/- A solver copied by the laws, its rows apart. Sets of bits put together, bytes put together, an equation without the first numbers of those that are known: the program's. Equations that are gathered in a solver's box, one behind the other. What is known is the same, wherever equations lie. What is left of an equation, link by link: the program's iterator. What is left of an equation in the end, by the program. What is left of an equation, link by link: the program's iterator. What all that is known says of a row, by the program. What is left of an equation in the end, by the program. -/
import Derived.Test.YtbakicgdloakgaaGreatDoorG23
import Derived.Test.YtbakicgdloakgaaGreatDoorG19
import Derived.Test.YtbakicgdloakgaaGreatDoorG8
import Derived.Test.YtbakicgdloakgaaGreatDoorG13
import Derived.Test.YtbakicgdloakgaaGreatDoorG3
import Derived.Test.YtbakicgdloakgaaGreatDoorG2
import Derived.RangeFuncOwn
import Derived.Test.YtbakicgdloakgaaGreatDoorG21
import Derived.Deep.RegionHeld3
import Derived.Laws.BytesArg
namespace Go.Proofs.YtbakicgdloakgaaGreatDoor
open Go.ChangeShapes Go.WideShapes Go.ChangeAt Go.RowKit Go.Sort Go.Shelf

set_option maxRecDepth 100000 in
set_option maxHeartbeats 2000000 in
theorem toEqS_ap (a : Option Addr) (cap : Nat) (es : List EqV) (w : World) (ha : EqsAt w a es) (hx : es.length ≤ 1048576) (hsm : SmallE es) :
    Calls Tryz.prog 74 #[.slice a es.length cap] w fun e w' => ∃ v fs, e = .returned v ∧ w'.ownsRow w.heap.size 124 2 v fs.length (eqCells fs) ∧ SamV fs es ∧ RowsOwn w' (w.heap.size + 1) fs ∧ RowsAp fs ∧ Below w.heap.size w w' := by
  obtain ⟨i0, hi, hz0, hz1, hz2⟩ := info_parts Tryz.info124
  have HA := hid ha
  have HS := hid hsm
  clear ha hsm
  go_enter Tryz.func74, Tryz.ntmps74
  go_wp2_with (at_make; refine wpList_make_full _ rfl _ _ 34 rfl w.heap.size 124 i0 (.agg #[.slice none 0 0, .string ByteArray.empty]) 2 Tryz.underlying34 hi hz0 hz1 _ _ _ _ es.length rfl rfl rfl rfl (by rw [hz2]; omega) (by unfold maxLen; omega) (Nat.le_refl _) ?_; intro w1 hown1 hgr1)
  have hb1 : Below w.heap.size w w1 := (Below.refl _ _).grown hgr1 (Nat.le_refl _) (fun k hk => by simp at hk)
  rw [made_eqs] at hown1
  have hw1 := (hown1.lt w.heap.size rfl).2
  have HO := hid hown1
  clear hown1 hgr1
  go_loopw [4] (fun i wr => ∃ fs : List EqV, fs.length ≤ es.length ∧ i = .int .i64 fs.length ∧ SamV fs (es.take fs.length) ∧ wr.ownsRow w.heap.size 124 2 (.slice (some ⟨w.heap.size, 0, none⟩) es.length es.length) es.length (eqCells (fs ++ List.replicate (es.length - fs.length) EqV.no)) ∧ RowsOwn wr (w.heap.size + 1) fs ∧ RowsAp fs ∧ Below w.heap.size w wr) (fun i _ => es.length - (intOf i).toNat)
  case atStart => exact ⟨[], Nat.zero_le _, rfl, ⟨rfl, rfl⟩, HO.out, fun f hf => by simp at hf, List.Pairwise.nil, hb1⟩
  case round =>
    obtain ⟨fs, hk, rfl, hsam, hown, hrow, hap, hnx⟩ := hrel
    have HAP := hid hap
    clear hap
    have HM := hid hsam
    have HR := hid hrow
    clear hsam hrow
    by_cases hlt : fs.length < es.length
    · obtain ⟨e, he⟩ : ∃ e, es[fs.length] = e := ⟨_, rfl⟩
      obtain ⟨b, off, rfl, hc⟩ := (HA.out.below hnx) (by intro h; simp [h] at hlt)
      obtain ⟨c0, c1, crow⟩ := hc fs.length e (by rw [List.getElem?_eq_getElem hlt, he])
      have hel := (HS.out e (by rw [← he]; exact List.getElem_mem hlt)).1
      have HE := hid he
      have hgl := (hown.lt w.heap.size rfl).2
      have HOW := hid hown
      have K := hid (toEq_any e.a e.c e.r e.d wr crow hel)
      clear hc he crow hown
      go_wp2_with (go_at_call 88; refine K.out.mono ?_; rintro _ w2 ⟨a', c', rfl, o2, b2⟩; have O2 := hid (owns_below HOW.out b2); have d0 := O2.out.cellAt (fs.length * 2) (by omega); have d1 := O2.out.cellAt (fs.length * 2 + 1) (by omega); rw [← Nat.add_zero (fs.length * 2), eqCells_at _ fs.length EqV.no (by rw [List.getElem?_append_right (Nat.le_refl _), Nat.sub_self, List.getElem?_replicate, if_pos (by omega)]) 0 (by omega)] at d0; rw [eqCells_at _ fs.length EqV.no (by rw [List.getElem?_append_right (Nat.le_refl _), Nat.sub_self, List.getElem?_replicate, if_pos (by omega)]) 1 (by omega)] at d1; simp only [EqV.cells, List.getElem?_cons_zero, List.getElem?_cons_succ, Nat.add_zero] at d0 d1; have hfz := O2.out.frozenAt; have OI := hid o2; have B2 := hid b2; clear o2 b2)
      go_roundw
      case rel =>
        refine ⟨fs ++ [⟨a', c', e.r, e.d⟩], by simp; omega, by simp, ?_, ?_, ?_, rowsAp_snoc HAP.out HR.out OI.out (Nat.le_refl _), ?_⟩
        · rw [List.length_append, List.length_singleton, List.take_succ_eq_append_getElem hlt]
          refine ⟨?_, ?_⟩
          · rw [List.map_append, List.map_append, HM.out.1, HE.out]; rfl
          · rw [List.map_append, List.map_append, HM.out.2, HE.out]; rfl
        · have h1 := ((O2.out.stored (fs.length * 2) (.slice a' e.r.length c')).1.stored (fs.length * 2 + 1) (.string e.d)).1
          rw [eqCells_set _ fs.length ⟨a', c', e.r, e.d⟩ (by simp; omega), eqcopy_set fs es.length _ hlt] at h1
          rw [List.length_append, List.length_singleton]
          exact h1
        · refine RowsOwn.set (RowsOwn.set ?_ (Nat.lt_succ_self _) _ _) (Nat.lt_succ_self _) _ _
          intro f hf
          rcases List.mem_append.1 hf with h | h
          · exact owns_below (HR.out f h) B2.out
          · simp only [List.mem_singleton] at h
            subst h
            exact owns_base OI.out (by omega)
        · exact u_set (u_set (hnx.trans (B2.out.mono hnx.size)) (Nat.le_refl _) _ _) (Nat.le_refl _) _ _
      case measure => simp [intOf]; omega
    · have hfl : fs.length = es.length := by omega
      have HW := hid hown
      have HFL := hid hfl
      clear hown hfl
      go_wp2
      go_ret
      refine ⟨_, fs, rfl, ?_, ?_, HR.out, HAP.out, hnx⟩
      · have := HW.out
        rw [← HFL.out, Nat.sub_self, List.replicate_zero, List.append_nil] at this
        rw [← HFL.out]
        exact this
      · have := HM.out
        rwa [HFL.out, List.take_length] at this

set_option maxRecDepth 100000 in
set_option maxHeartbeats 1000000 in
theorem toSolver_ap (a : Option Addr) (cap : Nat) (es : List EqV) (c z : Int) (w : World) (ha : EqsAt w a es) (hx : es.length ≤ 1048576) (hsm : SmallE es) :
    Calls Tryz.prog 52 #[.agg #[.int .i64 c, .int .i64 z, .slice a es.length cap]] w fun e w' => ∃ a' c' fs, e = .returned (.agg #[.int .i64 c, .int .i64 z, .slice a' fs.length c']) ∧ w'.ownsRow w.heap.size 124 2 (.slice a' fs.length c') fs.length (eqCells fs) ∧ SamV fs es ∧ RowsOwn w' w.heap.size fs ∧ RowsAp fs ∧ Below w.heap.size w w' := by
  have HA := hid ha
  have HS := hid hsm
  clear ha hsm
  go_enter Tryz.func52, Tryz.ntmps52
  go_wp2_with fail
  refine (toEqS_ap a cap es _ (HA.out.below (u_b3 _ _ _ _)) hx HS.out).mono ?_
  rintro e w1 ⟨v, fs, rfl, o1, sm, rw1, ap1, b1⟩
  have AP := hid ap1
  clear ap1
  obtain ⟨a', c', rfl⟩ := owns_slice o1
  obtain ⟨hc1, hf1⟩ := u_cell b1
  have hs1 : w.heap.size + 1 + 1 < w1.heap.size := by have := b1.size; simp at this; omega
  have B1 := hid (u_cat (u_b3 _ _ _ _) b1)
  have O2 := hid (show w1.ownsRow (w.heap.size + 1 + 1 + 1) 124 2 (.slice a' fs.length c') fs.length (eqCells fs) by simpa using o1)
  have R2 := hid (show RowsOwn w1 (w.heap.size + 1 + 1 + 1) fs from rw1.mono (by simp))
  have SM := hid sm
  clear o1 b1 rw1 sm
  go_wp2_with fail
  refine bodyPost_ret (v := .agg #[.int .i64 c, .int .i64 z, .slice a' fs.length c']) ?_ rfl ?_
  · simp [results, Tryz.results52, go_sem, hc1]
  · refine ⟨a', c', fs, rfl, owns_base (base := w.heap.size + 1 + 1 + 1) ?_ (by omega), SM.out, RowsOwn.mono (base := w.heap.size + 1 + 1 + 1) ?_ (by omega), AP.out, ?_⟩
    · repeat (first | exact O2.out | (refine Touch.owns (Touch.setCell _ _ _) ?_ (by simp only []; omega)))
    · repeat (first | exact R2.out | (refine RowsOwn.set ?_ (by omega) _ _))
    · repeat (first | exact B1.out | (refine u_set ?_ (by omega) _ _))
end Go.Proofs.YtbakicgdloakgaaGreatDoor
namespace Go.Proofs.YtbakicgdloakgaaGreatDoor
open Go.ChangeShapes Go.WideShapes Go.ChangeAt Go.RowKit Go.Sort Go.Shelf
attribute [local go_sem] Oper.semAt_some

end Go.Proofs.YtbakicgdloakgaaGreatDoor
namespace Go.Proofs.YtbakicgdloakgaaGreatDoor
open Go.ChangeShapes Go.WideShapes Go.ChangeAt Go.RowKit Go.Sort Go.Shelf

/-- A solver in a box, its equations owned from behind the box on, their rows from B on. -/
structure OutIs (W : World) (B g : Nat) (c z : Int) (gs : List EqV) (b : Option Addr) (d : Nat) : Prop where
  blk : W.heap[g]? = some (.cells #[.int .i64 c, .int .i64 z, .slice b gs.length d] 36 (0, 0))
  own : W.ownsRow (g + 1) 124 2 (.slice b gs.length d) gs.length (eqCells gs)
  rows : RowsOwn W B gs
theorem OutIs.lt {W : World} {B g : Nat} {c z : Int} {gs : List EqV} {b : Option Addr} {d : Nat} (h : OutIs W B g c z gs b d) : g + 1 ≤ W.heap.size := lt_of_block h.blk
theorem OutIs.below {W W' : World} {B g : Nat} {c z : Int} {gs : List EqV} {b : Option Addr} {d : Nat} (h : OutIs W B g c z gs b d) (hb : Below W.heap.size W W') : OutIs W' B g c z gs b d :=
  ⟨kept h.blk hb, owns_below h.own hb, h.rows.below hb⟩
end Go.Proofs.YtbakicgdloakgaaGreatDoor
namespace Go.Proofs.YtbakicgdloakgaaGreatDoor
open Go.ChangeShapes Go.WideShapes Go.ChangeAt Go.RowKit Go.Sort Go.Shelf

theorem SamV.eqs {c z : Int} {es fs : List EqV} (h : SamV fs es) : SamV (eqsOf c z fs) (eqsOf c z es) := by
  unfold eqsOf
  by_cases hp : solverP c z es
  · rw [if_pos hp, if_pos (h.solver.2 hp)]; exact h
  · rw [if_neg hp, if_neg (fun h1 => hp (h.solver.1 h1))]; exact ⟨rfl, rfl⟩
theorem SamV.pfx {c z : Int} {es fs : List EqV} (h : SamV fs es) : (eqsOf c z fs).map EqV.r = (eqsOf c z es).map EqV.r := h.eqs.1
end Go.Proofs.YtbakicgdloakgaaGreatDoor
namespace Go.Proofs.YtbakicgdloakgaaGreatDoor
open Go.ChangeShapes Go.WideShapes Go.ChangeAt Go.RowKit Go.Sort Go.Shelf
attribute [local go_sem] Oper.semAt_some

theorem BytsAt.own {W W' : World} {q : Nat} {d : List Int} {row : Option Nat} (h : BytsAt W q d) (hg : W.grownBy W' row) (hr : ∀ r, row = some r → ∃ o : Obj, W.heap[r]? = some o ∧ o.isCells = false) : BytsAt W' q d :=
  ⟨Nat.lt_of_lt_of_le h.1 hg.size, fun i hi => cell_kept (h.2 i hi) hg hr⟩
end Go.Proofs.YtbakicgdloakgaaGreatDoor
namespace Go.Proofs.YtbakicgdloakgaaGreatDoor
open Go.ChangeShapes Go.WideShapes Go.ChangeAt Go.RowKit Go.Sort Go.Shelf
attribute [local go_sem] Oper.semAt_some

end Go.Proofs.YtbakicgdloakgaaGreatDoor
namespace Go.Proofs.YtbakicgdloakgaaGreatDoor
open Go.ChangeShapes Go.WideShapes Go.ChangeAt Go.RowKit Go.Sort Go.Shelf
attribute [local go_sem] Oper.semAt_some

end Go.Proofs.YtbakicgdloakgaaGreatDoor
namespace Go.Proofs.YtbakicgdloakgaaGreatDoor
open Go.ChangeShapes Go.WideShapes Go.ChangeAt Go.RowKit Go.Sort Go.Shelf
attribute [local go_sem] Oper.semAt_some

/-- One equation more is taken out. -/
def stepE (s : List Int × List Int) (e : EqV) : List Int × List Int := if hd e.r ∈ s.1 then (xorM s.1 e.r, xorL s.2 (numsOf e.d)) else s
/-- What is said of a row: so many noughts, and what is taken out. -/
def saysS (es : List EqV) (z : Int) (row : List Int) : List Int × List Int := es.foldl stepE (row, List.replicate z.toNat 0)
def saysP (c z : Int) (es : List EqV) (row : List Int) : Prop := solverP c z es ∧ ascB (-1) c row = true ∧ (saysS es z row).1 = []
instance (c z : Int) (es : List EqV) (row : List Int) : Decidable (saysP c z es row) := by unfold saysP; infer_instance
end Go.Proofs.YtbakicgdloakgaaGreatDoor
namespace Go.Proofs.YtbakicgdloakgaaGreatDoor
open Go.ChangeShapes Go.WideShapes Go.ChangeAt Go.RowKit Go.Sort Go.Shelf
attribute [local go_sem] Oper.semAt_some

end Go.Proofs.YtbakicgdloakgaaGreatDoor
