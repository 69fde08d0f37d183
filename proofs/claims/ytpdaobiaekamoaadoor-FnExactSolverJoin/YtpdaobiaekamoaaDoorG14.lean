/- Solvers marked and held, as the laws do it; what is kept. A solver copied by the laws, its rows apart. A list of a solver, ok or not; links of one block. -/
import Derived.Test.YtpdaobiaekamoaaDoorG13
import Derived.Test.YtpdaobiaekamoaaDoorG11
import Derived.Test.YtpdaobiaekamoaaDoorG8
namespace Go.Proofs.YtpdaobiaekamoaaDoor
open Go.ChangeShapes Go.WideShapes Go.ChangeAt Go.RowKit Go.Sort Go.Shelf

/-- Outside of some blocks all is as it was. -/
def KeepOut (w w' : World) (lo hi : Nat) : Prop := ∀ g, g < w.heap.size → (g < lo ∨ hi ≤ g) → w'.heap[g]? = w.heap[g]?
theorem keepOut_of {w w' : World} {v : Value} {fs : List EqV} {lo hi : Nat} (h : MkKeep w w' v fs) (hv : ∀ k, v.ownBlock = some k → lo ≤ k ∧ k < hi) (hf : ∀ f ∈ fs, ∀ k, (rowV f).ownBlock = some k → lo ≤ k ∧ k < hi) : KeepOut w w' lo hi := fun g hg ho =>
  h g hg (fun e => by have := hv g e; omega) (fun f hm e => by have := hf f hm g e; omega)
theorem keepOut_row {w w' : World} {v : Value} {lo hi : Nat} (h : w.grownBy w' v.ownBlock) (hv : ∀ k, v.ownBlock = some k → lo ≤ k ∧ k < hi) : KeepOut w w' lo hi := fun g hg ho =>
  h.block g hg (fun e => by have := hv g e.symm; omega)
theorem KeepOut.blk {w w' : World} {lo hi k : Nat} {o : Obj} (h : KeepOut w w' lo hi) (X : w.heap[k]? = some o) (hk : k < lo ∨ hi ≤ k) : w'.heap[k]? = some o := (h k (lt_of_block X) hk).trans X
theorem KeepOut.owns {w w' : World} {lo hi base s n : Nat} {e : TypeId} {v : Value} {xs : List Value} (h : KeepOut w w' lo hi) (ho : w.ownsRow base e s v n xs) (hk : ∀ k, v.ownBlock = some k → k < lo ∨ hi ≤ k) : w'.ownsRow base e s v n xs :=
  u_owns ho (fun k e => h k (ho.lt k e).2 (hk k e))
theorem KeepOut.rows {w w' : World} {lo hi base : Nat} {fs : List EqV} (h : KeepOut w w' lo hi) (ho : RowsOwn w base fs) (hk : ∀ f ∈ fs, ∀ k, (rowV f).ownBlock = some k → k < lo ∨ hi ≤ k) : RowsOwn w' base fs := fun f hf => h.owns (ho f hf) (hk f hf)

set_option maxHeartbeats 2000000 in
theorem markSolver_any (base : Nat) (cc zz : Int) (a : Option Addr) (c : Nat) (fs : List EqV) (k : Nat) (w : World) (hown : w.ownsRow base 53 2 (.slice a fs.length c) fs.length (eqCells fs)) (hrow : RowsOwn w base fs) (hap : RowsAp fs) (hlen : fs.length ≤ 1048576) (hsm : ∀ f ∈ fs, f.r.length ≤ 1048576) (hb : base ≤ w.heap.size) (k0 : 0 < k) (k1 : k ≤ 100000000000000) :
    Calls Tryd.prog 19 #[.agg #[.int .i64 cc, .int .i64 zz, .slice a fs.length c], .int .i64 k] w fun e w' => e = .returned (.int .i64 ((k + cntE fs : Nat) : Int)) ∧ w'.ownsRow base 53 2 (.slice a fs.length c) fs.length (eqCells (mkE k fs)) ∧ RowsOwn w' base (mkE k fs) ∧ Below base w w' ∧ MkKeep w w' (.slice a fs.length c) fs := by
  have K := hid (fun W (bW : Below w.heap.size w W) => markEqS_any base a c fs k W (owns_below hown bW) (hrow.below bW) hap hlen hsm (Nat.le_trans hb bW.size) k0 k1)
  clear hown hrow hap hsm
  go_enter Tryd.func19, Tryd.ntmps19
  go_wp2_with fail
  refine (K.out _ (u_b1 _ _)).mono ?_
  rintro e w2 ⟨rfl, o2, r2, b2, k2⟩
  have O2 := hid o2
  have R2 := hid r2
  have B2 := hid (((u_b1 w (.cells #[.int .i64 cc, .int .i64 zz, .slice a fs.length c] 29)).mono hb).trans b2)
  have K2 := hid (show MkKeep w w2 (.slice a fs.length c) fs from fun g hg h1 h2 => (k2 g (by simp; omega) h1 h2).trans (Below.heap_alloc _ _ _ hg))
  clear o2 r2 b2 k2 K
  go_wp2_with fail
  go_ret
  exact ⟨rfl, O2.out, R2.out, B2.out, K2.out⟩

set_option maxHeartbeats 2000000 in
theorem heldSolver_any (cc zz : Int) (a : Option Addr) (c : Nat) (fs : List EqV) (k : Nat) (w : World) (h : EqsAt w a (mkE k fs)) (hlen : fs.length ≤ 1048576) (hsm : ∀ f ∈ fs, f.r.length ≤ 1048576) (k0 : 0 < k) (k1 : k ≤ 100000000000000) :
    Calls Tryd.prog 21 #[.agg #[.int .i64 cc, .int .i64 zz, .slice a fs.length c], .int .i64 k] w fun e w' => e = .returned (.int .i64 ((k + cntE fs : Nat) : Int)) ∧ Below w.heap.size w w' := by
  have K := hid (fun W (bW : Below w.heap.size w W) => heldEqS_any a c fs k W (h.below bW) hlen hsm k0 k1)
  have hcl := cntE_le hsm
  clear h hsm
  go_enter Tryd.func21, Tryd.ntmps21
  go_wp2_with fail
  refine (K.out _ (u_b1 _ _)).mono ?_
  rintro e w2 ⟨rfl, b2⟩
  have B2 := hid (u_cat (u_b1 _ _) b2)
  have hnn : ¬ (((k + cntE fs : Nat) : Int) < 0) := by omega
  clear b2 K
  go_wp2_with fail
  go_ret
  exact ⟨rfl, B2.out⟩
end Go.Proofs.YtpdaobiaekamoaaDoor
namespace Go.Proofs.YtpdaobiaekamoaaDoor
open Go.ChangeShapes Go.WideShapes Go.ChangeAt Go.RowKit Go.Sort Go.Shelf

set_option maxHeartbeats 2000000 in
theorem toEqS_ap (a : Option Addr) (cap : Nat) (es : List EqV) (w : World) (ha : EqsAt w a es) (hx : es.length ≤ 1048576) (hsm : SmallE es) :
    Calls Tryd.prog 36 #[.slice a es.length cap] w fun e w' => ∃ v fs, e = .returned v ∧ w'.ownsRow w.heap.size 53 2 v fs.length (eqCells fs) ∧ SamV fs es ∧ RowsOwn w' (w.heap.size + 1) fs ∧ RowsAp fs ∧ Below w.heap.size w w' := by
  obtain ⟨i0, hi, hz0, hz1, hz2⟩ := info_parts Tryd.info53
  have HA := hid ha
  have HS := hid hsm
  clear ha hsm
  go_enter Tryd.func36, Tryd.ntmps36
  go_wp2_with (at_make; refine wpList_make_full _ rfl _ _ 27 rfl w.heap.size 53 i0 (.agg #[.slice none 0 0, .string ByteArray.empty]) 2 Tryd.underlying27 hi hz0 hz1 _ _ _ _ es.length rfl rfl rfl rfl (by rw [hz2]; omega) (by unfold maxLen; omega) (Nat.le_refl _) ?_; intro w1 hown1 hgr1)
  have hb1 : Below w.heap.size w w1 := (Below.refl _ _).grown hgr1 (Nat.le_refl _) (fun k hk => by simp at hk)
  rw [made_eqs] at hown1
  have hw1 := (hown1.lt w.heap.size rfl).2
  have HO := hid hown1
  clear hown1 hgr1
  go_loopw [4] (fun i wr => ∃ fs : List EqV, fs.length ≤ es.length ∧ i = .int .i64 fs.length ∧ SamV fs (es.take fs.length) ∧ wr.ownsRow w.heap.size 53 2 (.slice (some ⟨w.heap.size, 0, none⟩) es.length es.length) es.length (eqCells (fs ++ List.replicate (es.length - fs.length) EqV.no)) ∧ RowsOwn wr (w.heap.size + 1) fs ∧ RowsAp fs ∧ Below w.heap.size w wr) (fun i _ => es.length - (intOf i).toNat)
  case atStart => exact ⟨[], Nat.zero_le _, rfl, ⟨rfl, rfl⟩, HO.out, fun f hf => by simp at hf, List.Pairwise.nil, hb1⟩
  case round =>
    obtain ⟨fs, hk, rfl, hsam, hown, hrow, hap, hnx⟩ := hrel
    have HAP := hid hap
    clear hap
    have HM := hid hsam
    have HR := hid hrow
    clear hsam hrow
    by_cases hlt : fs.length < es.length
    · obtain ⟨e, he⟩ : ∃ e, es[fs.length] = e := ⟨_, rfl⟩
      obtain ⟨b, off, rfl, hc⟩ := (HA.out.below hnx) (by intro h; simp [h] at hlt)
      obtain ⟨c0, c1, crow⟩ := hc fs.length e (by rw [List.getElem?_eq_getElem hlt, he])
      have hel := (HS.out e (by rw [← he]; exact List.getElem_mem hlt)).1
      have HE := hid he
      have hgl := (hown.lt w.heap.size rfl).2
      have HOW := hid hown
      have K := hid (toEq_any e.a e.c e.r e.d wr crow hel)
      clear hc he crow hown
      go_wp2_with (go_at_call 55; refine K.out.mono ?_; rintro _ w2 ⟨a', c', rfl, o2, b2⟩; have O2 := hid (owns_below HOW.out b2); have d0 := O2.out.cellAt (fs.length * 2) (by omega); have d1 := O2.out.cellAt (fs.length * 2 + 1) (by omega); rw [← Nat.add_zero (fs.length * 2), eqCells_at _ fs.length EqV.no (by rw [List.getElem?_append_right (Nat.le_refl _), Nat.sub_self, List.getElem?_replicate, if_pos (by omega)]) 0 (by omega)] at d0; rw [eqCells_at _ fs.length EqV.no (by rw [List.getElem?_append_right (Nat.le_refl _), Nat.sub_self, List.getElem?_replicate, if_pos (by omega)]) 1 (by omega)] at d1; simp only [EqV.cells, List.getElem?_cons_zero, List.getElem?_cons_succ, Nat.add_zero] at d0 d1; have hfz := O2.out.frozenAt; have OI := hid o2; have B2 := hid b2; clear o2 b2)
      go_roundw
      case rel =>
        refine ⟨fs ++ [⟨a', c', e.r, e.d⟩], by simp; omega, by simp, ?_, ?_, ?_, rowsAp_snoc HAP.out HR.out OI.out (Nat.le_refl _), ?_⟩
        · rw [List.length_append, List.length_singleton, List.take_succ_eq_append_getElem hlt]
          refine ⟨?_, ?_⟩
          · rw [List.map_append, List.map_append, HM.out.1, HE.out]; rfl
          · rw [List.map_append, List.map_append, HM.out.2, HE.out]; rfl
        · have h1 := ((O2.out.stored (fs.length * 2) (.slice a' e.r.length c')).1.stored (fs.length * 2 + 1) (.string e.d)).1
          rw [eqCells_set _ fs.length ⟨a', c', e.r, e.d⟩ (by simp; omega), eqcopy_set fs es.length _ hlt] at h1
          rw [List.length_append, List.length_singleton]
          exact h1
        · refine RowsOwn.set (RowsOwn.set ?_ (Nat.lt_succ_self _) _ _) (Nat.lt_succ_self _) _ _
          intro f hf
          rcases List.mem_append.1 hf with h | h
          · exact owns_below (HR.out f h) B2.out
          · simp only [List.mem_singleton] at h
            subst h
            exact owns_base OI.out (by omega)
        · exact u_set (u_set (hnx.trans (B2.out.mono hnx.size)) (Nat.le_refl _) _ _) (Nat.le_refl _) _ _
      case measure => simp [intOf]; omega
    · have hfl : fs.length = es.length := by omega
      have HW := hid hown
      have HFL := hid hfl
      clear hown hfl
      go_wp2
      go_ret
      refine ⟨_, fs, rfl, ?_, ?_, HR.out, HAP.out, hnx⟩
      · have := HW.out
        rw [← HFL.out, Nat.sub_self, List.replicate_zero, List.append_nil] at this
        rw [← HFL.out]
        exact this
      · have := HM.out
        rwa [HFL.out, List.take_length] at this

set_option maxHeartbeats 1000000 in
theorem toSolver_ap (a : Option Addr) (cap : Nat) (es : List EqV) (c z : Int) (w : World) (ha : EqsAt w a es) (hx : es.length ≤ 1048576) (hsm : SmallE es) :
    Calls Tryd.prog 12 #[.agg #[.int .i64 c, .int .i64 z, .slice a es.length cap]] w fun e w' => ∃ a' c' fs, e = .returned (.agg #[.int .i64 c, .int .i64 z, .slice a' fs.length c']) ∧ w'.ownsRow w.heap.size 53 2 (.slice a' fs.length c') fs.length (eqCells fs) ∧ SamV fs es ∧ RowsOwn w' w.heap.size fs ∧ RowsAp fs ∧ Below w.heap.size w w' := by
  have HA := hid ha
  have HS := hid hsm
  clear ha hsm
  go_enter Tryd.func12, Tryd.ntmps12
  go_wp2_with fail
  refine (toEqS_ap a cap es _ (HA.out.below (u_b3 _ _ _ _)) hx HS.out).mono ?_
  rintro e w1 ⟨v, fs, rfl, o1, sm, rw1, ap1, b1⟩
  have AP := hid ap1
  clear ap1
  obtain ⟨a', c', rfl⟩ := owns_slice o1
  obtain ⟨hc1, hf1⟩ := u_cell b1
  have hs1 : w.heap.size + 1 + 1 < w1.heap.size := by have := b1.size; simp at this; omega
  have B1 := hid (u_cat (u_b3 _ _ _ _) b1)
  have O2 := hid (show w1.ownsRow (w.heap.size + 1 + 1 + 1) 53 2 (.slice a' fs.length c') fs.length (eqCells fs) by simpa using o1)
  have R2 := hid (show RowsOwn w1 (w.heap.size + 1 + 1 + 1) fs from rw1.mono (by simp))
  have SM := hid sm
  clear o1 b1 rw1 sm
  go_wp2_with fail
  refine bodyPost_ret (v := .agg #[.int .i64 c, .int .i64 z, .slice a' fs.length c']) ?_ rfl ?_
  · simp [results, Tryd.results12, go_sem, hc1]
  · refine ⟨a', c', fs, rfl, owns_base (base := w.heap.size + 1 + 1 + 1) ?_ (by omega), SM.out, RowsOwn.mono (base := w.heap.size + 1 + 1 + 1) ?_ (by omega), AP.out, ?_⟩
    · repeat (first | exact O2.out | (refine Touch.owns (Touch.setCell _ _ _) ?_ (by simp only []; omega)))
    · repeat (first | exact R2.out | (refine RowsOwn.set ?_ (by omega) _ _))
    · repeat (first | exact B1.out | (refine u_set ?_ (by omega) _ _))
end Go.Proofs.YtpdaobiaekamoaaDoor
namespace Go.Proofs.YtpdaobiaekamoaaDoor
open Go.ChangeShapes Go.WideShapes Go.ChangeAt Go.RowKit Go.Sort Go.Shelf
attribute [local go_sem] Oper.semAt_some

theorem one_row (r : List Int) (at' : Int) : (r.length = 1 ∧ hd r = at') ↔ r = [at'] := by
  constructor
  · rintro ⟨h1, h2⟩
    match r, h1 with
    | [x], _ => rw [show x = at' from h2]
  · rintro rfl; exact ⟨rfl, rfl⟩

set_option maxHeartbeats 1000000 in
theorem isBlock_any (b : Nat) (r : List Int) (at' : Int) (w : World) (hb : w.cell? ⟨b, 0, none⟩ = some (.int .u32 (setI r : Nat))) (hr : ascB (-1) 24 r = true) (hne : r ≠ []) (hT : Tab w) :
    Calls Tryd.prog 48 #[.pointer (some ⟨b, 0, none⟩), .int .i64 at'] w fun e w' => e = .returned (.bool (decide (r = [at']))) ∧ Dr w w' := by
  have HT := hid hT
  have K1 := hid (sizeS hr)
  have K2 := hid (firstS hr hne)
  have HD := hid (show decide (r = [at']) = decide (r.length = 1 ∧ hd r = at') from by rw [decide_eq_decide]; exact (one_row r at').symm)
  by_cases h1 : r.length = 1
  · have e1 : ((r.length : Int) == 1) = true := by simp [h1]
    by_cases h2 : hd r = at'
    · have e2 : (hd r == at') = true := by simp [h2]
      have HF := hid (show decide (r = [at']) = true by rw [HD.out]; exact decide_eq_true ⟨h1, h2⟩)
      clear h1 h2 hr hne hT HD
      generalize hd r = F at K2 e2
      generalize r.length = L at K1 e1
      generalize setI r = s at K1 K2 hb
      go_enter Tryd.func48, Tryd.ntmps48
      go_wp2_with (go_at_call 72; refine (K1.out _).mono ?_; rintro e w1 ⟨rfl, d1⟩; have hb1 := (d1.cell _).trans hb; have D1 := hid d1; clear d1 hb)
      refine (K2.out _ (HT.out.below (D1.out.below _))).mono ?_
      rintro e w2 ⟨rfl, hw⟩; replace hw := hw.symm; subst hw
      go_wp2_with fail
      go_ret
      exact ⟨ret_bool HF.out.symm, D1.out⟩
    · have e2 : (hd r == at') = false := by simp [h2]
      have HF := hid (show decide (r = [at']) = false by rw [HD.out]; exact decide_eq_false (fun h => h2 h.2))
      clear h1 h2 hr hne hT HD
      generalize hd r = F at K2 e2
      generalize r.length = L at K1 e1
      generalize setI r = s at K1 K2 hb
      go_enter Tryd.func48, Tryd.ntmps48
      go_wp2_with (go_at_call 72; refine (K1.out _).mono ?_; rintro e w1 ⟨rfl, d1⟩; have hb1 := (d1.cell _).trans hb; have D1 := hid d1; clear d1 hb)
      refine (K2.out _ (HT.out.below (D1.out.below _))).mono ?_
      rintro e w2 ⟨rfl, hw⟩; replace hw := hw.symm; subst hw
      go_wp2_with fail
      go_ret
      exact ⟨ret_bool HF.out.symm, D1.out⟩
  · have e1 : ((r.length : Int) == 1) = false := by simp; omega
    have HF := hid (show decide (r = [at']) = false by rw [HD.out]; exact decide_eq_false (fun h => h1 h.1))
    clear h1 hr hne hT HD
    generalize hd r = F at K2
    generalize r.length = L at K1 e1
    generalize setI r = s at K1 K2 hb
    go_enter Tryd.func48, Tryd.ntmps48
    go_wp2_with (go_at_call 72; refine (K1.out _).mono ?_; rintro e w1 ⟨rfl, d1⟩; have hb1 := (d1.cell _).trans hb; have D1 := hid d1; clear d1 hb)
    go_ret
    exact ⟨ret_bool HF.out.symm, D1.out⟩

/-- The equations of a solver that is ok; none of others. -/
def eqsOf (c z : Int) (es : List EqV) : List EqV := if solverP c z es then es else []
/-- What a list of a solver is, ok or not. -/
theorem listO_any {w : World} {c z : Int} {es : List EqV} {e : Ending} {w' : World} (h : ListO w c z es e w') :
    ∃ (c' z' : Int) (ls : List Lk), e = .returned (.tuple #[.agg #[.int .i64 c', .int .i64 z', .pointer (ptrOf ls)], .bool (decide (solverP c z es))]) ∧ LksAt w' w.heap.size ls ∧ SameE ls (eqsOf c z es) ∧ RowsL ls ∧ ls.length ≤ 24 ∧ Below w.heap.size w w' := by
  obtain ⟨b, ⟨hp, ls, rfl, hL, hs⟩ | ⟨hp, rfl⟩⟩ := h
  · have he : eqsOf c z es = es := if_pos hp
    refine ⟨c, z, ls, by rw [decide_eq_true hp], hL, by rw [he]; exact hs, hs.rows hp.1.1.2 hp.2, ?_, b⟩
    have h1 := congrArg List.length hs.1
    rw [List.length_map, List.length_map] at h1
    have := okE_24 hp.2 (by have := hp.1.1.1; omega) hp.1.1.2
    omega
  · have he : eqsOf c z es = [] := if_neg hp
    exact ⟨0, 0, [], by rw [decide_eq_false hp]; rfl, LksAt.nil _ _, by rw [he]; exact ⟨rfl, rfl⟩, fun l hl => by simp at hl, by simp, b⟩
end Go.Proofs.YtpdaobiaekamoaaDoor
