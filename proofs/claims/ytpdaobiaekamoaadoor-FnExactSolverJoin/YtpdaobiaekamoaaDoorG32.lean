/- An equation learnt by the model. The program's list of equations gone through by places. The code of an equation of no block, by the program. -/
import Derived.Test.YtpdaobiaekamoaaDoorG30
import Derived.Test.YtpdaobiaekamoaaDoorG23
import Derived.Test.YtpdaobiaekamoaaDoorG25
import Derived.Test.YtpdaobiaekamoaaDoorG31
import Derived.Test.YtpdaobiaekamoaaDoorG26
import Derived.Test.YtpdaobiaekamoaaDoorG5
import Derived.Test.YtpdaobiaekamoaaDoorG22
namespace Go.Proofs.YtpdaobiaekamoaaDoor
open Go.ChangeShapes Go.WideShapes Go.ChangeAt Go.RowKit Go.Sort Go.Shelf
attribute [local go_sem] Oper.semAt_some

theorem l3Add_any (a : Option Addr) (cap : Nat) (es : List EqV) (c : Int) (n : Nat) (ar : Option Addr) (cr : Nat) (row dn : List Int) (w : World) (ha : EqsAt w a es) (hl : es.length ≤ 1048576) (hsm : SmallE es) (hcap : ∀ e ∈ es, e.a = none → e.c = 0) (hp : solverP c n es) (hrow : IntsAt w ar row) (hasc : ascB (-1) c row = true) (hcr : ar = none → cr = 0) (hdn : dn.length = n) (hdb : BytesL dn) :
    Calls Tryd.prog 40 #[.agg #[.int .i64 c, .int .i64 (n : Int), .slice a es.length cap], .slice ar row.length cr, .string (strOfNums dn)] w fun e w' => AddO w w' (w.heap.size + 2) c n (learnV es row dn) (learnC es row dn n) e := by
  have c2 := hp.1.1.2
  have h24 := asc_up hasc c2
  by_cases hnil : (es.foldl stepE (row, dn)).1 = []
  · unfold learnV learnC
    rw [if_pos hnil, if_pos hnil]
    refine (l3Add_known a cap es c n ar cr row dn w ha hl hsm hcap (okRows hp) (by have := hp.1.2; omega) hrow h24 hcr hdn hdb hnil).mono ?_
    rintro e w' ⟨a', c', gs, rfl, h1, h2, h3, h4⟩
    exact ⟨a', c', gs, rfl, h1, vals_same.2 h2, h3, h4⟩
  · unfold learnV learnC
    rw [if_neg hnil, if_neg hnil]
    refine (l3Add_new a cap es c n ar cr row dn w ha hl hsm hcap (okRows hp) (by have := hp.1.2; omega) hrow h24 hcr hdn hdb hp.2 c2 hnil).mono ?_
    rintro e w' ⟨a', c', gs, rfl, h1, h2, h3, h4⟩
    exact ⟨a', c', gs, rfl, h1, h2, h3, h4⟩

set_option maxHeartbeats 8000000 in
set_option maxRecDepth 100000 in
theorem specSolverAdd_any (a : Option Addr) (cap : Nat) (es : List EqV) (c z : Int) (ar : Option Addr) (cr : Nat) (row : List Int) (data : ByteArray) (w : World) (ha : EqsAt w a es) (hsm : SmallE es) (hl : es.length ≤ 1048576) (hcap : ∀ e ∈ es, e.a = none → e.c = 0) (hrow : IntsAt w ar row) (hrl : row.length ≤ 1048576) (hcr : ar = none → cr = 0) (_hdl : data.size ≤ 1048576) (cc zz : Int) (vs : List Vl) (code : Int)
    (h1 : ¬ solverP c z es → cc = 0 ∧ zz = 0 ∧ vs = [] ∧ code = 3) (h2 : solverP c z es → cc = c ∧ zz = z) (h3 : solverP c z es → ¬ (ascB (-1) c row = true ∧ (data.size : Int) = z) → vs = valsE es ∧ code = 3)
    (h4 : solverP c z es → (ascB (-1) c row = true ∧ (data.size : Int) = z) → vs = learnV es row (numsOf data) ∧ code = learnC es row (numsOf data) data.size) :
    Calls Tryd.prog 15 #[.agg #[.int .i64 c, .int .i64 z, .slice a es.length cap], .slice ar row.length cr, .string data] w fun e w' => AddO w w' w.heap.size cc zz vs code e := by
  have HA := hid ha
  have HS := hid hsm
  have HR := hid hrow
  have HC := hid hcap
  have HCR := hid hcr
  obtain ⟨W0, hW0⟩ : ∃ W0, W0 = (w.alloc (.cells #[.int .i64 c, .int .i64 z, .slice a es.length cap] 29)).alloc (.cells #[.int .i64 0, .int .i64 0, .slice none 0 0] 29) := ⟨_, rfl⟩
  obtain ⟨X0, X1, B0⟩ := u_box2 (w := w) (c := #[.int .i64 c, .int .i64 z, .slice a es.length cap]) (t := 29) (d := #[.int .i64 0, .int .i64 0, .slice none 0 0]) (s := 29) (w1 := W0) (by rw [hW0]; exact Below.refl _ _)
  have hs0 : W0.heap.size = w.heap.size + 2 := by rw [hW0]; simp
  have KO := hid (fun w ha => specSolverOk_any a cap es c z w ha hsm hl)
  have q0 := box_cell X0 0 (v := .int .i64 c) rfl
  have q1 := box_cell X0 1 (v := .int .i64 z) rfl
  have q2 := box_cell X0 2 (v := .slice a es.length cap) rfl
  have HX := hid X0
  have HX1 := hid X1
  have HB := hid B0
  have H1 := hid h1
  have H2 := hid h2
  have H3 := hid h3
  have H4 := hid h4
  clear ha hsm hrow hcap hcr X0 X1 B0 h1 h2 h3 h4
  go_enter Tryd.func15, Tryd.ntmps15
  repeat ((fail_if_success (with_reducible show Code.wp _ (Code.region 1 _ _) _ _ _)); (first | go_values | go_skip | go_guarded | go_step | go_upon | go_back | go_simp))
  rw [← hW0]
  clear hW0
  go_wp2_with fail
  refine (KO.out W0 (HA.out.below HB.out)).mono ?_
  rintro e w1 ⟨rfl, b1⟩
  have hs1 := b1.size
  replace HX := hid (kept HX.out b1)
  replace HX1 := hid (kept HX1.out b1)
  replace HB := hid (u_cat HB.out b1)
  clear q0 q1 q2 b1
  by_cases hp : solverP c z es
  · rw [decide_eq_true hp]
    have c1 := hp.1.1.1
    have c2 := hp.1.1.2
    have z1 := hp.1.2.1
    have z2 := hp.1.2.2
    have HP := hid hp
    obtain ⟨rfl, rfl⟩ := H2.out hp
    have q0 := box_cell HX.out 0 (v := .int .i64 cc) rfl
    have KR := hid (fun w h => specRowOk_any ar cr row cc w h (by omega) (by omega) (by omega))
    clear hp
    go_wp2_with fail
    refine (KR.out w1 (HR.out.below HB.out)).mono ?_
    rintro e w2 ⟨rfl, b2⟩
    have b2 := b2.below w1.heap.size
    have hs2 := b2.size
    replace HX := hid (kept HX.out b2)
    replace HX1 := hid (kept HX1.out b2)
    replace HB := hid (u_cat HB.out b2)
    clear q0 b2
    have hro : rowOkB row cc = ascB (-1) cc row := by unfold rowOkB; simp; omega
    rw [hro]
    clear hro
    by_cases hg : ascB (-1) cc row = true ∧ (data.size : Int) = zz
    · obtain ⟨hrw, hsz⟩ := hg
      obtain ⟨rfl, rfl⟩ := H4.out HP.out ⟨hrw, hsz⟩
      rw [hrw]
      have KA := hid (fun W h1 h2 => l3Add_any a cap es cc data.size ar cr row (numsOf data) W h1 hl HS.out HC.out (by rw [hsz]; exact HP.out) h2 hrw HCR.out (numsOf_len _) (nums_bytes _))
      rw [hsz, str_numsOf] at KA
      have HSZ := hid hsz
      have hnz : ((data.size : Int) != zz) = false := by simp [hsz]
      clear hrw hsz
      have q0 := box_cell HX.out 0 (v := .int .i64 cc) rfl
      have q1 := box_cell HX.out 1 (v := .int .i64 zz) rfl
      have q2 := box_cell HX.out 2 (v := .slice a es.length cap) rfl
      go_wp2_with fail
      refine (KA.out w2 (HA.out.below HB.out) (HR.out.below HB.out)).mono ?_
      rintro e w3 ⟨a', c', gs, rfl, o3, hv, r3, b3⟩
      have hs3 := b3.size
      have X1b := hid (kept HX1.out b3)
      have O3 := hid o3
      have HV := hid hv
      have R3 := hid r3
      have B3 := hid (u_cat HB.out b3)
      have r0 := box_cell X1b.out 0 (v := .int .i64 0) rfl
      have r1 := box_cell X1b.out 1 (v := .int .i64 0) rfl
      have r2 := box_cell X1b.out 2 (v := .slice none 0 0) rfl
      have z0 := box_frozen X1b.out
      have l0 := lt_of_block X1b.out
      have S5 := set_block (set_block (set_block X1b.out 0 (.int .i64 cc)) 1 (.int .i64 zz)) 2 (.slice a' gs.length c')
      have x0 := box_cell S5 0 (v := .int .i64 cc) (by simp)
      have x1 := box_cell S5 1 (v := .int .i64 zz) (by simp)
      have x2 := box_cell S5 2 (v := .slice a' gs.length c') (by simp)
      clear o3 hv r3 b3 S5 q0 q1 q2 KA
      go_wp2_with fail
      refine bodyPost_ret (v := .tuple #[.agg #[.int .i64 cc, .int .i64 zz, .slice a' gs.length c'], .int .i64 (learnC es row (numsOf data) data.size)]) ?_ rfl ⟨a', c', gs, rfl, ?_, HV.out, ?_, ?_⟩
      · simp [results, Tryd.results15, go_sem, x0, x1, x2]
      · refine owns_base (Touch.owns (Touch.setCell _ ⟨_, _, _⟩ _) (Touch.owns (Touch.setCell _ ⟨_, _, _⟩ _) (Touch.owns (Touch.setCell _ ⟨_, _, _⟩ _) O3.out ?_) ?_) ?_) (by omega) <;> (simp only []; omega)
      · refine RowsOwn.mono (RowsOwn.set (RowsOwn.set (RowsOwn.set R3.out ?_ _ _) ?_ _ _) ?_ _ _) (by omega) <;> omega
      · refine u_set (u_set (u_set B3.out ?_ _ _) ?_ _ _) ?_ _ _ <;> omega
    · obtain ⟨rfl, rfl⟩ := H3.out HP.out hg
      have KC := hid (fun W h1 => l3Copy_any a cap es cc zz W h1 hl HS.out HC.out)
      have q0 := box_cell HX.out 0 (v := .int .i64 cc) rfl
      have q1 := box_cell HX.out 1 (v := .int .i64 zz) rfl
      have q2 := box_cell HX.out 2 (v := .slice a es.length cap) rfl
      have h5 : ascB (-1) cc row = false ∨ (ascB (-1) cc row = true ∧ ((data.size : Int) != zz) = true) := by
        by_cases h : ascB (-1) cc row = true
        · exact .inr ⟨h, by simpa using fun h2 => hg ⟨h, h2⟩⟩
        · exact .inl (by simpa using h)
      clear hg
      rcases h5 with h5 | ⟨h5, h6⟩
      all_goals
        rw [h5]
        clear h5
        go_wp2_with fail
        refine (KC.out w2 (HA.out.below HB.out)).mono ?_
        rintro e w3 ⟨a', c', gs, rfl, o3, hv, r3, b3⟩
        have hs3 := b3.size
        have X1b := hid (kept HX1.out b3)
        have O3 := hid o3
        have HV := hid (vals_same.2 hv)
        have R3 := hid r3
        have B3 := hid (u_cat HB.out b3)
        have r0 := box_cell X1b.out 0 (v := .int .i64 0) rfl
        have r1 := box_cell X1b.out 1 (v := .int .i64 0) rfl
        have r2 := box_cell X1b.out 2 (v := .slice none 0 0) rfl
        have z0 := box_frozen X1b.out
        have l0 := lt_of_block X1b.out
        have S5 := set_block (set_block (set_block X1b.out 0 (.int .i64 cc)) 1 (.int .i64 zz)) 2 (.slice a' gs.length c')
        have x0 := box_cell S5 0 (v := .int .i64 cc) (by simp)
        have x1 := box_cell S5 1 (v := .int .i64 zz) (by simp)
        have x2 := box_cell S5 2 (v := .slice a' gs.length c') (by simp)
        clear o3 hv r3 b3 S5 q0 q1 q2 KC
        go_wp2_with fail
        refine bodyPost_ret (v := .tuple #[.agg #[.int .i64 cc, .int .i64 zz, .slice a' gs.length c'], .int .i64 3]) ?_ rfl ⟨a', c', gs, rfl, ?_, HV.out, ?_, ?_⟩
        · simp [results, Tryd.results15, go_sem, x0, x1, x2]
        · refine owns_base (Touch.owns (Touch.setCell _ ⟨_, _, _⟩ _) (Touch.owns (Touch.setCell _ ⟨_, _, _⟩ _) (Touch.owns (Touch.setCell _ ⟨_, _, _⟩ _) O3.out ?_) ?_) ?_) (by omega) <;> (simp only []; omega)
        · refine RowsOwn.mono (RowsOwn.set (RowsOwn.set (RowsOwn.set R3.out ?_ _ _) ?_ _ _) ?_ _ _) (by omega) <;> omega
        · refine u_set (u_set (u_set B3.out ?_ _ _) ?_ _ _) ?_ _ _ <;> omega
  · rw [decide_eq_false hp]
    obtain ⟨rfl, rfl, rfl, rfl⟩ := H1.out hp
    have r0 := box_cell HX1.out 0 (v := .int .i64 0) rfl
    have r1 := box_cell HX1.out 1 (v := .int .i64 0) rfl
    have r2 := box_cell HX1.out 2 (v := .slice none 0 0) rfl
    have z0 := box_frozen HX1.out
    have l0 := lt_of_block HX1.out
    have S5 := set_block (set_block (set_block HX1.out 0 (.int .i64 0)) 1 (.int .i64 0)) 2 (.slice none 0 0)
    have x0 := box_cell S5 0 (v := .int .i64 0) (by simp)
    have x1 := box_cell S5 1 (v := .int .i64 0) (by simp)
    have x2 := box_cell S5 2 (v := .slice none 0 0) (by simp)
    clear hp S5
    go_wp2_with fail
    refine bodyPost_ret (v := .tuple #[.agg #[.int .i64 0, .int .i64 0, .slice none 0 0], .int .i64 3]) ?_ rfl ⟨none, 0, [], rfl, ⟨rfl, .inl ⟨rfl, rfl⟩⟩, rfl, fun f hf => by simp at hf, ?_⟩
    · simp [results, Tryd.results15, go_sem, x0, x1, x2]
    · refine u_set (u_set (u_set HB.out ?_ _ _) ?_ _ _) ?_ _ _ <;> omega
end Go.Proofs.YtpdaobiaekamoaaDoor
namespace Go.Proofs.YtpdaobiaekamoaaDoor
open Go.ChangeShapes Go.WideShapes Go.ChangeAt Go.RowKit Go.Sort Go.Shelf
attribute [local go_sem] Oper.semAt_some

/-- Each place is met once: what is done at each is done to all. -/
def atEach {α : Type} {n : Nat} (f : α → α) (xs : List α) (pre : List (Fin n)) : List α := pre.foldl (fun ys i => ys.modify i.val f) xs
theorem atEach_snoc {α : Type} {n : Nat} (f : α → α) (xs : List α) (pre : List (Fin n)) (x : Fin n) : atEach f xs (pre ++ [x]) = (atEach f xs pre).modify x.val f := by
  unfold atEach; rw [List.foldl_append]; rfl
theorem atEach_len {α : Type} {n : Nat} (f : α → α) (pre : List (Fin n)) : ∀ (xs : List α), (atEach f xs pre).length = xs.length := by
  induction pre with
  | nil => intro xs; rfl
  | cons i pre ih => intro xs; show (atEach f (xs.modify i.val f) pre).length = _; rw [ih, List.length_modify]
theorem atEach_take {α : Type} (f : α → α) (xs : List α) : ∀ k, k ≤ xs.length → atEach f xs ((List.finRange xs.length).take k) = (xs.take k).map f ++ xs.drop k := by
  intro k
  induction k with
  | zero => intro _; simp [atEach]
  | succ k ih =>
    intro hk
    have hk' : k < xs.length := by omega
    rw [List.take_succ_eq_append_getElem (by rw [List.length_finRange]; exact hk'), atEach_snoc, ih (by omega), List.getElem_finRange]
    have e1 : (xs.take k ++ [xs[k]] : List α) = xs.take (k + 1) := (List.take_succ_eq_append_getElem hk').symm
    have hl : ((xs.take k).map f).length = k := by rw [List.length_map, List.length_take]; omega
    show List.modify ((xs.take k).map f ++ xs.drop k) k f = _
    rw [List.drop_eq_getElem_cons hk', ← e1, List.map_append, List.append_assoc]
    apply List.ext_getElem?
    intro i
    rw [List.getElem?_modify]
    by_cases hi : i < k
    · have hne : ¬ k = i := by omega
      rw [List.getElem?_append_left (by omega), List.getElem?_append_left (by omega)]
      simp [hne]
    · rw [List.getElem?_append_right (by omega), List.getElem?_append_right (by omega), hl]
      by_cases hik : i = k
      · subst hik; simp [List.getElem?_eq_getElem hk']
      · obtain ⟨j, hj⟩ : ∃ j, i - k = j + 1 := ⟨i - k - 1, by omega⟩
        have hne : ¬ k = i := by omega
        rw [hj]
        simp [hne, show k + (j + 1) = k + 1 + j by omega]
theorem atEach_all {α : Type} (f : α → α) (xs : List α) : atEach f xs (List.finRange xs.length) = xs.map f := by
  have h := atEach_take f xs xs.length (Nat.le_refl _)
  rw [List.take_of_length_le (by rw [List.length_finRange]; exact Nat.le_refl _), List.take_length, List.drop_length, List.append_nil] at h
  exact h

set_option maxHeartbeats 2000000 in
theorem linksF1_in (n l Bp sb : Nat) (ls : List Lk) (hn : 1 ≤ n) (hl : ls.length ≤ 1000) (J Jx : List (Fin ls.length) → World → Prop) (Kp : World → World → Prop) (hK : ∀ W W', LeadsL W ls → Kp W W' → LeadsL W' ls)
    (hY : ∀ (pre : List (Fin ls.length)) (x : Fin ls.length) W, J pre W → pre.length < ls.length → YieldAt Fence.wide (n - 1) Tryd.prog l #[.pointer (some ⟨ls[x.val].b, 0, none⟩)] W fun e W' =>
      (e = .returned (.bool true) ∧ J (pre ++ [x]) W' ∧ Kp W W') ∨ (e = .returned (.bool false) ∧ Jx (pre ++ [x]) W'))
    (W : World) (hBp : W.cell? ⟨Bp, 0, none⟩ = some (.pointer (some ⟨sb, 0, none⟩))) (hsb : W.cell? ⟨sb, 2, none⟩ = some (.pointer (ptrOf ls))) (hL : LeadsL W ls) (h0 : J [] W) :
    CallsIn Fence.wide n Tryd.prog 71 #[.func (.yield l) #[] #[], .pointer (some ⟨Bp, 0, none⟩)] W fun e W' => (∃ v, e = .returned v) ∧
      ((∃ ys, ys = (List.finRange ls.length) ∧ J ys W') ∨ (∃ pre, pre <+: (List.finRange ls.length) ∧ Jx pre W')) := by
  refine callsIn_of_wp Tryd.func71 rfl trivial ?_ rfl
  simp only [Tryd.ntmps71, List.size_toArray, List.length_cons, List.length_nil, Nat.reduceAdd, Nat.reduceSub, Array.replicate_succ, Array.replicate_zero, List.push_toArray, List.append_toArray, List.nil_append, List.cons_append]
  gi_wp2
  gi_loopw [3] (fun p wr => ∃ k : Nat, k ≤ ls.length ∧ p = .pointer (ptrOf (ls.drop k)) ∧ LeadsL wr ls ∧ J ((List.finRange ls.length).take k) wr) (fun p wr => leftL 1000 wr p)
  case atStart => exact ⟨0, by omega, rfl, hL, h0⟩
  case round =>
    obtain ⟨k, hk, rfl, hl1, hJ⟩ := hrel
    have HM := hid (leftL_eq hl1 1000 k hk (by omega))
    by_cases hlt : k < ls.length
    · have hta : (List.finRange ls.length).take (k + 1) = (List.finRange ls.length).take k ++ [⟨k, hlt⟩] := by rw [List.take_succ_eq_append_getElem (by rw [List.length_finRange]; exact hlt), List.getElem_finRange]; rfl
      have HTA := hid hta
      clear hta
      obtain ⟨fn, tmps, assign, body, hy, hR⟩ := hY ((List.finRange ls.length).take k) ⟨k, hlt⟩ wr hJ (by rw [List.length_take, List.length_finRange]; omega)
      have hnn := run_neq_nil ls[k].b
      have HP := hid (drop_ptr hlt)
      rw [HP.out]
      dsimp only at hy
      gi_wp2
      refine hR.mono ?_
      rintro e W3 (⟨rfl, hJ3, hk3⟩ | ⟨rfl, hJx3⟩)
      · have hl3 := hK _ _ hl1 hk3
        have hq3 := hl3 k hlt
        gi_wp2
        go_roundw
        case rel => exact ⟨k + 1, by omega, rfl, hl3, by rw [HTA.out]; exact hJ3⟩
        case measure => rw [leftL_eq hl3 1000 (k + 1) (by omega) (by omega), ← HP.out, HM.out]; omega
      · gi_wp2
        refine bodyPost_ret (results_none rfl _ _ _) rfl ?_
        exact ⟨⟨_, rfl⟩, .inr ⟨(List.finRange ls.length).take (k + 1), List.take_prefix _ _, by rw [HTA.out]; exact hJx3⟩⟩
    · obtain rfl : k = ls.length := by omega
      have hnn := run_neq_nil0
      rw [List.drop_length, show ptrOf [] = none from rfl]
      gi_wp2
      go_end0
      exact ⟨⟨_, rfl⟩, .inl ⟨_, rfl, by rw [List.take_of_length_le (by rw [List.length_finRange]; exact Nat.le_refl _)] at hJ; exact hJ⟩⟩

theorem linksF_stops (n Bp sb : Nat) (ls : List Lk) (hn : 1 ≤ n) (hl : ls.length ≤ 1000) (Kp : World → World → Prop) (hK : ∀ W W', LeadsL W ls → Kp W W' → LeadsL W' ls) (w : World)
    (hBp : w.cell? ⟨Bp, 0, none⟩ = some (.pointer (some ⟨sb, 0, none⟩))) (hsb : w.cell? ⟨sb, 2, none⟩ = some (.pointer (ptrOf ls))) (hL : LeadsL w ls) :
    SeqStopsK Fence.wide n Tryd.prog 71 #[.pointer (some ⟨Bp, 0, none⟩)] (fun x : Fin ls.length => #[.pointer (some ⟨ls[x.val].b, 0, none⟩)]) Kp (fun xs => xs = (List.finRange ls.length)) (fun pre => pre <+: (List.finRange ls.length)) ls.length w :=
  fun l J Jx W hW _ _ hY h0 => linksF1_in n l Bp sb ls hn hl J Jx Kp hK hY W ((hW.cell (p := ⟨Bp, 0, none⟩) (block_lt_of_cell hBp)).trans hBp) ((hW.cell (p := ⟨sb, 2, none⟩) (block_lt_of_cell hsb)).trans hsb) (hL.below hW) h0
end Go.Proofs.YtpdaobiaekamoaaDoor
namespace Go.Proofs.YtpdaobiaekamoaaDoor
open Go.ChangeShapes Go.WideShapes Go.ChangeAt Go.RowKit Go.Sort Go.Shelf
attribute [local go_sem] Oper.semAt_some

theorem zeros_all {d : List Int} (h : ∀ j, j < d.length → d.getD j 0 = 0) : d = List.replicate d.length 0 := by
  apply List.ext_getElem (by simp)
  intro i h1 h2
  have := h i h1
  rw [getD_eq h1] at this
  simp [this]

set_option maxHeartbeats 2000000 in
theorem emptyCode_any (q c : Nat) (d : List Int) (w : World) (h : BytsAt w q d) (hx : d.length ≤ 1048576) :
    Calls Tryd.prog 63 #[.slice (some ⟨q, 0, none⟩) d.length c] w fun e w' => e = .returned (.int .i64 (codeK d d.length)) ∧ w' = w := by
  have H := hid h
  clear h
  go_enter Tryd.func63, Tryd.ntmps63
  go_wp2_with fail
  go_loop [7] (fun i => ∃ k : Nat, k ≤ d.length ∧ i = .int .i64 k ∧ ∀ j, j < k → d.getD j 0 = 0) (fun i => d.length - (intOf i).toNat)
  case atStart => exact ⟨0, Nat.zero_le _, rfl, fun j hj => absurd hj (by omega)⟩
  case round =>
    obtain ⟨k, hk, rfl, hz⟩ := hrel
    have HZ := hid hz
    clear hz
    by_cases hlt : k < d.length
    · have c0 := H.out.2 k hlt
      have HG := hid (show ∀ j, j < d.length → d.getD j 0 = d.getD j 0 from fun _ _ => rfl)
      obtain ⟨x, hx0⟩ : ∃ x, x = d.getD k 0 := ⟨_, rfl⟩
      rw [← hx0] at c0
      have HX := hid hx0
      clear hx0 HG
      by_cases h0 : x = 0
      · have HZ2 := hid (show ∀ j, j < k + 1 → d.getD j 0 = 0 from fun j hj => by
          by_cases hjk : j = k
          · rw [hjk, ← HX.out]; exact h0
          · exact HZ.out j (by omega))
        subst h0
        go_wp2_with fail
        go_round
        case rel => exact ⟨k + 1, by omega, by go_num, HZ2.out⟩
        case measure => simp [intOf]; omega
      · have HE := hid (show codeK d d.length = 2 from if_neg (fun e => h0 (by rw [HX.out, e, getD_eq (by simpa using hlt)]; simp)))
        go_wp2_with fail
        go_ret
        exact ⟨ret_int HE.out.symm, rfl⟩
    · obtain rfl : k = d.length := by omega
      have HE := hid (show codeK d d.length = 1 from if_pos (zeros_all HZ.out))
      go_wp2_with fail
      go_ret
      exact ⟨ret_int HE.out.symm, rfl⟩
end Go.Proofs.YtpdaobiaekamoaaDoor
