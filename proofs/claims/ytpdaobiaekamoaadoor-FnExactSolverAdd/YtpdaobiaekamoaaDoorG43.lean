/- SolverAdd by the program. The law on an equation that is learnt, out of both contracts. -/
import Derived.Test.YtpdaobiaekamoaaDoorSlAi
import Derived.Test.YtpdaobiaekamoaaDoorSlJ
import Derived.Test.YtpdaobiaekamoaaDoorWSolverAdd
import Derived.Test.YtpdaobiaekamoaaDoorG36
namespace Go.Proofs.YtpdaobiaekamoaaDoor
open Go.ChangeShapes Go.WideShapes Go.ChangeAt Go.RowKit Go.Sort Go.Shelf
attribute [local go_sem] Oper.semAt_some

set_option maxHeartbeats 8000000 in
set_option maxRecDepth 100000 in
theorem implSolverAdd_any (a : Option Addr) (cap : Nat) (es : List EqV) (c z : Int) (ar : Option Addr) (cr : Nat) (row : List Int) (data : ByteArray) (w : World) (ha : EqsAt w a es) (hsm : SmallE es) (hl : es.length ≤ 1048576) (hrow : IntsAt w ar row) (hrl : row.length ≤ 1048576) (_hdl : data.size ≤ 1048576) (hT : Tab w) (cc zz : Int) (vs : List Vl) (code : Int)
    (h1 : ¬ solverP c z es → cc = 0 ∧ zz = 0 ∧ vs = [] ∧ code = 3) (h2 : solverP c z es → cc = c ∧ zz = z) (h3 : solverP c z es → ¬ (ascB (-1) c row = true ∧ (data.size : Int) = z) → vs = valsE es ∧ code = 3)
    (h4 : solverP c z es → (ascB (-1) c row = true ∧ (data.size : Int) = z) → vs = learnV es row (numsOf data) ∧ code = learnC es row (numsOf data) data.size) :
    Calls Tryd.prog 17 #[.agg #[.int .i64 c, .int .i64 z, .slice a es.length cap], .slice ar row.length cr, .string data] w fun e w' =>
      ∃ a' c' gs, e = .returned (.tuple #[.agg #[.int .i64 cc, .int .i64 zz, .slice a' gs.length c'], .int .i64 code]) ∧ w'.ownsRow w.heap.size 53 2 (.slice a' gs.length c') gs.length (eqCells gs) ∧ valsE gs = vs ∧ RowsOwn w' w.heap.size gs ∧ RowsAp gs ∧ Below w.heap.size w w' := by
  have HA := hid ha
  have HS := hid hsm
  have HT := hid hT
  have HR := hid hrow
  obtain ⟨W0, hW0⟩ : ∃ W0, W0 = (w.alloc (.cells #[.int .i64 c, .int .i64 z, .slice a es.length cap] 29)).alloc (.cells #[.int .i64 0, .int .i64 0, .slice none 0 0] 29) := ⟨_, rfl⟩
  obtain ⟨X0, X1, B0⟩ := u_box2 (w := w) (c := #[.int .i64 c, .int .i64 z, .slice a es.length cap]) (t := 29) (d := #[.int .i64 0, .int .i64 0, .slice none 0 0]) (s := 29) (w1 := W0) (by rw [hW0]; exact Below.refl _ _)
  have hs0 : W0.heap.size = w.heap.size + 2 := by rw [hW0]; simp
  have q0 := box_cell X0 0 (v := .int .i64 c) rfl
  have q1 := box_cell X0 1 (v := .int .i64 z) rfl
  have q2 := box_cell X0 2 (v := .slice a es.length cap) rfl
  have HX1 := hid X1
  have HB := hid B0
  have H1 := hid h1
  have H2 := hid h2
  have H3 := hid h3
  have H4 := hid h4
  clear ha hsm hrow hT X0 X1 B0 h1 h2 h3 h4
  go_enter Tryd.func17, Tryd.ntmps17
  repeat ((fail_if_success (with_reducible show Code.wp _ (Code.region 1 _ _) _ _ _)); (first | go_values | go_skip | go_guarded | go_step | go_upon | go_back | go_simp))
  rw [← hW0]
  clear hW0
  go_wp2_with fail
  refine (listOf_any a cap es c z W0 (HA.out.below HB.out) HS.out hl (HT.out.below HB.out)).mono ?_
  rintro e w1 ⟨b1, h⟩
  have hs1 := b1.size
  replace HX1 := hid (kept HX1.out b1)
  replace HB := hid (u_cat HB.out b1)
  clear q0 q1 q2 b1
  rcases h with ⟨hp, ls, rfl, hL, hSm⟩ | ⟨hp, rfl⟩
  · have HP := hid hp
    have c1 := hp.1.1.1
    have c2 := hp.1.1.2
    have z1 := hp.1.2.1
    have z2 := hp.1.2.2
    have HM := hid hSm
    have HL := hid hL
    obtain ⟨rfl, rfl⟩ := H2.out hp
    clear hp hL hSm
    repeat ((fail_if_success (with_reducible show Code.wp _ (Code.region 4 _ _) _ _ _)); (first | go_values | go_skip | go_guarded | go_step | go_upon | go_back | go_simp))
    obtain ⟨V, hV⟩ : ∃ V, V = w1.alloc (.cells #[.int .i64 cc, .int .i64 zz, .pointer (ptrOf ls)] 58) := ⟨_, rfl⟩
    have bv : Below w1.heap.size w1 V := by rw [hV]; exact u_b1 _ _
    have X := hid (show V.heap[w1.heap.size]? = some (.cells #[.int .i64 cc, .int .i64 zz, .pointer (ptrOf ls)] 58 (0, 0)) by rw [hV]; exact laid _ _ _)
    have hsv : w1.heap.size + 1 ≤ V.heap.size := by rw [hV]; simp
    rw [← hV]
    clear hV
    replace HB := hid (u_cat HB.out bv)
    replace HX1 := hid (kept HX1.out bv)
    have HI := hid (show ListIs V w1.heap.size (w.heap.size + 2) cc zz ls from ⟨X.out, (HL.out.below bv).mono (Nat.zero_le _), by rw [sameE_vals HM.out]; exact ok_vals.1 HP.out.2, sameE_bytes HM.out, fun l hl => by
      obtain ⟨i, hi, rfl⟩ := List.getElem_of_mem hl
      have := (HL.out i hi).1
      omega, by omega⟩)
    clear bv HL
    have q0 := box_cell X.out 0 (v := .int .i64 cc) rfl
    have q1 := box_cell X.out 1 (v := .int .i64 zz) rfl
    go_wp2_with fail
    refine (rowSetOf_in ar cr row cc _ (HR.out.below HB.out) (by omega) (by omega) c2).mono ?_
    rintro e w' ⟨rfl, hw'⟩
    replace hw' := hw'.symm
    subst hw'
    by_cases hg : ascB (-1) cc row = true ∧ (data.size : Int) = zz
    · obtain ⟨hrw, hsz⟩ := hg
      obtain ⟨rfl, rfl⟩ := H4.out HP.out ⟨hrw, hsz⟩
      rw [hrw, rowBits_yes hrw]
      have hcv : ∀ W : World, (convert 9 69 (.string data)).run Tryd.prog W = .ok (.slice (some ⟨W.heap.size, 0, none⟩) data.size (grownCap W data.size 0 5)) (Go.Lib.bytesWorld W 5 data) := fun W => Go.Lib.run_convert_string_bytes W _ _ _ _ Tryd.underlying9 Tryd.underlying69 Tryd.underlying5
      have hnz : ((data.size : Int) != zz) = false := by simp [hsz]
      have KL := fun W q k h1 h2 h3 h4 => learn_any w1.heap.size (w.heap.size + 2) cc zz ls es row (numsOf data) q k W h1 (sameE_vals HM.out) HM.out HP.out hrw h2 (by rw [numsOf_len]; exact hsz) (nums_bytes _) h3 h4
      simp only [numsOf_len] at KL
      have KL := hid KL
      clear hrw hsz
      go_wp2_with fail
      obtain ⟨V2, hV2⟩ : ∃ V2, V2 = Go.Lib.bytesWorld V 5 data := ⟨_, rfl⟩
      have b2 : Below V.heap.size V V2 := by rw [hV2]; exact bytesB _ _ _
      have y2 : BytsAt V2 V.heap.size (numsOf data) := by rw [hV2]; exact bytesA _ _ _
      rw [← hV2]
      clear hV2 hcv q0 q1
      have hs2 := b2.size
      have K2 := KL.out V2 V.heap.size (grownCap V data.size 0 5) ⟨kept HI.out.box b2, HI.out.at'.below b2, HI.out.ok, HI.out.byt, HI.out.low, HI.out.sb_⟩ y2 (HT.out.below (u_cat HB.out b2)) (by omega)
      with_reducible refine K2.mono ?_
      rintro e w3 ⟨rfl, ls', hI', hv', -, hk', hb'⟩
      have hs3 := hb'.size
      have HB3 := hid (show Below w.heap.size w w3 from (u_cat HB.out b2).trans (hb'.mono (by omega)))
      have X13 := hid ((hb'.block _ (by omega)).trans (kept HX1.out b2))
      have HI' := hid hI'
      have HV' := hid hv'
      clear y2 b2 hI' hv' hk' hb' KL
      go_wp2_with fail
      refine (out_any w1.heap.size (w.heap.size + 2) cc zz ls' w3 HI'.out (by omega) c2 z2 (HT.out.below HB3.out)).mono ?_
      rintro e w4 ⟨a', c', gs, rfl, o4, v4, r4, p4, b4⟩
      have hs4 := b4.size
      have X1b := hid (kept X13.out b4)
      have O4 := hid o4
      have V4 := hid (v4.trans HV'.out)
      have R4 := hid r4
      have P4 := hid p4
      have B4 := hid (u_cat HB3.out b4)
      have r0 := box_cell X1b.out 0 (v := .int .i64 0) rfl
      have r1 := box_cell X1b.out 1 (v := .int .i64 0) rfl
      have r2 := box_cell X1b.out 2 (v := .slice none 0 0) rfl
      have z0 := box_frozen X1b.out
      have l0 := lt_of_block X1b.out
      have S5 := set_block (set_block (set_block X1b.out 0 (.int .i64 cc)) 1 (.int .i64 zz)) 2 (.slice a' gs.length c')
      have x0 := box_cell S5 0 (v := .int .i64 cc) (by simp)
      have x1 := box_cell S5 1 (v := .int .i64 zz) (by simp)
      have x2 := box_cell S5 2 (v := .slice a' gs.length c') (by simp)
      clear o4 v4 r4 p4 b4 S5
      go_wp2_with fail
      refine bodyPost_ret (v := .tuple #[.agg #[.int .i64 cc, .int .i64 zz, .slice a' gs.length c'], .int .i64 (learnC es row (numsOf data) data.size)]) ?_ rfl ⟨a', c', gs, rfl, ?_, V4.out, ?_, P4.out, ?_⟩
      · simp [results, Tryd.results17, go_sem, x0, x1, x2]
      · refine owns_base (Touch.owns (Touch.setCell _ ⟨_, _, _⟩ _) (Touch.owns (Touch.setCell _ ⟨_, _, _⟩ _) (Touch.owns (Touch.setCell _ ⟨_, _, _⟩ _) O4.out ?_) ?_) ?_) (by omega) <;> (simp only []; omega)
      · refine RowsOwn.mono (RowsOwn.set (RowsOwn.set (RowsOwn.set R4.out ?_ _ _) ?_ _ _) ?_ _ _) (by omega) <;> omega
      · refine u_set (u_set (u_set B4.out ?_ _ _) ?_ _ _) ?_ _ _ <;> omega
    · obtain ⟨rfl, rfl⟩ := H3.out HP.out hg
      have h5 : (ascB (-1) cc row = false) ∨ (ascB (-1) cc row = true ∧ ((data.size : Int) != zz) = true) := by
        by_cases h : ascB (-1) cc row = true
        · exact .inr ⟨h, by simpa using fun h2 => hg ⟨h, h2⟩⟩
        · exact .inl (by simpa using h)
      clear hg
      rcases h5 with h5 | ⟨h5, h6⟩
      all_goals
        rw [h5]
        clear h5
        go_wp2_with fail
        refine (out_any w1.heap.size (w.heap.size + 2) cc zz ls V HI.out (by omega) c2 z2 (HT.out.below HB.out)).mono ?_
        rintro e w4 ⟨a', c', gs, rfl, o4, v4, r4, p4, b4⟩
        have hs4 := b4.size
        have X1b := hid (kept HX1.out b4)
        have O4 := hid o4
        have V4 := hid (v4.trans (sameE_vals HM.out))
        have R4 := hid r4
        have P4 := hid p4
        have B4 := hid (u_cat HB.out b4)
        have r0 := box_cell X1b.out 0 (v := .int .i64 0) rfl
        have r1 := box_cell X1b.out 1 (v := .int .i64 0) rfl
        have r2 := box_cell X1b.out 2 (v := .slice none 0 0) rfl
        have z0 := box_frozen X1b.out
        have l0 := lt_of_block X1b.out
        have S5 := set_block (set_block (set_block X1b.out 0 (.int .i64 cc)) 1 (.int .i64 zz)) 2 (.slice a' gs.length c')
        have x0 := box_cell S5 0 (v := .int .i64 cc) (by simp)
        have x1 := box_cell S5 1 (v := .int .i64 zz) (by simp)
        have x2 := box_cell S5 2 (v := .slice a' gs.length c') (by simp)
        clear o4 v4 r4 p4 b4 S5 q0 q1
        go_wp2_with fail
        refine bodyPost_ret (v := .tuple #[.agg #[.int .i64 cc, .int .i64 zz, .slice a' gs.length c'], .int .i64 3]) ?_ rfl ⟨a', c', gs, rfl, ?_, V4.out, ?_, P4.out, ?_⟩
        · simp [results, Tryd.results17, go_sem, x0, x1, x2]
        · refine owns_base (Touch.owns (Touch.setCell _ ⟨_, _, _⟩ _) (Touch.owns (Touch.setCell _ ⟨_, _, _⟩ _) (Touch.owns (Touch.setCell _ ⟨_, _, _⟩ _) O4.out ?_) ?_) ?_) (by omega) <;> (simp only []; omega)
        · refine RowsOwn.mono (RowsOwn.set (RowsOwn.set (RowsOwn.set R4.out ?_ _ _) ?_ _ _) ?_ _ _) (by omega) <;> omega
        · refine u_set (u_set (u_set B4.out ?_ _ _) ?_ _ _) ?_ _ _ <;> omega
  · obtain ⟨rfl, rfl, rfl, rfl⟩ := H1.out hp
    clear hp
    repeat ((fail_if_success (with_reducible show Code.wp _ (Code.region 3 _ _) _ _ _)); (first | go_values | go_skip | go_guarded | go_step | go_upon | go_back | go_simp))
    obtain ⟨V, hV⟩ : ∃ V, V = w1.alloc (.cells #[.int .i64 0, .int .i64 0, .pointer none] 58) := ⟨_, rfl⟩
    have bv : Below w1.heap.size w1 V := by rw [hV]; exact u_b1 _ _
    rw [← hV]
    clear hV
    replace HB := hid (u_cat HB.out bv)
    replace HX1 := hid (kept HX1.out bv)
    clear bv
    have r0 := box_cell HX1.out 0 (v := .int .i64 0) rfl
    have r1 := box_cell HX1.out 1 (v := .int .i64 0) rfl
    have r2 := box_cell HX1.out 2 (v := .slice none 0 0) rfl
    have z0 := box_frozen HX1.out
    have l0 := lt_of_block HX1.out
    have S5 := set_block (set_block (set_block HX1.out 0 (.int .i64 0)) 1 (.int .i64 0)) 2 (.slice none 0 0)
    have x0 := box_cell S5 0 (v := .int .i64 0) (by simp)
    have x1 := box_cell S5 1 (v := .int .i64 0) (by simp)
    have x2 := box_cell S5 2 (v := .slice none 0 0) (by simp)
    clear S5
    go_wp2_with fail
    refine bodyPost_ret (v := .tuple #[.agg #[.int .i64 0, .int .i64 0, .slice none 0 0], .int .i64 3]) ?_ rfl ⟨none, 0, [], rfl, ⟨rfl, .inl ⟨rfl, rfl⟩⟩, rfl, fun f hf => by simp at hf, List.Pairwise.nil, ?_⟩
    · simp [results, Tryd.results17, go_sem, x0, x1, x2]
    · refine u_set (u_set (u_set HB.out ?_ _ _) ?_ _ _) ?_ _ _ <;> omega
end Go.Proofs.YtpdaobiaekamoaaDoor
namespace Go.Proofs.YtpdaobiaekamoaaDoor
open Go.ChangeShapes Go.WideShapes Go.ChangeAt Go.RowKit Go.Sort Go.Shelf

theorem SamV.learnV {es fs : List EqV} (h : SamV fs es) (row d : List Int) : learnV fs row d = learnV es row d := by
  unfold Go.Proofs.YtpdaobiaekamoaaDoor.learnV
  rw [h.steps, vals_same.2 h]
theorem SamV.learnC {es fs : List EqV} (h : SamV fs es) (row d : List Int) (n : Nat) : learnC fs row d n = learnC es row d n := by
  unfold Go.Proofs.YtpdaobiaekamoaaDoor.learnC
  rw [h.steps]
theorem learnV_ok {c z : Int} {es : List EqV} {row d : List Int} (hp : solverP c z es) (hr : ascB (-1) c row = true) (hd : (d.length : Int) = z) : okV c z (learnV es row d) := by
  unfold learnV
  split
  · exact ok_vals.1 hp.2
  · rename_i h
    exact learn_ok hp.2 hp.1.1.2 hr hd h
theorem okV_small {c z : Int} {ks : List Vl} (h : okV c z ks) (hc : 0 ≤ c) (hc2 : c ≤ 24) (hz : z ≤ 16) : ks.length ≤ 1048576 ∧ ∀ k ∈ ks, k.1.length ≤ 1048576 ∧ k.2.size ≤ 1048576 :=
  ⟨by have := okV_24 h hc hc2; omega, fun k hk => by
    obtain ⟨h1, h2, -⟩ := h.1 k hk
    have := asc_len24 (asc_up h1 hc2)
    exact ⟨by omega, by omega⟩⟩

theorem walk_FnExactSolverAdd (cs0 : List Value) (a1 : Option Addr) (len1 cap1 : Nat) (z1 : List Int) (a2 : ByteArray) (w : World) (w0 : Reads w 24 cs0) (w1 : IsRow .i64 w a1 len1 cap1 z1) (_w2 : a2.size ≤ maxLen) (hT : Tab w) :
    Calls Tryd.prog 4 #[.agg cs0.toArray, .slice a1 len1 cap1, .string a2] w fun e w' => e = .returned (.bool true) ∧ Below w.heap.size w w' := by
  obtain ⟨c, z, a, cap, es, rfl, ha, hl, hL⟩ := reads_solver w0
  obtain ⟨row, hx1⟩ : ∃ row, row = z1.take len1 := ⟨_, rfl⟩
  have i1 := isRow_ints w1
  have hlen := isRow_len w1
  rw [← hx1] at i1 hlen
  rw [← hlen]
  by_cases hp : solverP c z es
  · by_cases hg : ascB (-1) c row = true ∧ (a2.size : Int) = z
    · have hok := learnV_ok hp hg.1 (show ((numsOf a2).length : Int) = z by rw [numsOf_len]; exact hg.2)
      exact solverAdd_of a cap es c z a1 cap1 row a2 c z (learnV es row (numsOf a2)) (learnC es row (numsOf a2) a2.size) w ha hl hL i1 hT (fun _ _ => okV_small hok (by have := hp.1.1.1; omega) hp.1.1.2 hp.1.2.2)
        (fun a c' fs ar cr w ha hs hx hsm hcap hr hrl hcr hdl => specSolverAdd_any a c' fs c z ar cr row a2 w ha hsm hx hcap hr hrl hcr hdl _ _ _ _ (fun h => absurd (hs.solver.2 hp) h) (fun _ => ⟨rfl, rfl⟩) (fun _ h => absurd hg h) (fun _ _ => ⟨(hs.learnV _ _).symm, (hs.learnC _ _ _).symm⟩))
        (fun a c' fs ar cr w ha hs hx hsm hr hrl hdl hT => implSolverAdd_any a c' fs c z ar cr row a2 w ha hsm hx hr hrl hdl hT _ _ _ _ (fun h => absurd (hs.solver.2 hp) h) (fun _ => ⟨rfl, rfl⟩) (fun _ h => absurd hg h) (fun _ _ => ⟨(hs.learnV _ _).symm, (hs.learnC _ _ _).symm⟩))
    · exact solverAdd_of a cap es c z a1 cap1 row a2 c z (valsE es) 3 w ha hl hL i1 hT (fun h1 h2 => ⟨by simpa [valsE] using h1, fun k hk => by obtain ⟨e, he, rfl⟩ := List.mem_map.1 hk; exact h2 e he⟩)
        (fun a c' fs ar cr w ha hs hx hsm hcap hr hrl hcr hdl => specSolverAdd_any a c' fs c z ar cr row a2 w ha hsm hx hcap hr hrl hcr hdl _ _ _ _ (fun h => absurd (hs.solver.2 hp) h) (fun _ => ⟨rfl, rfl⟩) (fun _ _ => ⟨(vals_same.2 hs).symm, rfl⟩) (fun _ h => absurd h hg))
        (fun a c' fs ar cr w ha hs hx hsm hr hrl hdl hT => implSolverAdd_any a c' fs c z ar cr row a2 w ha hsm hx hr hrl hdl hT _ _ _ _ (fun h => absurd (hs.solver.2 hp) h) (fun _ => ⟨rfl, rfl⟩) (fun _ _ => ⟨(vals_same.2 hs).symm, rfl⟩) (fun _ h => absurd h hg))
  · exact solverAdd_of a cap es c z a1 cap1 row a2 0 0 [] 3 w ha hl hL i1 hT (fun _ _ => ⟨by simp, fun k hk => by simp at hk⟩)
      (fun a c' fs ar cr w ha hs hx hsm hcap hr hrl hcr hdl => specSolverAdd_any a c' fs c z ar cr row a2 w ha hsm hx hcap hr hrl hcr hdl _ _ _ _ (fun _ => ⟨rfl, rfl, rfl, rfl⟩) (fun h => absurd (hs.solver.1 h) hp) (fun h => absurd (hs.solver.1 h) hp) (fun h => absurd (hs.solver.1 h) hp))
      (fun a c' fs ar cr w ha hs hx hsm hr hrl hdl hT => implSolverAdd_any a c' fs c z ar cr row a2 w ha hsm hx hr hrl hdl hT _ _ _ _ (fun _ => ⟨rfl, rfl, rfl, rfl⟩) (fun h => absurd (hs.solver.1 h) hp) (fun h => absurd (hs.solver.1 h) hp) (fun h => absurd (hs.solver.1 h) hp))
end Go.Proofs.YtpdaobiaekamoaaDoor
