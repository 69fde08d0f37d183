/- The state behind a block, by the program. -/
import Derived.Test.YtnjjdcalmgjaiaaDoorHsJ
import Derived.Test.YtnjjdcalmgjaiaaDoorArr
namespace Go.Proofs.YtnjjdcalmgjaiaaDoor
open Go.ChangeShapes Go.WideShapes Go.ChangeAt Go.RowKit

/-- A whole array is loaded, told by its cells. -/
theorem load_cellsK {P : Program} (w : World) (g : Nat) (ty : TypeId) (cs : Array Value) (d : TypeDesc) (hg : ∀ j v, cs.toList[j]? = some v → w.cell? ⟨g, j, none⟩ = some v)
    (hu : P.underlying ty = some d) (hd : (match d with | .struct _ | .array _ _ => true | _ => false) = true) (hi : (P.info? ty).map (·.size) = some cs.size) :
    (loadVar ty ⟨g, 0, none⟩).run P w = .ok (.agg cs) w := by
  have hl : (loadCells ⟨g, 0, none⟩ cs.toList.length).run P w = .ok cs.toList.toArray w :=
    run_loadCells_list (P := P) w ⟨g, 0, none⟩ cs.toList (fun j v hv => by
      have hadd : (⟨g, 0, none⟩ : Addr).add j = ⟨g, j, none⟩ := by unfold Addr.add; split <;> simp_all
      rw [hadd]
      exact hg j v hv)
  cases hq : P.info? ty with
  | none => simp [hq] at hi
  | some i =>
    have hs : i.size = cs.size := by simpa [hq] using hi
    have hagg : (isAgg ty).run P w = .ok true w := by
      simp only [isAgg, Sem.run_bind, run_underlying hu w, Result.andThen_ok]
      cases d <;> simp_all
    simp [loadVar, sizeOf, typeInfo, hq, hagg, hs, Sem.run_bind] at hl ⊢
    rw [hl]
    rfl
/-- The state while it is added to, word by word. -/
def mixH (s t : H8) (n : Nat) : H8 :=
  ⟨if 0 < n then (s.a + t.a) % 4294967296 else s.a, if 1 < n then (s.b + t.b) % 4294967296 else s.b, if 2 < n then (s.c + t.c) % 4294967296 else s.c, if 3 < n then (s.d + t.d) % 4294967296 else s.d,
   if 4 < n then (s.e + t.e) % 4294967296 else s.e, if 5 < n then (s.f + t.f) % 4294967296 else s.f, if 6 < n then (s.g + t.g) % 4294967296 else s.g, if 7 < n then (s.h + t.h) % 4294967296 else s.h⟩
theorem mixH_0 (s t : H8) : mixH s t 0 = s := by simp [mixH]
theorem mixH_8 (s t : H8) : mixH s t 8 = addH s t := by simp [mixH, addH]
theorem mixH_at (s t : H8) (j : Nat) (hj : j < 8) : (stC (mixH s t j))[j]? = some (.int .u32 (s.l.getD j 0)) := by
  obtain rfl | rfl | rfl | rfl | rfl | rfl | rfl | rfl : j = 0 ∨ j = 1 ∨ j = 2 ∨ j = 3 ∨ j = 4 ∨ j = 5 ∨ j = 6 ∨ j = 7 := by omega
  all_goals rfl
theorem mixH_t (t : H8) (j : Nat) (hj : j < 8) : (stC t)[j]? = some (.int .u32 (t.l.getD j 0)) := by
  obtain rfl | rfl | rfl | rfl | rfl | rfl | rfl | rfl : j = 0 ∨ j = 1 ∨ j = 2 ∨ j = 3 ∨ j = 4 ∨ j = 5 ∨ j = 6 ∨ j = 7 := by omega
  all_goals rfl
theorem mixH_set (s t : H8) (j : Nat) (hj : j < 8) : (stC (mixH s t j)).setIfInBounds j (.int .u32 ((s.l.getD j 0 + t.l.getD j 0) % 4294967296)) = stC (mixH s t (j + 1)) := by
  obtain rfl | rfl | rfl | rfl | rfl | rfl | rfl | rfl : j = 0 ∨ j = 1 ∨ j = 2 ∨ j = 3 ∨ j = 4 ∨ j = 5 ∨ j = 6 ∨ j = 7 := by omega
  all_goals rfl
theorem wpList_load_var {P : Program} {ops : Array Oper} {rest : List Oper} {o : Oper} {a : Act} {w : World} {Q : Exit → Act → World → Prop} (hgd : o.guard = none) (ty : TypeId) (x : Operand) (ho : o.op = .load ty x)
    (g : Nat) (hx : a.eval x = .pointer (some ⟨g, 0, none⟩)) (cs : Array Value) (hl : (loadVar ty ⟨g, 0, none⟩).run P w = .ok (.agg cs) w) (h : wpList P ops Q rest (a.put o.dst (.agg cs)) w) : wpList P ops Q (o :: rest) a w :=
  wpList_plain hgd fun _ hK => by
    unfold Oper.wp execOp
    simp only [ho, hx, Instr.loadAt, Instr.sureAddr, Sem.run_bind, Sem.run_pure, Result.andThen_ok, hl]
    exact hK _ _ h
theorem arr_at_64 (xs : List Int) (k : Nat) (W : World) (hk : k < 64) : (Instr.index 45 (.agg (arrC xs 64)) (.int .i64 k)).run Tryd.prog W = .ok (.int .u32 (xs.getD k 0)) W :=
  run_idx Tryd.underlying45 Tryd.sizeOf38 Tryd.isAgg38 _ k _ (by omega) (by omega) (by simpa using arrC_at xs 64 k hk) W
/-- The program's table of constants, as it is laid. -/
def HKT (w : World) : Prop := ∀ i, i < 64 → w.cell? ⟨0, i, none⟩ = some (.int .u32 (hashK.getD i 0))
theorem HKT.below {w w' : World} (h : HKT w) {n : Nat} (hn : 0 < n) (hb : Below n w w') : HKT w' := fun i hi => by
  rw [hb.cell (p := ⟨0, i, none⟩) hn]; exact h i hi
theorem HKT.load {w : World} (h : HKT w) : (loadVar 45 ⟨0, 0, none⟩).run Tryd.prog w = .ok (.agg (arrC hashK 64)) w :=
  load_cellsK w 0 45 (arrC hashK 64) _ (fun j v hv => by
    have hj : j < 64 := by have := (List.getElem?_eq_some_iff.1 hv).1; simpa [arrC_size] using this
    rw [Array.getElem?_toList, arrC_at hashK 64 j hj] at hv
    rw [h j hj, hv]) Tryd.underlying45 rfl (by rw [arrC_size]; exact info64)
set_option maxHeartbeats 8000000 in
set_option maxRecDepth 100000 in
theorem behind_any (h : H8) (ws : List Int) (w : World) (hk : HKT w) :
    Calls Tryd.prog 29 #[.agg (stC h), .agg (arrC ws 64)] w fun e w' => e = .returned (.agg (stC (behindH h ws))) ∧ Below w.heap.size w w' := by
  have HK := hid hk
  have h0 := block_lt_of_cell (hk 0 (by omega))
  clear hk
  go_enter Tryd.func29, Tryd.ntmps29
  repeat ((fail_if_success (with_reducible show Code.wp _ (Code.region 1 _ _) _ _ _)); (first | go_values | go_skip | go_guarded | go_step | go_upon | go_back | (simp only [Int.not_lt, Int.not_le] at *; go_simp)))
  obtain ⟨W0, hW0⟩ : ∃ W0, W0 = ((w.alloc (.cells (stC h) 41)).alloc (.cells (arrC ws 64) 45)).alloc (.cells (arrC [] 8) 41) := ⟨_, rfl⟩
  refine (fun (key : ∀ V, V = W0 → Code.wp _ _ _ _ V) => key _ (by rw [hW0]; kernel_rfl)) ?_
  intro V hV
  subst hV
  obtain ⟨x0, x1, x2, b0⟩ := u_box3 (w := w) (c := stC h) (t := 41) (d := arrC ws 64) (s := 45) (f := arrC [] 8) (r := 41) (w1 := V) (by rw [hW0]; exact Below.refl _ _)
  have hVs : V.heap.size = w.heap.size + 3 := by rw [hW0]; simp
  clear hW0
  refine wp_region_list ?_
  simp only []
  refine wpList_load_row rfl 41 _ rfl w.heap.size (by rfl) 41 (stC h) (0, 0) _ x0 Tryd.underlying41 rfl info8 ?_
  repeat ((fail_if_success (with_reducible show wpList _ _ _ [_] _ _)); (first | go_values | go_step | go_upon | go_back | go_simp))
  obtain ⟨V1, hV1⟩ : ∃ V1, V1 = V.alloc (.cells (arrC [] 8) 41) := ⟨_, rfl⟩
  refine (fun (key : ∀ U, U = V1 → wpList _ _ _ _ _ U) => key _ (by rw [hV1]; kernel_rfl)) ?_
  intro U hU
  subst hU
  have b1 : Below V.heap.size V U := by rw [hV1]; exact u_b1 _ _
  have y3 : U.heap[w.heap.size + 3]? = some (.cells (arrC [] 8) 41 (0, 0)) := by rw [hV1, ← hVs]; exact laid V _ _
  have y0 := kept x0 b1
  have y1 := kept x1 b1
  have y2 := kept x2 b1
  have B1 := b0.trans (b1.mono (by omega))
  clear hV1 x0 x1 x2 b0 b1 hVs
  refine wpList_plain rfl fun K hK => ?_
  refine wp_store_row 41 _ _ rfl (w.heap.size + 3) (stC h) (by rfl) (by rfl) 41 (arrC [] 8) y3 info8 (by rw [arrC_size]; rfl) (stC_one _) ?_
  refine hK _ _ ?_
  clear hK K
  obtain ⟨Z, hZ⟩ : ∃ Z, Z = U.setRow (w.heap.size + 3) (stC h) := ⟨_, rfl⟩
  have HB := hid (show Below w.heap.size w Z by rw [hZ]; exact below_setRow B1 (by omega) _)
  have H0 := hid (show Z.heap[w.heap.size]? = some (.cells (stC h) 41 (0, 0)) by rw [hZ, setRow_other _ _ _ _ (by omega)]; exact y0)
  have H1 := hid (show Z.heap[w.heap.size + 1]? = some (.cells (arrC ws 64) 45 (0, 0)) by rw [hZ, setRow_other _ _ _ _ (by omega)]; exact y1)
  have H2 := hid (show Z.heap[w.heap.size + 2]? = some (.cells (arrC [] 8) 41 (0, 0)) by rw [hZ, setRow_other _ _ _ _ (by omega)]; exact y2)
  have H3 := hid (show Z.heap[w.heap.size + 3]? = some (.cells (stC h) 41 (0, 0)) by rw [hZ]; exact setRow_heap _ _ _ _ _ _ y3)
  rw [← hZ]
  clear hZ y0 y1 y2 y3 B1
  repeat ((fail_if_success (with_reducible show Code.wp _ (Code.region 2 _ _) _ _ _)); (first | go_values | go_skip | go_guarded | go_step | go_upon | go_back | (simp only [Int.not_lt, Int.not_le] at *; go_simp)))
  refine wp_region_list ?_
  simp only []
  refine wpList_load_var rfl 45 _ rfl 0 (by rfl) (arrC hashK 64) (HK.out.below h0 HB.out).load ?_
  go_wp2_with fail
  go_loopw [11] (fun i wz => ∃ k : Nat, k ≤ 64 ∧ i = .int .i64 k ∧ wz.heap[w.heap.size]? = some (.cells (stC h) 41 (0, 0)) ∧ wz.heap[w.heap.size + 1]? = some (.cells (arrC ws 64) 45 (0, 0)) ∧ wz.heap[w.heap.size + 2]? = some (.cells (arrC [] 8) 41 (0, 0)) ∧ wz.heap[w.heap.size + 3]? = some (.cells (stC (rndN h ws k)) 41 (0, 0)) ∧ Below w.heap.size w wz) (fun i _ => 64 - (intOf i).toNat)
  case atStart => exact ⟨0, by omega, rfl, H0.out, H1.out, H2.out, H3.out, HB.out⟩
  case round =>
    clear H0 H1 H2 H3 HB
    obtain ⟨k, hk, rfl, a0, a1, a2, a3, hbw⟩ := hrel
    have H0 := hid a0
    have H1 := hid a1
    have H2 := hid a2
    have H3 := hid a3
    have HB := hid hbw
    obtain ⟨S, eS⟩ : ∃ S, S = rndN h ws k := ⟨_, rfl⟩
    rw [← eS] at H3
    have ES := hid eS
    clear a0 a1 a2 a3 hbw eS
    by_cases hlt : k < 64
    · have hix := fun W => arr_at_64 hashK k W hlt
      repeat ((fail_if_success (with_reducible show Code.wp _ (Code.region 5 _ _) _ _ _)); (first | go_values | go_skip | go_guarded | go_step | go_upon | go_back | (simp only [Int.not_lt, Int.not_le] at *; go_simp)))
      clear hix
      rw [show decide ((k : Int) < 64) = true from decide_eq_true (by omega), ← List.getD_eq_getElem?_getD]
      have p0 := cell_regrown (box_cell H3.out 0 (v := .int .u32 S.a) rfl)
      have p1 := cell_regrown (box_cell H3.out 1 (v := .int .u32 S.b) rfl)
      have p2 := cell_regrown (box_cell H3.out 2 (v := .int .u32 S.c) rfl)
      have p3 := cell_regrown (box_cell H3.out 3 (v := .int .u32 S.d) rfl)
      have p4 := cell_regrown (box_cell H3.out 4 (v := .int .u32 S.e) rfl)
      have p5 := cell_regrown (box_cell H3.out 5 (v := .int .u32 S.f) rfl)
      have p6 := cell_regrown (box_cell H3.out 6 (v := .int .u32 S.g) rfl)
      have p7 := cell_regrown (box_cell H3.out 7 (v := .int .u32 S.h) rfl)
      have px := cell_regrown (box_cell H1.out k (arrC_at ws 64 k hlt))
      obtain ⟨x1, e1⟩ : ∃ x, x = hashK.getD k 0 := ⟨_, rfl⟩
      obtain ⟨x2, e2⟩ : ∃ x, x = ws.getD k 0 := ⟨_, rfl⟩
      rw [← e1]
      rw [← e2] at px
      have EN := hid (show rndN h ws (k + 1) = rnd S ((x1 + x2) % 4294967296) by rw [rndN, ES.out, e1, e2])
      clear e1 e2
      refine wp_planzQ 7 (.pull [(0, 6)] (.step 6 (.step 7 .done))) (by kernel_rfl) (by kernel_rfl) ?_
      intro V0 hw0
      have hbq := of_class hw0
      refine plz_pull ?_
      simp only [cutOut, List.take_succ_cons, List.take_zero, List.drop_zero, List.append_nil]
      repeat (first | go_big_quiet_step (fail) | quiet_step (fail))
      refine wpQuiet_nil ?_
      clear p0 p1 p2 p3 p4 p5 p6 p7 px hw0
      refine plz_step rfl (by omega) (fun K hK => ?_)
      go_simp
      refine (round_any S ((x1 + x2) % 4294967296) V0).mono ?_
      rintro _ V1 ⟨rfl, b1⟩
      refine hK _ _ (class_of (u_cat hbq b1)) ?_
      clear hK K
      have bq := u_cat hbq b1
      have H0 := hid (kept H0.out bq)
      have H1 := hid (kept H1.out bq)
      have H2 := hid (kept H2.out bq)
      have H3 := hid (kept H3.out bq)
      have HB := hid (HB.out.trans (bq.mono HB.out.size))
      clear bq b1 hbq
      refine plz_last rfl (by omega) (fun K hK => ?_)
      rw [if_pos (by rfl)]
      refine wp_store_row 41 _ _ rfl (w.heap.size + 3) (stC (rnd S ((x1 + x2) % 4294967296))) (by rfl) (by rfl) 41 (stC S) H3.out info8 rfl (stC_one _) ?_
      refine hK _ _ ?_
      clear hK K
      refine plz_done ?_
      obtain ⟨Z, hZ⟩ : ∃ Z, Z = V1.setRow (w.heap.size + 3) (stC (rnd S ((x1 + x2) % 4294967296))) := ⟨_, rfl⟩
      have HBZ := hid (show Below w.heap.size w Z by rw [hZ]; exact below_setRow HB.out (by omega) _)
      have G0 := hid (show Z.heap[w.heap.size]? = some (.cells (stC h) 41 (0, 0)) by rw [hZ, setRow_other _ _ _ _ (by omega)]; exact H0.out)
      have G1 := hid (show Z.heap[w.heap.size + 1]? = some (.cells (arrC ws 64) 45 (0, 0)) by rw [hZ, setRow_other _ _ _ _ (by omega)]; exact H1.out)
      have G2 := hid (show Z.heap[w.heap.size + 2]? = some (.cells (arrC [] 8) 41 (0, 0)) by rw [hZ, setRow_other _ _ _ _ (by omega)]; exact H2.out)
      have G3 := hid (show Z.heap[w.heap.size + 3]? = some (.cells (stC (rnd S ((x1 + x2) % 4294967296))) 41 (0, 0)) by rw [hZ]; exact setRow_heap _ _ _ _ _ _ H3.out)
      rw [← hZ]
      clear hZ H0 H1 H2 H3 HB
      go_wp2_with fail
      go_roundw
      case rel => exact ⟨k + 1, by omega, by go_num, G0.out, G1.out, G2.out, by rw [EN.out]; exact G3.out, HBZ.out⟩
      case measure => simp [intOf]; omega
    · have hge : 64 ≤ k := by omega
      have E64 := hid (show S = rndN h ws 64 by rw [ES.out, show k = 64 by omega])
      clear hlt HK
      go_wp2_with fail
      obtain ⟨WR, eWR⟩ : ∃ x, x = wr := ⟨_, rfl⟩
      rw [← eWR]
      rw [← eWR] at H0 H1 H2 H3 HB
      clear eWR
      go_loopw [23] (fun i wz => ∃ n : Nat, n ≤ 8 ∧ i = .int .i64 n ∧ wz.heap[w.heap.size]? = some (.cells (stC (mixH h S n)) 41 (0, 0)) ∧ wz.heap[w.heap.size + 2]? = some (.cells (arrC [] 8) 41 (0, 0)) ∧ wz.heap[w.heap.size + 3]? = some (.cells (stC S) 41 (0, 0)) ∧ Below w.heap.size w wz) (fun i _ => 8 - (intOf i).toNat)
      case atStart => exact ⟨0, by omega, rfl, by rw [mixH_0]; exact H0.out, H2.out, H3.out, HB.out⟩
      case round =>
        clear H0 H1 H2 H3 HB
        obtain ⟨n, hn, rfl, a0, a2, a3, hbw⟩ := hrel
        have H0 := hid a0
        have H2 := hid a2
        have H3 := hid a3
        have HB := hid hbw
        clear a0 a2 a3 hbw
        by_cases hlt : n < 8
        · repeat ((fail_if_success (with_reducible show Code.wp _ (Code.region 10 _ _) _ _ _)); (first | go_values | go_skip | go_guarded | go_step | go_upon | go_back | (simp only [Int.not_lt, Int.not_le] at *; go_simp)))
          have pa := cell_regrown (box_cell H0.out n (mixH_at h S n hlt))
          have pb := cell_regrown (box_cell H3.out n (mixH_t S n hlt))
          have hS := mixH_set h S n hlt
          obtain ⟨x1, e1⟩ : ∃ x, x = h.l.getD n 0 := ⟨_, rfl⟩
          obtain ⟨x2, e2⟩ : ∃ x, x = S.l.getD n 0 := ⟨_, rfl⟩
          rw [← e1] at pa hS
          rw [← e2] at pb hS
          have HS := hid hS
          clear e1 e2 hS
          refine wp_planzQ 11 (.pull [(0, 11)] (.step 11 .done)) (by kernel_rfl) (by kernel_rfl) ?_
          intro V0 hw0
          have hbq := of_class hw0
          refine plz_pull ?_
          simp only [cutOut, List.take_succ_cons, List.take_zero, List.drop_zero, List.append_nil]
          repeat (first | go_big_quiet_step (fail) | quiet_step (fail))
          refine wpQuiet_nil ?_
          clear pa pb hw0
          have H0 := hid (kept H0.out hbq)
          have H2 := hid (kept H2.out hbq)
          have H3 := hid (kept H3.out hbq)
          have HB := hid (HB.out.trans (hbq.mono HB.out.size))
          have pa := box_cell H0.out n (mixH_at h S n hlt)
          have hf := box_frozen H0.out n
          clear hbq
          refine plz_last rfl (by omega) (fun K hK => ?_)
          go_simp
          refine hK _ _ ?_
          clear hK K pa hf
          refine plz_done ?_
          have G0 := hid (set_block H0.out n (.int .u32 ((x1 + x2) % 4294967296)))
          have G2 := hid (set_other H2.out (g := w.heap.size) (by omega) n (.int .u32 ((x1 + x2) % 4294967296)))
          have G3 := hid (set_other H3.out (g := w.heap.size) (by omega) n (.int .u32 ((x1 + x2) % 4294967296)))
          have GB := hid (u_set HB.out (Nat.le_refl _) n (.int .u32 ((x1 + x2) % 4294967296)))
          clear H0 H2 H3 HB
          go_wp2_with fail
          go_roundw
          case rel => exact ⟨n + 1, by omega, by go_num, by rw [← HS.out]; exact G0.out, G2.out, G3.out, GB.out⟩
          case measure => simp [intOf]; omega
        · obtain rfl : n = 8 := by omega
          have EB := hid (show mixH h S 8 = behindH h ws by rw [mixH_8, E64.out]; rfl)
          rw [EB.out] at H0
          repeat ((fail_if_success (with_reducible show Code.wp _ (Code.region 12 _ _) _ _ _)); (first | go_values | go_skip | go_guarded | go_step | go_upon | go_back | (simp only [Int.not_lt, Int.not_le] at *; go_simp)))
          refine wp_region_list ?_
          simp only []
          refine wpList_load_row rfl 41 _ rfl w.heap.size (by rfl) 41 (stC (behindH h ws)) (0, 0) _ H0.out Tryd.underlying41 rfl info8 ?_
          refine wpList_plain rfl fun K hK => ?_
          refine wp_store_row 41 _ _ rfl (w.heap.size + 2) (stC (behindH h ws)) (by rfl) (by rfl) 41 (arrC [] 8) H2.out info8 (by rw [arrC_size]; rfl) (stC_one _) ?_
          refine hK _ _ ?_
          clear hK K
          have RV := setRow_heap _ (w.heap.size + 2) _ (stC (behindH h ws)) _ _ H2.out
          go_wp2_with fail
          refine bodyPost_ret (v := .agg (stC (behindH h ws))) ?_ rfl ⟨rfl, below_setRow HB.out (by omega) _⟩
          exact results_cell_row Tryd.results29 _ _ (w.heap.size + 2) 41 (stC (behindH h ws)) (0, 0) _ (by rfl) RV Tryd.underlying41 rfl info8
end Go.Proofs.YtnjjdcalmgjaiaaDoor
