/- Two that are not both ok, or that are unlike: the model's answer and the program's. The law on two that are joined, out of both contracts. -/
import Derived.Test.YtpdaobiaekamoaaDoorG42
import Derived.Test.YtpdaobiaekamoaaDoorG43
import Derived.Test.YtpdaobiaekamoaaDoorG40
namespace Go.Proofs.YtpdaobiaekamoaaDoor
open Go.ChangeShapes Go.WideShapes Go.ChangeAt Go.RowKit Go.Sort Go.Shelf
attribute [local go_sem] Oper.semAt_some

set_option maxHeartbeats 8000000 in
set_option maxRecDepth 100000 in
theorem specSolverJoin_no (a b : Option Addr) (cap cap' : Nat) (es fs : List EqV) (c z c' z' : Int) (w : World) (ha : EqsAt w a es) (hsm : SmallE es) (hl : es.length ≤ 1048576) (hb : EqsAt w b fs) (hsm' : SmallE fs) (hl' : fs.length ≤ 1048576) (hn : ¬ twoP c z c' z' es fs) :
    Calls Tryd.prog 30 #[.agg #[.int .i64 c, .int .i64 z, .slice a es.length cap], .agg #[.int .i64 c', .int .i64 z', .slice b fs.length cap']] w fun e w' => JoinO w w' w.heap.size c z none e := by
  have HA := hid ha
  have HBb := hid hb
  obtain ⟨W0, hW0⟩ : ∃ W0, W0 = ((w.alloc (.cells #[.int .i64 c, .int .i64 z, .slice a es.length cap] 29)).alloc (.cells #[.int .i64 c', .int .i64 z', .slice b fs.length cap'] 29)).alloc (.cells #[.int .i64 0, .int .i64 0, .slice none 0 0] 29) := ⟨_, rfl⟩
  obtain ⟨X0, X1, X2, B0⟩ := u_box3 (w := w) (c := #[.int .i64 c, .int .i64 z, .slice a es.length cap]) (t := 29) (d := #[.int .i64 c', .int .i64 z', .slice b fs.length cap']) (s := 29) (f := #[.int .i64 0, .int .i64 0, .slice none 0 0]) (r := 29) (w1 := W0) (by rw [hW0]; exact Below.refl _ _)
  have KO := hid (fun w ha => specSolverOk_any a cap es c z w ha hsm hl)
  have KO' := hid (fun w ha => specSolverOk_any b cap' fs c' z' w ha hsm' hl')
  have HX := hid X0
  have HX1 := hid X1
  have HX2 := hid X2
  have HB := hid B0
  have HN := hid hn
  clear ha hb hsm hsm' X0 X1 X2 B0 hn
  go_enter Tryd.func30, Tryd.ntmps30
  repeat ((fail_if_success (with_reducible show Code.wp _ (Code.region 1 _ _) _ _ _)); (first | go_values | go_skip | go_guarded | go_step | go_upon | go_back | go_simp))
  rw [← hW0]
  clear hW0
  have q0 := box_cell HX.out 0 (v := .int .i64 c) rfl
  have q1 := box_cell HX.out 1 (v := .int .i64 z) rfl
  have q2 := box_cell HX.out 2 (v := .slice a es.length cap) rfl
  go_wp2_with fail
  refine (KO.out W0 (HA.out.below HB.out)).mono ?_
  rintro e w1 ⟨rfl, b1⟩
  replace HX := hid (kept HX.out b1)
  replace HX1 := hid (kept HX1.out b1)
  replace HX2 := hid (kept HX2.out b1)
  replace HB := hid (u_cat HB.out b1)
  clear q0 q1 q2 b1 KO
  by_cases hp : solverP c z es
  · rw [decide_eq_true hp]
    have r0 := box_cell HX1.out 0 (v := .int .i64 c') rfl
    have r1 := box_cell HX1.out 1 (v := .int .i64 z') rfl
    have r2 := box_cell HX1.out 2 (v := .slice b fs.length cap') rfl
    go_wp2_with fail
    refine (KO'.out w1 (HBb.out.below HB.out)).mono ?_
    rintro e w2 ⟨rfl, b2⟩
    replace HX := hid (kept HX.out b2)
    replace HX1 := hid (kept HX1.out b2)
    replace HX2 := hid (kept HX2.out b2)
    replace HB := hid (u_cat HB.out b2)
    clear r0 r1 r2 b2 KO'
    have q0 := box_cell HX.out 0 (v := .int .i64 c) rfl
    have q1 := box_cell HX.out 1 (v := .int .i64 z) rfl
    have r0 := box_cell HX1.out 0 (v := .int .i64 c') rfl
    have r1 := box_cell HX1.out 1 (v := .int .i64 z') rfl
    by_cases hp' : solverP c' z' fs
    · rw [decide_eq_true hp']
      by_cases hc : c = c'
      · by_cases hz : z = z'
        · exact absurd ⟨hp, hp', hc, hz⟩ HN.out
        · have hcn : (c != c') = false := by simp [hc]
          have hzn : (z != z') = true := by simp [hz]
          clear hp hp' hc
          have p0 := box_cell HX2.out 0 (v := .int .i64 0) rfl
          have p1 := box_cell HX2.out 1 (v := .int .i64 0) rfl
          have p2 := box_cell HX2.out 2 (v := .slice none 0 0) rfl
          have z0 := box_frozen HX2.out
          have l0 := lt_of_block HX2.out
          have S5 := set_block (set_block (set_block HX2.out 0 (.int .i64 0)) 1 (.int .i64 0)) 2 (.slice none 0 0)
          have x0 := box_cell S5 0 (v := .int .i64 0) (by simp)
          have x1 := box_cell S5 1 (v := .int .i64 0) (by simp)
          have x2 := box_cell S5 2 (v := .slice none 0 0) (by simp)
          clear S5
          go_wp2_with fail
          refine bodyPost_ret (v := .tuple #[.agg #[.int .i64 0, .int .i64 0, .slice none 0 0], .bool false]) ?_ rfl ?_
          · simp [results, Tryd.results30, go_sem, x0, x1, x2]
          · exact ⟨none, 0, [], rfl, ⟨rfl, .inl ⟨rfl, rfl⟩⟩, rfl, fun f hf => by simp at hf, by refine u_set (u_set (u_set HB.out ?_ _ _) ?_ _ _) ?_ _ _ <;> omega⟩
      · have hcn : (c != c') = true := by simp [hc]
        clear hp hp'
        have p0 := box_cell HX2.out 0 (v := .int .i64 0) rfl
        have p1 := box_cell HX2.out 1 (v := .int .i64 0) rfl
        have p2 := box_cell HX2.out 2 (v := .slice none 0 0) rfl
        have z0 := box_frozen HX2.out
        have l0 := lt_of_block HX2.out
        have S5 := set_block (set_block (set_block HX2.out 0 (.int .i64 0)) 1 (.int .i64 0)) 2 (.slice none 0 0)
        have x0 := box_cell S5 0 (v := .int .i64 0) (by simp)
        have x1 := box_cell S5 1 (v := .int .i64 0) (by simp)
        have x2 := box_cell S5 2 (v := .slice none 0 0) (by simp)
        clear S5
        go_wp2_with fail
        refine bodyPost_ret (v := .tuple #[.agg #[.int .i64 0, .int .i64 0, .slice none 0 0], .bool false]) ?_ rfl ?_
        · simp [results, Tryd.results30, go_sem, x0, x1, x2]
        · exact ⟨none, 0, [], rfl, ⟨rfl, .inl ⟨rfl, rfl⟩⟩, rfl, fun f hf => by simp at hf, by refine u_set (u_set (u_set HB.out ?_ _ _) ?_ _ _) ?_ _ _ <;> omega⟩
    · rw [decide_eq_false hp']
      clear hp hp'
      have p0 := box_cell HX2.out 0 (v := .int .i64 0) rfl
      have p1 := box_cell HX2.out 1 (v := .int .i64 0) rfl
      have p2 := box_cell HX2.out 2 (v := .slice none 0 0) rfl
      have z0 := box_frozen HX2.out
      have l0 := lt_of_block HX2.out
      have S5 := set_block (set_block (set_block HX2.out 0 (.int .i64 0)) 1 (.int .i64 0)) 2 (.slice none 0 0)
      have x0 := box_cell S5 0 (v := .int .i64 0) (by simp)
      have x1 := box_cell S5 1 (v := .int .i64 0) (by simp)
      have x2 := box_cell S5 2 (v := .slice none 0 0) (by simp)
      clear S5
      go_wp2_with fail
      refine bodyPost_ret (v := .tuple #[.agg #[.int .i64 0, .int .i64 0, .slice none 0 0], .bool false]) ?_ rfl ?_
      · simp [results, Tryd.results30, go_sem, x0, x1, x2]
      · exact ⟨none, 0, [], rfl, ⟨rfl, .inl ⟨rfl, rfl⟩⟩, rfl, fun f hf => by simp at hf, by refine u_set (u_set (u_set HB.out ?_ _ _) ?_ _ _) ?_ _ _ <;> omega⟩
  · rw [decide_eq_false hp]
    clear hp
    have p0 := box_cell HX2.out 0 (v := .int .i64 0) rfl
    have p1 := box_cell HX2.out 1 (v := .int .i64 0) rfl
    have p2 := box_cell HX2.out 2 (v := .slice none 0 0) rfl
    have z0 := box_frozen HX2.out
    have l0 := lt_of_block HX2.out
    have S5 := set_block (set_block (set_block HX2.out 0 (.int .i64 0)) 1 (.int .i64 0)) 2 (.slice none 0 0)
    have x0 := box_cell S5 0 (v := .int .i64 0) (by simp)
    have x1 := box_cell S5 1 (v := .int .i64 0) (by simp)
    have x2 := box_cell S5 2 (v := .slice none 0 0) (by simp)
    clear S5
    go_wp2_with fail
    refine bodyPost_ret (v := .tuple #[.agg #[.int .i64 0, .int .i64 0, .slice none 0 0], .bool false]) ?_ rfl ?_
    · simp [results, Tryd.results30, go_sem, x0, x1, x2]
    · exact ⟨none, 0, [], rfl, ⟨rfl, .inl ⟨rfl, rfl⟩⟩, rfl, fun f hf => by simp at hf, by refine u_set (u_set (u_set HB.out ?_ _ _) ?_ _ _) ?_ _ _ <;> omega⟩

set_option maxHeartbeats 8000000 in
set_option maxRecDepth 100000 in
theorem implSolverJoin_no (a b : Option Addr) (cap cap' : Nat) (es fs : List EqV) (c z c' z' : Int) (w : World) (ha : EqsAt w a es) (hsm : SmallE es) (hl : es.length ≤ 1048576) (hb : EqsAt w b fs) (hsm' : SmallE fs) (hl' : fs.length ≤ 1048576) (hn : ¬ twoP c z c' z' es fs) (hT : Tab w) :
    Calls Tryd.prog 31 #[.agg #[.int .i64 c, .int .i64 z, .slice a es.length cap], .agg #[.int .i64 c', .int .i64 z', .slice b fs.length cap']] w fun e w' => e = .returned (.tuple #[.agg #[.int .i64 0, .int .i64 0, .slice none 0 0], .bool false]) ∧ Below w.heap.size w w' := by
  have HA := hid ha
  have HBb := hid hb
  have HS := hid hsm
  have HS' := hid hsm'
  have HT := hid hT
  have HN := hid hn
  obtain ⟨WA, hWA⟩ : ∃ WA, WA = ((w.alloc (.cells #[.int .i64 c, .int .i64 z, .slice a es.length cap] 29)).alloc (.cells #[.int .i64 c', .int .i64 z', .slice b fs.length cap'] 29)).alloc (.cells #[.int .i64 0, .int .i64 0, .slice none 0 0] 29) := ⟨_, rfl⟩
  obtain ⟨XA, XB, XR, bA⟩ := u_box3 (w := w) (c := #[.int .i64 c, .int .i64 z, .slice a es.length cap]) (t := 29) (d := #[.int .i64 c', .int .i64 z', .slice b fs.length cap']) (s := 29) (f := #[.int .i64 0, .int .i64 0, .slice none 0 0]) (r := 29) (w1 := WA) (by rw [hWA]; exact Below.refl _ _)
  have hsA : WA.heap.size = w.heap.size + 3 := by rw [hWA]; simp
  obtain ⟨W0, hW0⟩ : ∃ W0, W0 = WA.alloc (.cells #[.bool false] 4) := ⟨_, rfl⟩
  have b0 : Below WA.heap.size WA W0 := by rw [hW0]; exact u_b1 _ _
  have XO : W0.heap[w.heap.size + 3]? = some (.cells #[.bool false] 4 (0, 0)) := by rw [hW0, ← hsA]; exact laid WA _ _
  have hs0 : w.heap.size + 4 ≤ W0.heap.size := by rw [hW0]; simp; omega
  have HXA := hid (kept XA b0)
  have HXB := hid (kept XB b0)
  have HXR := hid (kept XR b0)
  have HXO := hid XO
  have HB := hid (u_cat bA b0)
  have HE := hid (show W0 = (((w.alloc (.cells #[.int .i64 c, .int .i64 z, .slice a es.length cap] 29)).alloc (.cells #[.int .i64 c', .int .i64 z', .slice b fs.length cap'] 29)).alloc (.cells #[.int .i64 0, .int .i64 0, .slice none 0 0] 29)).alloc (.cells #[.bool false] 4) by rw [hW0, hWA])
  have q0 := box_cell HXA.out 0 (v := .int .i64 c) rfl
  have q1 := box_cell HXA.out 1 (v := .int .i64 z) rfl
  have q2 := box_cell HXA.out 2 (v := .slice a es.length cap) rfl
  clear ha hb hsm hsm' hn hT XA XB XR XO bA b0 hW0 hWA hsA WA
  go_enter Tryd.func31, Tryd.ntmps31
  repeat ((fail_if_success (with_reducible show Code.wp _ (Code.region 1 _ _) _ _ _)); (first | go_values | go_skip | go_guarded | go_step | go_upon | go_back | go_simp))
  rw [← HE.out]
  clear HE
  go_wp2_with fail
  refine (listOf_any a cap es c z W0 (HA.out.below HB.out) HS.out hl (HT.out.below HB.out)).mono ?_
  rintro e w1 ⟨b1, h⟩
  obtain ⟨c1, z1, p1, o1, rfl, h1⟩ : ∃ c1 z1 p1 o1, e = .returned (.tuple #[.agg #[.int .i64 c1, .int .i64 z1, .pointer p1], .bool o1]) ∧ (o1 = true → solverP c z es ∧ c1 = c ∧ z1 = z) := by
    rcases h with ⟨hp, ls, rfl, -⟩ | ⟨-, rfl⟩
    · exact ⟨_, _, _, _, rfl, fun _ => ⟨hp, rfl, rfl⟩⟩
    · exact ⟨_, _, _, _, rfl, fun h => by cases h⟩
  have H1 := hid h1
  replace HXB := hid (kept HXB.out b1)
  replace HXR := hid (kept HXR.out b1)
  replace HXO := hid (kept HXO.out b1)
  replace HB := hid (u_cat HB.out b1)
  clear q0 q1 q2 b1 h1 h HXA
  repeat ((fail_if_success (with_reducible show Code.wp _ (Code.region 2 _ _) _ _ _)); (first | go_values | go_skip | go_guarded | go_step | go_upon | go_back | go_simp))
  obtain ⟨V1, hV1⟩ : ∃ V1, V1 = w1.alloc (.cells #[.int .i64 c1, .int .i64 z1, .pointer p1] 58) := ⟨_, rfl⟩
  have bv : Below w1.heap.size w1 V1 := by rw [hV1]; exact u_b1 _ _
  have Z1 := hid (show V1.heap[w1.heap.size]? = some (.cells #[.int .i64 c1, .int .i64 z1, .pointer p1] 58 (0, 0)) by rw [hV1]; exact laid _ _ _)
  rw [← hV1]
  clear hV1
  replace HXB := hid (kept HXB.out bv)
  replace HXR := hid (kept HXR.out bv)
  replace HXO := hid (kept HXO.out bv)
  replace HB := hid (u_cat HB.out bv)
  clear bv
  have q0 := box_cell HXB.out 0 (v := .int .i64 c') rfl
  have q1 := box_cell HXB.out 1 (v := .int .i64 z') rfl
  have q2 := box_cell HXB.out 2 (v := .slice b fs.length cap') rfl
  go_wp2_with fail
  refine (listOf_any b cap' fs c' z' V1 (HBb.out.below HB.out) HS'.out hl' (HT.out.below HB.out)).mono ?_
  rintro e w2 ⟨b2, h⟩
  obtain ⟨c2, z2, p2, o2, rfl, h2⟩ : ∃ c2 z2 p2 o2, e = .returned (.tuple #[.agg #[.int .i64 c2, .int .i64 z2, .pointer p2], .bool o2]) ∧ (o2 = true → solverP c' z' fs ∧ c2 = c' ∧ z2 = z') := by
    rcases h with ⟨hp, ls, rfl, -⟩ | ⟨-, rfl⟩
    · exact ⟨_, _, _, _, rfl, fun _ => ⟨hp, rfl, rfl⟩⟩
    · exact ⟨_, _, _, _, rfl, fun h => by cases h⟩
  have H2 := hid h2
  replace HXR := hid (kept HXR.out b2)
  replace HXO := hid (kept HXO.out b2)
  replace HB := hid (u_cat HB.out b2)
  replace Z1 := hid (kept Z1.out b2)
  clear q0 q1 q2 b2 h2 h HXB
  repeat ((fail_if_success (with_reducible show Code.wp _ (Code.region 3 _ _) _ _ _)); (first | go_values | go_skip | go_guarded | go_step | go_upon | go_back | go_simp))
  obtain ⟨V2, hV2⟩ : ∃ V2, V2 = w2.alloc (.cells #[.int .i64 c2, .int .i64 z2, .pointer p2] 58) := ⟨_, rfl⟩
  have bv : Below w2.heap.size w2 V2 := by rw [hV2]; exact u_b1 _ _
  have Z2 := hid (show V2.heap[w2.heap.size]? = some (.cells #[.int .i64 c2, .int .i64 z2, .pointer p2] 58 (0, 0)) by rw [hV2]; exact laid _ _ _)
  rw [← hV2]
  clear hV2
  replace HXR := hid (kept HXR.out bv)
  replace HXO := hid (kept HXO.out bv)
  replace HB := hid (u_cat HB.out bv)
  replace Z1 := hid (kept Z1.out bv)
  clear bv
  have y0 := box_cell Z1.out 0 (v := .int .i64 c1) rfl
  have y1 := box_cell Z1.out 1 (v := .int .i64 z1) rfl
  have y2 := box_cell Z2.out 0 (v := .int .i64 c2) rfl
  have y3 := box_cell Z2.out 1 (v := .int .i64 z2) rfl
  have p0 := box_cell HXR.out 0 (v := .int .i64 0) rfl
  have p1 := box_cell HXR.out 1 (v := .int .i64 0) rfl
  have p2 := box_cell HXR.out 2 (v := .slice none 0 0) rfl
  have p3 := box_cell HXO.out 0 (v := .bool false) rfl
  have z0 := box_frozen HXR.out
  have z5 := box_frozen HXO.out
  have l0 := lt_of_block HXR.out
  have l3 := lt_of_block HXO.out
  have n2 : ¬ w.heap.size + 3 = w.heap.size + 2 := by omega
  have S5 := set_other (set_block (set_block (set_block HXR.out 0 (.int .i64 0)) 1 (.int .i64 0)) 2 (.slice none 0 0)) (show w.heap.size + 2 ≠ w.heap.size + 3 by omega) 0 (.bool false)
  have S6 := set_block (set_other (set_other (set_other HXO.out (show w.heap.size + 3 ≠ w.heap.size + 2 by omega) 0 (.int .i64 0)) (show w.heap.size + 3 ≠ w.heap.size + 2 by omega) 1 (.int .i64 0)) (show w.heap.size + 3 ≠ w.heap.size + 2 by omega) 2 (.slice none 0 0)) 0 (.bool false)
  have x0 := box_cell S5 0 (v := .int .i64 0) (by simp)
  have x1 := box_cell S5 1 (v := .int .i64 0) (by simp)
  have x2 := box_cell S5 2 (v := .slice none 0 0) (by simp)
  have x3 := box_cell S6 0 (v := .bool false) (by simp)
  clear S5 S6
  cases o1
  · go_wp2_with fail
    refine bodyPost_ret (v := .tuple #[.agg #[.int .i64 0, .int .i64 0, .slice none 0 0], .bool false]) ?_ rfl ?_
    · simp [results, Tryd.results31, go_sem, x0, x1, x2, x3]
    · exact ⟨rfl, by refine u_set (u_set (u_set (u_set HB.out ?_ _ _) ?_ _ _) ?_ _ _) ?_ _ _ <;> omega⟩
  · obtain ⟨hp, rfl, rfl⟩ := H1.out rfl
    cases o2
    · go_wp2_with fail
      refine bodyPost_ret (v := .tuple #[.agg #[.int .i64 0, .int .i64 0, .slice none 0 0], .bool false]) ?_ rfl ?_
      · simp [results, Tryd.results31, go_sem, x0, x1, x2, x3]
      · exact ⟨rfl, by refine u_set (u_set (u_set (u_set HB.out ?_ _ _) ?_ _ _) ?_ _ _) ?_ _ _ <;> omega⟩
    · obtain ⟨hp', rfl, rfl⟩ := H2.out rfl
      by_cases hc : c1 = c2
      · by_cases hz : z1 = z2
        · exact absurd ⟨hp, hp', hc, hz⟩ HN.out
        · have hcn : (c1 != c2) = false := by simp [hc]
          have hzn : (z1 != z2) = true := by simp [hz]
          clear hp hp' hc
          go_wp2_with fail
          refine bodyPost_ret (v := .tuple #[.agg #[.int .i64 0, .int .i64 0, .slice none 0 0], .bool false]) ?_ rfl ?_
          · simp [results, Tryd.results31, go_sem, x0, x1, x2, x3]
          · exact ⟨rfl, by refine u_set (u_set (u_set (u_set HB.out ?_ _ _) ?_ _ _) ?_ _ _) ?_ _ _ <;> omega⟩
      · have hcn : (c1 != c2) = true := by simp [hc]
        clear hp hp'
        go_wp2_with fail
        refine bodyPost_ret (v := .tuple #[.agg #[.int .i64 0, .int .i64 0, .slice none 0 0], .bool false]) ?_ rfl ?_
        · simp [results, Tryd.results31, go_sem, x0, x1, x2, x3]
        · exact ⟨rfl, by refine u_set (u_set (u_set (u_set HB.out ?_ _ _) ?_ _ _) ?_ _ _) ?_ _ _ <;> omega⟩
end Go.Proofs.YtpdaobiaekamoaaDoor
namespace Go.Proofs.YtpdaobiaekamoaaDoor
open Go.ChangeShapes Go.WideShapes Go.ChangeAt Go.RowKit Go.Sort Go.Shelf

theorem join_ok {c z : Int} (hc : (1 ≤ c ∧ c ≤ 24) ∧ 1 ≤ z ∧ z ≤ 16) : ∀ (vs ks : List Vl), okV c z ks → (∀ v ∈ vs, ascB (-1) c v.1 = true ∧ (v.2.size : Int) = z) → okV c z ((vs.foldl join1 (some ks)).getD [])
  | [], _, h, _ => h
  | v :: vs, ks, h, hv => by
    show okV c z ((vs.foldl join1 (join1 (some ks) v)).getD [])
    cases hj : join1 (some ks) v with
    | none =>
      rw [join_none]
      exact ⟨fun k hk => by simp at hk, List.Pairwise.nil⟩
    | some ks' => exact join_ok hc vs ks' (join1_ok hc h (hv v (List.mem_cons_self ..)).1 (hv v (List.mem_cons_self ..)).2 hj) (fun x hx => hv x (List.mem_cons_of_mem _ hx))
theorem SamV.two {es fs es' fs' : List EqV} {c z c' z' : Int} (h : SamV es es') (k : SamV fs fs') : twoP c z c' z' es fs ↔ twoP c z c' z' es' fs' := by
  unfold twoP
  rw [h.solver, k.solver]

theorem walk_FnExactSolverJoin (cs0 : List Value) (cs1 : List Value) (w : World) (w0 : Reads w 24 cs0) (w1 : Reads w 24 cs1) (hT : Tab w) :
    Calls Tryd.prog 9 #[.agg cs0.toArray, .agg cs1.toArray] w fun e w' => e = .returned (.bool true) ∧ Below w.heap.size w w' := by
  obtain ⟨c, z, a, cap, es, rfl, ha, hl, hL⟩ := reads_solver w0
  obtain ⟨c', z', a', cap', fs, rfl, ha', hl', hL'⟩ := reads_solver w1
  by_cases hp : twoP c z c' z' es fs
  · obtain ⟨h1, h2, rfl, rfl⟩ := hp
    have hok : okV c z ((joinV (valsE es) (valsE fs)).getD []) := join_ok h1.1 _ _ (ok_vals.1 h1.2) (fun v hv => by
      obtain ⟨e, he, rfl⟩ := List.mem_map.1 hv
      obtain ⟨i, hi, rfl⟩ := List.getElem_of_mem he
      have := (okE_iff.1 h2.2 i hi).1
      exact ⟨this.1, this.2.1⟩)
    exact solverJoin_of a cap es c z a' cap' fs c z (if (joinV (valsE es) (valsE fs)).isSome then c else 0) (if (joinV (valsE es) (valsE fs)).isSome then z else 0) ((joinV (valsE es) (valsE fs)).getD []) (joinV (valsE es) (valsE fs)).isSome w ha hl hL ha' hl' hL' hT (fun _ _ => okV_small hok (by have := h1.1.1.1; omega) h1.1.1.2 h1.1.2.2)
      (fun a d gs a' d' hs w ha hg hgl hgs hgc ha' hh hhl hhs hhc => by
        have h := specSolverJoin_yes a a' d d' gs hs c z w ha hgs hgl hgc ha' hhs hhl hhc (hg.solver.2 h1) (hh.solver.2 h2)
        rw [vals_same.2 hg, vals_same.2 hh] at h
        exact h)
      (fun a d gs a' d' hs w ha hg hgl hgs ha' hh hhl hhs hT => (implSolverJoin_yes a a' d d' gs hs c z w ha hgs hgl ha' hhs hhl (hg.solver.2 h1) (hh.solver.2 h2) hT).mono (fun e w' h => by
        obtain ⟨o, ho, h⟩ := h
        rw [vals_same.2 hg, vals_same.2 hh] at ho
        rw [← ho]
        exact h))
  · exact solverJoin_of a cap es c z a' cap' fs c' z' 0 0 [] false w ha hl hL ha' hl' hL' hT (fun _ _ => ⟨by simp, fun k hk => by simp at hk⟩)
      (fun a d gs a' d' hs w ha hg hgl hgs _ ha' hh hhl hhs _ => specSolverJoin_no a a' d d' gs hs c z c' z' w ha hgs hgl ha' hhs hhl (fun h => hp ((hg.two hh).1 h)))
      (fun a d gs a' d' hs w ha hg hgl hgs ha' hh hhl hhs hT => (implSolverJoin_no a a' d d' gs hs c z c' z' w ha hgs hgl ha' hhs hhl (fun h => hp ((hg.two hh).1 h)) hT).mono (fun e w' h => by
        obtain ⟨rfl, hb⟩ := h
        exact ⟨none, 0, [], rfl, ⟨rfl, .inl ⟨rfl, rfl⟩⟩, rfl, fun f hf => by simp at hf, List.Pairwise.nil, hb⟩))
end Go.Proofs.YtpdaobiaekamoaaDoor
