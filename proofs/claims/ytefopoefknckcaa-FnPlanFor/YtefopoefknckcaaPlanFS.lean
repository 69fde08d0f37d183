/- The plan for a length, by the model. -/
import Derived.Test.YtefopoefknckcaaPlanF
import Derived.Deep.LoopGhost
namespace Go.Proofs.Ytefopoefknckcaa
open Go.ChangeShapes Go.WideShapes Go.ChangeAt Go.RowKit Go.Sort

set_option maxHeartbeats 2000000 in
theorem l5For_in (long : Int) (w : World) (h1 : 1 ≤ long) (h2 : long ≤ 300) :
    Calls Try.prog 22 #[.int .i64 long] w fun e w' => ∃ v, e = .returned v ∧ PlanO w' w.heap.size long (forS long) (forW long) (forG long) v ∧ Below w.heap.size w w' := by
  obtain ⟨hs1, hs2⟩ := forS_bd long h1 h2
  have hn1 : 1 ≤ forN long := cnt_pos long (forS long) h1 (by omega)
  have hn2 : forN long ≤ 300 := cnt_le long (forS long) h1 (by omega) h2
  have HST := hid (fun s (h : 1 ≤ s) => for_step long s h1 h2 h)
  have HMX := hid (show forS long = max 8 (cntI long 24) from rfl)
  go_enter Try.func22, Try.ntmps22
  go_wp2_with fail
  go_loopg [8] 8 (fun k _ wr => ∃ s : Int, 8 ≤ s ∧ s ≤ forS long ∧ k = (16 - s).toNat ∧ wr.heap[w.heap.size + 1]? = some (.cells #[.int .i64 long, .int .i64 s, .slice none 0 0, .slice none 0 0] 26 (0, 0)) ∧ wr.heap[w.heap.size]? = some (.cells #[.int .i64 0, .int .i64 0, .slice none 0 0, .slice none 0 0] 26 (0, 0)) ∧ Below w.heap.size w wr)
  case atStart => exact ⟨8, by omega, by omega, rfl, by have := laid (w.alloc (.cells #[.int .i64 0, .int .i64 0, .slice none 0 0, .slice none 0 0] 26)) #[.int .i64 long, .int .i64 8, .slice none 0 0, .slice none 0 0] 26; rwa [World.size_alloc'] at this, kept (laid _ _ _) (below_alloc' _ _), below2' _ _ _⟩
  case round =>
    obtain ⟨s, hs3, hs4, hgk, x, r, b⟩ := hrel
    have X := hid x
    have R := hid r
    have B := hid b
    have HK := hid hgk
    have p0 := box_cell x 0 (v := .int .i64 long) rfl
    have p1 := box_cell x 1 (v := .int .i64 s) rfl
    have p2 := box_cell x 2 (v := .slice none 0 0) rfl
    have p3 := box_cell x 3 (v := .slice none 0 0) rfl
    clear x r b hgk
    go_wp2_with fail
    refine (specCount long s _ _ _ _ _ _ _ h1 h2 (by omega) (by omega)).mono ?_
    rintro e w1 ⟨rfl, b1⟩
    have X1 := hid (kept X.out b1)
    have R1 := hid (kept R.out b1)
    have B1 := hid (below_cat' B.out b1)
    clear b1 p0 p1 p2 p3 X R B
    have p1 := box_cell X1.out 1 (v := .int .i64 s) rfl
    have f1 := box_frozen X1.out 1
    by_cases hc : 24 < cntI long s
    · go_wp2_with fail
      have hlt := (HST.out s (by omega)).1 hc
      have hm := HMX.out
      go_roundg (16 - (s + 1)).toNat
      case measure => rw [HK.out]; omega
      case rel => exact ⟨s + 1, by omega, by omega, rfl, set_block X1.out 1 _, set_other (g := w.heap.size + 1) R1.out (by omega) 1 _, below_set' B1.out (by simp) _⟩
    · obtain rfl : s = forS long := by
        have h := mt (HST.out s (by omega)).2 hc
        have hm := HMX.out
        omega
      have p0 := box_cell X1.out 0 (v := .int .i64 long) rfl
      have p2 := box_cell X1.out 2 (v := .slice none 0 0) rfl
      have p3 := box_cell X1.out 3 (v := .slice none 0 0) rfl
      go_wp2_with fail
      refine (specCount long (forS long) _ _ _ _ _ _ _ h1 h2 (by omega) (by omega)).mono ?_
      rintro e w2 ⟨rfl, b2⟩
      have X2 := hid (kept X1.out b2)
      have R2 := hid (kept R1.out b2)
      have B2 := hid (below_cat' B1.out b2)
      have l1 : w.heap.size < w2.heap.size := lt_of_block R2.out
      have l2 : w.heap.size + 1 < w2.heap.size := lt_of_block X2.out
      clear b2 p0 p1 p2 p3 f1
      have p0 := box_cell X2.out 0 (v := .int .i64 long) rfl
      have p1 := box_cell X2.out 1 (v := .int .i64 (forS long)) rfl
      have p2 := box_cell X2.out 2 (v := .slice none 0 0) rfl
      have p3 := box_cell X2.out 3 (v := .slice none 0 0) rfl
      have f2 := box_frozen X2.out 2
      have f3 := box_frozen X2.out 3
      have r0 := box_cell R2.out 0 (v := .int .i64 0) rfl
      have r1 := box_cell R2.out 1 (v := .int .i64 0) rfl
      have r2 := box_cell R2.out 2 (v := .slice none 0 0) rfl
      have r3 := box_cell R2.out 3 (v := .slice none 0 0) rfl
      have e0 := box_frozen R2.out 0
      have e1 := box_frozen R2.out 1
      have e2 := box_frozen R2.out 2
      have e3 := box_frozen R2.out 3
      have eN : cntI long (forS long) = forN long := rfl
      have eK : (forN long + 3) / 4 = forK long := by unfold forK cntI; omega
      rw [eN]
      by_cases hk : forK long < forN long
      · have eW := hid (show forW long = [forK long, forN long] from if_pos hk)
        have eG := hid (show forG long = [2, 3] from if_pos hk)
        go_wp2_with fail
        have zW : ((((((w2.setCell ⟨w.heap.size + 1, 2, none⟩ (.slice (some ⟨w2.heap.size, 0, none⟩) 2 2)).setCell ⟨w.heap.size + 1, 3, none⟩ (.slice (some ⟨w2.heap.size + 1, 0, none⟩) 2 2)).setCell ⟨w.heap.size, 0, none⟩ (.int .i64 long)).setCell ⟨w.heap.size, 1, none⟩ (.int .i64 (forS long))).setCell ⟨w.heap.size, 2, none⟩ (.slice (some ⟨w2.heap.size, 0, none⟩) 2 2)).setCell ⟨w.heap.size, 3, none⟩ (.slice (some ⟨w2.heap.size + 1, 0, none⟩) 2 2)).heap.size = w2.heap.size := by simp
        have bW := below_set' (below_set' (below_set' (below_set' (below_set' (below_set' B2.out (p := ⟨w.heap.size + 1, 2, none⟩) (by simp) (.slice (some ⟨w2.heap.size, 0, none⟩) 2 2)) (p := ⟨w.heap.size + 1, 3, none⟩) (by simp) (.slice (some ⟨w2.heap.size + 1, 0, none⟩) 2 2)) (p := ⟨w.heap.size, 0, none⟩) (by simp) (.int .i64 long)) (p := ⟨w.heap.size, 1, none⟩) (by simp) (.int .i64 (forS long))) (p := ⟨w.heap.size, 2, none⟩) (by simp) (.slice (some ⟨w2.heap.size, 0, none⟩) 2 2)) (p := ⟨w.heap.size, 3, none⟩) (by simp) (.slice (some ⟨w2.heap.size + 1, 0, none⟩) 2 2)
        have bF := below_cat' bW (below2' _ (.cells #[.int .i64 (forK long), .int .i64 (forN long)] 3) (.cells #[.int .i64 2, .int .i64 3] 3))
        have l1 := kept (laid ((((((w2.setCell ⟨w.heap.size + 1, 2, none⟩ (.slice (some ⟨w2.heap.size, 0, none⟩) 2 2)).setCell ⟨w.heap.size + 1, 3, none⟩ (.slice (some ⟨w2.heap.size + 1, 0, none⟩) 2 2)).setCell ⟨w.heap.size, 0, none⟩ (.int .i64 long)).setCell ⟨w.heap.size, 1, none⟩ (.int .i64 (forS long))).setCell ⟨w.heap.size, 2, none⟩ (.slice (some ⟨w2.heap.size, 0, none⟩) 2 2)).setCell ⟨w.heap.size, 3, none⟩ (.slice (some ⟨w2.heap.size + 1, 0, none⟩) 2 2)) #[.int .i64 (forK long), .int .i64 (forN long)] 3) (below_alloc' _ (.cells #[.int .i64 2, .int .i64 3] 3))
        have l2 := laid (((((((w2.setCell ⟨w.heap.size + 1, 2, none⟩ (.slice (some ⟨w2.heap.size, 0, none⟩) 2 2)).setCell ⟨w.heap.size + 1, 3, none⟩ (.slice (some ⟨w2.heap.size + 1, 0, none⟩) 2 2)).setCell ⟨w.heap.size, 0, none⟩ (.int .i64 long)).setCell ⟨w.heap.size, 1, none⟩ (.int .i64 (forS long))).setCell ⟨w.heap.size, 2, none⟩ (.slice (some ⟨w2.heap.size, 0, none⟩) 2 2)).setCell ⟨w.heap.size, 3, none⟩ (.slice (some ⟨w2.heap.size + 1, 0, none⟩) 2 2)).alloc (.cells #[.int .i64 (forK long), .int .i64 (forN long)] 3)) #[.int .i64 2, .int .i64 3] 3
        rw [zW] at l1
        rw [show (World.alloc _ _).heap.size = w2.heap.size + 1 from by rw [World.size_alloc', zW]] at l2
        have r0 := kept (kept (set_block (set_block (set_block (set_block (set_other (g := w.heap.size + 1) (set_other (g := w.heap.size + 1) R2.out (by omega) 2 (.slice (some ⟨w2.heap.size, 0, none⟩) 2 2)) (by omega) 3 (.slice (some ⟨w2.heap.size + 1, 0, none⟩) 2 2)) 0 (.int .i64 long)) 1 (.int .i64 (forS long))) 2 (.slice (some ⟨w2.heap.size, 0, none⟩) 2 2)) 3 (.slice (some ⟨w2.heap.size + 1, 0, none⟩) 2 2)) (below_alloc' _ (.cells #[.int .i64 (forK long), .int .i64 (forN long)] 3))) (below_alloc' _ (.cells #[.int .i64 2, .int .i64 3] 3))
        have q0 := box_cell r0 0 (v := .int .i64 long) rfl
        have q1 := box_cell r0 1 (v := .int .i64 (forS long)) rfl
        have q2 := box_cell r0 2 (v := (.slice (some ⟨w2.heap.size, 0, none⟩) 2 2)) rfl
        have q3 := box_cell r0 3 (v := (.slice (some ⟨w2.heap.size + 1, 0, none⟩) 2 2)) rfl
        refine bodyPost_ret (v := .agg #[.int .i64 long, .int .i64 (forS long), (.slice (some ⟨w2.heap.size, 0, none⟩) 2 2), (.slice (some ⟨w2.heap.size + 1, 0, none⟩) 2 2)]) ?_ rfl ⟨_, rfl, ⟨_, _, rfl, ?_, ?_, apart_of (by omega)⟩, bF⟩
        · unfold results; rw [Try.results22]; simp [go_sem, q0, q1, q2, q3]
        · rw [eW.out]; exact own_laid [forK long, forN long] l1 (by omega) (by simp)
        · rw [eG.out]; exact own_laid [2, 3] l2 (by omega) (by simp)
      · have eW := hid (show forW long = [forN long] from if_neg hk)
        have eG := hid (show forG long = [1] from if_neg hk)
        go_wp2_with fail
        have zW : ((((((w2.setCell ⟨w.heap.size + 1, 2, none⟩ (.slice (some ⟨w2.heap.size, 0, none⟩) 1 1)).setCell ⟨w.heap.size + 1, 3, none⟩ (.slice (some ⟨w2.heap.size + 1, 0, none⟩) 1 1)).setCell ⟨w.heap.size, 0, none⟩ (.int .i64 long)).setCell ⟨w.heap.size, 1, none⟩ (.int .i64 (forS long))).setCell ⟨w.heap.size, 2, none⟩ (.slice (some ⟨w2.heap.size, 0, none⟩) 1 1)).setCell ⟨w.heap.size, 3, none⟩ (.slice (some ⟨w2.heap.size + 1, 0, none⟩) 1 1)).heap.size = w2.heap.size := by simp
        have bW := below_set' (below_set' (below_set' (below_set' (below_set' (below_set' B2.out (p := ⟨w.heap.size + 1, 2, none⟩) (by simp) (.slice (some ⟨w2.heap.size, 0, none⟩) 1 1)) (p := ⟨w.heap.size + 1, 3, none⟩) (by simp) (.slice (some ⟨w2.heap.size + 1, 0, none⟩) 1 1)) (p := ⟨w.heap.size, 0, none⟩) (by simp) (.int .i64 long)) (p := ⟨w.heap.size, 1, none⟩) (by simp) (.int .i64 (forS long))) (p := ⟨w.heap.size, 2, none⟩) (by simp) (.slice (some ⟨w2.heap.size, 0, none⟩) 1 1)) (p := ⟨w.heap.size, 3, none⟩) (by simp) (.slice (some ⟨w2.heap.size + 1, 0, none⟩) 1 1)
        have bF := below_cat' bW (below2' _ (.cells #[.int .i64 (forN long)] 3) (.cells #[.int .i64 1] 3))
        have l1 := kept (laid ((((((w2.setCell ⟨w.heap.size + 1, 2, none⟩ (.slice (some ⟨w2.heap.size, 0, none⟩) 1 1)).setCell ⟨w.heap.size + 1, 3, none⟩ (.slice (some ⟨w2.heap.size + 1, 0, none⟩) 1 1)).setCell ⟨w.heap.size, 0, none⟩ (.int .i64 long)).setCell ⟨w.heap.size, 1, none⟩ (.int .i64 (forS long))).setCell ⟨w.heap.size, 2, none⟩ (.slice (some ⟨w2.heap.size, 0, none⟩) 1 1)).setCell ⟨w.heap.size, 3, none⟩ (.slice (some ⟨w2.heap.size + 1, 0, none⟩) 1 1)) #[.int .i64 (forN long)] 3) (below_alloc' _ (.cells #[.int .i64 1] 3))
        have l2 := laid (((((((w2.setCell ⟨w.heap.size + 1, 2, none⟩ (.slice (some ⟨w2.heap.size, 0, none⟩) 1 1)).setCell ⟨w.heap.size + 1, 3, none⟩ (.slice (some ⟨w2.heap.size + 1, 0, none⟩) 1 1)).setCell ⟨w.heap.size, 0, none⟩ (.int .i64 long)).setCell ⟨w.heap.size, 1, none⟩ (.int .i64 (forS long))).setCell ⟨w.heap.size, 2, none⟩ (.slice (some ⟨w2.heap.size, 0, none⟩) 1 1)).setCell ⟨w.heap.size, 3, none⟩ (.slice (some ⟨w2.heap.size + 1, 0, none⟩) 1 1)).alloc (.cells #[.int .i64 (forN long)] 3)) #[.int .i64 1] 3
        rw [zW] at l1
        rw [show (World.alloc _ _).heap.size = w2.heap.size + 1 from by rw [World.size_alloc', zW]] at l2
        have r0 := kept (kept (set_block (set_block (set_block (set_block (set_other (g := w.heap.size + 1) (set_other (g := w.heap.size + 1) R2.out (by omega) 2 (.slice (some ⟨w2.heap.size, 0, none⟩) 1 1)) (by omega) 3 (.slice (some ⟨w2.heap.size + 1, 0, none⟩) 1 1)) 0 (.int .i64 long)) 1 (.int .i64 (forS long))) 2 (.slice (some ⟨w2.heap.size, 0, none⟩) 1 1)) 3 (.slice (some ⟨w2.heap.size + 1, 0, none⟩) 1 1)) (below_alloc' _ (.cells #[.int .i64 (forN long)] 3))) (below_alloc' _ (.cells #[.int .i64 1] 3))
        have q0 := box_cell r0 0 (v := .int .i64 long) rfl
        have q1 := box_cell r0 1 (v := .int .i64 (forS long)) rfl
        have q2 := box_cell r0 2 (v := (.slice (some ⟨w2.heap.size, 0, none⟩) 1 1)) rfl
        have q3 := box_cell r0 3 (v := (.slice (some ⟨w2.heap.size + 1, 0, none⟩) 1 1)) rfl
        refine bodyPost_ret (v := .agg #[.int .i64 long, .int .i64 (forS long), (.slice (some ⟨w2.heap.size, 0, none⟩) 1 1), (.slice (some ⟨w2.heap.size + 1, 0, none⟩) 1 1)]) ?_ rfl ⟨_, rfl, ⟨_, _, rfl, ?_, ?_, apart_of (by omega)⟩, bF⟩
        · unfold results; rw [Try.results22]; simp [go_sem, q0, q1, q2, q3]
        · rw [eW.out]; exact own_laid [forN long] l1 (by omega) (by simp)
        · rw [eG.out]; exact own_laid [1] l2 (by omega) (by simp)

theorem planO_slices {w : World} {base : Nat} {long size : Int} {ws gs : List Int} {v : Value} (h : PlanO w base long size ws gs v) : ∃ a1 c1 a2 c2, v = .agg #[.int .i64 long, .int .i64 size, .slice a1 ws.length c1, .slice a2 gs.length c2] ∧
    w.ownsRow base 3 1 (.slice a1 ws.length c1) ws.length (ws.map (Value.int .i64)) ∧ w.ownsRow base 3 1 (.slice a2 gs.length c2) gs.length (gs.map (Value.int .i64)) ∧ Apart (.slice a1 ws.length c1) (.slice a2 gs.length c2) := by
  obtain ⟨v1, v2, rfl, o1, o2, ap⟩ := h
  obtain ⟨a1, c1, rfl⟩ := owns_slice o1
  obtain ⟨a2, c2, rfl⟩ := owns_slice o2
  exact ⟨a1, c1, a2, c2, rfl, o1, o2, ap⟩

theorem specPlanFor_out (long : Int) (w : World) (h : ¬ (1 ≤ long ∧ long ≤ 300)) :
    Calls Try.prog 8 #[.int .i64 long] w fun e w' => ∃ v, e = .returned v ∧ PlanO w' w.heap.size 0 0 [] [] v ∧ Below w.heap.size w w' := by
  go_enter Try.func8, Try.ntmps8
  go_wp2_with fail
  refine (l1In_no long 1 300 _ (by omega)).mono ?_
  rintro e w0 ⟨rfl, rfl⟩
  go_wp2_with fail
  exact bodyPost_ret (v := .agg #[.int .i64 0, .int .i64 0, .slice none 0 0, .slice none 0 0]) (by simp [results, Try.results8, go_sem]) rfl ⟨_, rfl, planO_nil _ _, (Below.refl _ _).alloc (Nat.le_refl _) _⟩

set_option maxHeartbeats 1000000 in
theorem specPlanFor_in (long : Int) (w : World) (h1 : 1 ≤ long) (h2 : long ≤ 300) :
    Calls Try.prog 8 #[.int .i64 long] w fun e w' => ∃ v, e = .returned v ∧ PlanO w' w.heap.size long (forS long) (forW long) (forG long) v ∧ Below w.heap.size w w' := by
  go_enter Try.func8, Try.ntmps8
  go_wp2_with fail
  refine (l1In_yes long 1 300 _ (by omega)).mono ?_
  rintro e w0 ⟨rfl, rfl⟩
  go_wp2_with fail
  refine (l5For_in long _ h1 h2).mono ?_
  rintro e w1 ⟨v, rfl, ho, b1⟩
  obtain ⟨a1, c1, a2, c2, rfl, o1, o2, ap⟩ := planO_slices ho
  have R1 := hid (kept (laid w #[.int .i64 0, .int .i64 0, .slice none 0 0, .slice none 0 0] 26) b1)
  have B1 := hid (below_cat' (below_alloc' _ _) b1)
  have O1 := hid o1
  have O2 := hid o2
  have AP := hid ap
  clear b1 ho o1 o2 ap
  have r0 := box_cell R1.out 0 (v := .int .i64 0) rfl
  have r1 := box_cell R1.out 1 (v := .int .i64 0) rfl
  have r2 := box_cell R1.out 2 (v := .slice none 0 0) rfl
  have r3 := box_cell R1.out 3 (v := .slice none 0 0) rfl
  have e0 := box_frozen R1.out 0
  have e1 := box_frozen R1.out 1
  have e2 := box_frozen R1.out 2
  have e3 := box_frozen R1.out 3
  go_wp2_with fail
  have rr := set_block (set_block (set_block (set_block R1.out 0 (.int .i64 long)) 1 (.int .i64 (forS long))) 2 (.slice a1 (forW long).length c1)) 3 (.slice a2 (forG long).length c2)
  have q0 := box_cell rr 0 (v := .int .i64 long) rfl
  have q1 := box_cell rr 1 (v := .int .i64 (forS long)) rfl
  have q2 := box_cell rr 2 (v := .slice a1 (forW long).length c1) rfl
  have q3 := box_cell rr 3 (v := .slice a2 (forG long).length c2) rfl
  have bF := below_set' (below_set' (below_set' (below_set' B1.out (p := ⟨w.heap.size, 0, none⟩) (by simp) (.int .i64 long)) (p := ⟨w.heap.size, 1, none⟩) (by simp) (.int .i64 (forS long))) (p := ⟨w.heap.size, 2, none⟩) (by simp) (.slice a1 (forW long).length c1)) (p := ⟨w.heap.size, 3, none⟩) (by simp) (.slice a2 (forG long).length c2)
  have t1 := (Touch.setCell _ ⟨w.heap.size, 3, none⟩ (.slice a2 (forG long).length c2)).owns ((Touch.setCell _ ⟨w.heap.size, 2, none⟩ (.slice a1 (forW long).length c1)).owns ((Touch.setCell _ ⟨w.heap.size, 1, none⟩ (.int .i64 (forS long))).owns ((Touch.setCell w1 ⟨w.heap.size, 0, none⟩ (.int .i64 long)).owns O1.out (by simp)) (by simp)) (by simp)) (by simp)
  have t2 := (Touch.setCell _ ⟨w.heap.size, 3, none⟩ (.slice a2 (forG long).length c2)).owns ((Touch.setCell _ ⟨w.heap.size, 2, none⟩ (.slice a1 (forW long).length c1)).owns ((Touch.setCell _ ⟨w.heap.size, 1, none⟩ (.int .i64 (forS long))).owns ((Touch.setCell w1 ⟨w.heap.size, 0, none⟩ (.int .i64 long)).owns O2.out (by simp)) (by simp)) (by simp)) (by simp)
  refine bodyPost_ret (v := .agg #[.int .i64 long, .int .i64 (forS long), .slice a1 (forW long).length c1, .slice a2 (forG long).length c2]) ?_ rfl ⟨_, rfl, ⟨_, _, rfl, owns_base t1 (by simp), owns_base t2 (by simp), AP.out⟩, bF⟩
  unfold results; rw [Try.results8]; simp [go_sem, q0, q1, q2, q3]
end Go.Proofs.Ytefopoefknckcaa
