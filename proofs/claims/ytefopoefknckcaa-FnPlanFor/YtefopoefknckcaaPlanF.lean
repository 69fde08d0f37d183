/- The plan for a length, by the model and by the program. -/
import Derived.Test.YtefopoefknckcaaPlanI
import Derived.Test.YtefopoefknckcaaQB
namespace Go.Proofs.Ytefopoefknckcaa
open Go.ChangeShapes Go.WideShapes Go.ChangeAt Go.RowKit Go.Sort

/-- The size, how many blocks, the first quarter of them. -/
def forS (long : Int) : Int := max 8 (cntI long 24)
def forN (long : Int) : Int := cntI long (forS long)
def forK (long : Int) : Int := cntI (forN long) 4
def forW (long : Int) : List Int := if forK long < forN long then [forK long, forN long] else [forN long]
def forG (long : Int) : List Int := if forK long < forN long then [2, 3] else [1]

/-- A plan of the call's own. -/
def PlanO (w : World) (base : Nat) (long size : Int) (ws gs : List Int) (v : Value) : Prop :=
  ∃ v1 v2, v = .agg #[.int .i64 long, .int .i64 size, v1, v2] ∧ w.ownsRow base 3 1 v1 ws.length (ws.map (Value.int .i64)) ∧ w.ownsRow base 3 1 v2 gs.length (gs.map (Value.int .i64)) ∧ Apart v1 v2

theorem cntI_24 (long : Int) (h1 : 1 ≤ long) (h2 : long ≤ 300) : 1 ≤ cntI long 24 ∧ cntI long 24 ≤ 13 := by unfold cntI; omega
theorem forS_bd (long : Int) (h1 : 1 ≤ long) (h2 : long ≤ 300) : 8 ≤ forS long ∧ forS long ≤ 13 := by
  have := cntI_24 long h1 h2
  unfold forS; omega
/-- As long as there are too many blocks a block is too small. -/
theorem for_step (long s : Int) (_h1 : 1 ≤ long) (_h2 : long ≤ 300) (h3 : 1 ≤ s) : 24 < cntI long s ↔ s < cntI long 24 := by
  unfold cntI
  rw [Int.lt_iff_add_one_le, Int.le_ediv_iff_mul_le (by omega)]
  omega
theorem own_laid {w : World} {base g : Nat} (xs : List Int) (h : w.heap[g]? = some (.cells (xs.map (Value.int .i64)).toArray 3 (0, 0))) (hb : base ≤ g) (hx : xs.length ≤ 1000) :
    w.ownsRow base 3 1 (.slice (some ⟨g, 0, none⟩) xs.length xs.length) xs.length (xs.map (Value.int .i64)) :=
  ⟨by simp, Or.inr ⟨g, xs.length, _, rfl, hb, h, Nat.le_refl _, by unfold maxLen; omega, by simp, by simp [List.take_of_length_le]⟩⟩
theorem apart_of {g1 g2 n1 c1 n2 c2 : Nat} (h : g1 ≠ g2) : Apart (.slice (some ⟨g1, 0, none⟩) n1 c1) (.slice (some ⟨g2, 0, none⟩) n2 c2) :=
  ⟨fun k a b => by simp [Value.ownBlock] at a b; omega, fun k a b => by simp [Value.ownBlock] at a b; omega⟩
theorem planO_nil (w : World) (base : Nat) : PlanO w base 0 0 [] [] (.agg #[.int .i64 0, .int .i64 0, .slice none 0 0, .slice none 0 0]) :=
  ⟨_, _, rfl, World.ownsRow_nil _ _ _ _, World.ownsRow_nil _ _ _ _, fun k a => by simp [Value.ownBlock] at a, fun k a => by simp [Value.ownBlock] at a⟩

theorem implPlanFor_out (long : Int) (w : World) (h : ¬ (1 ≤ long ∧ long ≤ 300)) :
    Calls Try.prog 6 #[.int .i64 long] w fun e w' => ∃ v, e = .returned v ∧ PlanO w' w.heap.size 0 0 [] [] v ∧ Below w.heap.size w w' := by
  have h' := hid (decide_eq_false h)
  clear h
  go_enter Try.func6, Try.ntmps6
  go_wp2_with fail
  refine (longOk_any long _).mono ?_
  rintro e w0 ⟨rfl, rfl⟩
  rw [h'.out]
  go_wp2_with fail
  exact bodyPost_ret (v := .agg #[.int .i64 0, .int .i64 0, .slice none 0 0, .slice none 0 0]) (by simp [results, Try.results6, go_sem]) rfl ⟨_, rfl, planO_nil _ _, (Below.refl _ _).alloc (Nat.le_refl _) _⟩

theorem World.size_alloc' (w : World) (o : Obj) : (w.alloc o).heap.size = w.heap.size + 1 := by simp
theorem below_set' {w w' : World} (h : Below w.heap.size w w') {p : Addr} (hp : w.heap.size ≤ p.block) (u : Value) : Below w.heap.size w (w'.setCell p u) := h.setCell hp u
theorem below2' (w : World) (a b : Obj) : Below w.heap.size w ((w.alloc a).alloc b) :=
  ((Below.refl _ _).alloc (Nat.le_refl _) _).alloc (by simp) _
set_option maxHeartbeats 1000000 in
theorem implPlanFor_in (long : Int) (w : World) (h1 : 1 ≤ long) (h2 : long ≤ 300) :
    Calls Try.prog 6 #[.int .i64 long] w fun e w' => ∃ v, e = .returned v ∧ PlanO w' w.heap.size long (forS long) (forW long) (forG long) v ∧ Below w.heap.size w w' := by
  have h' := hid (decide_eq_true (show 1 ≤ long ∧ long ≤ 300 from ⟨h1, h2⟩))
  have hs := forS_bd long h1 h2
  have hc := cntI_24 long h1 h2
  have hn := cnt_pos long (forS long) h1 (by omega)
  have hn2 := cnt_le long (forS long) h1 (by omega) h2
  obtain ⟨hs1, hs2⟩ := hs
  obtain ⟨hc1, hc2⟩ := hc
  by_cases hm : 8 < cntI long 24
  · have hS : forS long = cntI long 24 := by unfold forS; omega
    rw [hS] at hn hn2
    have HS := hid hS
    clear hS hs1 hs2
    go_enter Try.func6, Try.ntmps6
    go_wp2_with fail
    refine (longOk_any long _).mono ?_
    rintro e w0 ⟨rfl, rfl⟩
    rw [h'.out]
    go_wp2_with fail
    refine (divideUp_any long 24 _ h1 (by omega) (by omega) (by omega)).mono ?_
    rintro e w0 ⟨rfl, rfl⟩
    go_wp2_with fail
    refine (implCount long (cntI long 24) _ _ _ _ _ _ _ h1 h2 (by omega) (by omega)).mono ?_
    rintro e w1 ⟨rfl, b1⟩
    have X1 := hid (kept (laid (w.alloc (.cells #[.int .i64 0, .int .i64 0, .slice none 0 0, .slice none 0 0] 26)) #[.int .i64 long, .int .i64 (cntI long 24), .slice none 0 0, .slice none 0 0] 26) b1)
    have R1 := hid (kept (kept (laid w #[.int .i64 0, .int .i64 0, .slice none 0 0, .slice none 0 0] 26) (below_alloc' _ (.cells #[.int .i64 long, .int .i64 (cntI long 24), .slice none 0 0, .slice none 0 0] 26))) b1)
    obtain ⟨hcA, hfA⟩ := bcell b1
    have hz1 : w.heap.size + 1 < w1.heap.size := by have := b1.size; simp at this; omega
    have hz2 : w.heap.size < w1.heap.size := by omega
    have B1 := hid (below_cat' (below2' _ _ _) b1)
    clear b1
    go_wp2_with fail
    refine (divideUp_any (cntI long (cntI long 24)) 4 _ (by omega) (by omega) (by omega) (by omega)).mono ?_
    rintro e w0 ⟨rfl, rfl⟩
    by_cases hk : cntI (cntI long (cntI long 24)) 4 < cntI long (cntI long 24)
    · have eW := hid (show forW long = [cntI (cntI long (cntI long 24)) 4, cntI long (cntI long 24)] by unfold forW; rw [if_pos (by unfold forK forN; rw [HS.out]; exact hk)]; unfold forK forN; rw [HS.out])
      have eG := hid (show forG long = [2, 3] by unfold forG; rw [if_pos (by unfold forK forN; rw [HS.out]; exact hk)])
      go_wp2_with fail
      have zW : ((((((w0.setCell ⟨w.heap.size + 1, 2, none⟩ (.slice (some ⟨w0.heap.size, 0, none⟩) 2 2)).setCell ⟨w.heap.size + 1, 3, none⟩ (.slice (some ⟨w0.heap.size + 1, 0, none⟩) 2 2)).setCell ⟨w.heap.size, 0, none⟩ (.int .i64 long)).setCell ⟨w.heap.size, 1, none⟩ (.int .i64 (cntI long 24))).setCell ⟨w.heap.size, 2, none⟩ (.slice (some ⟨w0.heap.size, 0, none⟩) 2 2)).setCell ⟨w.heap.size, 3, none⟩ (.slice (some ⟨w0.heap.size + 1, 0, none⟩) 2 2)).heap.size = w0.heap.size := by simp
      have bW := below_set' (below_set' (below_set' (below_set' (below_set' (below_set' B1.out (p := ⟨w.heap.size + 1, 2, none⟩) (by simp) (.slice (some ⟨w0.heap.size, 0, none⟩) 2 2)) (p := ⟨w.heap.size + 1, 3, none⟩) (by simp) (.slice (some ⟨w0.heap.size + 1, 0, none⟩) 2 2)) (p := ⟨w.heap.size, 0, none⟩) (by simp) (.int .i64 long)) (p := ⟨w.heap.size, 1, none⟩) (by simp) (.int .i64 (cntI long 24))) (p := ⟨w.heap.size, 2, none⟩) (by simp) (.slice (some ⟨w0.heap.size, 0, none⟩) 2 2)) (p := ⟨w.heap.size, 3, none⟩) (by simp) (.slice (some ⟨w0.heap.size + 1, 0, none⟩) 2 2)
      have bF := below_cat' bW (below2' _ (.cells #[.int .i64 (cntI (cntI long (cntI long 24)) 4), .int .i64 (cntI long (cntI long 24))] 3) (.cells #[.int .i64 2, .int .i64 3] 3))
      have l1 := kept (laid ((((((w0.setCell ⟨w.heap.size + 1, 2, none⟩ (.slice (some ⟨w0.heap.size, 0, none⟩) 2 2)).setCell ⟨w.heap.size + 1, 3, none⟩ (.slice (some ⟨w0.heap.size + 1, 0, none⟩) 2 2)).setCell ⟨w.heap.size, 0, none⟩ (.int .i64 long)).setCell ⟨w.heap.size, 1, none⟩ (.int .i64 (cntI long 24))).setCell ⟨w.heap.size, 2, none⟩ (.slice (some ⟨w0.heap.size, 0, none⟩) 2 2)).setCell ⟨w.heap.size, 3, none⟩ (.slice (some ⟨w0.heap.size + 1, 0, none⟩) 2 2)) #[.int .i64 (cntI (cntI long (cntI long 24)) 4), .int .i64 (cntI long (cntI long 24))] 3) (below_alloc' _ (.cells #[.int .i64 2, .int .i64 3] 3))
      have l2 := laid (((((((w0.setCell ⟨w.heap.size + 1, 2, none⟩ (.slice (some ⟨w0.heap.size, 0, none⟩) 2 2)).setCell ⟨w.heap.size + 1, 3, none⟩ (.slice (some ⟨w0.heap.size + 1, 0, none⟩) 2 2)).setCell ⟨w.heap.size, 0, none⟩ (.int .i64 long)).setCell ⟨w.heap.size, 1, none⟩ (.int .i64 (cntI long 24))).setCell ⟨w.heap.size, 2, none⟩ (.slice (some ⟨w0.heap.size, 0, none⟩) 2 2)).setCell ⟨w.heap.size, 3, none⟩ (.slice (some ⟨w0.heap.size + 1, 0, none⟩) 2 2)).alloc (.cells #[.int .i64 (cntI (cntI long (cntI long 24)) 4), .int .i64 (cntI long (cntI long 24))] 3)) #[.int .i64 2, .int .i64 3] 3
      rw [zW] at l1
      rw [show (World.alloc _ _).heap.size = w0.heap.size + 1 from by rw [World.size_alloc', zW]] at l2
      have r0 := kept (kept (set_block (set_block (set_block (set_block (set_other (g := w.heap.size + 1) (set_other (g := w.heap.size + 1) R1.out (by omega) 2 (.slice (some ⟨w0.heap.size, 0, none⟩) 2 2)) (by omega) 3 (.slice (some ⟨w0.heap.size + 1, 0, none⟩) 2 2)) 0 (.int .i64 long)) 1 (.int .i64 (cntI long 24))) 2 (.slice (some ⟨w0.heap.size, 0, none⟩) 2 2)) 3 (.slice (some ⟨w0.heap.size + 1, 0, none⟩) 2 2)) (below_alloc' _ (.cells #[.int .i64 (cntI (cntI long (cntI long 24)) 4), .int .i64 (cntI long (cntI long 24))] 3))) (below_alloc' _ (.cells #[.int .i64 2, .int .i64 3] 3))
      have q0 := box_cell r0 0 (v := .int .i64 long) rfl
      have q1 := box_cell r0 1 (v := .int .i64 (cntI long 24)) rfl
      have q2 := box_cell r0 2 (v := (.slice (some ⟨w0.heap.size, 0, none⟩) 2 2)) rfl
      have q3 := box_cell r0 3 (v := (.slice (some ⟨w0.heap.size + 1, 0, none⟩) 2 2)) rfl
      refine bodyPost_ret (v := .agg #[.int .i64 long, .int .i64 (cntI long 24), (.slice (some ⟨w0.heap.size, 0, none⟩) 2 2), (.slice (some ⟨w0.heap.size + 1, 0, none⟩) 2 2)]) ?_ rfl ⟨_, rfl, ⟨_, _, by rw [HS.out], ?_, ?_, apart_of (by omega)⟩, bF⟩
      · unfold results; rw [Try.results6]; simp [go_sem, q0, q1, q2, q3]
      · rw [eW.out]; exact own_laid [cntI (cntI long (cntI long 24)) 4, cntI long (cntI long 24)] l1 (by omega) (by simp)
      · rw [eG.out]; exact own_laid [2, 3] l2 (by omega) (by simp)
    · have eW := hid (show forW long = [cntI long (cntI long 24)] by unfold forW; rw [if_neg (by unfold forK forN; rw [HS.out]; exact hk)]; unfold forN; rw [HS.out])
      have eG := hid (show forG long = [1] by unfold forG; rw [if_neg (by unfold forK forN; rw [HS.out]; exact hk)])
      go_wp2_with fail
      have zW : ((((((w0.setCell ⟨w.heap.size + 1, 2, none⟩ (.slice (some ⟨w0.heap.size, 0, none⟩) 1 1)).setCell ⟨w.heap.size + 1, 3, none⟩ (.slice (some ⟨w0.heap.size + 1, 0, none⟩) 1 1)).setCell ⟨w.heap.size, 0, none⟩ (.int .i64 long)).setCell ⟨w.heap.size, 1, none⟩ (.int .i64 (cntI long 24))).setCell ⟨w.heap.size, 2, none⟩ (.slice (some ⟨w0.heap.size, 0, none⟩) 1 1)).setCell ⟨w.heap.size, 3, none⟩ (.slice (some ⟨w0.heap.size + 1, 0, none⟩) 1 1)).heap.size = w0.heap.size := by simp
      have bW := below_set' (below_set' (below_set' (below_set' (below_set' (below_set' B1.out (p := ⟨w.heap.size + 1, 2, none⟩) (by simp) (.slice (some ⟨w0.heap.size, 0, none⟩) 1 1)) (p := ⟨w.heap.size + 1, 3, none⟩) (by simp) (.slice (some ⟨w0.heap.size + 1, 0, none⟩) 1 1)) (p := ⟨w.heap.size, 0, none⟩) (by simp) (.int .i64 long)) (p := ⟨w.heap.size, 1, none⟩) (by simp) (.int .i64 (cntI long 24))) (p := ⟨w.heap.size, 2, none⟩) (by simp) (.slice (some ⟨w0.heap.size, 0, none⟩) 1 1)) (p := ⟨w.heap.size, 3, none⟩) (by simp) (.slice (some ⟨w0.heap.size + 1, 0, none⟩) 1 1)
      have bF := below_cat' bW (below2' _ (.cells #[.int .i64 (cntI long (cntI long 24))] 3) (.cells #[.int .i64 1] 3))
      have l1 := kept (laid ((((((w0.setCell ⟨w.heap.size + 1, 2, none⟩ (.slice (some ⟨w0.heap.size, 0, none⟩) 1 1)).setCell ⟨w.heap.size + 1, 3, none⟩ (.slice (some ⟨w0.heap.size + 1, 0, none⟩) 1 1)).setCell ⟨w.heap.size, 0, none⟩ (.int .i64 long)).setCell ⟨w.heap.size, 1, none⟩ (.int .i64 (cntI long 24))).setCell ⟨w.heap.size, 2, none⟩ (.slice (some ⟨w0.heap.size, 0, none⟩) 1 1)).setCell ⟨w.heap.size, 3, none⟩ (.slice (some ⟨w0.heap.size + 1, 0, none⟩) 1 1)) #[.int .i64 (cntI long (cntI long 24))] 3) (below_alloc' _ (.cells #[.int .i64 1] 3))
      have l2 := laid (((((((w0.setCell ⟨w.heap.size + 1, 2, none⟩ (.slice (some ⟨w0.heap.size, 0, none⟩) 1 1)).setCell ⟨w.heap.size + 1, 3, none⟩ (.slice (some ⟨w0.heap.size + 1, 0, none⟩) 1 1)).setCell ⟨w.heap.size, 0, none⟩ (.int .i64 long)).setCell ⟨w.heap.size, 1, none⟩ (.int .i64 (cntI long 24))).setCell ⟨w.heap.size, 2, none⟩ (.slice (some ⟨w0.heap.size, 0, none⟩) 1 1)).setCell ⟨w.heap.size, 3, none⟩ (.slice (some ⟨w0.heap.size + 1, 0, none⟩) 1 1)).alloc (.cells #[.int .i64 (cntI long (cntI long 24))] 3)) #[.int .i64 1] 3
      rw [zW] at l1
      rw [show (World.alloc _ _).heap.size = w0.heap.size + 1 from by rw [World.size_alloc', zW]] at l2
      have r0 := kept (kept (set_block (set_block (set_block (set_block (set_other (g := w.heap.size + 1) (set_other (g := w.heap.size + 1) R1.out (by omega) 2 (.slice (some ⟨w0.heap.size, 0, none⟩) 1 1)) (by omega) 3 (.slice (some ⟨w0.heap.size + 1, 0, none⟩) 1 1)) 0 (.int .i64 long)) 1 (.int .i64 (cntI long 24))) 2 (.slice (some ⟨w0.heap.size, 0, none⟩) 1 1)) 3 (.slice (some ⟨w0.heap.size + 1, 0, none⟩) 1 1)) (below_alloc' _ (.cells #[.int .i64 (cntI long (cntI long 24))] 3))) (below_alloc' _ (.cells #[.int .i64 1] 3))
      have q0 := box_cell r0 0 (v := .int .i64 long) rfl
      have q1 := box_cell r0 1 (v := .int .i64 (cntI long 24)) rfl
      have q2 := box_cell r0 2 (v := (.slice (some ⟨w0.heap.size, 0, none⟩) 1 1)) rfl
      have q3 := box_cell r0 3 (v := (.slice (some ⟨w0.heap.size + 1, 0, none⟩) 1 1)) rfl
      refine bodyPost_ret (v := .agg #[.int .i64 long, .int .i64 (cntI long 24), (.slice (some ⟨w0.heap.size, 0, none⟩) 1 1), (.slice (some ⟨w0.heap.size + 1, 0, none⟩) 1 1)]) ?_ rfl ⟨_, rfl, ⟨_, _, by rw [HS.out], ?_, ?_, apart_of (by omega)⟩, bF⟩
      · unfold results; rw [Try.results6]; simp [go_sem, q0, q1, q2, q3]
      · rw [eW.out]; exact own_laid [cntI long (cntI long 24)] l1 (by omega) (by simp)
      · rw [eG.out]; exact own_laid [1] l2 (by omega) (by simp)
  · have hS : forS long = 8 := by unfold forS; omega
    rw [hS] at hn hn2
    have HS := hid hS
    clear hS hs1 hs2
    go_enter Try.func6, Try.ntmps6
    go_wp2_with fail
    refine (longOk_any long _).mono ?_
    rintro e w0 ⟨rfl, rfl⟩
    rw [h'.out]
    go_wp2_with fail
    refine (divideUp_any long 24 _ h1 (by omega) (by omega) (by omega)).mono ?_
    rintro e w0 ⟨rfl, rfl⟩
    go_wp2_with fail
    refine (implCount long 8 _ _ _ _ _ _ _ h1 h2 (by omega) (by omega)).mono ?_
    rintro e w1 ⟨rfl, b1⟩
    have X1 := hid (kept (laid (w.alloc (.cells #[.int .i64 0, .int .i64 0, .slice none 0 0, .slice none 0 0] 26)) #[.int .i64 long, .int .i64 8, .slice none 0 0, .slice none 0 0] 26) b1)
    have R1 := hid (kept (kept (laid w #[.int .i64 0, .int .i64 0, .slice none 0 0, .slice none 0 0] 26) (below_alloc' _ (.cells #[.int .i64 long, .int .i64 8, .slice none 0 0, .slice none 0 0] 26))) b1)
    obtain ⟨hcA, hfA⟩ := bcell b1
    have hz1 : w.heap.size + 1 < w1.heap.size := by have := b1.size; simp at this; omega
    have hz2 : w.heap.size < w1.heap.size := by omega
    have B1 := hid (below_cat' (below2' _ _ _) b1)
    clear b1
    go_wp2_with fail
    refine (divideUp_any (cntI long 8) 4 _ (by omega) (by omega) (by omega) (by omega)).mono ?_
    rintro e w0 ⟨rfl, rfl⟩
    by_cases hk : cntI (cntI long 8) 4 < cntI long 8
    · have eW := hid (show forW long = [cntI (cntI long 8) 4, cntI long 8] by unfold forW; rw [if_pos (by unfold forK forN; rw [HS.out]; exact hk)]; unfold forK forN; rw [HS.out])
      have eG := hid (show forG long = [2, 3] by unfold forG; rw [if_pos (by unfold forK forN; rw [HS.out]; exact hk)])
      go_wp2_with fail
      have zW : ((((((w0.setCell ⟨w.heap.size + 1, 2, none⟩ (.slice (some ⟨w0.heap.size, 0, none⟩) 2 2)).setCell ⟨w.heap.size + 1, 3, none⟩ (.slice (some ⟨w0.heap.size + 1, 0, none⟩) 2 2)).setCell ⟨w.heap.size, 0, none⟩ (.int .i64 long)).setCell ⟨w.heap.size, 1, none⟩ (.int .i64 8)).setCell ⟨w.heap.size, 2, none⟩ (.slice (some ⟨w0.heap.size, 0, none⟩) 2 2)).setCell ⟨w.heap.size, 3, none⟩ (.slice (some ⟨w0.heap.size + 1, 0, none⟩) 2 2)).heap.size = w0.heap.size := by simp
      have bW := below_set' (below_set' (below_set' (below_set' (below_set' (below_set' B1.out (p := ⟨w.heap.size + 1, 2, none⟩) (by simp) (.slice (some ⟨w0.heap.size, 0, none⟩) 2 2)) (p := ⟨w.heap.size + 1, 3, none⟩) (by simp) (.slice (some ⟨w0.heap.size + 1, 0, none⟩) 2 2)) (p := ⟨w.heap.size, 0, none⟩) (by simp) (.int .i64 long)) (p := ⟨w.heap.size, 1, none⟩) (by simp) (.int .i64 8)) (p := ⟨w.heap.size, 2, none⟩) (by simp) (.slice (some ⟨w0.heap.size, 0, none⟩) 2 2)) (p := ⟨w.heap.size, 3, none⟩) (by simp) (.slice (some ⟨w0.heap.size + 1, 0, none⟩) 2 2)
      have bF := below_cat' bW (below2' _ (.cells #[.int .i64 (cntI (cntI long 8) 4), .int .i64 (cntI long 8)] 3) (.cells #[.int .i64 2, .int .i64 3] 3))
      have l1 := kept (laid ((((((w0.setCell ⟨w.heap.size + 1, 2, none⟩ (.slice (some ⟨w0.heap.size, 0, none⟩) 2 2)).setCell ⟨w.heap.size + 1, 3, none⟩ (.slice (some ⟨w0.heap.size + 1, 0, none⟩) 2 2)).setCell ⟨w.heap.size, 0, none⟩ (.int .i64 long)).setCell ⟨w.heap.size, 1, none⟩ (.int .i64 8)).setCell ⟨w.heap.size, 2, none⟩ (.slice (some ⟨w0.heap.size, 0, none⟩) 2 2)).setCell ⟨w.heap.size, 3, none⟩ (.slice (some ⟨w0.heap.size + 1, 0, none⟩) 2 2)) #[.int .i64 (cntI (cntI long 8) 4), .int .i64 (cntI long 8)] 3) (below_alloc' _ (.cells #[.int .i64 2, .int .i64 3] 3))
      have l2 := laid (((((((w0.setCell ⟨w.heap.size + 1, 2, none⟩ (.slice (some ⟨w0.heap.size, 0, none⟩) 2 2)).setCell ⟨w.heap.size + 1, 3, none⟩ (.slice (some ⟨w0.heap.size + 1, 0, none⟩) 2 2)).setCell ⟨w.heap.size, 0, none⟩ (.int .i64 long)).setCell ⟨w.heap.size, 1, none⟩ (.int .i64 8)).setCell ⟨w.heap.size, 2, none⟩ (.slice (some ⟨w0.heap.size, 0, none⟩) 2 2)).setCell ⟨w.heap.size, 3, none⟩ (.slice (some ⟨w0.heap.size + 1, 0, none⟩) 2 2)).alloc (.cells #[.int .i64 (cntI (cntI long 8) 4), .int .i64 (cntI long 8)] 3)) #[.int .i64 2, .int .i64 3] 3
      rw [zW] at l1
      rw [show (World.alloc _ _).heap.size = w0.heap.size + 1 from by rw [World.size_alloc', zW]] at l2
      have r0 := kept (kept (set_block (set_block (set_block (set_block (set_other (g := w.heap.size + 1) (set_other (g := w.heap.size + 1) R1.out (by omega) 2 (.slice (some ⟨w0.heap.size, 0, none⟩) 2 2)) (by omega) 3 (.slice (some ⟨w0.heap.size + 1, 0, none⟩) 2 2)) 0 (.int .i64 long)) 1 (.int .i64 8)) 2 (.slice (some ⟨w0.heap.size, 0, none⟩) 2 2)) 3 (.slice (some ⟨w0.heap.size + 1, 0, none⟩) 2 2)) (below_alloc' _ (.cells #[.int .i64 (cntI (cntI long 8) 4), .int .i64 (cntI long 8)] 3))) (below_alloc' _ (.cells #[.int .i64 2, .int .i64 3] 3))
      have q0 := box_cell r0 0 (v := .int .i64 long) rfl
      have q1 := box_cell r0 1 (v := .int .i64 8) rfl
      have q2 := box_cell r0 2 (v := (.slice (some ⟨w0.heap.size, 0, none⟩) 2 2)) rfl
      have q3 := box_cell r0 3 (v := (.slice (some ⟨w0.heap.size + 1, 0, none⟩) 2 2)) rfl
      refine bodyPost_ret (v := .agg #[.int .i64 long, .int .i64 8, (.slice (some ⟨w0.heap.size, 0, none⟩) 2 2), (.slice (some ⟨w0.heap.size + 1, 0, none⟩) 2 2)]) ?_ rfl ⟨_, rfl, ⟨_, _, by rw [HS.out], ?_, ?_, apart_of (by omega)⟩, bF⟩
      · unfold results; rw [Try.results6]; simp [go_sem, q0, q1, q2, q3]
      · rw [eW.out]; exact own_laid [cntI (cntI long 8) 4, cntI long 8] l1 (by omega) (by simp)
      · rw [eG.out]; exact own_laid [2, 3] l2 (by omega) (by simp)
    · have eW := hid (show forW long = [cntI long 8] by unfold forW; rw [if_neg (by unfold forK forN; rw [HS.out]; exact hk)]; unfold forN; rw [HS.out])
      have eG := hid (show forG long = [1] by unfold forG; rw [if_neg (by unfold forK forN; rw [HS.out]; exact hk)])
      go_wp2_with fail
      have zW : ((((((w0.setCell ⟨w.heap.size + 1, 2, none⟩ (.slice (some ⟨w0.heap.size, 0, none⟩) 1 1)).setCell ⟨w.heap.size + 1, 3, none⟩ (.slice (some ⟨w0.heap.size + 1, 0, none⟩) 1 1)).setCell ⟨w.heap.size, 0, none⟩ (.int .i64 long)).setCell ⟨w.heap.size, 1, none⟩ (.int .i64 8)).setCell ⟨w.heap.size, 2, none⟩ (.slice (some ⟨w0.heap.size, 0, none⟩) 1 1)).setCell ⟨w.heap.size, 3, none⟩ (.slice (some ⟨w0.heap.size + 1, 0, none⟩) 1 1)).heap.size = w0.heap.size := by simp
      have bW := below_set' (below_set' (below_set' (below_set' (below_set' (below_set' B1.out (p := ⟨w.heap.size + 1, 2, none⟩) (by simp) (.slice (some ⟨w0.heap.size, 0, none⟩) 1 1)) (p := ⟨w.heap.size + 1, 3, none⟩) (by simp) (.slice (some ⟨w0.heap.size + 1, 0, none⟩) 1 1)) (p := ⟨w.heap.size, 0, none⟩) (by simp) (.int .i64 long)) (p := ⟨w.heap.size, 1, none⟩) (by simp) (.int .i64 8)) (p := ⟨w.heap.size, 2, none⟩) (by simp) (.slice (some ⟨w0.heap.size, 0, none⟩) 1 1)) (p := ⟨w.heap.size, 3, none⟩) (by simp) (.slice (some ⟨w0.heap.size + 1, 0, none⟩) 1 1)
      have bF := below_cat' bW (below2' _ (.cells #[.int .i64 (cntI long 8)] 3) (.cells #[.int .i64 1] 3))
      have l1 := kept (laid ((((((w0.setCell ⟨w.heap.size + 1, 2, none⟩ (.slice (some ⟨w0.heap.size, 0, none⟩) 1 1)).setCell ⟨w.heap.size + 1, 3, none⟩ (.slice (some ⟨w0.heap.size + 1, 0, none⟩) 1 1)).setCell ⟨w.heap.size, 0, none⟩ (.int .i64 long)).setCell ⟨w.heap.size, 1, none⟩ (.int .i64 8)).setCell ⟨w.heap.size, 2, none⟩ (.slice (some ⟨w0.heap.size, 0, none⟩) 1 1)).setCell ⟨w.heap.size, 3, none⟩ (.slice (some ⟨w0.heap.size + 1, 0, none⟩) 1 1)) #[.int .i64 (cntI long 8)] 3) (below_alloc' _ (.cells #[.int .i64 1] 3))
      have l2 := laid (((((((w0.setCell ⟨w.heap.size + 1, 2, none⟩ (.slice (some ⟨w0.heap.size, 0, none⟩) 1 1)).setCell ⟨w.heap.size + 1, 3, none⟩ (.slice (some ⟨w0.heap.size + 1, 0, none⟩) 1 1)).setCell ⟨w.heap.size, 0, none⟩ (.int .i64 long)).setCell ⟨w.heap.size, 1, none⟩ (.int .i64 8)).setCell ⟨w.heap.size, 2, none⟩ (.slice (some ⟨w0.heap.size, 0, none⟩) 1 1)).setCell ⟨w.heap.size, 3, none⟩ (.slice (some ⟨w0.heap.size + 1, 0, none⟩) 1 1)).alloc (.cells #[.int .i64 (cntI long 8)] 3)) #[.int .i64 1] 3
      rw [zW] at l1
      rw [show (World.alloc _ _).heap.size = w0.heap.size + 1 from by rw [World.size_alloc', zW]] at l2
      have r0 := kept (kept (set_block (set_block (set_block (set_block (set_other (g := w.heap.size + 1) (set_other (g := w.heap.size + 1) R1.out (by omega) 2 (.slice (some ⟨w0.heap.size, 0, none⟩) 1 1)) (by omega) 3 (.slice (some ⟨w0.heap.size + 1, 0, none⟩) 1 1)) 0 (.int .i64 long)) 1 (.int .i64 8)) 2 (.slice (some ⟨w0.heap.size, 0, none⟩) 1 1)) 3 (.slice (some ⟨w0.heap.size + 1, 0, none⟩) 1 1)) (below_alloc' _ (.cells #[.int .i64 (cntI long 8)] 3))) (below_alloc' _ (.cells #[.int .i64 1] 3))
      have q0 := box_cell r0 0 (v := .int .i64 long) rfl
      have q1 := box_cell r0 1 (v := .int .i64 8) rfl
      have q2 := box_cell r0 2 (v := (.slice (some ⟨w0.heap.size, 0, none⟩) 1 1)) rfl
      have q3 := box_cell r0 3 (v := (.slice (some ⟨w0.heap.size + 1, 0, none⟩) 1 1)) rfl
      refine bodyPost_ret (v := .agg #[.int .i64 long, .int .i64 8, (.slice (some ⟨w0.heap.size, 0, none⟩) 1 1), (.slice (some ⟨w0.heap.size + 1, 0, none⟩) 1 1)]) ?_ rfl ⟨_, rfl, ⟨_, _, by rw [HS.out], ?_, ?_, apart_of (by omega)⟩, bF⟩
      · unfold results; rw [Try.results6]; simp [go_sem, q0, q1, q2, q3]
      · rw [eW.out]; exact own_laid [cntI long 8] l1 (by omega) (by simp)
      · rw [eG.out]; exact own_laid [1] l2 (by omega) (by simp)
end Go.Proofs.Ytefopoefknckcaa
