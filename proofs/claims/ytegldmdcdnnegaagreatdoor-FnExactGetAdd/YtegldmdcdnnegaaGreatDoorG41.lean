/- GetAdd by the model. -/
import Derived.Test.YtegldmdcdnnegaaGreatDoorG33
import Derived.Test.YtegldmdcdnnegaaGreatDoorG34
import Derived.Test.YtegldmdcdnnegaaGreatDoorG36
import Derived.Test.YtegldmdcdnnegaaGreatDoorG39
import Derived.Test.YtegldmdcdnnegaaGreatDoorG40
namespace Go.Proofs.YtegldmdcdnnegaaGreatDoor
open Go.ChangeShapes Go.WideShapes Go.ChangeAt Go.RowKit Go.Sort Go.Shelf
attribute [local go_sem] Oper.semAt_some

set_option maxHeartbeats 8000000 in
set_option maxRecDepth 100000 in
theorem specGetAdd_no (L S : Int) (a1 a2 : Option Addr) (c1 c2 : Nat) (ws gs : List Int) (C Z : Int) (a : Option Addr) (cap : Nat) (es : List EqV) (id : Int) (data : ByteArray) (w : World) (h : GAt w a1 a2 a ws gs es) (hx : ws.length ≤ 1048576) (hy : gs.length ≤ 1048576) (hl : es.length ≤ 1048576) (hsm : SmallE es) (hg : ¬ getP L S ws gs C Z es) :
    Calls Tryz.prog 5 #[.agg #[.int .i64 L, .int .i64 S, .slice a1 ws.length c1, .slice a2 gs.length c2, .int .i64 C, .int .i64 Z, .slice a es.length cap], .int .i64 id, .string data] w fun e w' => GAddO w' w.heap.size 0 0 0 0 [] [] [] 3 false e ∧ Below w.heap.size w w' := by
  have K := hid (fun W (b : Below w.heap.size w W) => specGetOk_any L S a1 a2 c1 c2 ws gs C Z a cap es W (h.below b).i1 (h.below b).i2 hx hy (h.below b).eq hl hsm)
  rw [decide_eq_false hg] at K
  clear h hsm hg
  obtain ⟨W0, hW0⟩ : ∃ W0, W0 = (w.alloc (.cells #[.int .i64 L, .int .i64 S, .slice a1 ws.length c1, .slice a2 gs.length c2, .int .i64 C, .int .i64 Z, .slice a es.length cap] 36)).alloc (.cells #[.int .i64 0, .int .i64 0, .slice none 0 0, .slice none 0 0, .int .i64 0, .int .i64 0, .slice none 0 0] 36) := ⟨_, rfl⟩
  obtain ⟨X0, X1, B0⟩ := u_box2 (w := w) (c := #[.int .i64 L, .int .i64 S, .slice a1 ws.length c1, .slice a2 gs.length c2, .int .i64 C, .int .i64 Z, .slice a es.length cap]) (t := 36) (d := #[.int .i64 0, .int .i64 0, .slice none 0 0, .slice none 0 0, .int .i64 0, .int .i64 0, .slice none 0 0]) (s := 36) (w1 := W0) (by rw [hW0]; exact Below.refl _ _)
  have q0 := box_cell X0 0 (v := .int .i64 L) rfl
  have q1 := box_cell X0 1 (v := .int .i64 S) rfl
  have q2 := box_cell X0 2 (v := .slice a1 ws.length c1) rfl
  have q3 := box_cell X0 3 (v := .slice a2 gs.length c2) rfl
  have q4 := box_cell X0 4 (v := .int .i64 C) rfl
  have q5 := box_cell X0 5 (v := .int .i64 Z) rfl
  have q6 := box_cell X0 6 (v := .slice a es.length cap) rfl
  have HR := hid X1
  have HB := hid B0
  clear X0 X1 B0
  go_enter Tryz.func5, Tryz.ntmps5
  repeat ((fail_if_success (with_reducible show Code.wp _ (Code.region 1 _ _) _ _ _)); (first | go_values | go_skip | go_guarded | go_step | go_upon | go_back | go_simp))
  rw [← hW0]
  clear hW0
  go_wp2_with fail
  refine (K.out W0 HB.out).mono ?_
  rintro e w1 ⟨rfl, bb⟩
  replace HR := hid (kept HR.out bb)
  replace HB := hid (u_cat HB.out bb)
  clear bb q0 q1 q2 q3 q4 q5 q6
  have r0 := box_cell HR.out 0 (v := .int .i64 0) rfl
  have r1 := box_cell HR.out 1 (v := .int .i64 0) rfl
  have r2 := box_cell HR.out 2 (v := .slice none 0 0) rfl
  have r3 := box_cell HR.out 3 (v := .slice none 0 0) rfl
  have r4 := box_cell HR.out 4 (v := .int .i64 0) rfl
  have r5 := box_cell HR.out 5 (v := .int .i64 0) rfl
  have r6 := box_cell HR.out 6 (v := .slice none 0 0) rfl
  have zr := box_frozen HR.out
  have lr := lt_of_block HR.out
  have S5 := set_block (set_block (set_block (set_block (set_block (set_block (set_block HR.out 0 (.int .i64 0)) 1 (.int .i64 0)) 2 (.slice none 0 0)) 3 (.slice none 0 0)) 4 (.int .i64 0)) 5 (.int .i64 0)) 6 (.slice none 0 0)
  have x0 := box_cell S5 0 (v := .int .i64 0) (by simp)
  have x1 := box_cell S5 1 (v := .int .i64 0) (by simp)
  have x2 := box_cell S5 2 (v := .slice none 0 0) (by simp)
  have x3 := box_cell S5 3 (v := .slice none 0 0) (by simp)
  have x4 := box_cell S5 4 (v := .int .i64 0) (by simp)
  have x5 := box_cell S5 5 (v := .int .i64 0) (by simp)
  have x6 := box_cell S5 6 (v := .slice none 0 0) (by simp)
  clear S5
  go_wp2_with fail
  refine bodyPost_ret (v := .tuple #[.agg #[.int .i64 0, .int .i64 0, .slice none 0 0, .slice none 0 0, .int .i64 0, .int .i64 0, .slice none 0 0], .int .i64 3]) ?_ rfl ⟨⟨none, 0, none, 0, none, 0, [], rfl, own_nil _ _, rfl, fun h => by cases h⟩, ?_⟩
  · unfold results; rw [Tryz.results5]; simp [go_sem, x0, x1, x2, x3, x4, x5, x6]
  · exact u_set (u_set (u_set (u_set (u_set (u_set (u_set HB.out (by simp) _ _) (by simp) _ _) (by simp) _ _) (by simp) _ _) (by simp) _ _) (by simp) _ _) (by simp) _ _

set_option maxHeartbeats 8000000 in
set_option maxRecDepth 100000 in
theorem specGetAdd_yes (L S : Int) (x1 y1 x2 y2 : Nat) (c1 c2 : Nat) (ws gs : List Int) (C Z : Int) (a : Option Addr) (cap : Nat) (es : List EqV) (id : Int) (data : ByteArray) (w : World) (h : GAt w (some ⟨x1, y1, none⟩) (some ⟨x2, y2, none⟩) a ws gs es) (hl : es.length ≤ 1048576) (hsm : SmallE es) (hcap : ∀ e ∈ es, e.a = none → e.c = 0) (hg : getP L S ws gs C Z es)
    (g1 : ∀ i, i < ws.length → w.cell? ⟨x1, y1 + i, none⟩ = some (.int .i64 (ws.getD i 0))) (g2 : ∀ i, i < gs.length → w.cell? ⟨x2, y2 + i, none⟩ = some (.int .i64 (gs.getD i 0))) (vs : List Vl) (code : Int)
    (h3 : ¬ (0 ≤ id ∧ id ≤ 9999 ∧ (data.size : Int) = S) → vs = valsE es ∧ code = 3)
    (h4 : (0 ≤ id ∧ id ≤ 9999 ∧ (data.size : Int) = S) → vs = learnV es (rowI L S ws gs id) (numsOf data) ∧ code = learnC es (rowI L S ws gs id) (numsOf data) data.size) :
    Calls Tryz.prog 5 #[.agg #[.int .i64 L, .int .i64 S, .slice (some ⟨x1, y1, none⟩) ws.length c1, .slice (some ⟨x2, y2, none⟩) gs.length c2, .int .i64 C, .int .i64 Z, .slice a es.length cap], .int .i64 id, .string data] w fun e w' => GAddO w' w.heap.size L S C Z ws gs vs code false e ∧ Below w.heap.size w w' := by
  have HPL := hid hg.1
  have p1 : 1 ≤ ws.length := hg.1.2.1.1
  have n1 : ws.length ≤ 3 := hg.1.2.1.2.1
  have n2 : gs.length ≤ 3 := by have := hg.1.2.2.2; omega
  have n3 : 1 ≤ gs.length := by have := hg.1.2.2.2; omega
  have K := hid (fun W (b : Below w.heap.size w W) => specGetOk_any L S (some ⟨x1, y1, none⟩) (some ⟨x2, y2, none⟩) c1 c2 ws gs C Z a cap es W (h.below b).i1 (h.below b).i2 (by omega) (by omega) (h.below b).eq hl hsm)
  rw [decide_eq_true hg] at K
  have l1 := block_lt_of_cell (g1 0 (by omega))
  have l2 := block_lt_of_cell (g2 0 (by omega))
  have KC := hid (fun W (b : Below w.heap.size w W) => l6Copy_any L S x1 y1 x2 y2 c1 c2 ws gs C Z a cap es W (fun i hi => (b.cell (p := ⟨x1, y1 + i, none⟩) l1).trans (g1 i hi)) (fun i hi => (b.cell (p := ⟨x2, y2 + i, none⟩) l2).trans (g2 i hi)) (by omega) (by omega) p1 (by omega) (h.below b).eq hl hsm hcap)
  have HA := hid h.eq
  have H1 := hid h.i1
  have H2 := hid h.i2
  have HS := hid hsm
  have HC := hid hcap
  have HG := hid hg
  have H3 := hid h3
  have H4 := hid h4
  clear h hsm hcap hg g1 g2 h3 h4 l1 l2
  obtain ⟨W0, hW0⟩ : ∃ W0, W0 = (w.alloc (.cells #[.int .i64 L, .int .i64 S, .slice (some ⟨x1, y1, none⟩) ws.length c1, .slice (some ⟨x2, y2, none⟩) gs.length c2, .int .i64 C, .int .i64 Z, .slice a es.length cap] 36)).alloc (.cells #[.int .i64 0, .int .i64 0, .slice none 0 0, .slice none 0 0, .int .i64 0, .int .i64 0, .slice none 0 0] 36) := ⟨_, rfl⟩
  obtain ⟨X0, X1, B0⟩ := u_box2 (w := w) (c := #[.int .i64 L, .int .i64 S, .slice (some ⟨x1, y1, none⟩) ws.length c1, .slice (some ⟨x2, y2, none⟩) gs.length c2, .int .i64 C, .int .i64 Z, .slice a es.length cap]) (t := 36) (d := #[.int .i64 0, .int .i64 0, .slice none 0 0, .slice none 0 0, .int .i64 0, .int .i64 0, .slice none 0 0]) (s := 36) (w1 := W0) (by rw [hW0]; exact Below.refl _ _)
  have HX := hid X0
  have HR := hid X1
  have HB := hid B0
  have hs0 : w.heap.size + 2 ≤ W0.heap.size := by rw [hW0]; simp
  clear X0 X1 B0
  go_enter Tryz.func5, Tryz.ntmps5
  repeat ((fail_if_success (with_reducible show Code.wp _ (Code.region 1 _ _) _ _ _)); (first | go_values | go_skip | go_guarded | go_step | go_upon | go_back | go_simp))
  rw [← hW0]
  clear hW0
  have q0 := box_cell HX.out 0 (v := .int .i64 L) rfl
  have q1 := box_cell HX.out 1 (v := .int .i64 S) rfl
  have q2 := box_cell HX.out 2 (v := .slice (some ⟨x1, y1, none⟩) ws.length c1) rfl
  have q3 := box_cell HX.out 3 (v := .slice (some ⟨x2, y2, none⟩) gs.length c2) rfl
  have q4 := box_cell HX.out 4 (v := .int .i64 C) rfl
  have q5 := box_cell HX.out 5 (v := .int .i64 Z) rfl
  have q6 := box_cell HX.out 6 (v := .slice a es.length cap) rfl
  go_wp2_with fail
  refine (K.out W0 HB.out).mono ?_
  rintro e w1 ⟨rfl, bb⟩
  have hs1 := bb.size
  replace HX := hid (kept HX.out bb)
  replace HR := hid (kept HR.out bb)
  replace HB := hid (u_cat HB.out bb)
  clear bb q0 q1 q2 q3 q4 q5 q6 K
  have q0 := box_cell HX.out 0 (v := .int .i64 L) rfl
  have q1 := box_cell HX.out 1 (v := .int .i64 S) rfl
  have q2 := box_cell HX.out 2 (v := .slice (some ⟨x1, y1, none⟩) ws.length c1) rfl
  have q3 := box_cell HX.out 3 (v := .slice (some ⟨x2, y2, none⟩) gs.length c2) rfl
  have q4 := box_cell HX.out 4 (v := .int .i64 C) rfl
  have q5 := box_cell HX.out 5 (v := .int .i64 Z) rfl
  have q6 := box_cell HX.out 6 (v := .slice a es.length cap) rfl
  go_wp2_with fail
  refine (KC.out w1 HB.out).mono ?_
  rintro e w2 ⟨b1, d1, b2, d2, a'', c'', fs0, rfl, hown, hsam, bb⟩
  have hs2 := bb.size
  replace HX := hid (kept HX.out bb)
  replace HR := hid (kept HR.out bb)
  replace HB := hid (u_cat HB.out bb)
  have GO := hid (hown.mono (show w.heap.size + 2 ≤ w1.heap.size + 2 by omega))
  have SM := hid hsam
  have GI := hid GO.out.in'
  clear hown hsam bb KC q0 q1 q2 q3 q4 q5 q6
  repeat ((fail_if_success (with_reducible show Code.wp _ (Code.region 4 _ _) _ _ _)); (first | go_values | go_skip | go_guarded | go_step | go_upon | go_back | go_simp))
  obtain ⟨V, hV⟩ : ∃ V, V = w2.alloc (.cells #[.int .i64 L, .int .i64 S, .slice b1 ws.length d1, .slice b2 gs.length d2, .int .i64 C, .int .i64 Z, (.slice a'' fs0.length c'')] 36) := ⟨_, rfl⟩
  obtain ⟨ky, hky⟩ : ∃ ky, ky = w2.heap.size := ⟨_, rfl⟩
  have bv : Below w2.heap.size w2 V := by rw [hV]; exact u_b1 _ _
  have HY := hid (show V.heap[ky]? = some (.cells #[.int .i64 L, .int .i64 S, .slice b1 ws.length d1, .slice b2 gs.length d2, .int .i64 C, .int .i64 Z, (.slice a'' fs0.length c'')] 36 (0, 0)) by rw [hV, hky]; exact laid _ _ _)
  have hky1 : w2.heap.size ≤ ky := by omega
  rw [← hV, ← hky]
  clear hV hky
  replace HX := hid (kept HX.out bv)
  replace HR := hid (kept HR.out bv)
  replace HB := hid (u_cat HB.out bv)
  replace GO := hid (GO.out.below bv)
  have hsv := bv.size
  have hkv := lt_of_block HY.out
  have hkr : w.heap.size + 1 < ky := by omega
  clear bv
  have e1 := box_cell HX.out 1 (v := .int .i64 S) rfl
  have hRb : w.heap.size + 1 < w.heap.size + 2 := by omega
  by_cases hgd : 0 ≤ id ∧ id ≤ 9999 ∧ (data.size : Int) = S
  · obtain ⟨rfl, rfl⟩ := H4.out hgd
    have hC : C = cntI L S := HG.out.2.2.1
    have hZ : (data.size : Int) = Z := hgd.2.2.trans HG.out.2.2.2.symm
    obtain ⟨ra, rl⟩ := rowI_asc (id := id) HPL.out hgd.1
    rw [← hC] at ra
    have KR := hid (fun W (b : Below V.heap.size V W) => l5Row_any L S id (some ⟨x1, y1, none⟩) (some ⟨x2, y2, none⟩) c1 c2 ws gs W (H1.out.below (HB.out.trans (b.mono HB.out.size))) (H2.out.below (HB.out.trans (b.mono HB.out.size))) HPL.out hgd.1 hgd.2.1)
    have KA := hid (fun W ar cr h1 h2 h3 => l3Add_any a cap es C data.size ar cr (rowI L S ws gs id) (numsOf data) W h1 hl HS.out HC.out (by rw [hZ]; exact HG.out.2.1) h2 ra h3 (numsOf_len _) (nums_bytes _))
    rw [hZ, str_numsOf] at KA
    have KI := hid (fun w => l1In_yes id 0 9999 w ⟨hgd.1, hgd.2.1⟩)
    have hsz : ((data.size : Int) != S) = false := by simp [hgd.2.2]
    clear hgd hC hZ ra rl
    go_wp2_with fail
    refine (KI.out V).mono ?_
    rintro e w3 ⟨rfl, hw⟩
    replace hw := hw.symm
    subst hw
    clear KI
    repeat ((fail_if_success (with_reducible show Code.wp _ (Code.region 6 _ _) _ _ _)); (first | go_values | go_skip | go_guarded | go_step | go_upon | go_back | go_simp))
    clear e1
    have hb0 : w.heap.size < V.heap.size := by omega
    have n0 := box_cell HX.out 0 (v := .int .i64 L) rfl
    have n1 := box_cell HX.out 1 (v := .int .i64 S) rfl
    have n2 := box_cell HX.out 2 (v := .slice (some ⟨x1, y1, none⟩) ws.length c1) rfl
    have n3 := box_cell HX.out 3 (v := .slice (some ⟨x2, y2, none⟩) gs.length c2) rfl
    have n4 := box_cell HX.out 4 (v := .int .i64 C) rfl
    have n5 := box_cell HX.out 5 (v := .int .i64 Z) rfl
    have n6 := box_cell HX.out 6 (v := .slice a es.length cap) rfl
    refine wp_plar (fun u v => ∃ q : BW V.heap.size u, v = q.to) bw_refl bw_trans (.pull [(0, 5), (6, 1)] (.fork 5 (.fork 7 (.pull [(8, 3)] (.step 11 (.step 12 (.pull [(13, 1)] .done)))) (.step 11 (.step 7 (.pull [(8, 3)] (.step 12 (.pull [(13, 1)] .done)))))) (.step 11 (.step 5 (.step 7 (.pull [(8, 3)] (.step 12 (.pull [(13, 1)] .done)))))))) (by kernel_rfl) (by kernel_rfl) ?_
    intro V0 hw0
    have BB0 := hid (of_class hw0)
    have m0 := bw_cell (B := V.heap.size) ((BB0.out.cell (p := ⟨w.heap.size, 0, none⟩) hb0).trans n0) hb0
    have m1 := bw_cell (B := V.heap.size) ((BB0.out.cell (p := ⟨w.heap.size, 1, none⟩) hb0).trans n1) hb0
    have m2 := bw_cell (B := V.heap.size) ((BB0.out.cell (p := ⟨w.heap.size, 2, none⟩) hb0).trans n2) hb0
    have m3 := bw_cell (B := V.heap.size) ((BB0.out.cell (p := ⟨w.heap.size, 3, none⟩) hb0).trans n3) hb0
    have m4 := bw_cell (B := V.heap.size) ((BB0.out.cell (p := ⟨w.heap.size, 4, none⟩) hb0).trans n4) hb0
    have m5 := bw_cell (B := V.heap.size) ((BB0.out.cell (p := ⟨w.heap.size, 5, none⟩) hb0).trans n5) hb0
    have m6 := bw_cell (B := V.heap.size) ((BB0.out.cell (p := ⟨w.heap.size, 6, none⟩) hb0).trans n6) hb0
    clear n0 n1 n2 n3 n4 n5 n6 hb0
    clear hw0
    have hne : Nonempty (BW V.heap.size V0) := bw_ne _
    refine plr_pull ?_
    simp only [cutOut, List.take_succ_cons, List.take_zero, List.drop_succ_cons, List.drop_zero, List.nil_append, List.cons_append, List.append_nil]
    repeat (first | go_big_quiet_step (fail) | quiet_step (fail))
    try refine wpQuiet_nil ?_
    clear hne m0 m1 m2 m3 m4 m5 m6
    refine plr_fork ?_ ?_
    rotate_left
    focus
      refine plr_step rfl (fun K hK => ?_)
      go_simp
      have hbb : Below V.heap.size V0 (V0.alloc (.cells #[.int .i64 0, .int .i64 0, .slice none 0 0] 34)) := (u_b1 _ _).mono BB0.out.size
      refine hK _ _ (bw_of hbb) ?_
      clear hK K
      obtain ⟨g9, hg9⟩ : ∃ g9, g9 = V0.heap.size := ⟨_, rfl⟩
      obtain ⟨U1, hU⟩ : ∃ U, U = V0.alloc (.cells #[.int .i64 0, .int .i64 0, .slice none 0 0] 34) := ⟨_, rfl⟩
      have bb : Below V0.heap.size V0 U1 := by rw [hU]; exact u_b1 _ _
      have K9 := hid (show U1.heap[g9]? = some (.cells #[.int .i64 0, .int .i64 0, .slice none 0 0] 34 (0, 0)) by rw [hU, hg9]; exact laid _ _ _)
      rw [← hU, ← hg9]
      rw [← hU] at hbb
      have hg1 : V0.heap.size ≤ g9 := by omega
      have hg0 : V.heap.size ≤ g9 := Nat.le_trans BB0.out.size hg1
      have BB1 := hid (BB0.out.trans hbb)
      clear hU hg9 bb hbb hg1
      refine plr_step rfl (fun K hK => ?_)
      go_simp
      with_reducible refine (KR.out U1 BB1.out).mono ?_
      rintro _ U2 ⟨v, rfl, oo, bb⟩
      obtain ⟨ar, cr, rfl⟩ := owns_slice oo
      have hbb := bb.mono BB1.out.size
      refine hK _ _ (bw_of hbb) ?_
      clear hK K
      have IR := hid (owns_at oo)
      have HCR := hid (owns_cap oo)
      have BB2 := hid (BB1.out.trans hbb)
      replace K9 := hid (kept K9.out bb)
      clear oo bb hbb
      have hnb := BB2.out.size
      have g9l := lt_of_block K9.out
      obtain ⟨nB, hnB⟩ : ∃ nB, nB = U2.heap.size := ⟨_, rfl⟩
      refine plr_step rfl (fun K hK => ?_)
      go_simp
      with_reducible refine (KA.out U2 ar cr (HA.out.below (HB.out.trans (BB2.out.mono HB.out.size))) IR.out HCR.out).mono ?_
      rintro _ U3 ⟨a', c', fs, rfl, o3, hv, r3, bb⟩
      have hbb := bb.mono BB2.out.size
      refine hK _ _ (bw_of hbb) ?_
      clear hK K
      have O3 := hid o3
      have R3 := hid r3
      have HV := hid hv
      have BB3 := hid (BB2.out.trans hbb)
      replace K9 := hid (kept K9.out bb)
      rw [← hnB] at O3 R3 hnb g9l
      clear o3 r3 hv bb hbb hnB
      have NEO := hid (show ∀ j, (.slice a' fs.length c' : Value).ownBlock = some j → j ≠ g9 from fun j e => by have := (O3.out.lt j e).1; omega)
      have NER := hid (show ∀ f ∈ fs, ∀ j, (.slice f.a f.r.length f.c : Value).ownBlock = some j → j ≠ g9 from fun f hf j e => by have := ((R3.out f hf).lt j e).1; omega)
      have hne : Nonempty (BW V.heap.size U3) := bw_ne _
      refine plr_pull ?_
      simp only [cutOut, List.take_succ_cons, List.take_zero, List.drop_succ_cons, List.drop_zero, List.append_nil]
      repeat (first | go_big_quiet_step (fail) | quiet_step (fail))
      try refine wpQuiet_nil ?_
      clear hne
      have t0 := box_cell K9.out 0 (v := .int .i64 0) rfl
      have t1 := box_cell K9.out 1 (v := .int .i64 0) rfl
      have t2 := box_cell K9.out 2 (v := .slice none 0 0) rfl
      have tz := box_frozen K9.out
      have tl := lt_of_block K9.out
      refine plr_step rfl (fun K hK => ?_)
      go_simp
      have hbb : Below V.heap.size U3 (((U3.setCell ⟨g9, 0, none⟩ (.int .i64 C)).setCell ⟨g9, 1, none⟩ (.int .i64 Z)).setCell ⟨g9, 2, none⟩ (.slice a' fs.length c')) := u_set (u_set (u_set (Below.refl _ _) hg0 _ _) hg0 _ _) hg0 _ _
      refine hK _ _ (bw_of hbb) ?_
      clear hK K
      obtain ⟨U, hU⟩ : ∃ U, U = ((U3.setCell ⟨g9, 0, none⟩ (.int .i64 C)).setCell ⟨g9, 1, none⟩ (.int .i64 Z)).setCell ⟨g9, 2, none⟩ (.slice a' fs.length c') := ⟨_, rfl⟩
      have KU := hid (show U.heap[g9]? = some (.cells #[.int .i64 C, .int .i64 Z, .slice a' fs.length c'] 34 (0, 0)) by rw [hU]; exact set_block (set_block (set_block K9.out 0 (.int .i64 C)) 1 (.int .i64 Z)) 2 (.slice a' fs.length c'))
      have HO := hid (show ∀ j, j ≠ g9 → U.heap[j]? = U3.heap[j]? from fun j hj => by rw [hU]; exact set_other (set_other (set_other rfl hj _ _) hj _ _) hj _ _)
      rw [← hU]
      rw [← hU] at hbb
      clear hU
      have OU := hid (u_owns O3.out (fun j e => HO.out j (NEO.out j e)))
      have RU := hid (show RowsOwn U (nB + 2) fs from fun f hf => u_owns (R3.out f hf) (fun j e => HO.out j (NER.out f hf j e)))
      have BU := hid (BB3.out.trans hbb)
      clear hbb t0 t1 t2 tz tl K9 O3 R3 HO NEO NER
      have hne : Nonempty (BW V.heap.size U) := bw_ne _
      refine plr_pull ?_
      simp only [cutOut, List.take_succ_cons, List.take_zero, List.drop_succ_cons, List.drop_zero, List.append_nil]
      repeat (first | go_big_quiet_step (fail) | quiet_step (fail))
      try refine wpQuiet_nil ?_
      clear hne
      refine plr_done ?_
    rotate_left
    focus
      refine plr_step rfl (fun K hK => ?_)
      go_simp
      with_reducible refine (KR.out V0 BB0.out).mono ?_
      rintro _ U1 ⟨v, rfl, oo, bb⟩
      obtain ⟨ar, cr, rfl⟩ := owns_slice oo
      have hbb := bb.mono BB0.out.size
      refine hK _ _ (bw_of hbb) ?_
      clear hK K
      have IR := hid (owns_at oo)
      have HCR := hid (owns_cap oo)
      have BB1 := hid (BB0.out.trans hbb)
      clear oo bb hbb
      refine plr_fork ?_ ?_
      focus
        have hnb := BB1.out.size
        obtain ⟨nB, hnB⟩ : ∃ nB, nB = U1.heap.size := ⟨_, rfl⟩
        refine plr_step rfl (fun K hK => ?_)
        go_simp
        with_reducible refine (KA.out U1 ar cr (HA.out.below (HB.out.trans (BB1.out.mono HB.out.size))) IR.out HCR.out).mono ?_
        rintro _ U2 ⟨a', c', fs, rfl, o3, hv, r3, bb⟩
        have hbb := bb.mono BB1.out.size
        refine hK _ _ (bw_of hbb) ?_
        clear hK K
        have O3 := hid o3
        have R3 := hid r3
        have HV := hid hv
        have BB2 := hid (BB1.out.trans hbb)
        rw [← hnB] at O3 R3 hnb
        clear o3 r3 hv bb hbb hnB
        have hne : Nonempty (BW V.heap.size U2) := bw_ne _
        refine plr_pull ?_
        simp only [cutOut, List.take_succ_cons, List.take_zero, List.drop_succ_cons, List.drop_zero, List.append_nil]
        repeat (first | go_big_quiet_step (fail) | quiet_step (fail))
        try refine wpQuiet_nil ?_
        clear hne
        refine plr_step rfl (fun K hK => ?_)
        go_simp
        have hbb : Below V.heap.size U2 (U2.alloc (.cells #[.int .i64 0, .int .i64 0, .slice none 0 0] 34)) := (u_b1 _ _).mono BB2.out.size
        refine hK _ _ (bw_of hbb) ?_
        clear hK K
        obtain ⟨g9, hg9⟩ : ∃ g9, g9 = U2.heap.size := ⟨_, rfl⟩
        obtain ⟨U3, hU⟩ : ∃ U, U = U2.alloc (.cells #[.int .i64 0, .int .i64 0, .slice none 0 0] 34) := ⟨_, rfl⟩
        have bb : Below U2.heap.size U2 U3 := by rw [hU]; exact u_b1 _ _
        have K9 := hid (show U3.heap[g9]? = some (.cells #[.int .i64 0, .int .i64 0, .slice none 0 0] 34 (0, 0)) by rw [hU, hg9]; exact laid _ _ _)
        rw [← hU, ← hg9]
        rw [← hU] at hbb
        have hg1 : U2.heap.size ≤ g9 := by omega
        have hg0 : V.heap.size ≤ g9 := Nat.le_trans BB2.out.size hg1
        have BB3 := hid (BB2.out.trans hbb)
        have NEO := hid (show ∀ j, (.slice a' fs.length c' : Value).ownBlock = some j → j ≠ g9 from fun j e => by have := (O3.out.lt j e).2; omega)
        have NER := hid (show ∀ f ∈ fs, ∀ j, (.slice f.a f.r.length f.c : Value).ownBlock = some j → j ≠ g9 from fun f hf j e => by have := ((R3.out f hf).lt j e).2; omega)
        replace O3 := hid (owns_below O3.out bb)
        replace R3 := hid (R3.out.below bb)
        clear hU hg9 bb hbb hg1
        have t0 := box_cell K9.out 0 (v := .int .i64 0) rfl
        have t1 := box_cell K9.out 1 (v := .int .i64 0) rfl
        have t2 := box_cell K9.out 2 (v := .slice none 0 0) rfl
        have tz := box_frozen K9.out
        have tl := lt_of_block K9.out
        refine plr_step rfl (fun K hK => ?_)
        go_simp
        have hbb : Below V.heap.size U3 (((U3.setCell ⟨g9, 0, none⟩ (.int .i64 C)).setCell ⟨g9, 1, none⟩ (.int .i64 Z)).setCell ⟨g9, 2, none⟩ (.slice a' fs.length c')) := u_set (u_set (u_set (Below.refl _ _) hg0 _ _) hg0 _ _) hg0 _ _
        refine hK _ _ (bw_of hbb) ?_
        clear hK K
        obtain ⟨U, hU⟩ : ∃ U, U = ((U3.setCell ⟨g9, 0, none⟩ (.int .i64 C)).setCell ⟨g9, 1, none⟩ (.int .i64 Z)).setCell ⟨g9, 2, none⟩ (.slice a' fs.length c') := ⟨_, rfl⟩
        have KU := hid (show U.heap[g9]? = some (.cells #[.int .i64 C, .int .i64 Z, .slice a' fs.length c'] 34 (0, 0)) by rw [hU]; exact set_block (set_block (set_block K9.out 0 (.int .i64 C)) 1 (.int .i64 Z)) 2 (.slice a' fs.length c'))
        have HO := hid (show ∀ j, j ≠ g9 → U.heap[j]? = U3.heap[j]? from fun j hj => by rw [hU]; exact set_other (set_other (set_other rfl hj _ _) hj _ _) hj _ _)
        rw [← hU]
        rw [← hU] at hbb
        clear hU
        have OU := hid (u_owns O3.out (fun j e => HO.out j (NEO.out j e)))
        have RU := hid (show RowsOwn U (nB + 2) fs from fun f hf => u_owns (R3.out f hf) (fun j e => HO.out j (NER.out f hf j e)))
        have BU := hid (BB3.out.trans hbb)
        clear hbb t0 t1 t2 tz tl K9 O3 R3 HO NEO NER
        have hne : Nonempty (BW V.heap.size U) := bw_ne _
        refine plr_pull ?_
        simp only [cutOut, List.take_succ_cons, List.take_zero, List.drop_succ_cons, List.drop_zero, List.append_nil]
        repeat (first | go_big_quiet_step (fail) | quiet_step (fail))
        try refine wpQuiet_nil ?_
        clear hne
        refine plr_done ?_
      rotate_left
      focus
        refine plr_step rfl (fun K hK => ?_)
        go_simp
        have hbb : Below V.heap.size U1 (U1.alloc (.cells #[.int .i64 0, .int .i64 0, .slice none 0 0] 34)) := (u_b1 _ _).mono BB1.out.size
        refine hK _ _ (bw_of hbb) ?_
        clear hK K
        obtain ⟨g9, hg9⟩ : ∃ g9, g9 = U1.heap.size := ⟨_, rfl⟩
        obtain ⟨U2, hU⟩ : ∃ U, U = U1.alloc (.cells #[.int .i64 0, .int .i64 0, .slice none 0 0] 34) := ⟨_, rfl⟩
        have bb : Below U1.heap.size U1 U2 := by rw [hU]; exact u_b1 _ _
        have K9 := hid (show U2.heap[g9]? = some (.cells #[.int .i64 0, .int .i64 0, .slice none 0 0] 34 (0, 0)) by rw [hU, hg9]; exact laid _ _ _)
        rw [← hU, ← hg9]
        rw [← hU] at hbb
        have hg1 : U1.heap.size ≤ g9 := by omega
        have hg0 : V.heap.size ≤ g9 := Nat.le_trans BB1.out.size hg1
        have BB2 := hid (BB1.out.trans hbb)
        replace IR := hid (IR.out.below bb)
        clear hU hg9 bb hbb hg1
        have hnb := BB2.out.size
        have g9l := lt_of_block K9.out
        obtain ⟨nB, hnB⟩ : ∃ nB, nB = U2.heap.size := ⟨_, rfl⟩
        refine plr_step rfl (fun K hK => ?_)
        go_simp
        with_reducible refine (KA.out U2 ar cr (HA.out.below (HB.out.trans (BB2.out.mono HB.out.size))) IR.out HCR.out).mono ?_
        rintro _ U3 ⟨a', c', fs, rfl, o3, hv, r3, bb⟩
        have hbb := bb.mono BB2.out.size
        refine hK _ _ (bw_of hbb) ?_
        clear hK K
        have O3 := hid o3
        have R3 := hid r3
        have HV := hid hv
        have BB3 := hid (BB2.out.trans hbb)
        replace K9 := hid (kept K9.out bb)
        rw [← hnB] at O3 R3 hnb g9l
        clear o3 r3 hv bb hbb hnB
        have NEO := hid (show ∀ j, (.slice a' fs.length c' : Value).ownBlock = some j → j ≠ g9 from fun j e => by have := (O3.out.lt j e).1; omega)
        have NER := hid (show ∀ f ∈ fs, ∀ j, (.slice f.a f.r.length f.c : Value).ownBlock = some j → j ≠ g9 from fun f hf j e => by have := ((R3.out f hf).lt j e).1; omega)
        have hne : Nonempty (BW V.heap.size U3) := bw_ne _
        refine plr_pull ?_
        simp only [cutOut, List.take_succ_cons, List.take_zero, List.drop_succ_cons, List.drop_zero, List.append_nil]
        repeat (first | go_big_quiet_step (fail) | quiet_step (fail))
        try refine wpQuiet_nil ?_
        clear hne
        have t0 := box_cell K9.out 0 (v := .int .i64 0) rfl
        have t1 := box_cell K9.out 1 (v := .int .i64 0) rfl
        have t2 := box_cell K9.out 2 (v := .slice none 0 0) rfl
        have tz := box_frozen K9.out
        have tl := lt_of_block K9.out
        refine plr_step rfl (fun K hK => ?_)
        go_simp
        have hbb : Below V.heap.size U3 (((U3.setCell ⟨g9, 0, none⟩ (.int .i64 C)).setCell ⟨g9, 1, none⟩ (.int .i64 Z)).setCell ⟨g9, 2, none⟩ (.slice a' fs.length c')) := u_set (u_set (u_set (Below.refl _ _) hg0 _ _) hg0 _ _) hg0 _ _
        refine hK _ _ (bw_of hbb) ?_
        clear hK K
        obtain ⟨U, hU⟩ : ∃ U, U = ((U3.setCell ⟨g9, 0, none⟩ (.int .i64 C)).setCell ⟨g9, 1, none⟩ (.int .i64 Z)).setCell ⟨g9, 2, none⟩ (.slice a' fs.length c') := ⟨_, rfl⟩
        have KU := hid (show U.heap[g9]? = some (.cells #[.int .i64 C, .int .i64 Z, .slice a' fs.length c'] 34 (0, 0)) by rw [hU]; exact set_block (set_block (set_block K9.out 0 (.int .i64 C)) 1 (.int .i64 Z)) 2 (.slice a' fs.length c'))
        have HO := hid (show ∀ j, j ≠ g9 → U.heap[j]? = U3.heap[j]? from fun j hj => by rw [hU]; exact set_other (set_other (set_other rfl hj _ _) hj _ _) hj _ _)
        rw [← hU]
        rw [← hU] at hbb
        clear hU
        have OU := hid (u_owns O3.out (fun j e => HO.out j (NEO.out j e)))
        have RU := hid (show RowsOwn U (nB + 2) fs from fun f hf => u_owns (R3.out f hf) (fun j e => HO.out j (NER.out f hf j e)))
        have BU := hid (BB3.out.trans hbb)
        clear hbb t0 t1 t2 tz tl K9 O3 R3 HO NEO NER
        have hne : Nonempty (BW V.heap.size U) := bw_ne _
        refine plr_pull ?_
        simp only [cutOut, List.take_succ_cons, List.take_zero, List.drop_succ_cons, List.drop_zero, List.append_nil]
        repeat (first | go_big_quiet_step (fail) | quiet_step (fail))
        try refine wpQuiet_nil ?_
        clear hne
        refine plr_done ?_
    all_goals
      have hku : ky < g9 := by omega
      have JY := hid (kept HY.out BU.out)
      have JR := hid (kept HR.out BU.out)
      have JB := hid (u_cat HB.out BU.out)
      have JO := hid (GO.out.below BU.out)
      have t0 := box_cell KU.out 0 (v := .int .i64 C) rfl
      have t1 := box_cell KU.out 1 (v := .int .i64 Z) rfl
      have t2 := box_cell KU.out 2 (v := (.slice a' fs.length c')) rfl
      have u4 := box_cell JY.out 4 (v := .int .i64 C) rfl
      have u5 := box_cell JY.out 5 (v := .int .i64 Z) rfl
      have u6 := box_cell JY.out 6 (v := .slice a'' fs0.length c'') rfl
      have uz := box_frozen JY.out
      have ul := lt_of_block JY.out
      repeat ((fail_if_success (with_reducible show Code.wp _ (Code.region 8 _ _) _ _ _)); (first | go_values | go_skip | go_guarded | go_step | go_upon | go_back | go_simp))
      obtain ⟨X, hX⟩ : ∃ X, X = ((U.setCell ⟨ky, 4, none⟩ (.int .i64 C)).setCell ⟨ky, 5, none⟩ (.int .i64 Z)).setCell ⟨ky, 6, none⟩ (.slice a' fs.length c') := ⟨_, rfl⟩
      have LY := hid (show X.heap[ky]? = some (.cells #[.int .i64 L, .int .i64 S, .slice b1 ws.length d1, .slice b2 gs.length d2, .int .i64 C, .int .i64 Z, (.slice a' fs.length c')] 36 (0, 0)) by rw [hX]; exact set_block (set_block (set_block JY.out 4 (.int .i64 C)) 5 (.int .i64 Z)) 6 (.slice a' fs.length c'))
      have HO := hid (show ∀ j, j ≠ ky → X.heap[j]? = U.heap[j]? from fun j hj => by rw [hX]; exact set_other (set_other (set_other rfl hj _ _) hj _ _) hj _ _)
      have HR := hid ((HO.out _ (by omega)).trans JR.out)
      have HB := hid (show Below w.heap.size w X by rw [hX]; exact u_set (u_set (u_set JB.out (by omega) _ _) (by omega) _ _) (by omega) _ _)
      rw [← hX]
      clear hX t0 t1 t2 u4 u5 u6 uz ul JR JB
      have u0 := box_cell LY.out 0 (v := .int .i64 L) rfl
      have u1 := box_cell LY.out 1 (v := .int .i64 S) rfl
      have u2 := box_cell LY.out 2 (v := .slice b1 ws.length d1) rfl
      have u3 := box_cell LY.out 3 (v := .slice b2 gs.length d2) rfl
      have u4 := box_cell LY.out 4 (v := .int .i64 C) rfl
      have u5 := box_cell LY.out 5 (v := .int .i64 Z) rfl
      have u6 := box_cell LY.out 6 (v := (.slice a' fs.length c')) rfl
      have r0 := box_cell HR.out 0 (v := .int .i64 0) rfl
      have r1 := box_cell HR.out 1 (v := .int .i64 0) rfl
      have r2 := box_cell HR.out 2 (v := .slice none 0 0) rfl
      have r3 := box_cell HR.out 3 (v := .slice none 0 0) rfl
      have r4 := box_cell HR.out 4 (v := .int .i64 0) rfl
      have r5 := box_cell HR.out 5 (v := .int .i64 0) rfl
      have r6 := box_cell HR.out 6 (v := .slice none 0 0) rfl
      have zr := box_frozen HR.out
      have lr := lt_of_block HR.out
      have S5 := set_block (set_block (set_block (set_block (set_block (set_block (set_block HR.out 0 (.int .i64 L)) 1 (.int .i64 S)) 2 (.slice b1 ws.length d1)) 3 (.slice b2 gs.length d2)) 4 (.int .i64 C)) 5 (.int .i64 Z)) 6 ((.slice a' fs.length c'))
      have x0 := box_cell S5 0 (v := .int .i64 L) (by simp)
      have x1 := box_cell S5 1 (v := .int .i64 S) (by simp)
      have x2 := box_cell S5 2 (v := .slice b1 ws.length d1) (by simp)
      have x3 := box_cell S5 3 (v := .slice b2 gs.length d2) (by simp)
      have x4 := box_cell S5 4 (v := .int .i64 C) (by simp)
      have x5 := box_cell S5 5 (v := .int .i64 Z) (by simp)
      have x6 := box_cell S5 6 (v := (.slice a' fs.length c')) (by simp)
      clear S5
      go_wp2_with fail
      refine bodyPost_ret (v := .tuple #[.agg #[.int .i64 L, .int .i64 S, .slice b1 ws.length d1, .slice b2 gs.length d2, .int .i64 C, .int .i64 Z, (.slice a' fs.length c')], .int .i64 (learnC es (rowI L S ws gs id) (numsOf data) data.size)]) ?_ rfl ⟨⟨b1, d1, b2, d2, a', c', fs, rfl, ?_, HV.out, fun h => by cases h⟩, ?_⟩
      · unfold results; rw [Tryz.results5]; simp [go_sem, x0, x1, x2, x3, x4, x5, x6]
      · have hR1 : w.heap.size + 1 < w.heap.size + 2 := by omega
        have hR2 : w.heap.size + 1 < nB + 2 := by omega
        refine ⟨owns_base (owns_set (owns_set (owns_set (owns_set (owns_set (owns_set (owns_set (u_owns JO.out.o1 (fun j e => HO.out j (by have := GI.out.l1 j e; omega))) hR1 _) hR1 _) hR1 _) hR1 _) hR1 _) hR1 _) hR1 _) (show w.heap.size ≤ w.heap.size + 2 by omega), owns_base (owns_set (owns_set (owns_set (owns_set (owns_set (owns_set (owns_set (u_owns JO.out.o2 (fun j e => HO.out j (by have := GI.out.l2 j e; omega))) hR1 _) hR1 _) hR1 _) hR1 _) hR1 _) hR1 _) hR1 _) (show w.heap.size ≤ w.heap.size + 2 by omega), JO.out.ap, nB + 2, by omega, fun j e => (by have := GI.out.l1 j e; omega), fun j e => (by have := GI.out.l2 j e; omega), ?_, ?_⟩
        · exact owns_set (owns_set (owns_set (owns_set (owns_set (owns_set (owns_set (u_owns OU.out (fun j e => HO.out j (by have := (OU.out.lt j e).1; omega))) hR2 _) hR2 _) hR2 _) hR2 _) hR2 _) hR2 _) hR2 _
        · have RX : RowsOwn X (nB + 2) fs := fun f hf => u_owns (RU.out f hf) (fun j e => HO.out j (by have := ((RU.out f hf).lt j e).1; omega))
          exact RowsOwn.set (RowsOwn.set (RowsOwn.set (RowsOwn.set (RowsOwn.set (RowsOwn.set (RowsOwn.set RX hR2 _ _) hR2 _ _) hR2 _ _) hR2 _ _) hR2 _ _) hR2 _ _) hR2 _ _
      · exact u_set (u_set (u_set (u_set (u_set (u_set (u_set HB.out (by simp) _ _) (by simp) _ _) (by simp) _ _) (by simp) _ _) (by simp) _ _) (by simp) _ _) (by simp) _ _
  · obtain ⟨rfl, rfl⟩ := H3.out hgd
    have SV := hid (vals_same.2 SM.out)
    have hd : (id < 0 ∨ 9999 < id) ∨ ((0 ≤ id ∧ id ≤ 9999) ∧ ((data.size : Int) != S) = true) := by
      by_cases hi : 0 ≤ id ∧ id ≤ 9999
      · exact .inr ⟨hi, by simpa using fun h2 => hgd ⟨hi.1, hi.2, h2⟩⟩
      · exact .inl (by omega)
    clear hgd
    have u0 := box_cell HY.out 0 (v := .int .i64 L) rfl
    have u1 := box_cell HY.out 1 (v := .int .i64 S) rfl
    have u2 := box_cell HY.out 2 (v := .slice b1 ws.length d1) rfl
    have u3 := box_cell HY.out 3 (v := .slice b2 gs.length d2) rfl
    have u4 := box_cell HY.out 4 (v := .int .i64 C) rfl
    have u5 := box_cell HY.out 5 (v := .int .i64 Z) rfl
    have u6 := box_cell HY.out 6 (v := (.slice a'' fs0.length c'')) rfl
    rcases hd with hd | ⟨hd, hd2⟩
    · have KI := hid (fun w => l1In_no id 0 9999 w hd)
      clear hd
      go_wp2_with fail
      refine (KI.out V).mono ?_
      rintro e w3 ⟨rfl, hw⟩
      replace hw := hw.symm
      subst hw
      clear KI
      have r0 := box_cell HR.out 0 (v := .int .i64 0) rfl
      have r1 := box_cell HR.out 1 (v := .int .i64 0) rfl
      have r2 := box_cell HR.out 2 (v := .slice none 0 0) rfl
      have r3 := box_cell HR.out 3 (v := .slice none 0 0) rfl
      have r4 := box_cell HR.out 4 (v := .int .i64 0) rfl
      have r5 := box_cell HR.out 5 (v := .int .i64 0) rfl
      have r6 := box_cell HR.out 6 (v := .slice none 0 0) rfl
      have zr := box_frozen HR.out
      have lr := lt_of_block HR.out
      have S5 := set_block (set_block (set_block (set_block (set_block (set_block (set_block HR.out 0 (.int .i64 L)) 1 (.int .i64 S)) 2 (.slice b1 ws.length d1)) 3 (.slice b2 gs.length d2)) 4 (.int .i64 C)) 5 (.int .i64 Z)) 6 ((.slice a'' fs0.length c''))
      have x0 := box_cell S5 0 (v := .int .i64 L) (by simp)
      have x1 := box_cell S5 1 (v := .int .i64 S) (by simp)
      have x2 := box_cell S5 2 (v := .slice b1 ws.length d1) (by simp)
      have x3 := box_cell S5 3 (v := .slice b2 gs.length d2) (by simp)
      have x4 := box_cell S5 4 (v := .int .i64 C) (by simp)
      have x5 := box_cell S5 5 (v := .int .i64 Z) (by simp)
      have x6 := box_cell S5 6 (v := (.slice a'' fs0.length c'')) (by simp)
      clear S5
      go_wp2_with fail
      refine bodyPost_ret (v := .tuple #[.agg #[.int .i64 L, .int .i64 S, .slice b1 ws.length d1, .slice b2 gs.length d2, .int .i64 C, .int .i64 Z, (.slice a'' fs0.length c'')], .int .i64 3]) ?_ rfl ⟨⟨b1, d1, b2, d2, a'', c'', fs0, rfl, ?_, SV.out, fun h => by cases h⟩, ?_⟩
      · unfold results; rw [Tryz.results5]; simp [go_sem, x0, x1, x2, x3, x4, x5, x6]
      · exact GetOwn.mono (GetOwn.set (GetOwn.set (GetOwn.set (GetOwn.set (GetOwn.set (GetOwn.set (GetOwn.set GO.out hRb _ _) hRb _ _) hRb _ _) hRb _ _) hRb _ _) hRb _ _) hRb _ _) (show w.heap.size ≤ w.heap.size + 2 by omega)
      · exact u_set (u_set (u_set (u_set (u_set (u_set (u_set HB.out (by simp) _ _) (by simp) _ _) (by simp) _ _) (by simp) _ _) (by simp) _ _) (by simp) _ _) (by simp) _ _
    · have KI := hid (fun w => l1In_yes id 0 9999 w hd)
      clear hd
      go_wp2_with fail
      refine (KI.out V).mono ?_
      rintro e w3 ⟨rfl, hw⟩
      replace hw := hw.symm
      subst hw
      clear KI
      have r0 := box_cell HR.out 0 (v := .int .i64 0) rfl
      have r1 := box_cell HR.out 1 (v := .int .i64 0) rfl
      have r2 := box_cell HR.out 2 (v := .slice none 0 0) rfl
      have r3 := box_cell HR.out 3 (v := .slice none 0 0) rfl
      have r4 := box_cell HR.out 4 (v := .int .i64 0) rfl
      have r5 := box_cell HR.out 5 (v := .int .i64 0) rfl
      have r6 := box_cell HR.out 6 (v := .slice none 0 0) rfl
      have zr := box_frozen HR.out
      have lr := lt_of_block HR.out
      have S5 := set_block (set_block (set_block (set_block (set_block (set_block (set_block HR.out 0 (.int .i64 L)) 1 (.int .i64 S)) 2 (.slice b1 ws.length d1)) 3 (.slice b2 gs.length d2)) 4 (.int .i64 C)) 5 (.int .i64 Z)) 6 ((.slice a'' fs0.length c''))
      have x0 := box_cell S5 0 (v := .int .i64 L) (by simp)
      have x1 := box_cell S5 1 (v := .int .i64 S) (by simp)
      have x2 := box_cell S5 2 (v := .slice b1 ws.length d1) (by simp)
      have x3 := box_cell S5 3 (v := .slice b2 gs.length d2) (by simp)
      have x4 := box_cell S5 4 (v := .int .i64 C) (by simp)
      have x5 := box_cell S5 5 (v := .int .i64 Z) (by simp)
      have x6 := box_cell S5 6 (v := (.slice a'' fs0.length c'')) (by simp)
      clear S5
      go_wp2_with fail
      refine bodyPost_ret (v := .tuple #[.agg #[.int .i64 L, .int .i64 S, .slice b1 ws.length d1, .slice b2 gs.length d2, .int .i64 C, .int .i64 Z, (.slice a'' fs0.length c'')], .int .i64 3]) ?_ rfl ⟨⟨b1, d1, b2, d2, a'', c'', fs0, rfl, ?_, SV.out, fun h => by cases h⟩, ?_⟩
      · unfold results; rw [Tryz.results5]; simp [go_sem, x0, x1, x2, x3, x4, x5, x6]
      · exact GetOwn.mono (GetOwn.set (GetOwn.set (GetOwn.set (GetOwn.set (GetOwn.set (GetOwn.set (GetOwn.set GO.out hRb _ _) hRb _ _) hRb _ _) hRb _ _) hRb _ _) hRb _ _) hRb _ _) (show w.heap.size ≤ w.heap.size + 2 by omega)
      · exact u_set (u_set (u_set (u_set (u_set (u_set (u_set HB.out (by simp) _ _) (by simp) _ _) (by simp) _ _) (by simp) _ _) (by simp) _ _) (by simp) _ _) (by simp) _ _
end Go.Proofs.YtegldmdcdnnegaaGreatDoor
