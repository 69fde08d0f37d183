/- A block put into a sum, by the model. -/
import Derived.Test.YtnjjdcalmgjaiaaDoorHsF
import Derived.Test.YtnjjdcalmgjaiaaDoorHsE
import Derived.Test.YtnjjdcalmgjaiaaDoorPlanCa
namespace Go.Proofs.YtnjjdcalmgjaiaaDoor
open Go.ChangeShapes Go.WideShapes Go.ChangeAt Go.RowKit

/-- A row of words that can be read. -/
def WrdAt (w : World) (g : Nat) (xs : List Int) : Prop := ∀ j, j < xs.length → w.cell? ⟨g, j, none⟩ = some (.int .u32 (xs.getD j 0))
theorem WrdAt.below {w w' : World} {g : Nat} {xs : List Int} (h : WrdAt w g xs) {n : Nat} (hn : g < n) (hb : Below n w w') : WrdAt w' g xs := fun j hj =>
  (hb.cell (p := ⟨g, j, none⟩) hn).trans (h j hj)
theorem wrd_of_owns {w : World} {base g c n : Nat} {t : TypeId} {xs : List Int} (h : w.ownsRow base t 1 (.slice (some ⟨g, 0, none⟩) n c) n (u32s xs)) : WrdAt w g xs := fun j hj => by
  have h1 : xs.length = n := by simpa using h.1
  have := h.cellAt j (by omega)
  rw [this]
  exact u32_at xs j hj
theorem wrd_of_row {w : World} {g : Nat} {t : TypeId} {z : Nat × Nat} {cs : Array Value} {xs : List Int} (h : w.heap[g]? = some (.cells cs t z)) (hc : ∀ j, j < xs.length → cs[j]? = some (.int .u32 (xs.getD j 0))) : WrdAt w g xs := fun j hj => by
  rw [cell_of_row _ _ j cs t z h]
  exact hc j hj
theorem words_get {w : World} {g i : Nat} {xs : List Int} {u : Value} (h : WrdAt w g xs) (hu : (u32s xs)[i]? = some u) : w.cell? ⟨g, 0 + i, none⟩ = some u := by
  have hi : i < xs.length := by have := (List.getElem?_eq_some_iff.1 hu).1; simpa using this
  rw [u32_at xs i hi] at hu
  rw [Nat.zero_add, h i hi, hu]
/-- 'append([]uint32{}, xs...)'. -/
theorem append_copyV {P : Program} {w : World} {ops : Array Oper} {rest : List Oper} {o : Oper} {a : Act} {Q : Exit → Act → World → Prop} (t e : TypeId) (i : TypeInfo) (z : Value) (bytes : Nat)
    (ht : P.underlying t = some (.slice e)) (hi : P.info? e = some i) (hz : i.zero = some z) (hz1 : i.size = 1) (hz2 : i.bytes = bytes) (hzs : z.cells.size = 1)
    {g b off m cap : Nat} {xs : List Value} (s x : Operand) (hgd : o.guard = none) (ho : o.op = .call { callee := .builtin .append, args := #[s, x], argTypes := #[t, t] })
    (hs : a.eval s = .slice (some ⟨g, 0, none⟩) 0 0) (hx : a.eval x = .slice (some ⟨b, off, none⟩) m cap) (hg : g = w.heap.size) (hm : xs.length = m)
    (hc : ∀ i u, xs[i]? = some u → w.cell? ⟨b, off + i, none⟩ = some u) (h1 : ∀ u ∈ xs, u.oneCell' = true) (hbd : m * bytes ≤ 140737488355328) (hml : m ≤ 9223372036854775807)
    (h : ∀ v' w', w'.ownsRow w.heap.size e 1 v' m xs → Below w.heap.size w w' → wpList P ops Q rest (a.put o.dst v') w') :
    wpList P ops Q (o :: rest) a (w.alloc (.cells #[] e)) := by
  subst hg
  have ho1 : (w.alloc (.cells #[] e)).ownsRow w.heap.size e 1 (.slice (some ⟨w.heap.size, 0, none⟩) 0 0) 0 [] := World.ownsRow_lit w #[] 0 (Nat.le_refl _) (Nat.zero_le _) rfl
  refine wpList_append_own _ hgd s x t ho w.heap.size e i z 1 bytes ht hi hz hz1 hz2 hzs (by decide) _ 0 [] hs ho1 ⟨b, off, none⟩ m cap xs hx (by simp [hm]) ?_ h1 (by unfold maxLen; omega) (by rw [Nat.zero_add]; exact hbd) (by simp) ?_
  · intro j u hj
    have hci := hc j u hj
    rw [addr_add, World.cell?_of_block (w := w) (Below.heap_alloc _ _ _ (block_lt_of_cell hci)), hci]
  · intro v' w' h1 h2 _
    refine h v' w' ?_ (((Below.refl _ _).alloc (Nat.le_refl _) _).grown h2 (by simp) (fun j hj => (ho1.lt j hj).1))
    simpa using h1
/-- The words of the state in a block of which only the first eight are told. -/
def StC (cur : Array Value) (f : Nat → Int) : Prop := ∀ j, j < 8 → cur[j]? = some (.int .u32 (f j))
theorem st_cell {w : World} {g : Nat} {t : TypeId} {z : Nat × Nat} {cur : Array Value} {f : Nat → Int} (h : w.heap[g]? = some (.cells cur t z)) (hs : StC cur f) (j : Nat) (hj : j < 8) : w.cell? ⟨g, j, none⟩ = some (.int .u32 (f j)) := by
  rw [cell_of_row _ _ j cur t z h]
  exact hs j hj
theorem StC.set {cur : Array Value} {f g : Nat → Int} (h : StC cur f) (k : Nat) (hk : k < 8) (x : Int) (hg : g k = x) (hne : ∀ j, j < 8 → j ≠ k → g j = f j) : StC (cur.setIfInBounds k (.int .u32 x)) g := by
  intro j hj
  have hsz : k < cur.size := by
    rcases Nat.lt_or_ge k cur.size with h2 | h2
    · exact h2
    · have := h k hk; rw [Array.getElem?_eq_none h2] at this; simp at this
  rw [Array.getElem?_setIfInBounds]
  by_cases hjk : k = j
  · subst hjk
    simp [hsz, hg]
  · rw [if_neg hjk, h j hj, hne j hj (fun e => hjk e.symm)]
set_option maxHeartbeats 8000000 in
set_option maxRecDepth 100000 in
theorem l1Block_any (gh ch g o c : Nat) (s0 : H8) (bs : List Int) (w : World) (_hch : 8 ≤ ch) (hh : WrdAt w gh s0.l) (hc : 64 ≤ c) (hb : BlkAt w g o bs) (hbd : ∀ j, 0 ≤ bs.getD j 0 ∧ bs.getD j 0 ≤ 255) :
    Calls Tryd.prog 48 #[.slice (some ⟨gh, 0, none⟩) 8 ch, .slice (some ⟨g, o, none⟩) 64 c] w fun e w' => ∃ v, e = .returned v ∧ w'.ownsRow w.heap.size 38 1 v 8 (u32s (behindH s0 (sprN bs 64)).l) ∧ Below w.heap.size w w' := by
  obtain ⟨i0, hi, hz0, hz1, hz2⟩ := info_parts Tryd.info38
  have HW := hid (l1Words_any g o c bs w hc hb hbd)
  have HK := hid l1Consts_any
  have HH := hid hh
  have hgw := block_lt_of_cell (hb 0 (by omega))
  have hhw := block_lt_of_cell (hh 0 (by simp [H8.l]))
  clear hb hbd hh
  go_enter Tryd.func48, Tryd.ntmps48
  go_wp2_with fail
  refine HW.out.mono ?_
  rintro e wa ⟨v, rfl, ow, bw⟩
  obtain ⟨gw, cw, hv, hgw0⟩ := owns_shape ow (by intro e; have := congrArg List.length e; simp [sprN_len] at this)
  subst hv
  have hgw1 := (ow.lt gw rfl).2
  have XW := hid (wrd_of_owns ow)
  clear ow HW
  go_wp2_with fail
  refine (HK.out wa).mono ?_
  rintro e wb ⟨gk, rfl, hgk0, xk, bk⟩
  have XK := hid (wrd_of_row xk (fun j hj => wordC_at hashK j hj))
  have hgk1 := lt_of_block xk
  have XW2 := hid (XW.out.below hgw1 bk)
  have HB := hid (bw.trans (bk.mono bw.size))
  have HH2 := hid (HH.out.below hhw HB.out)
  have hs1 := bw.size
  have hs2 := bk.size
  clear xk bk bw XW HK
  repeat ((fail_if_success (with_reducible show Code.wp _ (Code.region 3 _ _) _ _ _)); (first | go_values | go_skip | go_guarded | go_step | go_upon | go_back | go_simp))
  repeat ((fail_if_success (with_reducible show Code.wp _ (Code.region 4 _ _) _ _ _)); (first | (at_builtin; refine append_copyV 66 38 i0 _ 4 Tryd.underlying66 hi hz0 hz1 hz2 rfl (xs := u32s s0.l) _ _ rfl rfl rfl rfl rfl rfl (fun i u hu => words_get HH2.out hu) (by intro u hu; obtain ⟨y, -, rfl⟩ := List.mem_map.1 hu; rfl) (by omega) (by omega) ?_; intro v' wc oc bc) | go_values | go_skip | go_guarded | go_step | go_upon | go_back | go_simp))
  -- LOOP
  obtain ⟨gs, cs, cur0, rfl, hgs0, xs0, hn8, hcm8, hcs8, ht8⟩ : ∃ g cap cur, v' = .slice (some ⟨g, 0, none⟩) 8 cap ∧ wb.heap.size ≤ g ∧ wc.heap[g]? = some (.cells cur 38 (0, 0)) ∧ 8 ≤ cap ∧ cap ≤ maxLen ∧ cur.size = cap * 1 ∧ cur.toList.take (8 * 1) = u32s s0.l := by
    rcases oc.2 with ⟨-, h⟩ | h
    · omega
    · exact h
  have st0 : StC cur0 (fun j => (rndN s0 (sprN bs 64) 0).l.getD j 0) := by
    intro j hj
    have h1 : (cur0.toList.take (8 * 1))[j]? = (u32s s0.l)[j]? := by rw [ht8]
    rw [List.getElem?_take, if_pos (by omega), u32_at s0.l j (by simpa [H8.l] using hj), Array.getElem?_toList] at h1
    exact h1
  have hgs1 := lt_of_block xs0
  have HX0 := hid xs0
  have HS0 := hid st0
  have HB1 := hid bc
  have T := hid (fun W x k (n : Nat) (h0 : 0 < n) (h1 : n < 32) (hk : k = (n : Int)) => l1Turn_at x k n W h0 h1 hk)
  clear xs0 st0 bc oc ht8 hcs8
  go_wp2_with fail
  go_loopw [8] (fun i wr => ∃ (k : Nat) (cur : Array Value), k ≤ 64 ∧ i = .int .i64 k ∧ wr.heap[gs]? = some (.cells cur 38 (0, 0)) ∧ StC cur (fun j => (rndN s0 (sprN bs 64) k).l.getD j 0) ∧ Below wb.heap.size wb wr) (fun i _ => 64 - (intOf i).toNat)
  case atStart => exact ⟨0, cur0, by omega, rfl, HX0.out, HS0.out, HB1.out⟩
  case round =>
    obtain ⟨k, cur, hk, rfl, hx, hs, hbw⟩ := hrel
    have HX := hid hx
    obtain ⟨S, eS⟩ : ∃ S, S = rndN s0 (sprN bs 64) k := ⟨_, rfl⟩
    rw [← eS] at hs
    have HS := hid (show StC cur (fun j => S.l.getD j 0) from hs)
    have HB2 := hid hbw
    have HE := hid eS
    clear hx hs hbw HX0 HS0 HB1 eS
    by_cases hlt : k < 64
    · repeat ((fail_if_success (with_reducible show Code.wp _ (Code.region 7 _ _) _ _ _)); (first | go_values | go_skip | go_guarded | go_step | go_upon | go_back | (simp only [Int.not_lt, Int.not_le] at *; go_simp)))
      have p4 := cell_regrown (show wr.cell? ⟨gs, 4, none⟩ = some (.int .u32 S.e) from st_cell HX.out HS.out 4 (by omega))
      refine wp_planzQ 15 (.pull [(0, 3), (4, 3), (9, 3)] (.step 3 (.step 7 (.pull [(8, 1)] (.step 12 (.pull [(13, 1)] (.step 14 .done))))))) (by kernel_rfl) (by kernel_rfl) ?_
      intro V0 hw0
      have hbq := of_class hw0
      refine plz_pull ?_
      simp only [cutOut, List.take_succ_cons, List.take_zero, List.drop_succ_cons, List.drop_zero, List.append_nil]
      repeat (first | go_big_quiet_step (fail) | quiet_step (fail))
      refine wpQuiet_nil ?_
      clear p4 hw0
      refine plz_step rfl (by omega) (fun K hK => ?_)
      go_simp
      refine (T.out V0 S.e 6 6 (by omega) (by omega) rfl).mono ?_
      rintro _ V1 ⟨rfl, b0⟩
      have c0 := u_cat hbq b0
      refine hK _ _ (class_of c0) ?_
      clear hK K
      refine plz_step rfl (by omega) (fun K hK => ?_)
      go_simp
      refine (T.out V1 S.e 11 11 (by omega) (by omega) rfl).mono ?_
      rintro _ V2 ⟨rfl, b1⟩
      have c1 := u_cat c0 b1
      refine hK _ _ (class_of c1) ?_
      clear hK K
      refine plz_pull ?_
      simp only [cutOut, List.take_succ_cons, List.take_zero, List.drop_succ_cons, List.drop_zero, List.append_nil]
      repeat (first | go_big_quiet_step (fail) | quiet_step (fail))
      refine wpQuiet_nil ?_
      refine plz_step rfl (by omega) (fun K hK => ?_)
      go_simp
      refine (T.out V2 S.e 25 25 (by omega) (by omega) rfl).mono ?_
      rintro _ V3 ⟨rfl, b2⟩
      have c2 := u_cat c1 b2
      refine hK _ _ (class_of c2) ?_
      clear hK K
      refine plz_pull ?_
      simp only [cutOut, List.take_succ_cons, List.take_zero, List.drop_succ_cons, List.drop_zero, List.append_nil]
      repeat (first | go_big_quiet_step (fail) | quiet_step (fail))
      refine wpQuiet_nil ?_
      refine plz_step rfl (by omega) (fun K hK => ?_)
      go_simp
      refine hK _ _ (class_of c2) ?_
      clear hK K
      refine plz_done ?_
      have HX := hid (kept HX.out c2)
      have HB2 := hid (HB2.out.trans (c2.mono HB2.out.size))
      clear c2
      clear hbq b0 b1 b2 c0 c1
      repeat ((fail_if_success (with_reducible show Code.wp _ (Code.region 8 _ _) _ _ _)); (first | go_values | go_skip | go_guarded | go_step | go_upon | go_back | (simp only [Int.not_lt, Int.not_le] at *; go_simp)))
      have p4 := cell_regrown (show V3.cell? ⟨gs, 4, none⟩ = some (.int .u32 S.e) from st_cell HX.out HS.out 4 (by omega))
      have p5 := cell_regrown (show V3.cell? ⟨gs, 5, none⟩ = some (.int .u32 S.f) from st_cell HX.out HS.out 5 (by omega))
      have p6 := cell_regrown (show V3.cell? ⟨gs, 6, none⟩ = some (.int .u32 S.g) from st_cell HX.out HS.out 6 (by omega))
      refine wp_planzQ 17 (.pull [(0, 16)] (.step 16 .done)) (by kernel_rfl) (by kernel_rfl) ?_
      intro X0 hw0
      have hbq := of_class hw0
      refine plz_pull ?_
      simp only [cutOut, List.take_succ_cons, List.take_zero, List.drop_zero, List.append_nil]
      repeat (first | go_big_quiet_step (fail) | quiet_step (fail))
      refine wpQuiet_nil ?_
      clear p4 p5 p6  hw0
      refine plz_step rfl (by omega) (fun K hK => ?_)
      go_simp
      refine hK _ _ (class_of hbq) ?_
      clear hK K
      refine plz_done ?_
      have HX := hid (kept HX.out hbq)
      have HB2 := hid (HB2.out.trans (hbq.mono HB2.out.size))
      clear hbq
      repeat ((fail_if_success (with_reducible show Code.wp _ (Code.region 9 _ _) _ _ _)); (first | go_values | go_skip | go_guarded | go_step | go_upon | go_back | (simp only [Int.not_lt, Int.not_le] at *; go_simp)))
      have p7 := cell_regrown (show X0.cell? ⟨gs, 7, none⟩ = some (.int .u32 S.h) from st_cell HX.out HS.out 7 (by omega))
      have pk := cell_regrown (show X0.cell? ⟨gk, k, none⟩ = some (.int .u32 (hashK.getD k 0)) from XK.out.below hgk1 HB2.out k (by rw [hashK_len]; exact hlt))
      have pw := cell_regrown (show X0.cell? ⟨gw, k, none⟩ = some (.int .u32 ((sprN bs 64).getD k 0)) from XW2.out.below (by omega) HB2.out k (by rw [sprN_len]; exact hlt))
      refine wp_planzQ 18 (.pull [(0, 17)] (.step 17 .done)) (by kernel_rfl) (by kernel_rfl) ?_
      intro Y0 hw0
      have hbq := of_class hw0
      refine plz_pull ?_
      simp only [cutOut, List.take_succ_cons, List.take_zero, List.drop_zero, List.append_nil]
      repeat (first | go_big_quiet_step (fail) | quiet_step (fail))
      refine wpQuiet_nil ?_
      clear p7 pk pw hw0
      refine plz_step rfl (by omega) (fun K hK => ?_)
      go_simp
      refine hK _ _ (class_of hbq) ?_
      clear hK K
      refine plz_done ?_
      have HX := hid (kept HX.out hbq)
      have HB2 := hid (HB2.out.trans (hbq.mono HB2.out.size))
      clear hbq
      repeat ((fail_if_success (with_reducible show Code.wp _ (Code.region 10 _ _) _ _ _)); (first | go_values | go_skip | go_guarded | go_step | go_upon | go_back | (simp only [Int.not_lt, Int.not_le] at *; go_simp)))
      have p0 := cell_regrown (show Y0.cell? ⟨gs, 0, none⟩ = some (.int .u32 S.a) from st_cell HX.out HS.out 0 (by omega))
      refine wp_planzQ 15 (.pull [(0, 3), (4, 3), (9, 3)] (.step 3 (.step 7 (.pull [(8, 1)] (.step 12 (.pull [(13, 1)] (.step 14 .done))))))) (by kernel_rfl) (by kernel_rfl) ?_
      intro Z0 hw0
      have hbq := of_class hw0
      refine plz_pull ?_
      simp only [cutOut, List.take_succ_cons, List.take_zero, List.drop_succ_cons, List.drop_zero, List.append_nil]
      repeat (first | go_big_quiet_step (fail) | quiet_step (fail))
      refine wpQuiet_nil ?_
      clear p0 hw0
      refine plz_step rfl (by omega) (fun K hK => ?_)
      go_simp
      refine (T.out Z0 S.a 2 2 (by omega) (by omega) rfl).mono ?_
      rintro _ Z1 ⟨rfl, b0⟩
      have c0 := u_cat hbq b0
      refine hK _ _ (class_of c0) ?_
      clear hK K
      refine plz_step rfl (by omega) (fun K hK => ?_)
      go_simp
      refine (T.out Z1 S.a 13 13 (by omega) (by omega) rfl).mono ?_
      rintro _ Z2 ⟨rfl, b1⟩
      have c1 := u_cat c0 b1
      refine hK _ _ (class_of c1) ?_
      clear hK K
      refine plz_pull ?_
      simp only [cutOut, List.take_succ_cons, List.take_zero, List.drop_succ_cons, List.drop_zero, List.append_nil]
      repeat (first | go_big_quiet_step (fail) | quiet_step (fail))
      refine wpQuiet_nil ?_
      refine plz_step rfl (by omega) (fun K hK => ?_)
      go_simp
      refine (T.out Z2 S.a 22 22 (by omega) (by omega) rfl).mono ?_
      rintro _ Z3 ⟨rfl, b2⟩
      have c2 := u_cat c1 b2
      refine hK _ _ (class_of c2) ?_
      clear hK K
      refine plz_pull ?_
      simp only [cutOut, List.take_succ_cons, List.take_zero, List.drop_succ_cons, List.drop_zero, List.append_nil]
      repeat (first | go_big_quiet_step (fail) | quiet_step (fail))
      refine wpQuiet_nil ?_
      refine plz_step rfl (by omega) (fun K hK => ?_)
      go_simp
      refine hK _ _ (class_of c2) ?_
      clear hK K
      refine plz_done ?_
      have HX := hid (kept HX.out c2)
      have HB2 := hid (HB2.out.trans (c2.mono HB2.out.size))
      clear c2
      clear hbq b0 b1 b2 c0 c1
      repeat ((fail_if_success (with_reducible show Code.wp _ (Code.region 11 _ _) _ _ _)); (first | go_values | go_skip | go_guarded | go_step | go_upon | go_back | (simp only [Int.not_lt, Int.not_le] at *; go_simp)))
      have p0 := cell_regrown (show Z3.cell? ⟨gs, 0, none⟩ = some (.int .u32 S.a) from st_cell HX.out HS.out 0 (by omega))
      have p1 := cell_regrown (show Z3.cell? ⟨gs, 1, none⟩ = some (.int .u32 S.b) from st_cell HX.out HS.out 1 (by omega))
      have p2 := cell_regrown (show Z3.cell? ⟨gs, 2, none⟩ = some (.int .u32 S.c) from st_cell HX.out HS.out 2 (by omega))
      refine wp_planzQ 24 (.pull [(0, 23)] (.step 23 .done)) (by kernel_rfl) (by kernel_rfl) ?_
      intro U0 hw0
      have hbq := of_class hw0
      refine plz_pull ?_
      simp only [cutOut, List.take_succ_cons, List.take_zero, List.drop_zero, List.append_nil]
      repeat (first | go_big_quiet_step (fail) | quiet_step (fail))
      refine wpQuiet_nil ?_
      clear p0 p1 p2  hw0
      refine plz_step rfl (by omega) (fun K hK => ?_)
      go_simp
      refine hK _ _ (class_of hbq) ?_
      clear hK K
      refine plz_done ?_
      have HX := hid (kept HX.out hbq)
      have HB2 := hid (HB2.out.trans (hbq.mono HB2.out.size))
      clear hbq
      go_wp2_with fail
      go_loopw [14] (fun i wr => ∃ (n : Nat) (cur : Array Value), n ≤ 7 ∧ i = .int .i64 n ∧ wr.heap[gs]? = some (.cells cur 38 (0, 0)) ∧ StC cur (fun j => if j ≤ n then S.l.getD j 0 else S.l.getD (j - 1) 0) ∧ Below wb.heap.size wb wr) (fun i _ => (intOf i).toNat)
      case atStart => exact ⟨7, cur, by omega, rfl, HX.out, (fun j hj => by rw [HS.out j hj]; simp only []; rw [if_pos (by omega)]), HB2.out⟩
      case round =>
        obtain ⟨n, cu2, hn, rfl, hx, hs, hbw⟩ := hrel
        clear HX HS HB2
        have HX := hid hx
        have HS := hid hs
        have HB2 := hid hbw
        clear hx hs hbw
        by_cases h0 : 0 < n
        · have pm := (show wr.cell? ⟨gs, n - 1, none⟩ = some (.int .u32 (S.l.getD (n - 1) 0)) from (st_cell HX.out HS.out (n - 1) (by omega)).trans (by rw [if_pos (show n - 1 ≤ n by omega)]))
          have pn := st_cell HX.out HS.out n (by omega)
          have hf := box_frozen HX.out n
          have t1 : ((n : Int) - 1).toNat = n - 1 := by omega
          obtain ⟨y, ey⟩ : ∃ y, y = S.l.getD (n - 1) 0 := ⟨_, rfl⟩
          rw [← ey] at pm
          have EY := hid ey
          clear ey
          go_wp2_with fail
          go_roundw
          case rel =>
            refine ⟨n - 1, _, by omega, by go_num, set_block HX.out n (.int .u32 y), HS.out.set n (by omega) _ ?_ ?_, u_set HB2.out hgs0 _ _⟩
            · rw [if_neg (by omega), EY.out]
            · intro j hj hne
              by_cases hjn : j ≤ n
              · rw [if_pos (show j ≤ n - 1 by omega), if_pos hjn]
              · rw [if_neg (show ¬ j ≤ n - 1 by omega), if_neg hjn]
          case measure => simp [intOf]; omega
        · obtain rfl : n = 0 := by omega
          have p4 := (show wr.cell? ⟨gs, 4, none⟩ = some (.int .u32 S.d) from st_cell HX.out HS.out 4 (by omega))
          have hf := box_frozen HX.out 4
          repeat ((fail_if_success (with_reducible show Code.wp _ (Code.region 17 _ _) _ _ _)); (first | go_values | go_skip | go_guarded | go_step | go_upon | go_back | (simp only [Int.not_lt, Int.not_le] at *; go_simp)))
          refine (fun (key : ∀ x, x = _ → Code.wp _ _ _ _ (wr.setCell ⟨gs, 4, none⟩ (.int .u32 x))) => key _ rfl) ?_
          intro x4 e4
          have E4 := hid e4
          have HX6 := hid (set_block HX.out 4 (.int .u32 x4))
          have HS6 := hid (HS.out.set (g := fun j => if j = 4 then x4 else if j ≤ 0 then S.l.getD j 0 else S.l.getD (j - 1) 0) 4 (by omega) x4 rfl (fun j hj hne => by rw [if_neg hne]))
          have HB6 := hid (u_set HB2.out hgs0 4 (.int .u32 x4))
          obtain ⟨WX, eWX⟩ : ∃ WX, WX = wr.setCell ⟨gs, 4, none⟩ (.int .u32 x4) := ⟨_, rfl⟩
          rw [← eWX] at HX6 HB6
          rw [← eWX]
          clear e4 p4 hf HX HS HB2 eWX
          have p0 := (show WX.cell? ⟨gs, 0, none⟩ = some (.int .u32 S.a) from st_cell HX6.out HS6.out 0 (by omega))
          have hf := box_frozen HX6.out 0
          repeat ((fail_if_success (with_reducible show Code.wp _ (Code.region 6 _ _) _ _ _)); (first | go_values | go_skip | go_guarded | go_step | go_upon | go_back | (simp only [Int.not_lt, Int.not_le] at *; go_simp)))
          refine (fun (key : ∀ x, x = _ → Code.wp _ _ _ _ (WX.setCell ⟨gs, 0, none⟩ (.int .u32 x))) => key _ rfl) ?_
          intro x0 e0
          have E0 := hid e0
          clear e0
          go_wp2_with fail
          go_roundw
          case rel =>
            refine ⟨k + 1, _, by omega, by go_num, set_block HX6.out 0 (.int .u32 x0), HS6.out.set 0 (by omega) _ ?_ ?_, u_set HB6.out hgs0 _ _⟩
            · rw [E0.out]
              simp only [rndN, rnd, H8.l, ← HE.out, rndA_two, rndB, rndC, List.getD_eq_getElem?_getD, List.getElem?_cons_zero, Option.getD_some, show IntKind.u32.max = 4294967295 from rfl]
              omega
            · intro j hj hne
              have hx4 := E4.out
              obtain rfl | rfl | rfl | rfl | rfl | rfl | rfl : j = 1 ∨ j = 2 ∨ j = 3 ∨ j = 4 ∨ j = 5 ∨ j = 6 ∨ j = 7 := by omega
              · simp [rndN, rnd, H8.l, ← HE.out]
              · simp [rndN, rnd, H8.l, ← HE.out]
              · simp [rndN, rnd, H8.l, ← HE.out]
              · rw [if_pos rfl, hx4]
                simp only [rndN, rnd, H8.l, ← HE.out, rndA_two, List.getD_eq_getElem?_getD, List.getElem?_cons_succ, List.getElem?_cons_zero, Option.getD_some, show IntKind.u32.max = 4294967295 from rfl]
                omega
              · simp [rndN, rnd, H8.l, ← HE.out]
              · simp [rndN, rnd, H8.l, ← HE.out]
              · simp [rndN, rnd, H8.l, ← HE.out]
          case measure => simp [intOf]; omega
    · obtain ⟨WR, eWR⟩ : ∃ x, x = wr := ⟨_, rfl⟩
      rw [← eWR] at HX HB2
      have hk64 := hid (show k = 64 by omega)
      have hge : 64 ≤ k := by omega
      have ES := hid (show S = rndN s0 (sprN bs 64) 64 by rw [HE.out, hk64.out])
      have HZ := hid (HH2.out.below (show gh < wb.heap.size by have := HB.out.size; omega) HB2.out)
      have hz3 : wb.heap.size ≤ WR.heap.size := HB2.out.size
      have hz4 : w.heap.size ≤ WR.heap.size := by omega
      have hgsz := lt_of_block HX.out
      have hghz : gh < WR.heap.size := by omega
      rw [← eWR]
      clear HH HH2 XK XW2 T hlt eWR
      go_wp2_with fail
      go_loopw [15, 16] (fun v i wz => ∃ n : Nat, n ≤ 8 ∧ i = .int .i64 n ∧ wz.ownsRow WR.heap.size 38 1 v n (u32s ((addH s0 S).l.take n)) ∧ Below WR.heap.size WR wz) (fun _ i _ => 8 - (intOf i).toNat)
      case atStart => exact ⟨0, by omega, rfl, World.ownsRow_lit _ #[] 0 (Nat.le_refl _) (Nat.zero_le _) rfl, u_b1 _ _⟩
      case round =>
        obtain ⟨n, hn, rfl, ho, hbw⟩ := hrel
        have HO := hid ho
        have HBW := hid hbw
        have hbs := hbw.size
        obtain ⟨a0, c0, rfl⟩ := owns_slice ho
        clear ho hbw
        by_cases hlt : n < 8
        · have ph := cell_regrown (show wr.cell? ⟨gh, n, none⟩ = some (.int .u32 (s0.l.getD n 0)) from HZ.out.below hghz HBW.out n (by simpa [H8.l] using hlt))
          have ps := cell_regrown (show wr.cell? ⟨gs, n, none⟩ = some (.int .u32 (S.l.getD n 0)) from st_cell (kept HX.out HBW.out) HS.out n hlt)
          have hA : (addH s0 S).l.take (n + 1) = (addH s0 S).l.take n ++ [(s0.l.getD n 0 + S.l.getD n 0) % 4294967296] := by
            obtain rfl | rfl | rfl | rfl | rfl | rfl | rfl | rfl : n = 0 ∨ n = 1 ∨ n = 2 ∨ n = 3 ∨ n = 4 ∨ n = 5 ∨ n = 6 ∨ n = 7 := by omega
            all_goals rfl
          obtain ⟨p, ep⟩ : ∃ p, p = s0.l.getD n 0 := ⟨_, rfl⟩
          obtain ⟨q, eq⟩ : ∃ p, p = S.l.getD n 0 := ⟨_, rfl⟩
          rw [← ep] at ph hA
          rw [← eq] at ps hA
          have HA := hid hA
          clear ep eq hA
          repeat ((fail_if_success (with_reducible show Code.wp _ (Code.region 22 _ _) _ _ _)); (first | go_values | go_skip | go_guarded | go_step | go_upon | go_back | (simp only [Int.not_lt, Int.not_le] at *; go_simp)))
          refine wp_planzQ 11 (.pull [(0, 10)] (.step 10 (.step 11 (.step 12 .done)))) (by kernel_rfl) (by kernel_rfl) ?_
          intro V0 hw0
          have hbq := of_class hw0
          refine plz_pull ?_
          simp only [cutOut, List.take_succ_cons, List.take_zero, List.drop_zero, List.append_nil]
          repeat (first | go_big_quiet_step (fail) | quiet_step (fail))
          refine wpQuiet_nil ?_
          clear ph ps hw0
          refine plz_step rfl (by omega) (fun K hK => ?_)
          go_simp
          refine hK _ _ (class_of (u_cat hbq (u_b1 _ _))) ?_
          clear hK K
          have hoV := owns_below HO.out hbq
          have hszV : WR.heap.size ≤ V0.heap.size := Nat.le_trans hbs hbq.size
          refine plz_last rfl (by omega) (fun K hK => ?_)
          refine step_append_one 66 38 i0 _ 4 Tryd.underlying66 hi hz0 hz1 hz2 rfl _ _ rfl rfl rfl rfl rfl rfl hoV hszV (by omega) (by omega) ?_
          intro v' w1 hown1 hb1
          refine hK _ _ ?_
          clear hK K
          refine plz_last rfl (by omega) (fun K hK => ?_)
          go_simp
          refine hK _ _ ?_
          clear hK K
          refine plz_done ?_
          go_wp2_with fail
          go_roundw
          case rel =>
            refine ⟨n + 1, by omega, by go_num, ?_, (HBW.out.trans (hbq.mono hbs)).trans hb1⟩
            rw [HA.out]
            simpa using hown1
          case measure => simp [intOf]; omega
        · obtain rfl : n = 8 := by omega
          go_wp2_with fail
          go_ret
          refine ⟨_, rfl, ?_, (HB.out.trans (HB2.out.mono (by omega))).trans (HBW.out.mono hz4)⟩
          have h1 := owns_base HO.out hz4
          unfold behindH
          rw [← ES.out]
          exact h1
end Go.Proofs.YtnjjdcalmgjaiaaDoor
