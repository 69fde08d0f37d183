/- What is known of a thing, learnt and handed out by the program. Plans, as the laws make, count and compare them. Plans that are the same, as the laws compare them. A plan that came in. -/
import Derived.Test.YtegldmdcdnnegaaGreatDoorG1
import Derived.Test.YtegldmdcdnnegaaGreatDoorG21
import Derived.Test.YtegldmdcdnnegaaGreatDoorG26
import Derived.Test.YtegldmdcdnnegaaGreatDoorG28
import Derived.Test.YtegldmdcdnnegaaGreatDoorG15
import Derived.Test.YtegldmdcdnnegaaGreatDoorG0
import Derived.Test.YtegldmdcdnnegaaGreatDoorG12
namespace Go.Proofs.YtegldmdcdnnegaaGreatDoor
open Go.ChangeShapes Go.WideShapes Go.ChangeAt Go.RowKit Go.Sort Go.Shelf
attribute [local go_sem] Oper.semAt_some

/-- The cells of a getting that the program goes on with. -/
def knC (L S : Int) (v1 v2 : Value) (C Z : Int) (p : Option Addr) : Array Value := #[.int .i64 L, .int .i64 S, v1, v2, .int .i64 C, .int .i64 Z, .pointer p]
theorem knBx (L S : Int) (v1 v2 : Value) (C Z : Int) : Bx (knC L S v1 v2 C Z) 57 4 C Z := ⟨fun _ => rfl, fun _ => rfl, fun _ => rfl, fun _ _ => rfl, L, fun _ => rfl⟩

theorem ListAt.below {w w' : World} {sb so base : Nat} {cs : Option Addr → Array Value} {ct : TypeId} {c z : Int} {ls : List Lk} (h : ListAt w sb so base cs ct c z ls) (hb : Below w.heap.size w w') : ListAt w' sb so base cs ct c z ls :=
  ⟨kept h.box hb, h.at'.below hb, h.ok, h.byt, h.low, h.sb_⟩

set_option maxHeartbeats 4000000 in
set_option maxRecDepth 100000 in
/-- Handed out. -/
theorem getting_any (kb base : Nat) (L S C Z : Int) (b1 b2 : Option Addr) (n1 n2 d1 d2 : Nat) (ls : List Lk) (w : World) (hI : ListAt w kb 4 base (knC L S (.slice b1 n1 d1) (.slice b2 n2 d2) C Z) 57 C Z ls) (hc : 0 ≤ C) (hc2 : C ≤ 24) (hz : Z ≤ 16) (hT : Tab w) :
    Calls Tryz.prog 23 #[.pointer (some ⟨kb, 0, none⟩)] w fun e w' => ∃ a' c' gs, e = .returned (.agg #[.int .i64 L, .int .i64 S, (.slice b1 n1 d1), (.slice b2 n2 d2), .int .i64 C, .int .i64 Z, .slice a' gs.length c']) ∧ w'.ownsRow (w.heap.size + 1) 81 2 (.slice a' gs.length c') gs.length (eqCells gs) ∧ valsE gs = valsL ls ∧ RowsOwn w' (w.heap.size + 1) gs ∧ RowsAp gs ∧ Below w.heap.size w w' := by
  obtain ⟨W0, hW0⟩ : ∃ W0, W0 = w.alloc (.cells #[.int .i64 0, .int .i64 0, .slice none 0 0, .slice none 0 0, .int .i64 0, .int .i64 0, .slice none 0 0] 36) := ⟨_, rfl⟩
  have b0 : Below w.heap.size w W0 := by rw [hW0]; exact u_b1 _ _
  have X0 := hid (show W0.heap[w.heap.size]? = some (.cells #[.int .i64 0, .int .i64 0, .slice none 0 0, .slice none 0 0, .int .i64 0, .int .i64 0, .slice none 0 0] 36 (0, 0)) by rw [hW0]; exact laid _ _ _)
  have hs0 : w.heap.size + 1 ≤ W0.heap.size := by rw [hW0]; simp
  have HI := hid (hI.below b0)
  have HB := hid b0
  have HT := hid (hT.below b0)
  have hkw := lt_of_block hI.box
  clear hI hT b0
  go_enter Tryz.func23, Tryz.ntmps23
  repeat ((fail_if_success (with_reducible show Code.wp _ (Code.region 1 _ _) _ _ _)); (first | go_values | go_skip | go_guarded | go_step | go_upon | go_back | go_simp))
  rw [← hW0]
  clear hW0
  have y0 := cell_regrown (box_cell HI.out.box 0 (v := .int .i64 L) rfl)
  have y1 := cell_regrown (box_cell HI.out.box 1 (v := .int .i64 S) rfl)
  have y2 := cell_regrown (box_cell HI.out.box 2 (v := (.slice b1 n1 d1)) rfl)
  have y3 := cell_regrown (box_cell HI.out.box 3 (v := (.slice b2 n2 d2)) rfl)
  refine wp_plan 9 (.pull [(0, 7)] (.step 7 (.step 8 (.step 9 .done)))) (by kernel_rfl) (by kernel_rfl) ?_
  intro V0 hw0
  have hbq := of_class hw0
  refine pln_pull ?_
  simp only [cutOut, List.take_succ_cons, List.take_zero, List.drop_zero, List.append_nil]
  repeat (first | go_big_quiet_step (fail) | quiet_step (fail))
  try refine wpQuiet_nil ?_
  clear y0 y1 y2 y3
  refine pln_step rfl (by omega) (fun K hK => ?_)
  go_simp
  with_reducible refine (out_at kb 4 base (knC L S (.slice b1 n1 d1) (.slice b2 n2 d2) C Z) 57 C Z (knBx L S (.slice b1 n1 d1) (.slice b2 n2 d2) C Z) ls V0 (HI.out.below hbq) hc hc2 hz (HT.out.below hbq)).mono ?_
  rintro _ V1 ⟨a', c', gs, rfl, o1, s1, r1, p1, bb⟩
  refine hK _ _ (class_of (u_cat hbq bb)) ?_
  clear hK K
  have X1 := hid (kept (kept X0.out hbq) bb)
  have B1 := hid (u_cat (u_cat HB.out hbq) bb)
  have hs1 := hbq.size
  have hs2 := bb.size
  have O1 := hid o1
  have S1 := hid s1
  have R1 := hid r1
  have P1 := hid p1
  have hcl := u_cat hbq bb
  clear o1 s1 r1 p1 bb
  refine pln_step rfl (by omega) (fun K hK => ?_)
  go_simp
  refine hK _ _ (class_of hcl) ?_
  clear hK K
  have zr := box_frozen X1.out
  have s0 := box_cell X1.out 0 (v := .int .i64 0) rfl
  have s1 := box_cell X1.out 1 (v := .int .i64 0) rfl
  have s2 := box_cell X1.out 2 (v := .slice none 0 0) rfl
  have s3 := box_cell X1.out 3 (v := .slice none 0 0) rfl
  have s4 := box_cell X1.out 4 (v := .int .i64 0) rfl
  have s5 := box_cell X1.out 5 (v := .int .i64 0) rfl
  have s6 := box_cell X1.out 6 (v := .slice none 0 0) rfl
  have lr := lt_of_block X1.out
  refine pln_last rfl (by omega) (fun K hK => ?_)
  go_simp
  refine hK _ _ ?_
  clear hK K
  refine pln_done ?_
  have Y := set_block (set_block (set_block (set_block (set_block (set_block (set_block (X1.out) 0 (.int .i64 L)) 1 (.int .i64 S)) 2 (.slice b1 n1 d1)) 3 (.slice b2 n2 d2)) 4 (.int .i64 C)) 5 (.int .i64 Z)) 6 (.slice a' gs.length c')
  have y0 := box_cell Y 0 (v := .int .i64 L) (by simp)
  have y1 := box_cell Y 1 (v := .int .i64 S) (by simp)
  have y2 := box_cell Y 2 (v := (.slice b1 n1 d1)) (by simp)
  have y3 := box_cell Y 3 (v := (.slice b2 n2 d2)) (by simp)
  have y4 := box_cell Y 4 (v := .int .i64 C) (by simp)
  have y5 := box_cell Y 5 (v := .int .i64 Z) (by simp)
  have y6 := box_cell Y 6 (v := .slice a' gs.length c') (by simp)
  clear s0 s1 s2 s3 s4 s5 s6 zr lr Y hcl hbq
  go_wp2_with fail
  refine bodyPost_ret (v := .agg #[.int .i64 L, .int .i64 S, (.slice b1 n1 d1), (.slice b2 n2 d2), .int .i64 C, .int .i64 Z, .slice a' gs.length c']) ?_ rfl ⟨a', c', gs, rfl, ?_, S1.out, ?_, P1.out, ?_⟩
  · unfold results; rw [Tryz.results23]; simp [go_sem, y0, y1, y2, y3, y4, y5, y6]
  · exact owns_base (owns_set (owns_set (owns_set (owns_set (owns_set (owns_set (owns_set O1.out (by simp; omega) _) (by simp; omega) _) (by simp; omega) _) (by simp; omega) _) (by simp; omega) _) (by simp; omega) _) (by simp; omega) _) (by omega)
  · exact (RowsOwn.set (RowsOwn.set (RowsOwn.set (RowsOwn.set (RowsOwn.set (RowsOwn.set (RowsOwn.set R1.out (by omega) _ _) (by omega) _ _) (by omega) _ _) (by omega) _ _) (by omega) _ _) (by omega) _ _) (by omega) _ _).mono (by omega)
  · exact u_set (u_set (u_set (u_set (u_set (u_set (u_set B1.out (by simp) _ _) (by simp) _ _) (by simp) _ _) (by simp) _ _) (by simp) _ _) (by simp) _ _) (by simp) _ _

set_option maxHeartbeats 4000000 in
set_option maxRecDepth 100000 in
/-- A symbol is learnt. -/
theorem learnK_yes (kb base : Nat) (L S C Z : Int) (b1 b2 : Option Addr) (d1 d2 : Nat) (ws gs : List Int) (ls : List Lk) (es : List EqV) (id : Int) (data : ByteArray) (w : World) (hI : ListAt w kb 4 base (knC L S (.slice b1 ws.length d1) (.slice b2 gs.length d2) C Z) 57 C Z ls)
    (hv : valsL ls = valsE es) (hs : SameE ls es) (hg : getP L S ws gs C Z es) (i1 : IntsAt w b1 ws) (i2 : IntsAt w b2 gs) (h0 : 0 ≤ id) (h1 : id ≤ 9999) (hz : (data.size : Int) = S) (hT : Tab w) (hbw : base ≤ w.heap.size) :
    Calls Tryz.prog 21 #[.pointer (some ⟨kb, 0, none⟩), .int .i64 id, .string data] w fun e w' => e = .returned (.tuple #[.int .i64 (learnC es (rowI L S ws gs id) (numsOf data) data.size), .nilIface]) ∧
      ∃ ls', ListAt w' kb 4 base (knC L S (.slice b1 ws.length d1) (.slice b2 gs.length d2) C Z) 57 C Z ls' ∧ valsL ls' = learnV es (rowI L S ws gs id) (numsOf data) ∧ (∀ g, g < w.heap.size → g ∉ kb :: ls.map Lk.b → w'.heap[g]? = w.heap[g]?) ∧ Below base w w' := by
  have hp := hg.2.1
  have hC : C = cntI L S := hg.2.2.1
  have hZ : Z = S := hg.2.2.2
  obtain ⟨ra, rl⟩ := rowI_asc (id := id) hg.1 h0
  rw [← hC] at ra
  have c1 := hp.1.1.1
  have c2 := hp.1.1.2
  have KR := hid (fun W (b : Below w.heap.size w W) => implRow_any L S id b1 b2 d1 d2 ws gs W (i1.below b) (i2.below b) hg.1 h0 h1 (hT.below b))
  have KL := fun W q k (b : Below w.heap.size w W) h2 => learn_at kb 4 base (knC L S (.slice b1 ws.length d1) (.slice b2 gs.length d2) C Z) 57 C Z (knBx _ _ _ _ _ _) (by decide) ls es (rowI L S ws gs id) (numsOf data) q k W (hI.below b) hv hs hp ra h2 (by rw [numsOf_len, hZ]; exact hz) (nums_bytes _) (hT.below b) (Nat.le_trans hbw b.size)
  simp only [numsOf_len] at KL
  have KL := hid KL
  have HI := hid hI
  have RA := hid ra
  have RL := hid rl
  have hkw := lt_of_block hI.box
  have y0 := box_cell HI.out.box 0 (v := .int .i64 L) rfl
  have y1 := box_cell HI.out.box 1 (v := .int .i64 S) rfl
  have hsz : ((data.size : Int) != S) = false := by simp [hz]
  have KI := hid (idOk_any id w)
  rw [decide_eq_true (show 0 ≤ id ∧ id ≤ 9999 from ⟨h0, h1⟩)] at KI
  have hcv : ∀ W : World, (convert 9 102 (.string data)).run Tryz.prog W = .ok (.slice (some ⟨W.heap.size, 0, none⟩) data.size (grownCap W data.size 0 5)) (Go.Lib.bytesWorld W 5 data) := fun W => Go.Lib.run_convert_string_bytes W _ _ _ _ Tryz.underlying9 Tryz.underlying102 Tryz.underlying5
  clear hI hv hs hp hg i1 i2 hT ra rl hC hZ
  go_enter Tryz.func21, Tryz.ntmps21
  go_wp2_with fail
  refine KI.out.mono ?_
  rintro e w1 ⟨rfl, hw⟩
  replace hw := hw.symm
  subst hw
  clear KI
  repeat ((fail_if_success (with_reducible show Code.wp _ (Code.region 3 _ _) _ _ _)); (first | go_values | go_skip | go_guarded | go_step | go_upon | go_back | go_simp))
  clear y0 y1
  have y0 := cell_regrown (box_cell HI.out.box 0 (v := .int .i64 L) rfl)
  have y1 := cell_regrown (box_cell HI.out.box 1 (v := .int .i64 S) rfl)
  have y2 := cell_regrown (box_cell HI.out.box 2 (v := .slice b1 ws.length d1) rfl)
  have y3 := cell_regrown (box_cell HI.out.box 3 (v := .slice b2 gs.length d2) rfl)
  have y4 := cell_regrown (box_cell HI.out.box 4 (v := .int .i64 C) rfl)
  refine wp_plan 17 (.pull [(0, 5), (6, 5)] (.step 5 (.step 11 (.pull [(12, 5)] .done)))) (by kernel_rfl) (by kernel_rfl) ?_
  intro V0 hw0
  have hbq := of_class hw0
  refine pln_pull ?_
  simp only [cutOut, List.take_succ_cons, List.take_zero, List.drop_succ_cons, List.drop_zero, List.nil_append, List.cons_append, List.append_nil]
  repeat (first | go_big_quiet_step (fail) | quiet_step (fail))
  try refine wpQuiet_nil ?_
  clear y0 y1 y2 y3 y4
  refine pln_step rfl (by omega) (fun K hK => ?_)
  go_simp
  with_reducible refine (KR.out V0 hbq).mono ?_
  rintro _ V1 ⟨v, rfl, o1, bb⟩
  obtain ⟨ar, cr, rfl⟩ := owns_slice o1
  have hcl := u_cat hbq bb
  refine hK _ _ (class_of hcl) ?_
  clear hK K
  have I1 := hid (owns_at o1)
  clear o1 bb
  refine pln_step rfl (by omega) (fun K hK => ?_)
  go_simp
  with_reducible refine (rowSetOf_in ar cr (rowI L S ws gs id) C V1 I1.out (by have := RL.out; omega) (by omega) c2).mono ?_
  rintro _ V2 ⟨rfl, hw⟩
  replace hw := hw.symm
  subst hw
  refine hK _ _ (class_of hcl) ?_
  clear hK K
  rw [RA.out, rowBits_yes RA.out]
  refine pln_pull ?_
  simp only [cutOut, List.take_succ_cons, List.take_zero, List.drop_succ_cons, List.drop_zero, List.append_nil]
  repeat (first | go_big_quiet_step (fail) | quiet_step (fail))
  try refine wpQuiet_nil ?_
  refine pln_done ?_
  have hvs := hcl.size
  go_wp2_with fail
  obtain ⟨V2, hV2⟩ : ∃ V2, V2 = Go.Lib.bytesWorld V1 5 data := ⟨_, rfl⟩
  have b2 : Below V1.heap.size V1 V2 := by rw [hV2]; exact bytesB _ _ _
  have y2 : BytsAt V2 V1.heap.size (numsOf data) := by rw [hV2]; exact bytesA _ _ _
  rw [← hV2]
  clear hV2 hcv
  have K2 := KL.out V2 V1.heap.size (grownCap V1 data.size 0 5) (u_cat hcl b2) y2
  with_reducible refine K2.mono ?_
  rintro e w3 ⟨rfl, ls', hI', hv', -, hk', hb'⟩
  have HI' := hid hI'
  have HV' := hid hv'
  have BB := hid (show Below base w w3 from ((u_cat hcl b2).mono hbw).trans hb')
  have KK := hid (show ∀ g, g < w.heap.size → g ∉ kb :: ls.map Lk.b → w3.heap[g]? = w.heap[g]? from fun g hg hn => (hk'.1 g (Nat.lt_of_lt_of_le hg (u_cat hcl b2).size) hn).trans ((u_cat hcl b2).block g hg))
  clear y2 b2 hI' hv' hk' hb' KL K2 hcl hbq
  go_wp2_with fail
  refine bodyPost_ret (v := .tuple #[.int .i64 (learnC es (rowI L S ws gs id) (numsOf data) data.size), .nilIface]) ?_ rfl ⟨rfl, ls', HI'.out, HV'.out, KK.out, BB.out⟩
  simp [results, Tryz.results21, go_sem]

set_option maxHeartbeats 2000000 in
set_option maxRecDepth 100000 in
/-- What is no symbol. -/
theorem learnK_no (kb : Nat) (L S C Z : Int) (v1 v2 : Value) (p : Option Addr) (id : Int) (data : ByteArray) (w : World) (hI : w.heap[kb]? = some (.cells (knC L S v1 v2 C Z p) 57 (0, 0))) (h : ¬ (0 ≤ id ∧ id ≤ 9999 ∧ (data.size : Int) = S)) :
    Calls Tryz.prog 21 #[.pointer (some ⟨kb, 0, none⟩), .int .i64 id, .string data] w fun e w' => e = .returned (.tuple #[.int .i64 0, .iface 65 (.agg #[.int .i64 id, .int .i64 data.size])]) ∧ w' = w := by
  have y0 := box_cell hI 0 (v := .int .i64 L) rfl
  have y1 := box_cell hI 1 (v := .int .i64 S) rfl
  have hkw := lt_of_block hI
  have KI := hid (idOk_any id w)
  have hd : (decide (0 ≤ id ∧ id ≤ 9999) = false) ∨ (decide (0 ≤ id ∧ id ≤ 9999) = true ∧ ((data.size : Int) != S) = true) := by
    by_cases hi : 0 ≤ id ∧ id ≤ 9999
    · exact .inr ⟨decide_eq_true hi, by simpa using fun h2 => h ⟨hi.1, hi.2, h2⟩⟩
    · exact .inl (decide_eq_false hi)
  clear h hI
  rcases hd with hd | ⟨hd, hd2⟩
  all_goals
    rw [hd] at KI
    clear hd
    go_enter Tryz.func21, Tryz.ntmps21
    go_wp2_with fail
    refine KI.out.mono ?_
    rintro e w1 ⟨rfl, hw⟩
    replace hw := hw.symm
    subst hw
    clear KI
    go_wp2_with fail
    refine bodyPost_ret (v := .tuple #[.int .i64 0, .iface 65 (.agg #[.int .i64 id, .int .i64 data.size])]) ?_ rfl ⟨rfl, rfl⟩
    simp [results, Tryz.results21, go_sem]
end Go.Proofs.YtegldmdcdnnegaaGreatDoor
namespace Go.Proofs.YtegldmdcdnnegaaGreatDoor
open Go.ChangeShapes Go.WideShapes Go.ChangeAt Go.RowKit Go.Sort

/-- What is left of a number of values. -/
def szI (left : Int) (n : Nat) : Int := if left - n < 0 then -1 else left - n
set_option maxRecDepth 100000 in
theorem szIntS_any (a : Option Addr) (n c : Nat) (left : Int) (w : World) (h1 : 0 ≤ left) (h2 : left ≤ 1048576) (hn : n ≤ 9223372036854775807) :
    Calls Tryz.prog 30 #[.slice a n c, .int .i64 left] w fun e w' => e = .returned (.int .i64 (szI left n)) ∧ w' = w := by
  by_cases h : left - n < 0
  · have H := hid (show szI left n = -1 by unfold szI; rw [if_pos h])
    go_enter Tryz.func30, Tryz.ntmps30
    go_wp2
    go_ret
    exact ⟨ret_int H.out.symm, rfl⟩
  · have H := hid (show szI left n = left - n by unfold szI; rw [if_neg h])
    go_enter Tryz.func30, Tryz.ntmps30
    go_wp2
    go_ret
    exact ⟨ret_int H.out.symm, rfl⟩

set_option maxRecDepth 100000 in
theorem szPlan_any (long size : Int) (a1 a2 : Option Addr) (n1 c1 n2 c2 : Nat) (left : Int) (w : World) (h1 : 0 ≤ left) (h2 : left ≤ 1048576) (hn1 : n1 ≤ 9223372036854775807) (hn2 : n2 ≤ 9223372036854775807) :
    Calls Tryz.prog 11 #[.agg #[.int .i64 long, .int .i64 size, .slice a1 n1 c1, .slice a2 n2 c2], .int .i64 left] w fun e w' => e = .returned (.int .i64 (szI left (n1 + n2))) ∧ Below w.heap.size w w' := by
  by_cases h : left - n1 < 0
  · have e1 := hid (show szI left n1 = -1 by unfold szI; rw [if_pos h])
    have e2 := hid (show szI left (n1 + n2) = -1 by unfold szI; rw [if_pos (by omega)])
    go_enter Tryz.func11, Tryz.ntmps11
    go_wp2_with fail
    refine (szIntS_any a1 n1 c1 left _ h1 h2 hn1).mono ?_
    rintro e w1 ⟨rfl, rfl⟩
    rw [e1.out]
    go_wp2_with fail
    go_ret
    exact ⟨ret_int e2.out.symm, (Below.refl _ _).alloc (Nat.le_refl _) _⟩
  · have e1 := hid (show szI left n1 = left - n1 by unfold szI; rw [if_neg h])
    have e3 := hid (show szI (left - n1) n2 = szI left (n1 + n2) by
      unfold szI
      by_cases hh : left - (n1 : Int) - (n2 : Int) < 0
      · rw [if_pos hh, if_pos (by omega)]
      · rw [if_neg hh, if_neg (by omega)]; omega)
    go_enter Tryz.func11, Tryz.ntmps11
    go_wp2_with fail
    refine (szIntS_any a1 n1 c1 left _ h1 h2 hn1).mono ?_
    rintro e w1 ⟨rfl, rfl⟩
    rw [e1.out]
    go_wp2_with fail
    refine (szIntS_any a2 n2 c2 (left - n1) _ (by omega) (by omega) hn2).mono ?_
    rintro e w1 ⟨rfl, rfl⟩
    rw [e3.out]
    by_cases hh : szI left (n1 + n2) < 0
    · have e4 := hid (show szI left (n1 + n2) = -1 by
        unfold szI at hh ⊢
        split at hh
        · rw [if_pos (by omega)]
        · omega)
      go_wp2_with fail
      go_ret
      exact ⟨ret_int e4.out.symm, (Below.refl _ _).alloc (Nat.le_refl _) _⟩
    · go_wp2_with fail
      go_ret
      exact ⟨rfl, (Below.refl _ _).alloc (Nat.le_refl _) _⟩

theorem below3 (w : World) (a b c : Obj) : Below w.heap.size w (((w.alloc a).alloc b).alloc c) :=
  (((Below.refl _ _).alloc (Nat.le_refl _) _).alloc (by simp) _).alloc (by simp; omega) _
theorem below_set {w w' : World} (h : Below w.heap.size w w') {p : Addr} (hp : w.heap.size ≤ p.block) (u : Value) : Below w.heap.size w (w'.setCell p u) := h.setCell hp u

set_option maxRecDepth 100000 in
set_option maxHeartbeats 2000000 in
theorem toPlan_own (long size : Int) (a1 a2 : Option Addr) (c1 c2 : Nat) (ws gs : List Int) (w : World) (ha1 : IntsAt w a1 ws) (ha2 : IntsAt w a2 gs) (hx : ws.length ≤ 1048576) (hy : gs.length ≤ 1048576) :
    Calls Tryz.prog 18 #[.agg #[.int .i64 long, .int .i64 size, .slice a1 ws.length c1, .slice a2 gs.length c2]] w fun e w' => ∃ b1 d1 b2 d2, e = .returned (.agg #[.int .i64 long, .int .i64 size, .slice b1 ws.length d1, .slice b2 gs.length d2]) ∧ w'.ownsRow w.heap.size 3 1 (.slice b1 ws.length d1) ws.length (ws.map (Value.int .i64)) ∧ w'.ownsRow w.heap.size 3 1 (.slice b2 gs.length d2) gs.length (gs.map (Value.int .i64)) ∧ Apart (.slice b1 ws.length d1) (.slice b2 gs.length d2) ∧ Below w.heap.size w w' := by
  go_enter Tryz.func18, Tryz.ntmps18
  go_wp2_with fail
  refine (toIntS_any a1 c1 ws _ (by exact ha1.below (below3 _ _ _ _)) hx).mono ?_
  rintro e w1 ⟨v1, rfl, o1, b1⟩
  obtain ⟨q1, d1, rfl, -, i1⟩ := owns_ints o1
  obtain ⟨hc1, hf1⟩ := bcell b1
  have hs1 : w.heap.size + 1 + 1 < w1.heap.size := by have := b1.size; simp at this; omega
  have B1 := hid (below_cat' (below3 _ _ _ _) b1)
  have O1 := hid o1
  clear o1 i1 b1
  go_wp2_with fail
  have B1' := hid (below_set B1.out (p := ⟨w.heap.size + 1 + 1, 2, none⟩) (by simp; omega) (.slice q1 ws.length d1))
  refine (toIntS_any a2 c2 gs _ (by exact ha2.below B1'.out) hy).mono ?_
  rintro e w2 ⟨v2, rfl, o2, b2⟩
  obtain ⟨q2, d2, rfl, -, i2⟩ := owns_ints o2
  have hc2 : ∀ b o, b < w1.heap.size → w2.cell? ⟨b, o, none⟩ = (w1.setCell ⟨w.heap.size + 1 + 1, 2, none⟩ (.slice q1 ws.length d1)).cell? ⟨b, o, none⟩ := fun b o h => (bcell b2).1 b o (by simpa using h)
  have hf2 : ∀ b o, b < w1.heap.size → w2.frozen? ⟨b, o, none⟩ = (w1.setCell ⟨w.heap.size + 1 + 1, 2, none⟩ (.slice q1 ws.length d1)).frozen? ⟨b, o, none⟩ := fun b o h => (bcell b2).2 b o (by simpa using h)
  have hs3 : w.heap.size + 1 < w1.heap.size := by omega
  have hs4 : w.heap.size < w1.heap.size := by omega
  have B2 := hid b2
  have O2 := hid o2
  clear b2 o2 i2
  go_wp2_with fail
  have hb : Below w.heap.size w (((((w2.setCell ⟨w.heap.size + 1 + 1, 3, none⟩ (.slice q2 gs.length d2)).setCell ⟨w.heap.size + 1, 0, none⟩ (.int .i64 long)).setCell ⟨w.heap.size + 1, 1, none⟩ (.int .i64 size)).setCell ⟨w.heap.size + 1, 2, none⟩ (.slice q1 ws.length d1)).setCell ⟨w.heap.size + 1, 3, none⟩ (.slice q2 gs.length d2)) :=
    below_set (below_set (below_set (below_set (below_set (below_cat' B1'.out B2.out) (by simp; omega) _) (by simp) _) (by simp) _) (by simp) _) (by simp) _
  have o1 := owns_below ((Touch.setCell w1 ⟨w.heap.size + 1 + 1, 2, none⟩ (.slice q1 ws.length d1)).owns O1.out (by simp)) B2.out
  have o2 := O2.out
  have t1 := (Touch.setCell _ ⟨w.heap.size + 1, 3, none⟩ (.slice q2 gs.length d2)).owns ((Touch.setCell _ ⟨w.heap.size + 1, 2, none⟩ (.slice q1 ws.length d1)).owns ((Touch.setCell _ ⟨w.heap.size + 1, 1, none⟩ (.int .i64 size)).owns ((Touch.setCell _ ⟨w.heap.size + 1, 0, none⟩ (.int .i64 long)).owns ((Touch.setCell w2 ⟨w.heap.size + 1 + 1, 3, none⟩ (.slice q2 gs.length d2)).owns o1 (by simp)) (by simp)) (by simp)) (by simp)) (by simp)
  have t2 := (Touch.setCell _ ⟨w.heap.size + 1, 3, none⟩ (.slice q2 gs.length d2)).owns ((Touch.setCell _ ⟨w.heap.size + 1, 2, none⟩ (.slice q1 ws.length d1)).owns ((Touch.setCell _ ⟨w.heap.size + 1, 1, none⟩ (.int .i64 size)).owns ((Touch.setCell _ ⟨w.heap.size + 1, 0, none⟩ (.int .i64 long)).owns ((Touch.setCell w2 ⟨w.heap.size + 1 + 1, 3, none⟩ (.slice q2 gs.length d2)).owns o2 (by simp; omega)) (by simp; omega)) (by simp; omega)) (by simp; omega)) (by simp; omega)
  refine bodyPost_ret (v := .agg #[.int .i64 long, .int .i64 size, .slice q1 ws.length d1, .slice q2 gs.length d2]) ?_ rfl ⟨q1, d1, q2, d2, rfl, owns_base t1 (by simp; omega), owns_base t2 (by simp; omega), owns_apart O1.out O2.out (by simp), hb⟩
  simp [results, Tryz.results18, go_sem, hc2, hc1, hs3]

theorem toPlan_any (long size : Int) (a1 a2 : Option Addr) (c1 c2 : Nat) (ws gs : List Int) (w : World) (ha1 : IntsAt w a1 ws) (ha2 : IntsAt w a2 gs) (hx : ws.length ≤ 1048576) (hy : gs.length ≤ 1048576) :
    Calls Tryz.prog 18 #[.agg #[.int .i64 long, .int .i64 size, .slice a1 ws.length c1, .slice a2 gs.length c2]] w fun e w' => ∃ b1 d1 b2 d2, e = .returned (.agg #[.int .i64 long, .int .i64 size, .slice b1 ws.length d1, .slice b2 gs.length d2]) ∧ IntsAt w' b1 ws ∧ IntsAt w' b2 gs ∧ Below w.heap.size w w' :=
  (toPlan_own long size a1 a2 c1 c2 ws gs w ha1 ha2 hx hy).mono fun _ _ ⟨b1, d1, b2, d2, he, o1, o2, _, hb⟩ => ⟨b1, d1, b2, d2, he, owns_at o1, owns_at o2, hb⟩
end Go.Proofs.YtegldmdcdnnegaaGreatDoor
namespace Go.Proofs.YtegldmdcdnnegaaGreatDoor
open Go.ChangeShapes Go.WideShapes Go.ChangeAt Go.RowKit Go.Sort

theorem below2 (w : World) (a b : Obj) : Below w.heap.size w ((w.alloc a).alloc b) :=
  ((Below.refl _ _).alloc (Nat.le_refl _) _).alloc (by simp) _
theorem IntsAt.dr {w w' : World} {a : Option Addr} {xs : List Int} (h : IntsAt w a xs) (hd : Dr w w') : IntsAt w' a xs := by obtain ⟨n, rfl⟩ := hd; exact h.drewN n

set_option maxRecDepth 100000 in
set_option maxHeartbeats 1000000 in
theorem eqPlan_same (long size : Int) (a1 a2 b1 b2 : Option Addr) (c1 c2 d1 d2 : Nat) (ws gs : List Int) (w : World) (ha1 : IntsAt w a1 ws) (ha2 : IntsAt w a2 gs) (hb1 : IntsAt w b1 ws) (hb2 : IntsAt w b2 gs) (hx : ws.length ≤ 1152921504606846976) (hy : gs.length ≤ 1152921504606846976) :
    Calls Tryz.prog 24 #[.agg #[.int .i64 long, .int .i64 size, .slice a1 ws.length c1, .slice a2 gs.length c2], .agg #[.int .i64 long, .int .i64 size, .slice b1 ws.length d1, .slice b2 gs.length d2]] w fun e w' => e = .returned (.bool true) ∧ Below w.heap.size w w' := by
  go_enter Tryz.func24, Tryz.ntmps24
  go_wp2_with fail
  refine (eqIntS_any a1 b1 c1 d1 ws ws _ (by exact ha1.below (below2 _ _ _)) (by exact hb1.below (below2 _ _ _)) hx).mono ?_
  rintro e w1 ⟨rfl, n1, rfl⟩
  go_wp2_with fail
  refine (eqIntS_any a2 b2 c2 d2 gs gs _ (by exact (ha2.below (below2 _ _ _)).drewN _) (by exact (hb2.below (below2 _ _ _)).drewN _) hy).mono ?_
  rintro e w2 ⟨rfl, n2, rfl⟩
  go_wp2_with fail
  go_ret
  exact ⟨rfl, below_drewN (below2 _ _ _) _⟩
end Go.Proofs.YtegldmdcdnnegaaGreatDoor
namespace Go.Proofs.YtegldmdcdnnegaaGreatDoor
open Go.ChangeShapes Go.WideShapes Go.ChangeAt Go.RowKit

theorem cellsI : Tryz.prog.cellsOf 3 = 1 := by kernel_rfl
theorem cellsNs : Tryz.prog.cellsOf 22 = 1 := by kernel_rfl
theorem cellsPlan : Tryz.prog.cellsOf 24 = 4 := by kernel_rfl
set_option maxRecDepth 100000 in
theorem reads_plan {W : World} {cs : List Value} (h : Reads W 24 cs) : ∃ long size a1 n1 k1 z1 a2 n2 k2 z2, cs = [.int .i64 long, .int .i64 size, .slice a1 n1 k1, .slice a2 n2 k2] ∧
    (Lit.int .i64 long).wf = true ∧ (Lit.int .i64 size).wf = true ∧ IsRow .i64 W a1 n1 k1 z1 ∧ IsRow .i64 W a2 n2 k2 z2 := by
  obtain ⟨hl, hf⟩ := h.struct Tryz.underlying24
  rw [cellsPlan] at hl
  obtain ⟨x0, x1, x2, x3, rfl⟩ : ∃ x0 x1 x2 x3, cs = [x0, x1, x2, x3] := by
    match cs, hl with
    | [x0, x1, x2, x3], _ => exact ⟨x0, x1, x2, x3, rfl⟩
  have g0 : Reads W 3 (List.take (Tryz.prog.cellsOf 3) (List.drop 0 [x0, x1, x2, x3])) := hf 0 _ rfl
  rw [cellsI] at g0
  have h0 : Reads W 3 [x0] := g0
  have g1 : Reads W 3 (List.take (Tryz.prog.cellsOf 3) (List.drop 1 [x0, x1, x2, x3])) := hf 1 _ rfl
  rw [cellsI] at g1
  have h1 : Reads W 3 [x1] := g1
  have g2 : Reads W 22 (List.take (Tryz.prog.cellsOf 22) (List.drop 2 [x0, x1, x2, x3])) := hf 2 _ rfl
  rw [cellsNs] at g2
  have h2 : Reads W 22 [x2] := g2
  have g3 : Reads W 22 (List.take (Tryz.prog.cellsOf 22) (List.drop 3 [x0, x1, x2, x3])) := hf 3 _ rfl
  rw [cellsNs] at g3
  have h3 : Reads W 22 [x3] := g3
  obtain ⟨long, e0, wf0⟩ := h0.int Tryz.underlying3
  obtain ⟨size, e1, wf1⟩ := h1.int Tryz.underlying3
  obtain ⟨a1, n1, k1, z1, e2, r1⟩ := h2.ints Tryz.underlying22 Tryz.underlying3 cellsI
  obtain ⟨a2, n2, k2, z2, e3, r2⟩ := h3.ints Tryz.underlying22 Tryz.underlying3 cellsI
  simp only [List.cons.injEq, and_true] at e0 e1 e2 e3
  subst e0 e1 e2 e3
  exact ⟨long, size, a1, n1, k1, z1, a2, n2, k2, z2, rfl, wf0, wf1, r1, r2⟩
theorem isRow_le {k : IntKind} {w : World} {a : Option Addr} {len cap : Nat} {zs : List Int} (h : IsRow k w a len cap zs) : len ≤ 9223372036854775807 := by
  rcases h with ⟨_, rfl, _, rfl⟩ | ⟨x, _, h1, h2, h3, _⟩
  · omega
  · unfold maxLen at h2; omega
end Go.Proofs.YtegldmdcdnnegaaGreatDoor
