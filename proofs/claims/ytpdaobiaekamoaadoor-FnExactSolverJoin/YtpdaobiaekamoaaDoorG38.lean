/- An equation learnt by the program. SolverAdd by the program. -/
import Derived.Test.YtpdaobiaekamoaaDoorG36
import Derived.Test.YtpdaobiaekamoaaDoorG37
import Derived.Test.YtpdaobiaekamoaaDoorG23
import Derived.Test.YtpdaobiaekamoaaDoorG25
import Derived.Test.YtpdaobiaekamoaaDoorG17
namespace Go.Proofs.YtpdaobiaekamoaaDoor
open Go.ChangeShapes Go.WideShapes Go.ChangeAt Go.RowKit Go.Sort Go.Shelf
attribute [local go_sem] Oper.semAt_some

theorem lks_apart {w : World} {base : Nat} {ls : List Lk} (h : LksAt w base ls) : ∀ (d i j : Nat) (hi : i < ls.length) (hj : j < ls.length), i < j → ls.length - j ≤ d → ls[i].b ≠ ls[j].b
  | 0, i, j, _, hj, _, hd => by omega
  | d + 1, i, j, hi, hj, hij, hd => fun e => by
    have h1 := (h i hi).2.2.1
    have h2 := (h j hj).2.2.1
    rw [e, h2] at h1
    have h3 : ptrOf (ls.drop (j + 1)) = ptrOf (ls.drop (i + 1)) := by
      have h4 := congrArg (fun o => match o with | some (Obj.cells cs _ _) => cs[2]? | _ => none) h1
      simpa using h4
    rw [drop_ptr (show i + 1 < ls.length by omega)] at h3
    by_cases hl : j + 1 < ls.length
    · rw [drop_ptr hl] at h3
      have h5 : ls[j + 1].b = ls[i + 1].b := by simpa using h3
      exact lks_apart h d (i + 1) (j + 1) (by omega) hl (by omega) (by omega) h5.symm
    · rw [List.drop_of_length_le (by omega)] at h3
      cases h3
theorem lks_nodup {w : World} {base : Nat} {ls : List Lk} (h : LksAt w base ls) : (ls.map Lk.b).Nodup := by
  unfold List.Nodup
  rw [List.pairwise_map, List.pairwise_iff_getElem]
  exact fun i j hi hj hij => lks_apart h _ i j hi hj hij (Nat.le_refl _)
theorem sameE_vals : ∀ {ls : List Lk} {es : List EqV}, SameE ls es → valsL ls = valsE es
  | [], [], _ => rfl
  | [], _ :: _, h => by have := congrArg List.length h.1; simp at this
  | _ :: _, [], h => by have := congrArg List.length h.1; simp at this
  | l :: ls, e :: es, h => by
    obtain ⟨h1, h2⟩ := h
    simp only [List.map_cons, List.cons.injEq] at h1 h2
    show (l.r, strOfNums l.d) :: valsL ls = (e.r, e.d) :: valsE es
    rw [sameE_vals ⟨h1.2, h2.2⟩, h1.1, h2.1, str_numsOf]
theorem sameE_bytes {ls : List Lk} {es : List EqV} (h : SameE ls es) : ∀ l ∈ ls, BytesL l.d := fun l hl => by
  have h1 : l.d ∈ ls.map Lk.d := List.mem_map_of_mem hl
  rw [h.2] at h1
  obtain ⟨e, -, he⟩ := List.mem_map.1 h1
  rw [← he]
  exact nums_bytes _
theorem bytesB (w : World) (e : TypeId) (s : ByteArray) : Below w.heap.size w (Go.Lib.bytesWorld w e s) :=
  ⟨rfl, rfl, rfl, by rw [Go.Lib.bytesWorld_size]; exact Nat.le_succ _, fun k hk => Go.Lib.bytesWorld_at_old w e s k hk⟩
theorem bytesA (w : World) (e : TypeId) (s : ByteArray) : BytsAt (Go.Lib.bytesWorld w e s) w.heap.size (numsOf s) :=
  ⟨by rw [Go.Lib.bytesWorld_size]; exact Nat.lt_succ_self _, fun i hi => by
    rw [numsOf_len] at hi
    have h := Go.Lib.bytesWorld_cell w e s i hi
    have hl : i < s.data.toList.length := by rw [Array.length_toList]; exact hi
    rw [h]
    have e1 : s.data.toList.getD i 0 = s.data.toList[i] := by simp only [List.getD, List.getElem?_eq_getElem hl, Option.getD_some]
    have e2 : (numsOf s).getD i 0 = ((s.data.toList[i]).toNat : Int) := by unfold numsOf; simp only [List.getD, List.getElem?_map, List.getElem?_eq_getElem hl, Option.map_some, Option.getD_some]
    rw [e1, e2]⟩

/-- A list that the program holds is what is known. -/
structure ListIs (w : World) (sb base : Nat) (c z : Int) (ls : List Lk) : Prop where
  box : w.heap[sb]? = some (.cells #[.int .i64 c, .int .i64 z, .pointer (ptrOf ls)] 58 (0, 0))
  at' : LksAt w 0 ls
  ok : okV c z (valsL ls)
  byt : ∀ l ∈ ls, BytesL l.d
  low : ∀ l ∈ ls, base ≤ l.b
  sb_ : base ≤ sb
theorem okV_24 {c z : Int} {ks : List Vl} (h : okV c z ks) (hc : 0 ≤ c) (hc2 : c ≤ 24) : ks.length ≤ 24 := by
  have h1 : okE c z (ks.map (fun k => ⟨none, 0, k.1, k.2⟩ : Vl → EqV)) := ok_vals.2 (by
    have e : valsE (ks.map (fun k => ⟨none, 0, k.1, k.2⟩ : Vl → EqV)) = ks := by
      unfold valsE
      rw [List.map_map]
      exact List.map_id' ks
    rw [e]; exact h)
  have := okE_24 h1 hc hc2
  simpa using this
/-- Learnt by the program: all of it. -/
theorem learn_any (sb base : Nat) (c z : Int) (ls : List Lk) (es : List EqV) (r d : List Int) (q cc : Nat) (w : World) (hI : ListIs w sb base c z ls) (hv : valsL ls = valsE es) (hs : SameE ls es) (hp : solverP c z es) (hr : ascB (-1) c r = true) (hq : BytsAt w q d) (hd1 : (d.length : Int) = z) (hdB : BytesL d) (hT : Tab w) (hbw : base ≤ w.heap.size) :
    Calls Tryd.prog 43 #[.pointer (some ⟨sb, 0, none⟩), .int .u32 (setI r : Nat), .slice (some ⟨q, 0, none⟩) d.length cc] w fun e w' => e = .returned (.int .i64 (learnC es r d d.length)) ∧
      ∃ ls', ListIs w' sb base c z ls' ∧ valsL ls' = learnV es r d ∧ (∀ l ∈ ls', l.b ∈ ls.map Lk.b ∨ w.heap.size ≤ l.b) ∧ LkKeep w w' (sb :: ls.map Lk.b) ∧ Below base w w' := by
  have c1 := hp.1.1.1
  have c2 := hp.1.1.2
  have hrows := hs.rows c2 hp.2
  have hlens := hs.lens hp.2
  have h24 := asc_up hr c2
  have hll : ls.length ≤ 24 := by
    have h1 := congrArg List.length hs.1
    rw [List.length_map, List.length_map] at h1
    have := okE_24 hp.2 (by omega) c2
    omega
  have hd2 : d.length ≤ 1048576 := by have := hp.1.2.2; omega
  have hdl : ∀ l ∈ ls, l.d.length = d.length := fun l hl => by have := hlens l hl; omega
  have hf := fold_same hs (r, d)
  by_cases hnil : (es.foldl stepE (r, d)).1 = []
  · refine (learn_known sb 0 c z ls r d q cc w hI.box hI.at' hrows hll h24 hq hd2 hdl hT (by rw [hf]; exact hnil)).mono ?_
    rintro e w' ⟨rfl, hb⟩
    refine ⟨by unfold learnC; rw [if_pos hnil, hf], ls, ⟨kept hI.box hb, hI.at'.below hb, hI.ok, hI.byt, hI.low, hI.sb_⟩, by unfold learnV; rw [if_pos hnil, hv], fun l hl => .inl (List.mem_map_of_mem hl), LkKeep.of_below hb _, hb.mono hbw⟩
  · refine (learn_new sb c z ls r d q cc w hI.box hI.at' hrows hll h24 hq hd2 hdl hT (lks_nodup hI.at') hdB hI.byt (fun l hl => by
      rw [hf]
      obtain ⟨i, hi, rfl⟩ := List.getElem_of_mem hl
      have hi2 : i < es.length := by have h1 := congrArg List.length hs.1; rw [List.length_map, List.length_map] at h1; omega
      have e1 : ls[i].r = es[i].r := by
        have h1 := congrArg (fun l => l[i]?) hs.1
        simpa [List.getElem?_eq_getElem hi, List.getElem?_eq_getElem hi2] using h1
      rw [e1]
      exact less_free hp.2 c2 h24 (List.getElem_mem hi2)) (by rw [hf]; exact hnil)).mono ?_
    rintro e w' ⟨rfl, ls', h1, h2, h3, -, h5, h6, h7, h8⟩
    have hlow : ∀ l ∈ ls', base ≤ l.b := fun l hl => by
      rcases h6 l hl with h9 | h9
      · obtain ⟨l0, hl0, e0⟩ := List.mem_map.1 h9
        rw [← e0]; exact hI.low l0 hl0
      · omega
    refine ⟨by unfold learnC; rw [if_neg hnil], ls', ⟨h1, h2, ?_, fun l hl => (h5 l hl).1, hlow, hI.sb_⟩, by unfold learnV; rw [if_neg hnil, h3, hf, hv], h6, h7, h7.below h8 (fun b hb => ?_) hbw⟩
    · rw [h3, hf, hv]
      exact learn_ok hp.2 c2 hr hd1 hnil
    · rcases List.mem_cons.1 hb with rfl | hb
      · exact hI.sb_
      · obtain ⟨l0, hl0, e0⟩ := List.mem_map.1 hb
        rw [← e0]; exact hI.low l0 hl0
/-- .. and handed out. -/
theorem out_any (sb base : Nat) (c z : Int) (ls : List Lk) (w : World) (hI : ListIs w sb base c z ls) (hc : 0 ≤ c) (hc2 : c ≤ 24) (hz : z ≤ 16) (hT : Tab w) :
    Calls Tryd.prog 42 #[.pointer (some ⟨sb, 0, none⟩)] w fun e w' => ∃ a' c' gs, e = .returned (.agg #[.int .i64 c, .int .i64 z, .slice a' gs.length c']) ∧ w'.ownsRow w.heap.size 53 2 (.slice a' gs.length c') gs.length (eqCells gs) ∧ valsE gs = valsL ls ∧ RowsOwn w' w.heap.size gs ∧ RowsAp gs ∧ Below w.heap.size w w' := by
  have hl : ls.length ≤ 24 := by have := okV_24 hI.ok hc hc2; simpa [valsL] using this
  exact solver_any sb 0 c z ls w hI.box hI.at' (fun l hl => asc_up (hI.ok.1 (valL l) (List.mem_map_of_mem hl)).1 hc2) (by omega) (fun l hl => by
    have h := (hI.ok.1 (valL l) (List.mem_map_of_mem hl)).2.1
    have h2 : (strOfNums l.d).size = l.d.length := strOfNums_size _
    have h3 : ((strOfNums l.d).size : Int) = z := h
    omega) hT
end Go.Proofs.YtpdaobiaekamoaaDoor
namespace Go.Proofs.YtpdaobiaekamoaaDoor
open Go.ChangeShapes Go.WideShapes Go.ChangeAt Go.RowKit Go.Sort Go.Shelf
attribute [local go_sem] Oper.semAt_some

set_option maxHeartbeats 8000000 in
set_option maxRecDepth 100000 in
theorem implSolverAdd_any (a : Option Addr) (cap : Nat) (es : List EqV) (c z : Int) (ar : Option Addr) (cr : Nat) (row : List Int) (data : ByteArray) (w : World) (ha : EqsAt w a es) (hsm : SmallE es) (hl : es.length ≤ 1048576) (hrow : IntsAt w ar row) (hrl : row.length ≤ 1048576) (_hdl : data.size ≤ 1048576) (hT : Tab w) (cc zz : Int) (vs : List Vl) (code : Int)
    (h1 : ¬ solverP c z es → cc = 0 ∧ zz = 0 ∧ vs = [] ∧ code = 3) (h2 : solverP c z es → cc = c ∧ zz = z) (h3 : solverP c z es → ¬ (ascB (-1) c row = true ∧ (data.size : Int) = z) → vs = valsE es ∧ code = 3)
    (h4 : solverP c z es → (ascB (-1) c row = true ∧ (data.size : Int) = z) → vs = learnV es row (numsOf data) ∧ code = learnC es row (numsOf data) data.size) :
    Calls Tryd.prog 17 #[.agg #[.int .i64 c, .int .i64 z, .slice a es.length cap], .slice ar row.length cr, .string data] w fun e w' =>
      ∃ a' c' gs, e = .returned (.tuple #[.agg #[.int .i64 cc, .int .i64 zz, .slice a' gs.length c'], .int .i64 code]) ∧ w'.ownsRow w.heap.size 53 2 (.slice a' gs.length c') gs.length (eqCells gs) ∧ valsE gs = vs ∧ RowsOwn w' w.heap.size gs ∧ RowsAp gs ∧ Below w.heap.size w w' := by
  have HA := hid ha
  have HS := hid hsm
  have HT := hid hT
  have HR := hid hrow
  obtain ⟨W0, hW0⟩ : ∃ W0, W0 = (w.alloc (.cells #[.int .i64 c, .int .i64 z, .slice a es.length cap] 29)).alloc (.cells #[.int .i64 0, .int .i64 0, .slice none 0 0] 29) := ⟨_, rfl⟩
  obtain ⟨X0, X1, B0⟩ := u_box2 (w := w) (c := #[.int .i64 c, .int .i64 z, .slice a es.length cap]) (t := 29) (d := #[.int .i64 0, .int .i64 0, .slice none 0 0]) (s := 29) (w1 := W0) (by rw [hW0]; exact Below.refl _ _)
  have hs0 : W0.heap.size = w.heap.size + 2 := by rw [hW0]; simp
  have q0 := box_cell X0 0 (v := .int .i64 c) rfl
  have q1 := box_cell X0 1 (v := .int .i64 z) rfl
  have q2 := box_cell X0 2 (v := .slice a es.length cap) rfl
  have HX1 := hid X1
  have HB := hid B0
  have H1 := hid h1
  have H2 := hid h2
  have H3 := hid h3
  have H4 := hid h4
  clear ha hsm hrow hT X0 X1 B0 h1 h2 h3 h4
  go_enter Tryd.func17, Tryd.ntmps17
  repeat ((fail_if_success (with_reducible show Code.wp _ (Code.region 1 _ _) _ _ _)); (first | go_values | go_skip | go_guarded | go_step | go_upon | go_back | go_simp))
  rw [← hW0]
  clear hW0
  go_wp2_with fail
  refine (listOf_any a cap es c z W0 (HA.out.below HB.out) HS.out hl (HT.out.below HB.out)).mono ?_
  rintro e w1 ⟨b1, h⟩
  have hs1 := b1.size
  replace HX1 := hid (kept HX1.out b1)
  replace HB := hid (u_cat HB.out b1)
  clear q0 q1 q2 b1
  rcases h with ⟨hp, ls, rfl, hL, hSm⟩ | ⟨hp, rfl⟩
  · have HP := hid hp
    have c1 := hp.1.1.1
    have c2 := hp.1.1.2
    have z1 := hp.1.2.1
    have z2 := hp.1.2.2
    have HM := hid hSm
    have HL := hid hL
    obtain ⟨rfl, rfl⟩ := H2.out hp
    clear hp hL hSm
    repeat ((fail_if_success (with_reducible show Code.wp _ (Code.region 4 _ _) _ _ _)); (first | go_values | go_skip | go_guarded | go_step | go_upon | go_back | go_simp))
    obtain ⟨V, hV⟩ : ∃ V, V = w1.alloc (.cells #[.int .i64 cc, .int .i64 zz, .pointer (ptrOf ls)] 58) := ⟨_, rfl⟩
    have bv : Below w1.heap.size w1 V := by rw [hV]; exact u_b1 _ _
    have X := hid (show V.heap[w1.heap.size]? = some (.cells #[.int .i64 cc, .int .i64 zz, .pointer (ptrOf ls)] 58 (0, 0)) by rw [hV]; exact laid _ _ _)
    have hsv : w1.heap.size + 1 ≤ V.heap.size := by rw [hV]; simp
    rw [← hV]
    clear hV
    replace HB := hid (u_cat HB.out bv)
    replace HX1 := hid (kept HX1.out bv)
    have HI := hid (show ListIs V w1.heap.size (w.heap.size + 2) cc zz ls from ⟨X.out, (HL.out.below bv).mono (Nat.zero_le _), by rw [sameE_vals HM.out]; exact ok_vals.1 HP.out.2, sameE_bytes HM.out, fun l hl => by
      obtain ⟨i, hi, rfl⟩ := List.getElem_of_mem hl
      have := (HL.out i hi).1
      omega, by omega⟩)
    clear bv HL
    have q0 := box_cell X.out 0 (v := .int .i64 cc) rfl
    have q1 := box_cell X.out 1 (v := .int .i64 zz) rfl
    go_wp2_with fail
    refine (rowSetOf_in ar cr row cc _ (HR.out.below HB.out) (by omega) (by omega) c2).mono ?_
    rintro e w' ⟨rfl, hw'⟩
    replace hw' := hw'.symm
    subst hw'
    by_cases hg : ascB (-1) cc row = true ∧ (data.size : Int) = zz
    · obtain ⟨hrw, hsz⟩ := hg
      obtain ⟨rfl, rfl⟩ := H4.out HP.out ⟨hrw, hsz⟩
      rw [hrw, rowBits_yes hrw]
      have hcv : ∀ W : World, (convert 9 69 (.string data)).run Tryd.prog W = .ok (.slice (some ⟨W.heap.size, 0, none⟩) data.size (grownCap W data.size 0 5)) (Go.Lib.bytesWorld W 5 data) := fun W => Go.Lib.run_convert_string_bytes W _ _ _ _ Tryd.underlying9 Tryd.underlying69 Tryd.underlying5
      have hnz : ((data.size : Int) != zz) = false := by simp [hsz]
      have KL := fun W q k h1 h2 h3 h4 => learn_any w1.heap.size (w.heap.size + 2) cc zz ls es row (numsOf data) q k W h1 (sameE_vals HM.out) HM.out HP.out hrw h2 (by rw [numsOf_len]; exact hsz) (nums_bytes _) h3 h4
      simp only [numsOf_len] at KL
      have KL := hid KL
      clear hrw hsz
      go_wp2_with fail
      obtain ⟨V2, hV2⟩ : ∃ V2, V2 = Go.Lib.bytesWorld V 5 data := ⟨_, rfl⟩
      have b2 : Below V.heap.size V V2 := by rw [hV2]; exact bytesB _ _ _
      have y2 : BytsAt V2 V.heap.size (numsOf data) := by rw [hV2]; exact bytesA _ _ _
      rw [← hV2]
      clear hV2 hcv q0 q1
      have hs2 := b2.size
      have K2 := KL.out V2 V.heap.size (grownCap V data.size 0 5) ⟨kept HI.out.box b2, HI.out.at'.below b2, HI.out.ok, HI.out.byt, HI.out.low, HI.out.sb_⟩ y2 (HT.out.below (u_cat HB.out b2)) (by omega)
      with_reducible refine K2.mono ?_
      rintro e w3 ⟨rfl, ls', hI', hv', -, hk', hb'⟩
      have hs3 := hb'.size
      have HB3 := hid (show Below w.heap.size w w3 from (u_cat HB.out b2).trans (hb'.mono (by omega)))
      have X13 := hid ((hb'.block _ (by omega)).trans (kept HX1.out b2))
      have HI' := hid hI'
      have HV' := hid hv'
      clear y2 b2 hI' hv' hk' hb' KL
      go_wp2_with fail
      refine (out_any w1.heap.size (w.heap.size + 2) cc zz ls' w3 HI'.out (by omega) c2 z2 (HT.out.below HB3.out)).mono ?_
      rintro e w4 ⟨a', c', gs, rfl, o4, v4, r4, p4, b4⟩
      have hs4 := b4.size
      have X1b := hid (kept X13.out b4)
      have O4 := hid o4
      have V4 := hid (v4.trans HV'.out)
      have R4 := hid r4
      have P4 := hid p4
      have B4 := hid (u_cat HB3.out b4)
      have r0 := box_cell X1b.out 0 (v := .int .i64 0) rfl
      have r1 := box_cell X1b.out 1 (v := .int .i64 0) rfl
      have r2 := box_cell X1b.out 2 (v := .slice none 0 0) rfl
      have z0 := box_frozen X1b.out
      have l0 := lt_of_block X1b.out
      have S5 := set_block (set_block (set_block X1b.out 0 (.int .i64 cc)) 1 (.int .i64 zz)) 2 (.slice a' gs.length c')
      have x0 := box_cell S5 0 (v := .int .i64 cc) (by simp)
      have x1 := box_cell S5 1 (v := .int .i64 zz) (by simp)
      have x2 := box_cell S5 2 (v := .slice a' gs.length c') (by simp)
      clear o4 v4 r4 p4 b4 S5
      go_wp2_with fail
      refine bodyPost_ret (v := .tuple #[.agg #[.int .i64 cc, .int .i64 zz, .slice a' gs.length c'], .int .i64 (learnC es row (numsOf data) data.size)]) ?_ rfl ⟨a', c', gs, rfl, ?_, V4.out, ?_, P4.out, ?_⟩
      · simp [results, Tryd.results17, go_sem, x0, x1, x2]
      · refine owns_base (Touch.owns (Touch.setCell _ ⟨_, _, _⟩ _) (Touch.owns (Touch.setCell _ ⟨_, _, _⟩ _) (Touch.owns (Touch.setCell _ ⟨_, _, _⟩ _) O4.out ?_) ?_) ?_) (by omega) <;> (simp only []; omega)
      · refine RowsOwn.mono (RowsOwn.set (RowsOwn.set (RowsOwn.set R4.out ?_ _ _) ?_ _ _) ?_ _ _) (by omega) <;> omega
      · refine u_set (u_set (u_set B4.out ?_ _ _) ?_ _ _) ?_ _ _ <;> omega
    · obtain ⟨rfl, rfl⟩ := H3.out HP.out hg
      have h5 : (ascB (-1) cc row = false) ∨ (ascB (-1) cc row = true ∧ ((data.size : Int) != zz) = true) := by
        by_cases h : ascB (-1) cc row = true
        · exact .inr ⟨h, by simpa using fun h2 => hg ⟨h, h2⟩⟩
        · exact .inl (by simpa using h)
      clear hg
      rcases h5 with h5 | ⟨h5, h6⟩
      all_goals
        rw [h5]
        clear h5
        go_wp2_with fail
        refine (out_any w1.heap.size (w.heap.size + 2) cc zz ls V HI.out (by omega) c2 z2 (HT.out.below HB.out)).mono ?_
        rintro e w4 ⟨a', c', gs, rfl, o4, v4, r4, p4, b4⟩
        have hs4 := b4.size
        have X1b := hid (kept HX1.out b4)
        have O4 := hid o4
        have V4 := hid (v4.trans (sameE_vals HM.out))
        have R4 := hid r4
        have P4 := hid p4
        have B4 := hid (u_cat HB.out b4)
        have r0 := box_cell X1b.out 0 (v := .int .i64 0) rfl
        have r1 := box_cell X1b.out 1 (v := .int .i64 0) rfl
        have r2 := box_cell X1b.out 2 (v := .slice none 0 0) rfl
        have z0 := box_frozen X1b.out
        have l0 := lt_of_block X1b.out
        have S5 := set_block (set_block (set_block X1b.out 0 (.int .i64 cc)) 1 (.int .i64 zz)) 2 (.slice a' gs.length c')
        have x0 := box_cell S5 0 (v := .int .i64 cc) (by simp)
        have x1 := box_cell S5 1 (v := .int .i64 zz) (by simp)
        have x2 := box_cell S5 2 (v := .slice a' gs.length c') (by simp)
        clear o4 v4 r4 p4 b4 S5 q0 q1
        go_wp2_with fail
        refine bodyPost_ret (v := .tuple #[.agg #[.int .i64 cc, .int .i64 zz, .slice a' gs.length c'], .int .i64 3]) ?_ rfl ⟨a', c', gs, rfl, ?_, V4.out, ?_, P4.out, ?_⟩
        · simp [results, Tryd.results17, go_sem, x0, x1, x2]
        · refine owns_base (Touch.owns (Touch.setCell _ ⟨_, _, _⟩ _) (Touch.owns (Touch.setCell _ ⟨_, _, _⟩ _) (Touch.owns (Touch.setCell _ ⟨_, _, _⟩ _) O4.out ?_) ?_) ?_) (by omega) <;> (simp only []; omega)
        · refine RowsOwn.mono (RowsOwn.set (RowsOwn.set (RowsOwn.set R4.out ?_ _ _) ?_ _ _) ?_ _ _) (by omega) <;> omega
        · refine u_set (u_set (u_set B4.out ?_ _ _) ?_ _ _) ?_ _ _ <;> omega
  · obtain ⟨rfl, rfl, rfl, rfl⟩ := H1.out hp
    clear hp
    repeat ((fail_if_success (with_reducible show Code.wp _ (Code.region 3 _ _) _ _ _)); (first | go_values | go_skip | go_guarded | go_step | go_upon | go_back | go_simp))
    obtain ⟨V, hV⟩ : ∃ V, V = w1.alloc (.cells #[.int .i64 0, .int .i64 0, .pointer none] 58) := ⟨_, rfl⟩
    have bv : Below w1.heap.size w1 V := by rw [hV]; exact u_b1 _ _
    rw [← hV]
    clear hV
    replace HB := hid (u_cat HB.out bv)
    replace HX1 := hid (kept HX1.out bv)
    clear bv
    have r0 := box_cell HX1.out 0 (v := .int .i64 0) rfl
    have r1 := box_cell HX1.out 1 (v := .int .i64 0) rfl
    have r2 := box_cell HX1.out 2 (v := .slice none 0 0) rfl
    have z0 := box_frozen HX1.out
    have l0 := lt_of_block HX1.out
    have S5 := set_block (set_block (set_block HX1.out 0 (.int .i64 0)) 1 (.int .i64 0)) 2 (.slice none 0 0)
    have x0 := box_cell S5 0 (v := .int .i64 0) (by simp)
    have x1 := box_cell S5 1 (v := .int .i64 0) (by simp)
    have x2 := box_cell S5 2 (v := .slice none 0 0) (by simp)
    clear S5
    go_wp2_with fail
    refine bodyPost_ret (v := .tuple #[.agg #[.int .i64 0, .int .i64 0, .slice none 0 0], .int .i64 3]) ?_ rfl ⟨none, 0, [], rfl, ⟨rfl, .inl ⟨rfl, rfl⟩⟩, rfl, fun f hf => by simp at hf, List.Pairwise.nil, ?_⟩
    · simp [results, Tryd.results17, go_sem, x0, x1, x2]
    · refine u_set (u_set (u_set HB.out ?_ _ _) ?_ _ _) ?_ _ _ <;> omega
end Go.Proofs.YtpdaobiaekamoaaDoor
