/- An equation learnt by the program. -/
import Derived.Test.YtpdaobiaekamoaaDoorSlNe
import Derived.Test.YtpdaobiaekamoaaDoorSlSo
import Derived.Test.YtpdaobiaekamoaaDoorG28
import Derived.Test.YtpdaobiaekamoaaDoorSlG
namespace Go.Proofs.YtpdaobiaekamoaaDoor
open Go.ChangeShapes Go.WideShapes Go.ChangeAt Go.RowKit Go.Sort Go.Shelf
attribute [local go_sem] Oper.semAt_some

theorem lks_apart {w : World} {base : Nat} {ls : List Lk} (h : LksAt w base ls) : ∀ (d i j : Nat) (hi : i < ls.length) (hj : j < ls.length), i < j → ls.length - j ≤ d → ls[i].b ≠ ls[j].b
  | 0, i, j, _, hj, _, hd => by omega
  | d + 1, i, j, hi, hj, hij, hd => fun e => by
    have h1 := (h i hi).2.2.1
    have h2 := (h j hj).2.2.1
    rw [e, h2] at h1
    have h3 : ptrOf (ls.drop (j + 1)) = ptrOf (ls.drop (i + 1)) := by
      have h4 := congrArg (fun o => match o with | some (Obj.cells cs _ _) => cs[2]? | _ => none) h1
      simpa using h4
    rw [drop_ptr (show i + 1 < ls.length by omega)] at h3
    by_cases hl : j + 1 < ls.length
    · rw [drop_ptr hl] at h3
      have h5 : ls[j + 1].b = ls[i + 1].b := by simpa using h3
      exact lks_apart h d (i + 1) (j + 1) (by omega) hl (by omega) (by omega) h5.symm
    · rw [List.drop_of_length_le (by omega)] at h3
      cases h3
theorem lks_nodup {w : World} {base : Nat} {ls : List Lk} (h : LksAt w base ls) : (ls.map Lk.b).Nodup := by
  unfold List.Nodup
  rw [List.pairwise_map, List.pairwise_iff_getElem]
  exact fun i j hi hj hij => lks_apart h _ i j hi hj hij (Nat.le_refl _)
theorem sameE_vals : ∀ {ls : List Lk} {es : List EqV}, SameE ls es → valsL ls = valsE es
  | [], [], _ => rfl
  | [], _ :: _, h => by have := congrArg List.length h.1; simp at this
  | _ :: _, [], h => by have := congrArg List.length h.1; simp at this
  | l :: ls, e :: es, h => by
    obtain ⟨h1, h2⟩ := h
    simp only [List.map_cons, List.cons.injEq] at h1 h2
    show (l.r, strOfNums l.d) :: valsL ls = (e.r, e.d) :: valsE es
    rw [sameE_vals ⟨h1.2, h2.2⟩, h1.1, h2.1, str_numsOf]
theorem sameE_bytes {ls : List Lk} {es : List EqV} (h : SameE ls es) : ∀ l ∈ ls, BytesL l.d := fun l hl => by
  have h1 : l.d ∈ ls.map Lk.d := List.mem_map_of_mem hl
  rw [h.2] at h1
  obtain ⟨e, -, he⟩ := List.mem_map.1 h1
  rw [← he]
  exact nums_bytes _
theorem bytesB (w : World) (e : TypeId) (s : ByteArray) : Below w.heap.size w (Go.Lib.bytesWorld w e s) :=
  ⟨rfl, rfl, rfl, by rw [Go.Lib.bytesWorld_size]; exact Nat.le_succ _, fun k hk => Go.Lib.bytesWorld_at_old w e s k hk⟩
theorem bytesA (w : World) (e : TypeId) (s : ByteArray) : BytsAt (Go.Lib.bytesWorld w e s) w.heap.size (numsOf s) :=
  ⟨by rw [Go.Lib.bytesWorld_size]; exact Nat.lt_succ_self _, fun i hi => by
    rw [numsOf_len] at hi
    have h := Go.Lib.bytesWorld_cell w e s i hi
    have hl : i < s.data.toList.length := by rw [Array.length_toList]; exact hi
    rw [h]
    have e1 : s.data.toList.getD i 0 = s.data.toList[i] := by simp only [List.getD, List.getElem?_eq_getElem hl, Option.getD_some]
    have e2 : (numsOf s).getD i 0 = ((s.data.toList[i]).toNat : Int) := by unfold numsOf; simp only [List.getD, List.getElem?_map, List.getElem?_eq_getElem hl, Option.map_some, Option.getD_some]
    rw [e1, e2]⟩

/-- A list that the program holds is what is known. -/
structure ListIs (w : World) (sb base : Nat) (c z : Int) (ls : List Lk) : Prop where
  box : w.heap[sb]? = some (.cells #[.int .i64 c, .int .i64 z, .pointer (ptrOf ls)] 58 (0, 0))
  at' : LksAt w 0 ls
  ok : okV c z (valsL ls)
  byt : ∀ l ∈ ls, BytesL l.d
  low : ∀ l ∈ ls, base ≤ l.b
  sb_ : base ≤ sb
theorem okV_24 {c z : Int} {ks : List Vl} (h : okV c z ks) (hc : 0 ≤ c) (hc2 : c ≤ 24) : ks.length ≤ 24 := by
  have h1 : okE c z (ks.map (fun k => ⟨none, 0, k.1, k.2⟩ : Vl → EqV)) := ok_vals.2 (by
    have e : valsE (ks.map (fun k => ⟨none, 0, k.1, k.2⟩ : Vl → EqV)) = ks := by
      unfold valsE
      rw [List.map_map]
      exact List.map_id' ks
    rw [e]; exact h)
  have := okE_24 h1 hc hc2
  simpa using this
/-- Learnt by the program: all of it. -/
theorem learn_any (sb base : Nat) (c z : Int) (ls : List Lk) (es : List EqV) (r d : List Int) (q cc : Nat) (w : World) (hI : ListIs w sb base c z ls) (hv : valsL ls = valsE es) (hs : SameE ls es) (hp : solverP c z es) (hr : ascB (-1) c r = true) (hq : BytsAt w q d) (hd1 : (d.length : Int) = z) (hdB : BytesL d) (hT : Tab w) (hbw : base ≤ w.heap.size) :
    Calls Tryd.prog 43 #[.pointer (some ⟨sb, 0, none⟩), .int .u32 (setI r : Nat), .slice (some ⟨q, 0, none⟩) d.length cc] w fun e w' => e = .returned (.int .i64 (learnC es r d d.length)) ∧
      ∃ ls', ListIs w' sb base c z ls' ∧ valsL ls' = learnV es r d ∧ (∀ l ∈ ls', l.b ∈ ls.map Lk.b ∨ w.heap.size ≤ l.b) ∧ LkKeep w w' (sb :: ls.map Lk.b) ∧ Below base w w' := by
  have c1 := hp.1.1.1
  have c2 := hp.1.1.2
  have hrows := hs.rows c2 hp.2
  have hlens := hs.lens hp.2
  have h24 := asc_up hr c2
  have hll : ls.length ≤ 24 := by
    have h1 := congrArg List.length hs.1
    rw [List.length_map, List.length_map] at h1
    have := okE_24 hp.2 (by omega) c2
    omega
  have hd2 : d.length ≤ 1048576 := by have := hp.1.2.2; omega
  have hdl : ∀ l ∈ ls, l.d.length = d.length := fun l hl => by have := hlens l hl; omega
  have hf := fold_same hs (r, d)
  by_cases hnil : (es.foldl stepE (r, d)).1 = []
  · refine (learn_known sb 0 c z ls r d q cc w hI.box hI.at' hrows hll h24 hq hd2 hdl hT (by rw [hf]; exact hnil)).mono ?_
    rintro e w' ⟨rfl, hb⟩
    refine ⟨by unfold learnC; rw [if_pos hnil, hf], ls, ⟨kept hI.box hb, hI.at'.below hb, hI.ok, hI.byt, hI.low, hI.sb_⟩, by unfold learnV; rw [if_pos hnil, hv], fun l hl => .inl (List.mem_map_of_mem hl), LkKeep.of_below hb _, hb.mono hbw⟩
  · refine (learn_new sb c z ls r d q cc w hI.box hI.at' hrows hll h24 hq hd2 hdl hT (lks_nodup hI.at') hdB hI.byt (fun l hl => by
      rw [hf]
      obtain ⟨i, hi, rfl⟩ := List.getElem_of_mem hl
      have hi2 : i < es.length := by have h1 := congrArg List.length hs.1; rw [List.length_map, List.length_map] at h1; omega
      have e1 : ls[i].r = es[i].r := by
        have h1 := congrArg (fun l => l[i]?) hs.1
        simpa [List.getElem?_eq_getElem hi, List.getElem?_eq_getElem hi2] using h1
      rw [e1]
      exact less_free hp.2 c2 h24 (List.getElem_mem hi2)) (by rw [hf]; exact hnil)).mono ?_
    rintro e w' ⟨rfl, ls', h1, h2, h3, -, h5, h6, h7, h8⟩
    have hlow : ∀ l ∈ ls', base ≤ l.b := fun l hl => by
      rcases h6 l hl with h9 | h9
      · obtain ⟨l0, hl0, e0⟩ := List.mem_map.1 h9
        rw [← e0]; exact hI.low l0 hl0
      · omega
    refine ⟨by unfold learnC; rw [if_neg hnil], ls', ⟨h1, h2, ?_, fun l hl => (h5 l hl).1, hlow, hI.sb_⟩, by unfold learnV; rw [if_neg hnil, h3, hf, hv], h6, h7, h7.below h8 (fun b hb => ?_) hbw⟩
    · rw [h3, hf, hv]
      exact learn_ok hp.2 c2 hr hd1 hnil
    · rcases List.mem_cons.1 hb with rfl | hb
      · exact hI.sb_
      · obtain ⟨l0, hl0, e0⟩ := List.mem_map.1 hb
        rw [← e0]; exact hI.low l0 hl0
/-- .. and handed out. -/
theorem out_any (sb base : Nat) (c z : Int) (ls : List Lk) (w : World) (hI : ListIs w sb base c z ls) (hc : 0 ≤ c) (hc2 : c ≤ 24) (hz : z ≤ 16) (hT : Tab w) :
    Calls Tryd.prog 42 #[.pointer (some ⟨sb, 0, none⟩)] w fun e w' => ∃ a' c' gs, e = .returned (.agg #[.int .i64 c, .int .i64 z, .slice a' gs.length c']) ∧ w'.ownsRow w.heap.size 53 2 (.slice a' gs.length c') gs.length (eqCells gs) ∧ valsE gs = valsL ls ∧ RowsOwn w' w.heap.size gs ∧ RowsAp gs ∧ Below w.heap.size w w' := by
  have hl : ls.length ≤ 24 := by have := okV_24 hI.ok hc hc2; simpa [valsL] using this
  exact solver_any sb 0 c z ls w hI.box hI.at' (fun l hl => asc_up (hI.ok.1 (valL l) (List.mem_map_of_mem hl)).1 hc2) (by omega) (fun l hl => by
    have h := (hI.ok.1 (valL l) (List.mem_map_of_mem hl)).2.1
    have h2 : (strOfNums l.d).size = l.d.length := strOfNums_size _
    have h3 : ((strOfNums l.d).size : Int) = z := h
    omega) hT
end Go.Proofs.YtpdaobiaekamoaaDoor
