/- What all that is known says of a row, by the program. -/
import Derived.Test.YtpdaobiaekamoaaDoorG19
import Derived.Laws.BytesArg
import Derived.Deep.RegionHeld3
namespace Go.Proofs.YtpdaobiaekamoaaDoor
open Go.ChangeShapes Go.WideShapes Go.ChangeAt Go.RowKit Go.Sort Go.Shelf
attribute [local go_sem] Oper.semAt_some

/-- One equation more is taken out. -/
def stepE (s : List Int × List Int) (e : EqV) : List Int × List Int := if hd e.r ∈ s.1 then (xorM s.1 e.r, xorL s.2 (numsOf e.d)) else s
theorem fold_same : ∀ {ls : List Lk} {es : List EqV}, SameE ls es → ∀ s, ls.foldl stepL s = es.foldl stepE s
  | [], [], _, _ => rfl
  | [], _ :: _, h, _ => by have := congrArg List.length h.1; simp at this
  | _ :: _, [], h, _ => by have := congrArg List.length h.1; simp at this
  | l :: ls, e :: es, h, s => by
    obtain ⟨h1, h2⟩ := h
    simp only [List.map_cons, List.cons.injEq] at h1 h2
    have e1 : stepL s l = stepE s e := by unfold stepL stepE; rw [h1.1, h2.1]
    show ls.foldl stepL (stepL s l) = es.foldl stepE (stepE s e)
    rw [e1]
    exact fold_same ⟨h1.2, h2.2⟩ _
/-- What is said of a row: so many noughts, and what is taken out. -/
def saysS (es : List EqV) (z : Int) (row : List Int) : List Int × List Int := es.foldl stepE (row, List.replicate z.toNat 0)
def saysP (c z : Int) (es : List EqV) (row : List Int) : Prop := solverP c z es ∧ ascB (-1) c row = true ∧ (saysS es z row).1 = []
instance (c z : Int) (es : List EqV) (row : List Int) : Decidable (saysP c z es row) := by unfold saysP; infer_instance
def saysT (c z : Int) (es : List EqV) (row : List Int) : ByteArray := if saysP c z es row then strOfNums (saysS es z row).2 else ⟨#[]⟩

theorem foldL_asc : ∀ {ls : List Lk} {s : List Int × List Int}, RowsL ls → ascB (-1) 24 s.1 = true → ascB (-1) 24 (ls.foldl stepL s).1 = true
  | [], _, _, h => h
  | l :: ls, s, hR, h => foldL_asc (ls := ls) (s := stepL s l) (fun x hx => hR x (List.mem_cons_of_mem _ hx)) (stepL_asc h (hR l (List.mem_cons_self ..)).1)
theorem foldL_len : ∀ {ls : List Lk} {s : List Int × List Int}, (∀ l ∈ ls, l.d.length = s.2.length) → (ls.foldl stepL s).2.length = s.2.length
  | [], _, _ => rfl
  | l :: ls, s, h => by
    have e := stepL_len (s := s) (h l (List.mem_cons_self ..))
    have := foldL_len (ls := ls) (s := stepL s l) (fun x hx => by rw [e]; exact h x (List.mem_cons_of_mem _ hx))
    exact this.trans e
theorem SameE.lens {c z : Int} {ls : List Lk} {es : List EqV} (h : SameE ls es) (ho : okE c z es) : ∀ l ∈ ls, (l.d.length : Int) = z := fun l hl => by
  obtain ⟨k, hk, rfl⟩ := List.getElem_of_mem hl
  have hl2 : k < es.length := by
    have := congrArg List.length h.1
    rw [List.length_map, List.length_map] at this
    omega
  have e1 := congrArg (fun l => l[k]?) h.2
  simp only [List.getElem?_map, List.getElem?_eq_getElem hk, List.getElem?_eq_getElem hl2, Option.map_some, Option.some.injEq] at e1
  rw [e1, numsOf_len]
  exact ((okE_iff.1 ho) k hl2).1.2.1

set_option maxHeartbeats 4000000 in
theorem implSolverSays_any (a : Option Addr) (cap : Nat) (es : List EqV) (c z : Int) (ar : Option Addr) (cr : Nat) (row : List Int) (w : World) (ha : EqsAt w a es) (hsm : SmallE es) (hl : es.length ≤ 1048576) (hrow : IntsAt w ar row) (hrl : row.length ≤ 1048576) (hT : Tab w) :
    Calls Tryd.prog 29 #[.agg #[.int .i64 c, .int .i64 z, .slice a es.length cap], .slice ar row.length cr] w fun e w' => e = .returned (.tuple #[.string (saysT c z es row), .bool (decide (saysP c z es row))]) ∧ Below w.heap.size w w' := by
  have HA := hid ha
  have HS := hid hsm
  have HT := hid hT
  have HR := hid hrow
  have B0 := hid (u_b1 w (.cells #[.int .i64 c, .int .i64 z, .slice a es.length cap] 29))
  obtain ⟨i0, hi, hz0, hz1, hz2⟩ := info_parts Tryd.info5
  clear ha hsm hT hrow
  go_enter Tryd.func29, Tryd.ntmps29
  go_wp2_with fail
  refine (listOf_any a cap es c z _ (HA.out.below B0.out) HS.out hl (HT.out.below B0.out)).mono ?_
  rintro e w1 ⟨bb, h⟩
  have B := hid (u_cat B0.out bb)
  have B0S : w.heap.size ≤ (w.alloc (.cells #[.int .i64 c, .int .i64 z, .slice a es.length cap] 29)).heap.size := by simp
  clear bb B0
  rcases h with ⟨hp, ls, rfl, hL, hSm⟩ | ⟨hp, rfl⟩
  · have HP := hid hp
    have c1 := hp.1.1.1
    have c2 := hp.1.1.2
    have z1 := hp.1.2.1
    have z2 := hp.1.2.2
    have HM := hid hSm
    have HL := hid hL
    clear hp hL hSm
    repeat ((fail_if_success (with_reducible show Code.wp _ (Code.region 4 _ _) _ _ _)); (first | go_values | go_skip | go_guarded | go_step | go_upon | go_back | go_simp))
    obtain ⟨V, hV⟩ : ∃ V, V = w1.alloc (.cells #[.int .i64 c, .int .i64 z, .pointer (ptrOf ls)] 58) := ⟨_, rfl⟩
    have bv : Below w1.heap.size w1 V := by rw [hV]; exact u_b1 _ _
    have X := hid (show V.heap[w1.heap.size]? = some (.cells #[.int .i64 c, .int .i64 z, .pointer (ptrOf ls)] 58 (0, 0)) by rw [hV]; exact laid _ _ _)
    rw [← hV]
    clear hV
    replace B := hid (u_cat B.out bv)
    replace HL := hid (HL.out.below bv)
    clear bv
    have q0 := box_cell X.out 0 (v := .int .i64 c) rfl
    go_wp2_with fail
    refine (rowSetOf_in ar cr row c _ (HR.out.below B.out) (by omega) (by omega) c2).mono ?_
    rintro e w' ⟨rfl, hw'⟩
    replace hw' := hw'.symm
    subst hw'
    by_cases hasc : ascB (-1) c row = true
    · rw [hasc, rowBits_yes hasc]
      have HASC := hid hasc
      have H24 := hid (asc_24 hasc c2)
      have HRL := hid (HM.out.rows c2 HP.out.2)
      have HLN := hid (HM.out.lens HP.out.2)
      have hll : ls.length ≤ 24 := by
        have h1 := congrArg List.length HM.out.1
        rw [List.length_map, List.length_map] at h1
        have := okE_24 HP.out.2 (by omega) c2
        omega
      obtain ⟨Zn, rfl⟩ := Int.eq_ofNat_of_zero_le (show 0 ≤ z by omega)
      have q1 := box_cell X.out 1 (v := .int .i64 Zn) rfl
      clear hasc
      go_wp2_with (at_make; refine wpList_make_full _ rfl _ _ 69 rfl V.heap.size 5 i0 (.int .u8 0) 1 Tryd.underlying69 hi hz0 hz1 _ _ _ _ Zn rfl rfl rfl rfl (by rw [hz2]; omega) (by unfold maxLen; omega) (Nat.le_refl _) ?_; intro w2 hown hgr; have BM := hid (show Below V.heap.size V w2 from (Below.refl _ _).grown hgr (Nat.le_refl _) (fun k hk => by simp at hk)); rw [made_byts] at hown; have BA := hid (byts_own (d := List.replicate Zn 0) hown (by simp)); clear hown hgr)
      replace X := hid (kept X.out BM.out)
      replace B := hid (u_cat B.out BM.out)
      replace HL := hid (HL.out.below BM.out)
      have K := last_any w1.heap.size w.heap.size c Zn ls row (List.replicate Zn 0) V.heap.size Zn w2 X.out (HL.out.mono (by have := B0S; omega)) HRL.out hll H24.out BA.out (by simp; omega) (fun l hl => by have := HLN.out l hl; simp; omega) (HT.out.below B.out)
      rw [List.length_replicate] at K
      have K := hid K
      clear BM q0 q1
      refine K.out.mono ?_
      rintro e w3 ⟨x, hx, rfl, ba, bb⟩
      have HX := hid (show (x.r, x.d) = saysS es Zn row by rw [hx, fold_same HM.out]; unfold saysS; rw [Int.toNat_natCast])
      have HXA := hid (show ascB (-1) 24 x.r = true by have := foldL_asc (s := (row, List.replicate Zn 0)) HRL.out H24.out; rw [← hx] at this; exact this)
      have hxl : x.d.length ≤ 16 := by
        have := foldL_len (ls := ls) (s := (row, List.replicate Zn 0)) (fun l hl => by have := HLN.out l hl; simp; omega)
        rw [← hx] at this
        simp at this
        omega
      have BX := hid ba
      replace B := hid (u_cat B.out bb)
      clear hx ba bb K
      by_cases hem : x.r = []
      · have HS2 := hid (show saysP c Zn es row from ⟨HP.out, HASC.out, by rw [← HX.out]; exact hem⟩)
        have H1 := hid (show saysT c Zn es row = strOfNums x.d by unfold saysT; rw [if_pos HS2.out, ← HX.out])
        have H2 := hid (decide_eq_true HS2.out)
        have K := hid (emptyS HXA.out)
        rw [decide_eq_true hem] at K
        clear hem
        go_wp2_with (go_at_call 53; refine (K.out _).mono ?_; rintro e w' ⟨rfl, hw'⟩; replace hw' := hw'.symm; subst hw'; have hcv := run_convert_bytes_arg (P := Tryd.prog) w3 69 5 Tryd.underlying69 Tryd.underlying5 x.q 0 x.d.length x.c x.d rfl (fun i hi => by rw [Nat.zero_add]; exact BX.out.2 i hi) 9 Tryd.underlying9)
        go_ret2
        exact ⟨by rw [H1.out, H2.out]; rfl, B.out⟩
      · have HN := hid (show ¬ saysP c Zn es row from fun h => hem (by have := h.2.2; rw [← HX.out] at this; exact this))
        have H1 := hid (show saysT c Zn es row = ⟨#[]⟩ from if_neg HN.out)
        have H2 := hid (decide_eq_false HN.out)
        have K := hid (emptyS HXA.out)
        rw [decide_eq_false hem] at K
        clear hem
        go_wp2_with (go_at_call 53; refine (K.out _).mono ?_; rintro e w' ⟨rfl, hw'⟩; replace hw' := hw'.symm; subst hw')
        go_ret2
        exact ⟨by rw [H1.out, H2.out]; rfl, B.out⟩
    · have hasc2 : ascB (-1) c row = false := by simpa using hasc
      have HN := hid (show ¬ saysP c z es row from fun h => hasc h.2.1)
      have H1 := hid (show saysT c z es row = ⟨#[]⟩ from if_neg HN.out)
      have H2 := hid (decide_eq_false HN.out)
      rw [hasc2, rowBits_no hasc2]
      clear hasc hasc2
      go_wp2_with fail
      go_ret2
      exact ⟨by rw [H1.out, H2.out]; rfl, B.out⟩
  · have HN := hid (show ¬ saysP c z es row from fun h => hp h.1)
    have H1 := hid (show saysT c z es row = ⟨#[]⟩ from if_neg HN.out)
    have H2 := hid (decide_eq_false HN.out)
    clear hp
    go_wp2_with fail
    go_ret2
    exact ⟨by rw [H1.out, H2.out]; rfl, u_cat B.out (u_b1 _ _)⟩
end Go.Proofs.YtpdaobiaekamoaaDoor
