/- What two know together, by the program. -/
import Derived.Test.YtpdaobiaekamoaaDoorG41
namespace Go.Proofs.YtpdaobiaekamoaaDoor
open Go.ChangeShapes Go.WideShapes Go.ChangeAt Go.RowKit Go.Sort Go.Shelf
attribute [local go_sem] Oper.semAt_some

theorem map_fin {α β : Type} (f : α → β) (xs : List α) : (List.finRange xs.length).map (fun k => f xs[k.val]) = xs.map f := by
  apply List.ext_getElem
  · simp
  · intro i h1 h2
    simp
theorem join_prefix {ks : List Vl} {es p : List Vl} (hp : p <+: es) (h : p.foldl join1 (some ks) = none) : joinV ks es = none := by
  obtain ⟨t, rfl⟩ := hp
  unfold joinV
  rw [List.foldl_append, h, join_none]

theorem ListIs.notin {w : World} {sb base g : Nat} {c z : Int} {ls : List Lk} {cs : Array Value} {t : TypeId} {zz : Nat × Nat} (h : ListIs w sb base c z ls) (hg : w.heap[g]? = some (.cells cs t zz)) (ht : t ≠ 76) (hs : g ≠ sb) : g ∉ sb :: ls.map Lk.b := fun hm => by
  rcases List.mem_cons.1 hm with h1 | h1
  · exact hs h1
  · obtain ⟨l, hl, e⟩ := List.mem_map.1 h1
    obtain ⟨i, hi, rfl⟩ := List.getElem_of_mem hl
    exact blk_ne hg (h.at' i hi).2.2.1 ht e.symm
theorem ListIs.others {w w' : World} {sb base : Nat} {c z : Int} {ls : List Lk} (h : ListIs w sb base c z ls) (hk : LkKeep w w' (sb :: ls.map Lk.b)) (hs : w.heap.size ≤ w'.heap.size) : KeepsOthers w w' :=
  ⟨hs, fun k o ho hc => by
    refine (hk.1 k (lt_of_block ho) (fun hm => ?_)).trans ho
    rcases List.mem_cons.1 hm with h1 | h1
    · rw [h1, h.box] at ho
      cases ho
      cases hc
    · obtain ⟨l, hl, e⟩ := List.mem_map.1 h1
      obtain ⟨i, hi, rfl⟩ := List.getElem_of_mem hl
      rw [← e, (h.at' i hi).2.2.1] at ho
      cases ho
      cases hc⟩
theorem lks_keep {w w' : World} {base : Nat} {ls : List Lk} {bs : List Nat} (hL : LksAt w base ls) (hk : LkKeep w w' bs) (hn : ∀ l ∈ ls, l.b ∉ bs) : LksAt w' base ls := fun k hkl => by
  obtain ⟨h1, h2, h3, h4⟩ := hL k hkl
  exact ⟨h1, h2, (hk.1 _ (lt_of_block h3) (hn _ (List.getElem_mem hkl))).trans h3, hk.2 _ _ h4⟩

set_option maxHeartbeats 8000000 in
set_option maxRecDepth 100000 in
theorem implSolverJoin_yes (a b : Option Addr) (cap cap' : Nat) (es fs : List EqV) (c z : Int) (w : World) (ha : EqsAt w a es) (hsm : SmallE es) (hl : es.length ≤ 1048576) (hb : EqsAt w b fs) (hsm' : SmallE fs) (hl' : fs.length ≤ 1048576) (hp : solverP c z es) (hp' : solverP c z fs) (hT : Tab w) :
    Calls Tryd.prog 31 #[.agg #[.int .i64 c, .int .i64 z, .slice a es.length cap], .agg #[.int .i64 c, .int .i64 z, .slice b fs.length cap']] w fun e w' => ∃ o, o = joinV (valsE es) (valsE fs) ∧ ∃ a' c' gs, e = .returned (.tuple #[.agg #[.int .i64 (if o.isSome then c else 0), .int .i64 (if o.isSome then z else 0), .slice a' gs.length c'], .bool o.isSome]) ∧ w'.ownsRow w.heap.size 53 2 (.slice a' gs.length c') gs.length (eqCells gs) ∧ valsE gs = o.getD [] ∧ RowsOwn w' w.heap.size gs ∧ RowsAp gs ∧ Below w.heap.size w w' := by
  have HA := hid ha
  have HBb := hid hb
  have HS := hid hsm
  have HS' := hid hsm'
  have HP := hid hp
  have HP' := hid hp'
  have HT := hid hT
  obtain ⟨WA, hWA⟩ : ∃ WA, WA = ((w.alloc (.cells #[.int .i64 c, .int .i64 z, .slice a es.length cap] 29)).alloc (.cells #[.int .i64 c, .int .i64 z, .slice b fs.length cap'] 29)).alloc (.cells #[.int .i64 0, .int .i64 0, .slice none 0 0] 29) := ⟨_, rfl⟩
  obtain ⟨XA, XB, XR, bA⟩ := u_box3 (w := w) (c := #[.int .i64 c, .int .i64 z, .slice a es.length cap]) (t := 29) (d := #[.int .i64 c, .int .i64 z, .slice b fs.length cap']) (s := 29) (f := #[.int .i64 0, .int .i64 0, .slice none 0 0]) (r := 29) (w1 := WA) (by rw [hWA]; exact Below.refl _ _)
  have hsA : WA.heap.size = w.heap.size + 3 := by rw [hWA]; simp
  obtain ⟨W0, hW0⟩ : ∃ W0, W0 = WA.alloc (.cells #[.bool false] 4) := ⟨_, rfl⟩
  have b0 : Below WA.heap.size WA W0 := by rw [hW0]; exact u_b1 _ _
  have XO : W0.heap[w.heap.size + 3]? = some (.cells #[.bool false] 4 (0, 0)) := by rw [hW0, ← hsA]; exact laid WA _ _
  have hs0 : w.heap.size + 4 ≤ W0.heap.size := by rw [hW0]; simp; omega
  have HXA := hid (kept XA b0)
  have HXB := hid (kept XB b0)
  have HXR := hid (kept XR b0)
  have HXO := hid XO
  have HB := hid (u_cat bA b0)
  have HE := hid (show W0 = (((w.alloc (.cells #[.int .i64 c, .int .i64 z, .slice a es.length cap] 29)).alloc (.cells #[.int .i64 c, .int .i64 z, .slice b fs.length cap'] 29)).alloc (.cells #[.int .i64 0, .int .i64 0, .slice none 0 0] 29)).alloc (.cells #[.bool false] 4) by rw [hW0, hWA])
  have q0 := box_cell HXA.out 0 (v := .int .i64 c) rfl
  have q1 := box_cell HXA.out 1 (v := .int .i64 z) rfl
  have q2 := box_cell HXA.out 2 (v := .slice a es.length cap) rfl
  clear ha hb hsm hsm' hp hp' hT XA XB XR XO bA b0 hW0 hWA hsA WA
  refine (callsIn_wide (n := 9)).1 ?_
  refine callsIn_of_wp_marks Tryd.func31 rfl trivial ?_ rfl
  simp only [Tryd.ntmps31, List.size_toArray, List.length_cons, List.length_nil, Nat.reduceAdd, Nat.reduceSub, Array.replicate_succ, Array.replicate_zero, List.push_toArray, List.append_toArray, List.nil_append, List.cons_append]
  gi_wp2_with fail
  rw [← HE.out]
  clear HE
  refine ⟨trivial, ?_⟩
  gi_at_call 37
  refine (callsIn_wide.2 (listOf_any a cap es c z W0 (HA.out.below HB.out) HS.out hl (HT.out.below HB.out))).mono ?_
  rintro e w1 ⟨b1, h⟩
  rcases h with ⟨_, ls1, rfl, hL1, hS1⟩ | ⟨hn, -⟩
  · have hs1 := b1.size
    replace HXB := hid (kept HXB.out b1)
    replace HXR := hid (kept HXR.out b1)
    replace HXO := hid (kept HXO.out b1)
    replace HB := hid (u_cat HB.out b1)
    have HL1 := hid hL1
    have HM1 := hid hS1
    clear q0 q1 q2 b1 hL1 hS1 HXA
    repeat ((fail_if_success (with_reducible show Code.wpIn _ _ _ (Code.region 2 _ _) _ _ _)); (first | go_values | gi_guarded | gi_step | gi_upon | gi_back | go_simp))
    obtain ⟨V1, hV1⟩ : ∃ V1, V1 = w1.alloc (.cells #[.int .i64 c, .int .i64 z, .pointer (ptrOf ls1)] 58) := ⟨_, rfl⟩
    have bv : Below w1.heap.size w1 V1 := by rw [hV1]; exact u_b1 _ _
    have Z1 := hid (show V1.heap[w1.heap.size]? = some (.cells #[.int .i64 c, .int .i64 z, .pointer (ptrOf ls1)] 58 (0, 0)) by rw [hV1]; exact laid _ _ _)
    have hsv : w1.heap.size + 1 ≤ V1.heap.size := by rw [hV1]; simp
    rw [← hV1]
    clear hV1
    replace HXB := hid (kept HXB.out bv)
    replace HXR := hid (kept HXR.out bv)
    replace HXO := hid (kept HXO.out bv)
    replace HB := hid (u_cat HB.out bv)
    replace HL1 := hid (HL1.out.below bv)
    have HLT1 := hid (fun i (hi : i < ls1.length) => lt_of_block (HL1.out i hi).2.2.1)
    clear bv
    have q0 := box_cell HXB.out 0 (v := .int .i64 c) rfl
    have q1 := box_cell HXB.out 1 (v := .int .i64 z) rfl
    have q2 := box_cell HXB.out 2 (v := .slice b fs.length cap') rfl
    gi_wp2_with fail
    refine ⟨trivial, ?_⟩
    gi_at_call 37
    refine (callsIn_wide.2 (listOf_any b cap' fs c z V1 (HBb.out.below HB.out) HS'.out hl' (HT.out.below HB.out))).mono ?_
    rintro e w2 ⟨b2, h⟩
    rcases h with ⟨_, ls2, rfl, hL2, hS2⟩ | ⟨hn, -⟩
    · have hs2 := b2.size
      replace HXR := hid (kept HXR.out b2)
      replace HXO := hid (kept HXO.out b2)
      replace HB := hid (u_cat HB.out b2)
      replace HL1 := hid (HL1.out.below b2)
      replace Z1 := hid (kept Z1.out b2)
      have HL2 := hid hL2
      have HM2 := hid hS2
      clear q0 q1 q2 b2 hL2 hS2 HXB
      repeat ((fail_if_success (with_reducible show Code.wpIn _ _ _ (Code.region 3 _ _) _ _ _)); (first | go_values | gi_guarded | gi_step | gi_upon | gi_back | go_simp))
      obtain ⟨V2, hV2⟩ : ∃ V2, V2 = w2.alloc (.cells #[.int .i64 c, .int .i64 z, .pointer (ptrOf ls2)] 58) := ⟨_, rfl⟩
      have bv : Below w2.heap.size w2 V2 := by rw [hV2]; exact u_b1 _ _
      have Z2 := hid (show V2.heap[w2.heap.size]? = some (.cells #[.int .i64 c, .int .i64 z, .pointer (ptrOf ls2)] 58 (0, 0)) by rw [hV2]; exact laid _ _ _)
      have hsv2 : w2.heap.size + 1 ≤ V2.heap.size := by rw [hV2]; simp
      rw [← hV2]
      clear hV2
      replace HXR := hid (kept HXR.out bv)
      replace HXO := hid (kept HXO.out bv)
      replace HB := hid (u_cat HB.out bv)
      replace HL1 := hid (HL1.out.below bv)
      replace HL2 := hid (HL2.out.below bv)
      replace Z1 := hid (kept Z1.out bv)
      clear bv
      have q0 := box_cell Z1.out 0 (v := .int .i64 c) rfl
      have q1 := box_cell Z1.out 1 (v := .int .i64 z) rfl
      have r0 := box_cell Z2.out 0 (v := .int .i64 c) rfl
      have r1 := box_cell Z2.out 1 (v := .int .i64 z) rfl
      gi_wp2_with (refine ⟨trivial, ?_⟩; gi_at_call 47; refine (callsIn_wide.2 (links_in _ _)).mono ?_; rintro e w' ⟨rfl, rfl⟩)
      obtain ⟨W3, hW3⟩ : ∃ W3, W3 = V2.alloc (.cells #[.pointer (some ⟨w2.heap.size, 0, none⟩)] 91) := ⟨_, rfl⟩
      have b3 : Below V2.heap.size V2 W3 := by rw [hW3]; exact u_b1 _ _
      have X3 : W3.heap[V2.heap.size]? = some (.cells #[.pointer (some ⟨w2.heap.size, 0, none⟩)] 91 (0, 0)) := by rw [hW3]; exact laid V2 _ _
      have hs3 : V2.heap.size + 1 ≤ W3.heap.size := by rw [hW3]; simp
      rw [← hW3]
      clear hW3 q0 q1 r0 r1
      have c1 := HP.out.1
      have HB3 := hid (u_cat HB.out b3)
      have HI0 := hid (show ListIs W3 w1.heap.size w.heap.size c z ls1 from ⟨kept Z1.out b3, (HL1.out.below b3).mono (Nat.zero_le _), by rw [sameE_vals HM1.out]; exact ok_vals.1 HP.out.2, sameE_bytes HM1.out, fun l hl => by
        obtain ⟨i, hi, rfl⟩ := List.getElem_of_mem hl
        have := (HL1.out i hi).1
        omega, by omega⟩)
      have HL20 := hid (show LksAt W3 0 ls2 from (HL2.out.below b3).mono (Nat.zero_le _))
      have HOK2 := hid (show okV c z (valsL ls2) by rw [sameE_vals HM2.out]; exact ok_vals.1 HP'.out.2)
      have HBY2 := hid (sameE_bytes HM2.out)
      have h24 := okV_24 HOK2.out (by omega) c1.1.2
      have hl2 : ls2.length ≤ 24 := by simpa [valsL] using h24
      have HAP0 := hid (show ∀ l ∈ ls1, l.b ∉ ls2.map Lk.b from fun l hl hm => by
        obtain ⟨i, hi, rfl⟩ := List.getElem_of_mem hl
        obtain ⟨l2, hl2, e⟩ := List.mem_map.1 hm
        obtain ⟨j, hj, rfl⟩ := List.getElem_of_mem hl2
        have h1 := (HL2.out j hj).1
        have h2 := HI0.out
        have h3 := HLT1.out i hi
        omega)
      have S2 := hid (kept Z2.out b3)
      have HR3 := hid (kept HXR.out b3)
      have HO3 := hid (kept HXO.out b3)
      have HV1E := hid (sameE_vals HM1.out)
      have HV2E := hid (sameE_vals HM2.out)
      clear HXR HXO Z1 Z2 HL1 HL2 b3
      refine wpIn_rangeFunc_ownG (α := Fin ls2.length) rfl (by omega) (gf := 71) (lb := #[.pointer (some ⟨V2.heap.size, 0, none⟩)]) rfl trivial (enters_of Tryd.func71 (by kernel_rfl) rfl)
        (linksF_stops (9 - 1) _ w2.heap.size ls2 (by omega) (by omega) (KeepsL ls2) (fun W W' h k => k h) W3 (box_cell X3 0 rfl) (box_cell S2.out 2 rfl) HL20.out.leads)
        keepsL_t (keepsL_b (n := W3.heap.size)) (Below.refl _ _) (fun _ => rfl)
        (fun pre W => ∃ ls, ListIs W w1.heap.size w.heap.size c z ls ∧ (pre.map (fun k => valL ls2[k.val])).foldl join1 (some (valsE es)) = some (valsL ls) ∧ LksAt W 0 ls2 ∧ W.heap[w2.heap.size]? = some (.cells #[.int .i64 c, .int .i64 z, .pointer (ptrOf ls2)] 58 (0, 0)) ∧ (∀ l ∈ ls, l.b ∉ ls2.map Lk.b) ∧
          W.heap[w.heap.size + 2]? = some (.cells #[.int .i64 0, .int .i64 0, .slice none 0 0] 29 (0, 0)) ∧ W.heap[w.heap.size + 3]? = some (.cells #[.bool false] 4 (0, 0)) ∧ W3.heap.size ≤ W.heap.size ∧ Below w.heap.size w W)
        (fun cd pre W => cd = .ret ∧ (pre.map (fun k => valL ls2[k.val])).foldl join1 (some (valsE es)) = none ∧ W.heap[w.heap.size + 2]? = some (.cells #[.int .i64 0, .int .i64 0, .slice none 0 0] 29 (0, 0)) ∧ W.heap[w.heap.size + 3]? = some (.cells #[.bool false] 4 (0, 0)) ∧ Below w.heap.size w W)
        (fun s A B row hs hg hr => by
          obtain ⟨ls, h1, h2, h3, h4, h5, h6, h7, h8, h9⟩ := hs
          exact ⟨ls, ⟨own_blk h1.box hg hr, h1.at'.own hg hr, h1.ok, h1.byt, h1.low, h1.sb_⟩, h2, h3.own hg hr, own_blk h4 hg hr, h5, own_blk h6 hg hr, own_blk h7 hg hr, Nat.le_trans h8 hg.size, ownFrom_below (Nat.le_refl _) (by omega) s A B row h9 hg hr⟩)
        (fun cd s A B row hs hg hr => ⟨hs.1, hs.2.1, own_blk hs.2.2.1 hg hr, own_blk hs.2.2.2.1 hg hr, ownFrom_below (Nat.le_refl _) (by omega) s A B row hs.2.2.2.2 hg hr⟩)
        ⟨ls1, HI0.out, by rw [HV1E.out]; rfl, HL20.out, S2.out, HAP0.out, HR3.out, HO3.out, Nat.le_refl _, HB3.out⟩
        (fun k => { tmps := #[.agg #[.int .i64 c, .int .i64 z, .slice a es.length cap], .agg #[.int .i64 c, .int .i64 z, .slice b fs.length cap'], .pointer (some ⟨w.heap.size, 0, none⟩), .pointer (some ⟨w.heap.size + 1, 0, none⟩), .pointer (some ⟨w.heap.size + 1 + 1, 0, none⟩), .pointer (some ⟨w.heap.size + 1 + 1 + 1, 0, none⟩), .pointer (some ⟨w1.heap.size, 0, none⟩), .bool true, .pointer (some ⟨w2.heap.size, 0, none⟩), .bool true, .pointer (some ⟨ls2[k.val].b, 0, none⟩), .tuple #[.agg #[.int .i64 c, .int .i64 z, .pointer (ptrOf ls1)], .bool true], .agg #[.int .i64 c, .int .i64 z, .slice a es.length cap], .tuple #[.agg #[.int .i64 c, .int .i64 z, .pointer (ptrOf ls1)], .bool true], .agg #[.int .i64 c, .int .i64 z, .pointer (ptrOf ls1)], .bool true, .tuple #[.agg #[.int .i64 c, .int .i64 z, .pointer (ptrOf ls2)], .bool true], .agg #[.int .i64 c, .int .i64 z, .slice b fs.length cap'], .tuple #[.agg #[.int .i64 c, .int .i64 z, .pointer (ptrOf ls2)], .bool true], .agg #[.int .i64 c, .int .i64 z, .pointer (ptrOf ls2)], .bool true, .bool true, .bool false, .bool false, .bool true, .bool false, .bool false, .bool false, .pointer (some ⟨w1.heap.size, 0, none⟩), .int .i64 c, .pointer (some ⟨w2.heap.size, 0, none⟩), .int .i64 c, .bool false, .bool false, .bool false, .pointer (some ⟨w1.heap.size, 1, none⟩), .int .i64 z, .pointer (some ⟨w2.heap.size, 1, none⟩), .int .i64 z, .bool false, .bool false, undef, .func (.func 71) #[] #[.pointer (some ⟨V2.heap.size, 0, none⟩)], .pointer (some ⟨ls2[k.val].b, 0, none⟩), undef, undef, undef, undef, undef, undef, undef, undef, undef, undef, undef, undef], defers := [] }) ?assign ?body ?done ?stop
      case assign =>
        intro l k W K hK
        gi_wp2
        exact hK
      case body =>
        rintro l pre k W ⟨ls, hI, hf, hL, hS, hap, hR, hO, hsz, hB⟩ hlen
        obtain ⟨-, -, g3, g4⟩ := hL k.val k.isLt
        obtain ⟨l0, hl0⟩ : ∃ l0, l0 = ls2[k.val] := ⟨_, rfl⟩
        have hm0 : l0 ∈ ls2 := by rw [hl0]; exact List.getElem_mem k.isLt
        obtain ⟨PN, hPN⟩ : ∃ PN, PN = ptrOf (ls2.drop (k.val + 1)) := ⟨_, rfl⟩
        rw [← hl0, ← hPN] at g3
        rw [← hl0] at g4 ⊢
        have hv0 := HOK2.out.1 (valL l0) (List.mem_map_of_mem hm0)
        have hb0 := HBY2.out l0 hm0
        have hz0 : (l0.d.length : Int) = z := by have h := hv0.2.1; have h2 : (strOfNums l0.d).size = l0.d.length := strOfNums_size _; have h3 : ((strOfNums l0.d).size : Int) = z := h; omega
        have KL := hid (fun W' (b : Below W.heap.size W W') => learn_any w1.heap.size w.heap.size c z ls ((valsL ls).map eqOf) l0.r l0.d l0.q l0.c W' ⟨kept hI.box b, hI.at'.below b, hI.ok, hI.byt, hI.low, hI.sb_⟩ (valsE_eqOf _).symm (same_eqOf hI.byt) (solver_eqOf c1 hI.ok) hv0.1 (g4.below b) hz0 hb0 (HT.out.below ((hB.trans (b.mono hB.size)))) (Nat.le_trans hB.size b.size))
        have HJ1 := hid (show (((pre ++ [k]).map (fun k => valL ls2[k.val])).foldl join1 (some (valsE es))) = if learnC ((valsL ls).map eqOf) l0.r l0.d l0.d.length = 2 then none else some (learnV ((valsL ls).map eqOf) l0.r l0.d) by
          rw [List.map_append, List.foldl_append, hf]
          show join1 (some (valsL ls)) (valL ls2[k.val]) = _
          rw [← hl0]
          unfold join1
          show (if learnC ((valsL ls).map eqOf) l0.r (numsOf (strOfNums l0.d)) (strOfNums l0.d).size = 2 then none else some (learnV ((valsL ls).map eqOf) l0.r (numsOf (strOfNums l0.d)))) = _
          rw [show numsOf (strOfNums l0.d) = l0.d from nums_str hb0, strOfNums_size])
        have y0 := cell_regrown (box_cell g3 0 (v := .int .u32 (setI l0.r : Nat)) rfl)
        have y1 := cell_regrown (box_cell g3 1 (v := .slice (some ⟨l0.q, 0, none⟩) l0.d.length l0.c) rfl)
        have HI := hid hI
        have HL := hid hL
        have HS3 := hid hS
        have HAP := hid hap
        have HR := hid hR
        have HO := hid hO
        have HBW := hid hB
        clear hI hf hL hS hap hR hO hB g3 g4 hPN hl0 hv0 hb0
        gi_wp2
        refine inR_pick 8 0 [(0, 8)] [(8, 2)] (by kernel_rfl) (by kernel_rfl) (by kernel_rfl) (fun ⟨_, _, h⟩ => h) (fun _ _ d _ _ h => by cases d <;> exact h) ?_
        simp only [cutOut, List.take_succ_cons, List.take_zero, List.drop_succ_cons, List.drop_zero, List.append_nil]
        repeat (first | go_big_quiet_step (fail) | quiet_step (fail))
        refine wpQuiet_nil ?_
        intro V3 hw'
        have hbq := of_class hw'
        clear hw' y0 y1
        show wpList _ _ _ _ _ _
        refine .inl ?_
        go_simp
        refine (KL.out V3 hbq).mono ?_
        rintro e V4 ⟨rfl, ls', hI', hv', hb', hk', hbl'⟩
        have hI3 : ListIs V3 w1.heap.size w.heap.size c z ls := ⟨kept HI.out.box hbq, HI.out.at'.below hbq, HI.out.ok, HI.out.byt, HI.out.low, HI.out.sb_⟩
        have hL3 := HL.out.below hbq
        have hS3 := kept HS3.out hbq
        have hR3 := kept HR.out hbq
        have hO3 := kept HO.out hbq
        have hz3 := hbq.size
        have hL4 : LksAt V4 0 ls2 := lks_keep hL3 hk' (fun l hl hm => by
          rcases List.mem_cons.1 hm with h1 | h1
          · obtain ⟨i, hi, rfl⟩ := List.getElem_of_mem hl
            exact blk_ne hI3.box (hL3 i hi).2.2.1 (by decide) h1.symm
          · obtain ⟨l1, hl1, e1⟩ := List.mem_map.1 h1
            exact HAP.out l1 hl1 (by rw [e1]; exact List.mem_map_of_mem hl))
        have HL4 := hid hL4
        have HI4 := hid hI'
        have HV4 := hid hv'
        have HAP4 := hid (show ∀ l ∈ ls', l.b ∉ ls2.map Lk.b from fun l hl hm => by
          rcases hb' l hl with h1 | h1
          · obtain ⟨l1, hl1, e1⟩ := List.mem_map.1 h1
            exact HAP.out l1 hl1 (by rw [e1]; exact hm)
          · obtain ⟨l2, hl2, e2⟩ := List.mem_map.1 hm
            obtain ⟨i, hi, rfl⟩ := List.getElem_of_mem hl2
            have := lt_of_block (hL3 i hi).2.2.1
            omega)
        have HS4 := hid ((hk'.1 _ (lt_of_block hS3) (hI3.notin hS3 (by decide) (by omega))).trans hS3)
        have HR4 := hid ((hk'.1 _ (lt_of_block hR3) (hI3.notin hR3 (by decide) (by omega))).trans hR3)
        have HO4 := hid ((hk'.1 _ (lt_of_block hO3) (hI3.notin hO3 (by decide) (by omega))).trans hO3)
        have KO4 := hid ((keeps_below hbq).trans (hI3.others hk' hbl'.size))
        have hz4 := hbl'.size
        have HBW4 := hid (show Below w.heap.size w V4 from (u_catn HBW.out (Nat.le_refl _) hbq).trans hbl')
        have hsW : W3.heap.size ≤ V4.heap.size := by omega
        clear hI3 hL3 hS3 hR3 hO3 hL4 hI' hv' hb' hk' hbl' hbq KL HI HL HS3 HAP HR HO HBW
        by_cases hc2 : learnC ((valsL ls).map eqOf) l0.r l0.d l0.d.length = 2
        · have HJN := hid (HJ1.out.trans (if_pos hc2))
          rw [hc2]
          clear hc2 HJ1
          have p0 := box_cell HR4.out 0 (v := .int .i64 0) rfl
          have p1 := box_cell HR4.out 1 (v := .int .i64 0) rfl
          have p2 := box_cell HR4.out 2 (v := .slice none 0 0) rfl
          have p3 := box_cell HO4.out 0 (v := .bool false) rfl
          have z0 := box_frozen HR4.out
          have z1 := box_frozen HO4.out
          have l2' := lt_of_block HR4.out
          have l3' := lt_of_block HO4.out
          go_wp2_with fail
          gi_wp2
          refine ⟨(KO4.out.trans ((((KeepsOthers.setCell _ _ _).trans (KeepsOthers.setCell _ _ _)).trans (KeepsOthers.setCell _ _ _)).trans (KeepsOthers.setCell _ _ _))).from _, rfl, HJN.out, ?_, ?_, ?_⟩
          · exact set_other (set_block (set_block (set_block HR4.out 0 _) 1 _) 2 _) (by omega) _ _
          · exact set_block (set_other (set_other (set_other HO4.out (by omega) _ _) (by omega) _ _) (by omega) _ _) 0 _
          · refine u_set (u_set (u_set (u_set HBW4.out ?_ _ _) ?_ _ _) ?_ _ _) ?_ _ _ <;> omega
        · have HJN := hid (HJ1.out.trans (if_neg hc2))
          have hcn : (learnC ((valsL ls).map eqOf) l0.r l0.d l0.d.length == 2) = false := by simpa using hc2
          clear hc2 HJ1
          go_wp2_with fail
          gi_wp2
          exact ⟨KO4.out.from _, fun _ => HL4.out.leads, ls', HI4.out, by rw [HJN.out, HV4.out], HL4.out, HS4.out, HAP4.out, HR4.out, HO4.out, hsW, HBW4.out⟩
      case done =>
        rintro D ys W hD rfl ⟨ls, hI, hf, hL, hS, hap, hR, hO, hsz, hB⟩ hK
        rw [map_fin valL ls2, show ls2.map valL = valsE fs from HV2E.out] at hf
        have HJ := hid (show joinV (valsE es) (valsE fs) = some (valsL ls) from hf)
        have HI := hid hI
        have HR := hid hR
        have HO := hid hO
        have HBW := hid hB
        have HK := hid hK
        clear hI hf hL hS hap hR hO hB hK
        gi_wp2_with (refine ⟨trivial, ?_⟩; gi_at_call 42; refine (callsIn_wide.2 (out_any w1.heap.size w.heap.size c z ls W HI.out (by omega) c1.1.2 c1.2.2 (HT.out.below HBW.out))).mono ?_; rintro e w5 ⟨a', c', gs, rfl, o5, v5, r5, p5, b5⟩; have hs5 := b5.size; have Y5 := hid (kept HR.out b5); have YO5 := hid (kept HO.out b5); have p0 := box_cell Y5.out 0 (v := .int .i64 0) rfl; have p1 := box_cell Y5.out 1 (v := .int .i64 0) rfl; have p2 := box_cell Y5.out 2 (v := .slice none 0 0) rfl; have p3 := box_cell YO5.out 0 (v := .bool false) rfl; have z0 := box_frozen Y5.out; have z1 := box_frozen YO5.out; have l2' := lt_of_block Y5.out; have l3' := lt_of_block YO5.out)
        have hK5 := (keeps_below b5).same D _ HK.out rfl
        have hK' := ((((KeepsOthers.setCell w5 ⟨w.heap.size + 2, 0, none⟩ (.int .i64 c)).trans (KeepsOthers.setCell _ ⟨w.heap.size + 2, 1, none⟩ (.int .i64 z))).trans (KeepsOthers.setCell _ ⟨w.heap.size + 2, 2, none⟩ (.slice a' gs.length c'))).trans (KeepsOthers.setCell _ ⟨w.heap.size + 3, 0, none⟩ (.bool true))).same D _ hK5 rfl
        have X5 := set_other (set_block (set_block (set_block Y5.out 0 (.int .i64 c)) 1 (.int .i64 z)) 2 (.slice a' gs.length c')) (show w.heap.size + 2 ≠ w.heap.size + 3 by omega) 0 (.bool true)
        have X6 := set_block (set_other (set_other (set_other YO5.out (show w.heap.size + 3 ≠ w.heap.size + 2 by omega) 0 (.int .i64 c)) (show w.heap.size + 3 ≠ w.heap.size + 2 by omega) 1 (.int .i64 z)) (show w.heap.size + 3 ≠ w.heap.size + 2 by omega) 2 (.slice a' gs.length c')) 0 (.bool true)
        refine ⟨by simp, .inl ⟨_, _, rfl, run_takeDeferred hK', ?_⟩⟩
        have hc5 := cell_kept (box_cell X5 0 (v := .int .i64 c) (by simp)) (grownBy_putObj' _ D (.deferred none)) (fun r e => by cases e; exact ⟨_, hK', rfl⟩)
        have hc6 := cell_kept (box_cell X5 1 (v := .int .i64 z) (by simp)) (grownBy_putObj' _ D (.deferred none)) (fun r e => by cases e; exact ⟨_, hK', rfl⟩)
        have hc7 := cell_kept (box_cell X5 2 (v := .slice a' gs.length c') (by simp)) (grownBy_putObj' _ D (.deferred none)) (fun r e => by cases e; exact ⟨_, hK', rfl⟩)
        have hc8 := cell_kept (box_cell X6 0 (v := .bool true) (by simp)) (grownBy_putObj' _ D (.deferred none)) (fun r e => by cases e; exact ⟨_, hK', rfl⟩)
        refine ⟨.tuple #[.agg #[.int .i64 c, .int .i64 z, .slice a' gs.length c'], .bool true], ?_, some (valsL ls), HJ.out.symm, a', c', gs, rfl, ?_, v5, ?_, p5, ?_⟩
        · simp [results, Tryd.f31, go_sem, hc5, hc6, hc7, hc8]
        · refine ownsRow_putObj ?_ _ hK' rfl
          refine owns_base (base := W.heap.size) ?_ (by have := HBW.out.size; omega)
          refine Touch.owns (Touch.setCell _ ⟨_, _, _⟩ _) (Touch.owns (Touch.setCell _ ⟨_, _, _⟩ _) (Touch.owns (Touch.setCell _ ⟨_, _, _⟩ _) (Touch.owns (Touch.setCell _ ⟨_, _, _⟩ _) o5 ?_) ?_) ?_) ?_ <;> (simp only []; omega)
        · intro f hf
          refine ownsRow_putObj ?_ _ hK' rfl
          refine owns_base (base := W.heap.size) ?_ (by have := HBW.out.size; omega)
          refine Touch.owns (Touch.setCell _ ⟨_, _, _⟩ _) (Touch.owns (Touch.setCell _ ⟨_, _, _⟩ _) (Touch.owns (Touch.setCell _ ⟨_, _, _⟩ _) (Touch.owns (Touch.setCell _ ⟨_, _, _⟩ _) (r5 f hf) ?_) ?_) ?_) ?_ <;> (simp only []; omega)
        · have b9 := u_catn HBW.out (Nat.le_refl _) b5
          exact (u_set (u_set (u_set (u_set b9 (by omega) _ _) (by omega) _ _) (by omega) _ _) (by omega) _ _).trans (belowK_b (w := w) (Nat.le_refl _) _ D _ _ (by omega) hK' rfl rfl)
      case stop =>
        rintro D cd pre W hD hSp ⟨rfl, hf, hR, hO, hB⟩ hK
        have HJ := hid (show joinV (valsE es) (valsE fs) = none from join_prefix (p := pre.map (fun k => valL ls2[k.val])) (by
          have h1 : pre.map (fun k => valL ls2[k.val]) <+: (List.finRange ls2.length).map (fun k => valL ls2[k.val]) := by
            obtain ⟨t, ht⟩ := hSp
            exact ⟨t.map (fun k => valL ls2[k.val]), by rw [← List.map_append, ht]⟩
          rw [map_fin valL ls2, show ls2.map valL = valsE fs from HV2E.out] at h1
          exact h1) hf)
        gi_wp2
        refine ⟨by simp, .inl ⟨_, _, rfl, run_takeDeferred hK, ?_⟩⟩
        have hc5 := cell_kept (box_cell hR 0 (v := .int .i64 0) rfl) (grownBy_putObj' _ D (.deferred none)) (fun r e => by cases e; exact ⟨_, hK, rfl⟩)
        have hc6 := cell_kept (box_cell hR 1 (v := .int .i64 0) rfl) (grownBy_putObj' _ D (.deferred none)) (fun r e => by cases e; exact ⟨_, hK, rfl⟩)
        have hc7 := cell_kept (box_cell hR 2 (v := .slice none 0 0) rfl) (grownBy_putObj' _ D (.deferred none)) (fun r e => by cases e; exact ⟨_, hK, rfl⟩)
        have hc8 := cell_kept (box_cell hO 0 (v := .bool false) rfl) (grownBy_putObj' _ D (.deferred none)) (fun r e => by cases e; exact ⟨_, hK, rfl⟩)
        refine ⟨.tuple #[.agg #[.int .i64 0, .int .i64 0, .slice none 0 0], .bool false], ?_, none, HJ.out.symm, none, 0, [], rfl, ⟨rfl, .inl ⟨rfl, rfl⟩⟩, rfl, fun f hf => by simp at hf, List.Pairwise.nil, hB.trans (belowK_b (w := w) (Nat.le_refl _) W D _ _ (by omega) hK rfl rfl)⟩
        simp [results, Tryd.f31, go_sem, hc5, hc6, hc7, hc8]
    · exact absurd HP'.out hn
  · exact absurd HP.out hn
end Go.Proofs.YtpdaobiaekamoaaDoor
