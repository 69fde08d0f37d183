/- Equations marked and held, as the laws do it. Solvers marked and held, as the laws do it; what is kept. -/
import Derived.Test.YtbakicgdloakgaaGreatDoorG6
import Derived.Test.YtbakicgdloakgaaGreatDoorG16
import Derived.Test.YtbakicgdloakgaaGreatDoorG1
namespace Go.Proofs.YtbakicgdloakgaaGreatDoor
open Go.ChangeShapes Go.WideShapes Go.ChangeAt Go.RowKit Go.Sort Go.Shelf

/-- How many marks there are. -/
def cntE : List EqV → Nat
  | [] => 0
  | f :: fs => f.r.length + 1 + cntE fs
def mkF (k : Nat) (f : EqV) : EqV := ⟨f.a, f.c, marks k f.r.length, mtext (k + f.r.length)⟩
def mkE : Nat → List EqV → List EqV
  | _, [] => []
  | k, f :: fs => mkF k f :: mkE (k + f.r.length + 1) fs
def rowV (f : EqV) : Value := .slice f.a f.r.length f.c
theorem mkF_row (k : Nat) (f : EqV) : rowV (mkF k f) = rowV f := by unfold rowV mkF; rw [marks_len]
theorem mkE_len (fs : List EqV) : ∀ k, (mkE k fs).length = fs.length := by
  induction fs with
  | nil => intro k; rfl
  | cons f fs ih => intro k; show (mkE _ fs).length + 1 = fs.length + 1; rw [ih]
theorem mkE_rows (fs : List EqV) : ∀ k, (mkE k fs).map rowV = fs.map rowV := by
  induction fs with
  | nil => intro k; rfl
  | cons f fs ih => intro k; show rowV (mkF k f) :: (mkE _ fs).map rowV = rowV f :: fs.map rowV; rw [ih, mkF_row]
theorem cntE_snoc (fs : List EqV) (f : EqV) : cntE (fs ++ [f]) = cntE fs + f.r.length + 1 := by
  induction fs with
  | nil => simp [cntE]
  | cons g fs ih => show g.r.length + 1 + cntE (fs ++ [f]) = g.r.length + 1 + cntE fs + f.r.length + 1; rw [ih]; omega
theorem mkE_snoc (fs : List EqV) (f : EqV) : ∀ k, mkE k (fs ++ [f]) = mkE k fs ++ [mkF (k + cntE fs) f] := by
  induction fs with
  | nil => intro k; rfl
  | cons g fs ih =>
    intro k
    show mkF k g :: mkE _ (fs ++ [f]) = mkF k g :: (mkE _ fs ++ [mkF (k + (g.r.length + 1 + cntE fs)) f])
    rw [ih, show k + (g.r.length + 1 + cntE fs) = k + g.r.length + 1 + cntE fs by omega]
theorem cntE_le {fs : List EqV} (h : ∀ f ∈ fs, f.r.length ≤ 1048576) : cntE fs ≤ fs.length * 1048577 := by
  induction fs with
  | nil => simp [cntE]
  | cons f fs ih =>
    have h1 := h f (List.mem_cons_self ..)
    have h2 := ih (fun g hg => h g (List.mem_cons_of_mem _ hg))
    show f.r.length + 1 + cntE fs ≤ (fs.length + 1) * 1048577
    omega
theorem cntE_take {fs : List EqV} : ∀ (i : Nat), cntE (fs.take i) ≤ cntE fs := by
  induction fs with
  | nil => intro i; simp
  | cons f fs ih =>
    intro i
    cases i with
    | zero => simp [cntE]
    | succ i => show f.r.length + 1 + cntE (fs.take i) ≤ f.r.length + 1 + cntE fs; have := ih i; omega
theorem rowsAp_iff {fs : List EqV} : RowsAp fs ↔ (fs.map rowV).Pairwise (fun x y => ∀ k, x.ownBlock = some k → y.ownBlock ≠ some k) := by
  unfold RowsAp
  rw [List.pairwise_map]
  rfl
theorem eqCells_setd (es : List EqV) (k : Nat) (hk : k < es.length) (e : EqV) (h : rowV e = rowV es[k]) : (eqCells es).set (k * 2 + 1) (.string e.d) = eqCells (es.set k e) := by
  rw [← eqCells_set es k e hk]
  congr 1
  have h1 := eqCells_at es k es[k] (List.getElem?_eq_getElem hk) 0 (by omega)
  rw [Nat.add_zero] at h1
  have h2 : (.slice e.a e.r.length e.c : Value) = .slice es[k].a es[k].r.length es[k].c := h
  apply List.ext_getElem?
  intro i
  by_cases hi : k * 2 = i
  · subst hi
    rw [List.getElem?_set_self (by rw [eqCells_len]; omega), h1, h2]
    rfl
  · rw [List.getElem?_set_ne hi]
theorem own_block {w : World} {base g s n m c : Nat} {e : TypeId} {xs : List Value} (h : w.ownsRow base e s (.slice (some ⟨g, 0, none⟩) m c) n xs) : ∃ cs, w.heap[g]? = some (.cells cs e (0, 0)) := by
  rcases h.2 with ⟨hv, -⟩ | ⟨g', cap', cur, hv, -, hh, -⟩
  · cases hv
  · simp only [Value.slice.injEq, Option.some.injEq, Addr.mk.injEq] at hv
    obtain ⟨⟨rfl, -⟩, -⟩ := hv
    exact ⟨_, hh⟩
theorem own_set_k {w : World} {base g s n : Nat} {e t : TypeId} {v : Value} {xs : List Value} {cs : Array Value} {i : Nat} {u : Value} (hg : w.heap[g]? = some (.cells cs t (0, 0))) (h : w.ownsRow base e s v n xs) (he : e ≠ t) : (w.setCell ⟨g, i, none⟩ u).ownsRow base e s v n xs := by
  refine u_owns h (fun k hk => Below.heap_setCell _ _ _ _ (fun e2 => ?_))
  rcases h.2 with ⟨hv, -⟩ | ⟨g', cap', cur, hv, -, hh, -⟩
  · rw [hv] at hk; cases hk
  · rw [hv] at hk
    cases hk
    have e3 : g' = g := e2
    rw [e3, hg] at hh
    cases hh
    exact he rfl
/-- What is left as it was where equations are marked: all but their blocks. -/
def MkKeep (w w' : World) (v : Value) (fs : List EqV) : Prop := ∀ g, g < w.heap.size → v.ownBlock ≠ some g → (∀ f ∈ fs, (rowV f).ownBlock ≠ some g) → w'.heap[g]? = w.heap[g]?
set_option maxRecDepth 100000 in
set_option maxHeartbeats 4000000 in
theorem markEqS_any (base : Nat) (a : Option Addr) (c : Nat) (fs : List EqV) (k : Nat) (w : World) (hown : w.ownsRow base 124 2 (.slice a fs.length c) fs.length (eqCells fs)) (hrow : RowsOwn w base fs) (hap : RowsAp fs) (hlen : fs.length ≤ 1048576) (hsm : ∀ f ∈ fs, f.r.length ≤ 1048576) (hb : base ≤ w.heap.size) (k0 : 0 < k) (k1 : k ≤ 100000000000000) :
    Calls Tryz.prog 82 #[.slice a fs.length c, .int .i64 k] w fun e w' => e = .returned (.int .i64 ((k + cntE fs : Nat) : Int)) ∧ w'.ownsRow base 124 2 (.slice a fs.length c) fs.length (eqCells (mkE k fs)) ∧ RowsOwn w' base (mkE k fs) ∧ Below base w w' ∧ MkKeep w w' (.slice a fs.length c) fs := by
  have hcl := cntE_le hsm
  have HO := hid hown
  have HR := hid hrow
  have HAP := hid (rowsAp_iff.1 hap)
  have HSM := hid hsm
  clear hown hrow hap hsm
  go_enter Tryz.func82, Tryz.ntmps82
  go_wp2_with fail
  go_loopw [1, 5] (fun q i wr => ∃ j : Nat, j ≤ fs.length ∧ i = .int .i64 j ∧ q = .int .i64 ((k + cntE (fs.take j) : Nat) : Int) ∧ wr.ownsRow base 124 2 (.slice a fs.length c) fs.length (eqCells (mkE k (fs.take j) ++ fs.drop j)) ∧ RowsOwn wr base (mkE k (fs.take j) ++ fs.drop j) ∧ Below base w wr ∧ MkKeep w wr (.slice a fs.length c) fs) (fun _ i _ => fs.length - (intOf i).toNat)
  case atStart => exact ⟨0, Nat.zero_le _, rfl, by simp [cntE], HO.out, HR.out, Below.refl _ _, fun _ _ _ _ => rfl⟩
  case round =>
    obtain ⟨j, hj, rfl, rfl, ho, hr, hbl, hkp⟩ := hrel
    have HO1 := hid ho
    have HR1 := hid hr
    have HB := hid hbl
    have HK := hid hkp
    have hws := hbl.size
    clear ho hr hbl hkp
    by_cases hlt : j < fs.length
    · obtain ⟨f, hf⟩ : ∃ f, fs[j] = f := ⟨_, rfl⟩
      have hmem : f ∈ fs := by rw [← hf]; exact List.getElem_mem hlt
      have hfl := HSM.out f hmem
      have hdj : fs.drop j = f :: fs.drop (j + 1) := by rw [List.drop_eq_getElem_cons hlt, hf]
      have htj : fs.take (j + 1) = fs.take j ++ [f] := by rw [List.take_succ_eq_append_getElem hlt, hf]
      have htl : (mkE k (fs.take j)).length = j := by rw [mkE_len, List.length_take]; omega
      have hget : (mkE k (fs.take j) ++ fs.drop j)[j]? = some f := by rw [List.getElem?_append_right (by omega), htl, Nat.sub_self, hdj]; rfl
      obtain ⟨g, cap', hgv, hgb⟩ := owns_shape HO1.out (by
        intro h
        have h1 := congrArg List.length h
        rw [eqCells_len, List.length_append, htl, List.length_drop] at h1
        simp at h1
        omega)
      simp only [Value.slice.injEq] at hgv
      obtain ⟨rfl, -, rfl⟩ := hgv
      have hct := cntE_take (fs := fs) j
      have hcs : cntE (fs.take (j + 1)) = cntE (fs.take j) + f.r.length + 1 := by rw [htj, cntE_snoc]
      have d0 := HO1.out.cellAt (j * 2) (by omega)
      have d1 := HO1.out.cellAt (j * 2 + 1) (by omega)
      rw [← Nat.add_zero (j * 2), eqCells_at _ j f hget 0 (by omega)] at d0
      simp only [EqV.cells, List.getElem?_cons_zero, Nat.add_zero] at d0
      have hri := HR1.out f (List.mem_of_getElem? hget)
      have KM := hid (markIntS_any base _ f.r.length f.r ((k + cntE (fs.take j) : Nat) : Int) wr hri (by omega) (by omega) (by omega))
      have KT := hid (fun W => markText_any (k + cntE (fs.take j) + f.r.length) W (by omega) (by omega))
      have e1 : (((k + cntE (fs.take j) : Nat) : Int) + (f.r.length : Int)) = ((k + cntE (fs.take j) + f.r.length : Nat) : Int) := by omega
      rw [e1] at KM
      have HAPJ := hid (show (mkE k (fs.take j) ++ fs.drop j).map rowV = fs.map rowV by rw [List.map_append, mkE_rows, ← List.map_append, List.take_append_drop])
      have HGET := hid hget
      have HDJ := hid hdj
      have HTJ := hid htj
      have HCS := hid hcs
      have HTL := hid htl
      have HF := hid hf
      have HRI := hid hri
      have HMEM := hid hmem
      clear hri d1 hget hdj htj htl hcs hf hmem
      go_wp2_with fail
      refine KM.out.mono ?_
      rintro e w2 ⟨rfl, m2, g2⟩
      have O2 := owns_grown HO1.out g2 (owns_kinds HO1.out HRI.out (by decide))
      have B2 := grown_base g2 HRI.out (by have := HO1.out.lt g rfl; omega)
      have HM2 := hid m2
      have HG2 := hid g2
      have HO2 := hid O2
      have HB2 := hid B2
      clear m2 g2 O2 B2 KM
      go_wp2_with fail
      refine (KT.out w2).mono ?_
      rintro e w3 ⟨rfl, b3⟩
      have HO3 := hid (owns_below HO2.out b3)
      have HB3 := hid b3
      have d1 := HO3.out.cellAt (j * 2 + 1) (by omega)
      rw [eqCells_at _ j f HGET.out 1 (by omega)] at d1
      simp only [EqV.cells, List.getElem?_cons_succ, List.getElem?_cons_zero] at d1
      have hfz := HO3.out.frozenAt (j * 2 + 1)
      have hgl := (HO3.out.lt g rfl).2
      have ST := hid (HO3.out.stored (j * 2 + 1) (.string (mtext (k + cntE (fs.take j) + f.r.length))))
      clear b3 KT d0
      go_wp2_with fail
      have hLl : j < (mkE k (fs.take j) ++ fs.drop j).length := by rw [List.length_append, HTL.out, List.length_drop]; omega
      have LE := hid (show (mkE k (fs.take j) ++ fs.drop j).set j (mkF (k + cntE (fs.take j)) f) = mkE k (fs.take (j + 1)) ++ fs.drop (j + 1) by
        rw [List.set_append_right _ _ (by rw [HTL.out]; exact Nat.le_refl _), HTL.out, Nat.sub_self, HDJ.out, List.set_cons_zero, HTJ.out, mkE_snoc, List.append_assoc]
        rfl)
      have hgi : (mkE k (fs.take j) ++ fs.drop j)[j] = f := by
        have h1 := HGET.out
        rw [List.getElem?_eq_getElem hLl] at h1
        exact Option.some.inj h1
      obtain ⟨cs3, hcs3⟩ := own_block HO3.out
      have HC3 := hid hcs3
      have HGI := hid hgi
      clear hcs3 hgi
      go_roundw
      case rel =>
        refine ⟨j + 1, by omega, by go_num, ?_, ?_, ?_, ?_, ?_⟩
        · rw [HCS.out]; go_num
        · have h1 := ST.out.1
          have h2 := eqCells_setd (mkE k (fs.take j) ++ fs.drop j) j hLl (mkF (k + cntE (fs.take j)) f) (by rw [mkF_row, HGI.out])
          rw [LE.out] at h2
          rw [show (mkF (k + cntE (fs.take j)) f).d = mtext (k + cntE (fs.take j) + f.r.length) from rfl] at h2
          rw [h2] at h1
          exact h1
        · intro x hx
          rw [← LE.out] at hx
          obtain ⟨i, hi, hxi⟩ := List.getElem_of_mem hx
          refine own_set_k HC3.out ?_ (by decide)
          refine owns_below ?_ HB3.out
          by_cases hij : j = i
          · subst hij
            rw [List.getElem_set_self] at hxi
            rw [← hxi]
            show w2.ownsRow base 3 1 (.slice f.a (marks _ f.r.length).length f.c) (marks _ f.r.length).length _
            rw [marks_len]
            exact HM2.out
          · rw [List.getElem_set_ne hij] at hxi
            have hi' : i < (mkE k (fs.take j) ++ fs.drop j).length := by simpa using hi
            have hxm : x ∈ mkE k (fs.take j) ++ fs.drop j := by rw [← hxi]; exact List.getElem_mem hi'
            refine owns_grown (HR1.out x hxm) HG2.out (fun q h1 h2 => ?_)
            have hpw := HAP.out
            rw [← HAPJ.out, List.pairwise_map, List.pairwise_iff_getElem] at hpw
            rcases Nat.lt_or_gt_of_ne hij with hlt2 | hlt2
            · have h3 := hpw j i hLl hi' hlt2 q
              rw [HGI.out, hxi] at h3
              exact h3 h2 h1
            · have h3 := hpw i j hi' hLl hlt2 q
              rw [HGI.out, hxi] at h3
              exact h3 h1 h2
        · exact u_set ((HB.out.trans HB2.out).trans (HB3.out.mono (by have := HB2.out.size; omega))) hgb _ _
        · intro q hq h1 h2
          have hqg : q ≠ g := fun e => h1 (by rw [e]; rfl)
          refine set_other (((HB3.out.block q (by have := HB2.out.size; omega)).trans (HG2.out.block q (by omega) (fun e => h2 f HMEM.out e.symm))).trans (HK.out q hq h1 h2)) hqg _ _
      case measure => simp [intOf]; omega
    · obtain rfl : j = fs.length := by omega
      have HO2 := hid (show wr.ownsRow base 124 2 (.slice a fs.length c) fs.length (eqCells (mkE k fs)) by have h := HO1.out; rw [List.take_length, List.drop_length, List.append_nil] at h; exact h)
      have HR2 := hid (show RowsOwn wr base (mkE k fs) by have h := HR1.out; rw [List.take_length, List.drop_length, List.append_nil] at h; exact h)
      go_wp2_with fail
      go_ret
      exact ⟨by rw [List.take_length]; rfl, HO2.out, HR2.out, HB.out, HK.out⟩
set_option maxRecDepth 100000 in
set_option maxHeartbeats 4000000 in
theorem heldEqS_any (a : Option Addr) (c : Nat) (fs : List EqV) (k : Nat) (w : World) (h : EqsAt w a (mkE k fs)) (hlen : fs.length ≤ 1048576) (hsm : ∀ f ∈ fs, f.r.length ≤ 1048576) (k0 : 0 < k) (k1 : k ≤ 100000000000000) :
    Calls Tryz.prog 84 #[.slice a fs.length c, .int .i64 k] w fun e w' => e = .returned (.int .i64 ((k + cntE fs : Nat) : Int)) ∧ Below w.heap.size w w' := by
  have hcl := cntE_le hsm
  have H := hid h
  have HSM := hid hsm
  clear h hsm
  go_enter Tryz.func84, Tryz.ntmps84
  go_wp2_with fail
  go_loopw [1, 5] (fun q i wr => ∃ j : Nat, j ≤ fs.length ∧ i = .int .i64 j ∧ q = .int .i64 ((k + cntE (fs.take j) : Nat) : Int) ∧ Below w.heap.size w wr) (fun _ i _ => fs.length - (intOf i).toNat)
  case atStart => exact ⟨0, Nat.zero_le _, rfl, by simp [cntE], Below.refl _ _⟩
  case round =>
    obtain ⟨j, hj, rfl, rfl, hbl⟩ := hrel
    have HB := hid hbl
    clear hbl
    by_cases hlt : j < fs.length
    · obtain ⟨f, hf⟩ : ∃ f, fs[j] = f := ⟨_, rfl⟩
      have hfl := HSM.out f (by rw [← hf]; exact List.getElem_mem hlt)
      have htj : fs.take (j + 1) = fs.take j ++ [f] := by rw [List.take_succ_eq_append_getElem hlt, hf]
      have hcs : cntE (fs.take (j + 1)) = cntE (fs.take j) + f.r.length + 1 := by rw [htj, cntE_snoc]
      have hct := cntE_take (fs := fs) j
      have hget : (mkE k fs)[j]? = some (mkF (k + cntE (fs.take j)) f) := by
        have h1 : mkE k fs = mkE k (fs.take j) ++ mkE (k + cntE (fs.take j)) (fs.drop j) := by
          have h2 : ∀ (xs ys : List EqV) (m : Nat), mkE m (xs ++ ys) = mkE m xs ++ mkE (m + cntE xs) ys := by
            intro xs
            induction xs with
            | nil => intro ys m; rfl
            | cons x xs ih =>
              intro ys m
              show mkF m x :: mkE _ (xs ++ ys) = mkF m x :: (mkE _ xs ++ mkE (m + (x.r.length + 1 + cntE xs)) ys)
              rw [ih, show m + (x.r.length + 1 + cntE xs) = m + x.r.length + 1 + cntE xs by omega]
          rw [← h2, List.take_append_drop]
        rw [h1, List.getElem?_append_right (by rw [mkE_len, List.length_take]; omega), mkE_len, List.length_take, show j - min j fs.length = 0 by omega, List.drop_eq_getElem_cons hlt, hf]
        rfl
      obtain ⟨b, off, rfl, hc⟩ := (H.out.below HB.out) (by intro h; have := mkE_len fs k; rw [h] at this; simp at this; omega)
      obtain ⟨c0, c1, crow⟩ := hc j _ hget
      simp only [mkF, marks_len] at c0 c1 crow
      have KH := hid (heldIntS_any f.a f.c f.r.length ((k + cntE (fs.take j) : Nat) : Int) wr crow (by omega) (by omega) (by omega))
      have e1 : (((k + cntE (fs.take j) : Nat) : Int) + (f.r.length : Int)) = ((k + cntE (fs.take j) + f.r.length : Nat) : Int) := by omega
      rw [e1] at KH
      have KT := rg (w := wr) (fun W _ => markText_any (k + cntE (fs.take j) + f.r.length) W (by omega) (by omega))
      simp only [Int.natCast_add] at KT
      have KT := hid KT
      have HCS := hid hcs
      have hnn : ¬ (((k + cntE (fs.take j) + f.r.length : Nat) : Int) < 0) := by omega
      have y0 := cell_regrown c1
      clear hc crow hget htj hcs hf e1 c1
      go_wp2_with fail
      refine KH.out.mono ?_
      rintro e w2 ⟨rfl, e2⟩
      rw [e2]
      clear e2 w2 KH c0
      go_wp2_with fail
      refine wp_region_quiet_below (by kernel_rfl) (by kernel_rfl) ?_
      repeat (first | go_big_quiet_step ((go_at_call 37; with_reducible exact KT.out _ _)) | quiet_step ((go_at_call 37; with_reducible exact KT.out _ _)))
      refine wpQuiet_nil ?_
      intro V hw'
      have hbq := (by obtain ⟨p, hp⟩ := hw'; rw [hp]; exact below_regrown _ _ _ : Below wr.heap.size wr V)
      clear hw' y0 KT
      go_wp2_with fail
      go_roundw
      case rel => exact ⟨j + 1, by omega, by go_num, by rw [HCS.out]; go_num, u_cat HB.out hbq⟩
      case measure => simp [intOf]; omega
    · obtain rfl : j = fs.length := by omega
      go_wp2_with fail
      go_ret
      exact ⟨by rw [List.take_length]; rfl, HB.out⟩
end Go.Proofs.YtbakicgdloakgaaGreatDoor
namespace Go.Proofs.YtbakicgdloakgaaGreatDoor
open Go.ChangeShapes Go.WideShapes Go.ChangeAt Go.RowKit Go.Sort Go.Shelf

/-- Outside of some blocks all is as it was. -/
def KeepOut (w w' : World) (lo hi : Nat) : Prop := ∀ g, g < w.heap.size → (g < lo ∨ hi ≤ g) → w'.heap[g]? = w.heap[g]?
theorem KeepOut.blk {w w' : World} {lo hi k : Nat} {o : Obj} (h : KeepOut w w' lo hi) (X : w.heap[k]? = some o) (hk : k < lo ∨ hi ≤ k) : w'.heap[k]? = some o := (h k (lt_of_block X) hk).trans X
theorem KeepOut.owns {w w' : World} {lo hi base s n : Nat} {e : TypeId} {v : Value} {xs : List Value} (h : KeepOut w w' lo hi) (ho : w.ownsRow base e s v n xs) (hk : ∀ k, v.ownBlock = some k → k < lo ∨ hi ≤ k) : w'.ownsRow base e s v n xs :=
  u_owns ho (fun k e => h k (ho.lt k e).2 (hk k e))
theorem KeepOut.rows {w w' : World} {lo hi base : Nat} {fs : List EqV} (h : KeepOut w w' lo hi) (ho : RowsOwn w base fs) (hk : ∀ f ∈ fs, ∀ k, (rowV f).ownBlock = some k → k < lo ∨ hi ≤ k) : RowsOwn w' base fs := fun f hf => h.owns (ho f hf) (hk f hf)

set_option maxRecDepth 100000 in
set_option maxHeartbeats 2000000 in
theorem markSolver_any (base : Nat) (cc zz : Int) (a : Option Addr) (c : Nat) (fs : List EqV) (k : Nat) (w : World) (hown : w.ownsRow base 124 2 (.slice a fs.length c) fs.length (eqCells fs)) (hrow : RowsOwn w base fs) (hap : RowsAp fs) (hlen : fs.length ≤ 1048576) (hsm : ∀ f ∈ fs, f.r.length ≤ 1048576) (hb : base ≤ w.heap.size) (k0 : 0 < k) (k1 : k ≤ 100000000000000) :
    Calls Tryz.prog 62 #[.agg #[.int .i64 cc, .int .i64 zz, .slice a fs.length c], .int .i64 k] w fun e w' => e = .returned (.int .i64 ((k + cntE fs : Nat) : Int)) ∧ w'.ownsRow base 124 2 (.slice a fs.length c) fs.length (eqCells (mkE k fs)) ∧ RowsOwn w' base (mkE k fs) ∧ Below base w w' ∧ MkKeep w w' (.slice a fs.length c) fs := by
  have K := hid (fun W (bW : Below w.heap.size w W) => markEqS_any base a c fs k W (owns_below hown bW) (hrow.below bW) hap hlen hsm (Nat.le_trans hb bW.size) k0 k1)
  clear hown hrow hap hsm
  go_enter Tryz.func62, Tryz.ntmps62
  go_wp2_with fail
  refine (K.out _ (u_b1 _ _)).mono ?_
  rintro e w2 ⟨rfl, o2, r2, b2, k2⟩
  have O2 := hid o2
  have R2 := hid r2
  have B2 := hid (((u_b1 w (.cells #[.int .i64 cc, .int .i64 zz, .slice a fs.length c] 36)).mono hb).trans b2)
  have K2 := hid (show MkKeep w w2 (.slice a fs.length c) fs from fun g hg h1 h2 => (k2 g (by simp; omega) h1 h2).trans (Below.heap_alloc _ _ _ hg))
  clear o2 r2 b2 k2 K
  go_wp2_with fail
  go_ret
  exact ⟨rfl, O2.out, R2.out, B2.out, K2.out⟩

set_option maxRecDepth 100000 in
set_option maxHeartbeats 2000000 in
theorem heldSolver_any (cc zz : Int) (a : Option Addr) (c : Nat) (fs : List EqV) (k : Nat) (w : World) (h : EqsAt w a (mkE k fs)) (hlen : fs.length ≤ 1048576) (hsm : ∀ f ∈ fs, f.r.length ≤ 1048576) (k0 : 0 < k) (k1 : k ≤ 100000000000000) :
    Calls Tryz.prog 64 #[.agg #[.int .i64 cc, .int .i64 zz, .slice a fs.length c], .int .i64 k] w fun e w' => e = .returned (.int .i64 ((k + cntE fs : Nat) : Int)) ∧ Below w.heap.size w w' := by
  have K := hid (fun W (bW : Below w.heap.size w W) => heldEqS_any a c fs k W (h.below bW) hlen hsm k0 k1)
  have hcl := cntE_le hsm
  clear h hsm
  go_enter Tryz.func64, Tryz.ntmps64
  go_wp2_with fail
  refine (K.out _ (u_b1 _ _)).mono ?_
  rintro e w2 ⟨rfl, b2⟩
  have B2 := hid (u_cat (u_b1 _ _) b2)
  have hnn : ¬ (((k + cntE fs : Nat) : Int) < 0) := by omega
  clear b2 K
  go_wp2_with fail
  go_ret
  exact ⟨rfl, B2.out⟩
end Go.Proofs.YtbakicgdloakgaaGreatDoor
