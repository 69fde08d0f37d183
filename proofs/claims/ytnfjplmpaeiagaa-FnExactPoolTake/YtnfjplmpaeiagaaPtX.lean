/- A frame taken by the model. -/
import Derived.Test.YtnfjplmpaeiagaaPtW
import Derived.Test.YtnfjplmpaeiagaaPlM
namespace Go.Proofs.Ytnfjplmpaeiagaa
open Go.ChangeShapes Go.WideShapes Go.ChangeAt Go.RowKit Go.Sort Go.Shelf
attribute [local go_sem] Oper.semAt_some

theorem scan_lt {full : Bool} {house : Int} {n p : Nat} {fs gs : List Fr} {o : Option Nat} (h : scan full house n p fs = (gs, o)) : gs.length = fs.length ∧ ∀ v, o = some v → v < 8 := by
  rw [scan_way] at h
  have h1 := congrArg Prod.fst h
  have h2 := congrArg Prod.snd h
  simp only at h1 h2
  refine ⟨by rw [← h1, scanL_len], fun v hv => ?_⟩
  rw [hv] at h2
  obtain ⟨x, -, rfl⟩ := Option.map_eq_some_iff.1 h2
  exact x.isLt
/-- Where nothing is found nothing was turned. -/
theorem scan_stays {full : Bool} {house : Int} {p : Nat} {fs gs : List Fr} (h8 : fs.length = 8) (h : scan full house 17 p fs = (gs, none)) : gs = fs := by
  have h1 := scan_full p fs h8 (by rw [h])
  rw [scan_none 17 p fs h8 h1] at h
  exact (congrArg Prod.fst h).symm
theorem fndI_some {fs : List Fr} {e b : Int} {k : Nat} (h : fnd fs e b = some k) : fndI fs e b = k := by unfold fndI; rw [h]
theorem fndI_none {fs : List Fr} {e b : Int} (h : fnd fs e b = none) : fndI fs e b = -1 := by unfold fndI; rw [h]
theorem fnd_lt {fs : List Fr} {e b : Int} {k : Nat} (h : fnd fs e b = some k) : k < fs.length := by
  unfold fnd at h
  rw [List.findIdx?_eq_some_iff_getElem] at h
  exact h.1

set_option maxHeartbeats 8000000 in
theorem l10Take_in (b off cap : Nat) (fs : List Fr) (m : Nat) (h e bl : Int) (w : World) (hc : ∀ k f, fs[k]? = some f → FrC w b (off + k * 5) f) (h8 : fs.length = 8) (hm : m < 8) (hnn : ∀ f ∈ fs, 0 ≤ f.e) (hd : ∀ f ∈ fs, 0 ≤ f.d ∧ f.d ≤ 99999) (hof : frOf fs h ≤ 5) (r : List Fr × Nat × Nat × Int) (hr : r = takeR m fs ⟨h, e, bl, 0, false⟩) (hr8 : r.1.length = 8) :
    Calls Try.prog 31 #[.agg #[.slice (some ⟨b, off, none⟩) 8 cap, .int .i64 m], .int .i64 h, .int .i64 e, .int .i64 bl] w fun x w' => ∃ v, x = .returned (.tuple #[v, .int .i64 r.2.2.1, .int .i64 r.2.2.2]) ∧ PoolO w w' r.1 r.2.1 v := by
  have HC := hid hc
  have H8 := hid h8
  have HN := hid hnn
  have HD := hid hd
  have HR0 := hid hr
  have HR8 := hid hr8
  clear hc h8 hnn hd hr hr8
  go_enter Try.func31, Try.ntmps31
  go_wp2_with fail
  obtain ⟨W1, hW1⟩ : ∃ W1, W1 = (w.alloc (.cells #[.slice (some ⟨b, off, none⟩) 8 cap, .int .i64 m] 29)).alloc (.cells #[.slice none 0 0, .int .i64 0] 29) := ⟨_, rfl⟩
  obtain ⟨P1, R1, B1⟩ := u_box2 (w := w) (c := #[.slice (some ⟨b, off, none⟩) 8 cap, .int .i64 m]) (t := 29) (d := #[.slice none 0 0, .int .i64 0]) (s := 29) (w1 := W1) (by rw [hW1]; exact Below.refl _ _)
  have hz1 : W1.heap.size = w.heap.size + 2 := by rw [hW1]; simp
  rw [← hW1]
  clear hW1
  refine (l10Copy_in b off cap fs m _ (fun k f hk => (HC.out k f hk).below B1 (block_lt_of_cell (HC.out k f hk).c0)) H8.out).mono ?_
  rintro x w2 ⟨q, d, rfl, o2, b2⟩
  have b2' := u_cat b2 (u_b1 w2 (.cells #[.slice (some ⟨q, 0, none⟩) 8 d, .int .i64 m] 29))
  have hq := o2.lt q rfl
  have hs2 := b2.size
  obtain ⟨W, hW⟩ : ∃ W, W = w2.alloc (.cells #[.slice (some ⟨q, 0, none⟩) 8 d, .int .i64 m] 29) := ⟨_, rfl⟩
  have HX := hid (show W.heap[w2.heap.size]? = some (.cells #[.slice (some ⟨q, 0, none⟩) 8 d, .int .i64 m] 29 (0, 0)) by rw [hW]; exact laid _ _ _)
  have HP := hid (show W.heap[w.heap.size]? = some (.cells #[.slice (some ⟨b, off, none⟩) 8 cap, .int .i64 m] 29 (0, 0)) by rw [hW]; exact kept P1 b2')
  have HR := hid (show W.heap[w.heap.size + 1]? = some (.cells #[.slice none 0 0, .int .i64 0] 29 (0, 0)) by rw [hW]; exact kept R1 b2')
  have HO := hid (show W.ownsRow (w.heap.size + 2) 45 5 (.slice (some ⟨q, 0, none⟩) 8 d) 8 (frCells fs) by rw [hW, ← hz1]; exact o2.alloc _)
  have HB := hid (show Below w.heap.size w W by rw [hW]; exact u_catn B1 (Nat.le_refl _) b2')
  have hsW : W.heap.size = w2.heap.size + 1 := by rw [hW]; simp
  have HSW := hid hsW
  rw [hz1] at hq hs2
  have p0 := box_cell HX.out 0 (v := .slice (some ⟨q, 0, none⟩) 8 d) rfl
  have p1 := box_cell HX.out 1 (v := .int .i64 m) rfl
  clear b2 b2' o2 P1 R1 B1 hsW hz1 W1
  go_wp2_with fail
  rw [← hW]
  clear hW
  have K := l10Find_any (some ⟨q, 0, none⟩) d fs m e bl W (frs_at HO.out) (by rw [H8.out]; omega)
  rw [H8.out] at K
  refine K.mono ?_
  rintro x w3 ⟨rfl, b3⟩
  clear K
  replace HX := hid (kept HX.out b3)
  replace HP := hid (kept HP.out b3)
  replace HR := hid (kept HR.out b3)
  replace HO := hid (owns_below HO.out b3)
  replace HB := hid (u_cat HB.out b3)
  have hs3 := b3.size
  rw [HSW.out] at hs3
  clear b3 p0 p1 HSW W
  have p0 := box_cell HX.out 0 (v := .slice (some ⟨q, 0, none⟩) 8 d) rfl
  have p1 := box_cell HX.out 1 (v := .int .i64 m) rfl
  have y0 := box_cell HP.out 0 (v := .slice (some ⟨b, off, none⟩) 8 cap) rfl
  have y1 := box_cell HP.out 1 (v := .int .i64 m) rfl
  have hsz := HB.out.size
  cases hf : fnd fs e bl with
  | some k =>
    have hk8 : k < 8 := by have := fnd_lt hf; rw [H8.out] at this; exact this
    obtain ⟨f, hfk, c0, c1, c2, c3, c4⟩ := frs_cells HO.out k hk8
    have hfz := HO.out.frozenAt
    have hfd := HD.out f (List.mem_of_getElem? hfk)
    have HF := hid hfk
    have EF := hid (fndI_some hf)
    have GD := hid (show fs.getD k Fr.no = f by simp [List.getD, hfk])
    rw [EF.out]
    by_cases hbad : f.h = h ∧ f.d ≠ 99999
    · obtain ⟨hg1, hg2⟩ := hbad
      have ER := hid (show r = (fs.set k ⟨f.h, f.e, f.b, f.d + 1, true⟩, m, k, 0) by rw [HR0.out]; unfold takeR; rw [hf]; simp only [GD.out]; rw [if_pos ⟨hg1, hg2⟩])
      have g1 : decide (99999 ≤ f.d) = false := decide_eq_false (by omega)
      have g2 : (f.h == h) = true := by simpa using hg1
      have g3 : (f.h != h) = false := by simp [bne, g2]
      clear hf hfk hg1 hg2 EF GD
      go_wp2_with fail
      go_region
      obtain ⟨Wn, hWn⟩ : ∃ Wn, Wn = (w3.setCell ⟨q, k * 5 + 3, none⟩ (.int .i64 (f.d + 1))).drew := ⟨_, rfl⟩
      have bn : Below (w.heap.size + 2) w3 Wn := by rw [hWn]; exact u_drew (u_set (Below.refl _ _) hq.1 _ _)
      replace HO := hid (show Wn.ownsRow (w.heap.size + 2) 45 5 (.slice (some ⟨q, 0, none⟩) 8 d) 8 (frCells (fs.set k ⟨f.h, f.e, f.b, f.d + 1, f.u⟩)) by
        have h := (HO.out.stored (k * 5 + 3) (.int .i64 (f.d + 1))).1
        rw [frCells_set3 fs k f HF.out] at h
        rw [hWn]
        exact u_owns h (fun k hk => rfl))
      replace HX := hid (show Wn.heap[w2.heap.size]? = some (.cells #[.slice (some ⟨q, 0, none⟩) 8 d, .int .i64 m] 29 (0, 0)) by rw [hWn]; exact set_other HX.out (by omega) _ _)
      replace HR := hid ((bn.block _ (by omega)).trans HR.out)
      replace HB := hid (HB.out.trans (bn.mono (by omega)))
      rw [← hWn]
      clear hWn bn p0 p1 y0 y1 c0 c1 c2 c3 c4 hfz
      have p0 := box_cell HX.out 0 (v := .slice (some ⟨q, 0, none⟩) 8 d) rfl
      have hfz := HO.out.frozenAt
      have c4 := HO.out.cellAt (k * 5 + 4) (by omega)
      rw [frCells_at _ k ⟨f.h, f.e, f.b, f.d + 1, f.u⟩ (by rw [List.getElem?_set_self (by rw [H8.out]; exact hk8)]) 4 (by omega)] at c4
      simp only [Fr.cells, List.getElem?_cons_succ, List.getElem?_cons_zero] at c4
      have ne1 : ¬ w2.heap.size = q := by omega
      have ne2 : ¬ w.heap.size + 1 = q := by omega
      have ne3 : ¬ w2.heap.size = w.heap.size + 1 := by omega
      obtain ⟨Wm, hWm⟩ : ∃ Wm, Wm = Wn.setCell ⟨q, k * 5 + 4, none⟩ (.bool true) := ⟨_, rfl⟩
      have HL := hid (show k < fs.length by rw [H8.out]; exact hk8)
      replace HO := hid (show Wm.ownsRow (w.heap.size + 2) 45 5 (.slice (some ⟨q, 0, none⟩) 8 d) 8 (frCells (fs.set k ⟨f.h, f.e, f.b, f.d + 1, true⟩)) by
        have h := (HO.out.stored (k * 5 + 4) (.bool true)).1
        rw [frCells_set4 _ k ⟨f.h, f.e, f.b, f.d + 1, f.u⟩ (by rw [List.getElem?_set_self HL.out]), List.set_set] at h
        rw [hWm]
        exact h)
      replace HX := hid (show Wm.heap[w2.heap.size]? = some (.cells #[.slice (some ⟨q, 0, none⟩) 8 d, .int .i64 m] 29 (0, 0)) by rw [hWm]; exact set_other HX.out ne1 _ _)
      replace HR := hid (show Wm.heap[w.heap.size + 1]? = some (.cells #[.slice none 0 0, .int .i64 0] 29 (0, 0)) by rw [hWm]; exact set_other HR.out ne2 _ _)
      replace HB := hid (show Below w.heap.size w Wm by rw [hWm]; exact u_set HB.out (by omega) _ _)
      have P0 := box_cell HX.out 0 (v := .slice (some ⟨q, 0, none⟩) 8 d) rfl
      have P1 := box_cell HX.out 1 (v := .int .i64 m) rfl
      have r0 := box_cell HR.out 0 (v := .slice none 0 0) rfl
      have r1 := box_cell HR.out 1 (v := .int .i64 0) rfl
      have z0 := box_frozen HR.out
      have X5 := hid (set_block (set_block HR.out 0 (.slice (some ⟨q, 0, none⟩) 8 d)) 1 (.int .i64 m))
      have x0 := box_cell X5.out 0 (v := .slice (some ⟨q, 0, none⟩) 8 d) rfl
      have x1 := box_cell X5.out 1 (v := .int .i64 m) rfl
      rw [hWm] at P0 P1 r0 r1 z0 x0 x1
      go_wp2_with fail
      rw [← hWm]
      have HRL := hid (show (fs.set k ⟨f.h, f.e, f.b, f.d + 1, true⟩).length = 8 by rw [List.length_set]; exact H8.out)
      rw [← hWm] at x0 x1
      clear hWm
      rw [ER.out]
      refine bodyPost_ret (v := .tuple #[.agg #[.slice (some ⟨q, 0, none⟩) 8 d, .int .i64 m], .int .i64 k, .int .i64 0]) ?_ rfl ⟨_, rfl, some ⟨q, 0, none⟩, d, by simp only [HRL.out], ?_, ?_⟩
      · simp [results, Try.results31, go_sem, x0, x1]
      · rw [HRL.out]
        refine owns_base (base := w.heap.size + 2) ?_ (by omega)
        refine Touch.owns (Touch.setCell _ _ _) (Touch.owns (Touch.setCell _ _ _) HO.out ?_) ?_ <;> (simp only []; omega)
      · refine u_set (u_set HB.out ?_ _ _) ?_ _ _ <;> omega
    · have ER := hid (show r = (fs, m, 0, 3) by rw [HR0.out]; unfold takeR; rw [hf]; simp only [GD.out]; rw [if_neg hbad])
      by_cases hg : 99999 ≤ f.d
      · have g1 : decide (99999 ≤ f.d) = true := decide_eq_true hg
        clear hf hfk EF GD hbad hg
        go_wp2_with fail
        refine (l10Copy_in b off cap fs m _ (fun k f hk => (HC.out k f hk).below HB.out (block_lt_of_cell (HC.out k f hk).c0)) H8.out).mono ?_
        rintro x w4 ⟨q', d', rfl, o4, b4⟩
        have hsw3 := lt_of_block HR.out
        have hq4 := (o4.lt q' rfl).1
        replace HR := hid (kept HR.out b4)
        replace HB := hid (u_cat HB.out b4)
        have HO4 := hid o4
        clear o4 b4 p0 p1 y0 y1
        have r0 := box_cell HR.out 0 (v := .slice none 0 0) rfl
        have r1 := box_cell HR.out 1 (v := .int .i64 0) rfl
        have z0 := box_frozen HR.out
        have X5 := hid (set_block (set_block HR.out 0 (.slice (some ⟨q', 0, none⟩) 8 d')) 1 (.int .i64 m))
        have x0 := box_cell X5.out 0 (v := .slice (some ⟨q', 0, none⟩) 8 d') rfl
        have x1 := box_cell X5.out 1 (v := .int .i64 m) rfl
        go_wp2_with fail
        have HRL := hid H8.out
        rw [ER.out]
        refine bodyPost_ret (v := .tuple #[.agg #[.slice (some ⟨q', 0, none⟩) 8 d', .int .i64 m], .int .i64 0, .int .i64 3]) ?_ rfl ⟨_, rfl, some ⟨q', 0, none⟩, d', by simp only [HRL.out], ?_, ?_⟩
        · simp [results, Try.results31, go_sem, x0, x1]
        · rw [HRL.out]
          refine owns_base (base := w3.heap.size) ?_ (by omega)
          refine Touch.owns (Touch.setCell _ _ _) (Touch.owns (Touch.setCell _ _ _) HO4.out ?_) ?_ <;> (simp only []; omega)
        · refine u_set (u_set HB.out ?_ _ _) ?_ _ _ <;> omega
      · have g1 : decide (99999 ≤ f.d) = false := decide_eq_false hg
        have g2 : (f.h == h) = false := by
          have : ¬ f.h = h := fun h1 => hbad ⟨h1, by omega⟩
          simpa using this
        have g3 : (f.h != h) = true := by simp [bne, g2]
        clear hf hfk EF GD hbad hg
        go_wp2_with fail
        refine (l10Copy_in b off cap fs m _ (fun k f hk => (HC.out k f hk).below HB.out (block_lt_of_cell (HC.out k f hk).c0)) H8.out).mono ?_
        rintro x w4 ⟨q', d', rfl, o4, b4⟩
        have hsw3 := lt_of_block HR.out
        have hq4 := (o4.lt q' rfl).1
        replace HR := hid (kept HR.out b4)
        replace HB := hid (u_cat HB.out b4)
        have HO4 := hid o4
        clear o4 b4 p0 p1 y0 y1
        have r0 := box_cell HR.out 0 (v := .slice none 0 0) rfl
        have r1 := box_cell HR.out 1 (v := .int .i64 0) rfl
        have z0 := box_frozen HR.out
        have X5 := hid (set_block (set_block HR.out 0 (.slice (some ⟨q', 0, none⟩) 8 d')) 1 (.int .i64 m))
        have x0 := box_cell X5.out 0 (v := .slice (some ⟨q', 0, none⟩) 8 d') rfl
        have x1 := box_cell X5.out 1 (v := .int .i64 m) rfl
        go_wp2_with fail
        have HRL := hid H8.out
        rw [ER.out]
        refine bodyPost_ret (v := .tuple #[.agg #[.slice (some ⟨q', 0, none⟩) 8 d', .int .i64 m], .int .i64 0, .int .i64 3]) ?_ rfl ⟨_, rfl, some ⟨q', 0, none⟩, d', by simp only [HRL.out], ?_, ?_⟩
        · simp [results, Try.results31, go_sem, x0, x1]
        · rw [HRL.out]
          refine owns_base (base := w3.heap.size) ?_ (by omega)
          refine Touch.owns (Touch.setCell _ _ _) (Touch.owns (Touch.setCell _ _ _) HO4.out ?_) ?_ <;> (simp only []; omega)
        · refine u_set (u_set HB.out ?_ _ _) ?_ _ _ <;> omega
  | none =>
    have EF := hid (fndI_none hf)
    rw [EF.out]
    have HF := hid hf
    clear hf EF
    go_wp2_with fail
    have V := l10Victim_in (w.heap.size + 2) q d m fs h (decide (5 ≤ frOf fs h)) w3 HO.out (frs_at HO.out) H8.out hm HN.out rfl
    refine V.mono ?_
    clear V
    rintro x w4 ⟨gs, o, hsc, rfl, o4, b4⟩
    have hsc' : scan (decide (frOf fs h = 5)) h 17 m fs = (gs, o) := by rw [← hsc]; congr 1; apply decide_eq_decide.2; omega
    have HS := hid hsc'
    have sl := scan_lt hsc
    have S8 := hid (show gs.length = 8 by rw [sl.1]; exact H8.out)
    replace HP := hid ((b4.block _ (by omega)).trans HP.out)
    replace HR := hid ((b4.block _ (by omega)).trans HR.out)
    replace HB := hid (HB.out.trans (b4.mono (by omega)))
    replace HO := hid o4
    have hs4 := b4.size
    clear HX p0 p1 y0 y1 hsc hsc' b4 o4
    cases o with
    | none =>
      have ST := hid (scan_stays H8.out HS.out)
      have ER := hid (show r = (fs, m, 0, 2) by rw [HR0.out]; unfold takeR; simp only [HF.out, HS.out]; rw [ST.out])
      clear sl
      simp only []
      obtain ⟨n, hn⟩ : ∃ n : Nat, n = (m + 17) % 8 := ⟨_, rfl⟩
      rw [← hn]
      clear hn
      obtain ⟨w5, hw5⟩ : ∃ w5, w5 = w4.alloc (.cells #[.slice (some ⟨q, 0, none⟩) 8 d, .int .i64 n] 29) := ⟨_, rfl⟩
      have bw := u_b1 w4 (.cells #[.slice (some ⟨q, 0, none⟩) 8 d, .int .i64 n] 29)
      rw [← hw5] at bw
      replace HP := hid (kept HP.out bw)
      replace HR := hid (kept HR.out bw)
      replace HB := hid (u_cat HB.out bw)
      have hs5 := bw.size
      have y0 := box_cell HP.out 0 (v := .slice (some ⟨b, off, none⟩) 8 cap) rfl
      have y1 := box_cell HP.out 1 (v := .int .i64 m) rfl
      rw [hw5] at y0 y1
      go_wp2_with fail
      rw [← hw5]
      rw [← hw5] at y0 y1
      clear hw5 bw
      refine (l10Copy_in b off cap fs m _ (fun k f hk => (HC.out k f hk).below HB.out (block_lt_of_cell (HC.out k f hk).c0)) H8.out).mono ?_
      rintro x w4 ⟨q', d', rfl, o4, b4⟩
      have hsw3 := lt_of_block HR.out
      have hq4 := (o4.lt q' rfl).1
      replace HR := hid (kept HR.out b4)
      replace HB := hid (u_cat HB.out b4)
      have HO4 := hid o4
      clear o4 b4 y0 y1
      have r0 := box_cell HR.out 0 (v := .slice none 0 0) rfl
      have r1 := box_cell HR.out 1 (v := .int .i64 0) rfl
      have z0 := box_frozen HR.out
      have X5 := hid (set_block (set_block HR.out 0 (.slice (some ⟨q', 0, none⟩) 8 d')) 1 (.int .i64 m))
      have x0 := box_cell X5.out 0 (v := .slice (some ⟨q', 0, none⟩) 8 d') rfl
      have x1 := box_cell X5.out 1 (v := .int .i64 m) rfl
      go_wp2_with fail
      have HRL := hid H8.out
      rw [ER.out]
      refine bodyPost_ret (v := .tuple #[.agg #[.slice (some ⟨q', 0, none⟩) 8 d', .int .i64 m], .int .i64 0, .int .i64 2]) ?_ rfl ⟨_, rfl, some ⟨q', 0, none⟩, d', by simp only [HRL.out], ?_, ?_⟩
      · simp [results, Try.results31, go_sem, x0, x1]
      · rw [HRL.out]
        refine owns_base (base := w5.heap.size) ?_ (by omega)
        refine Touch.owns (Touch.setCell _ _ _) (Touch.owns (Touch.setCell _ _ _) HO4.out ?_) ?_ <;> (simp only []; omega)
      · refine u_set (u_set HB.out ?_ _ _) ?_ _ _ <;> omega
    | some v =>
      have hv8 := sl.2 v rfl
      have ER := hid (show r = (gs.set v ⟨h, e, bl, 1, true⟩, (v + 1) % 8, v, 1) by rw [HR0.out]; unfold takeR; simp only [HF.out, HS.out]; rfl)
      clear sl
      simp only []
      obtain ⟨n, hn⟩ : ∃ n : Nat, n = (v + 1) % 8 := ⟨_, rfl⟩
      rw [← hn] at ER ⊢
      clear hn
      obtain ⟨w5, hw5⟩ : ∃ w5, w5 = w4.alloc (.cells #[.slice (some ⟨q, 0, none⟩) 8 d, .int .i64 n] 29) := ⟨_, rfl⟩
      have bw := u_b1 w4 (.cells #[.slice (some ⟨q, 0, none⟩) 8 d, .int .i64 n] 29)
      have HX := hid (laid w4 #[.slice (some ⟨q, 0, none⟩) 8 d, .int .i64 n] 29)
      rw [← hw5] at bw HX
      replace HR := hid (kept HR.out bw)
      replace HB := hid (u_cat HB.out bw)
      replace HO := hid (owns_below HO.out bw)
      have hs5 := bw.size
      obtain ⟨f, hfk, c0, c1, c2, c3, c4⟩ := frs_cells HO.out v hv8
      have hfz := HO.out.frozenAt
      have p0 := box_cell HX.out 0 (v := .slice (some ⟨q, 0, none⟩) 8 d) rfl
      clear bw hfk
      repeat ((fail_if_success (with_reducible show Code.wp _ (Code.region 12 _ _) _ _ _)); (first | go_values | go_skip | go_guarded | go_step | go_upon | go_back | (simp only [Int.not_lt, Int.not_le] at *; go_simp)))
      rw [← hw5]
      clear hw5
      have ne1 : ¬ w4.heap.size = q := by omega
      have ne2 : ¬ w.heap.size + 1 = q := by omega
      have ne3 : ¬ w4.heap.size = w.heap.size + 1 := by omega
      obtain ⟨Wm, hWm⟩ : ∃ Wm, Wm = ((((w5.setCell ⟨q, v * 5, none⟩ (.int .i64 h)).setCell ⟨q, v * 5 + 1, none⟩ (.int .i64 e)).setCell ⟨q, v * 5 + 2, none⟩ (.int .i64 bl)).setCell ⟨q, v * 5 + 3, none⟩ (.int .i64 1)).setCell ⟨q, v * 5 + 4, none⟩ (.bool true) := ⟨_, rfl⟩
      replace HO := hid (show Wm.ownsRow (w.heap.size + 2) 45 5 (.slice (some ⟨q, 0, none⟩) 8 d) 8 (frCells (gs.set v ⟨h, e, bl, 1, true⟩)) by rw [hWm]; exact frs_store HO.out v hv8 ⟨h, e, bl, 1, true⟩)
      replace HX := hid (show Wm.heap[w4.heap.size]? = some (.cells #[.slice (some ⟨q, 0, none⟩) 8 d, .int .i64 n] 29 (0, 0)) by rw [hWm]; exact set_other (set_other (set_other (set_other (set_other HX.out ne1 _ _) ne1 _ _) ne1 _ _) ne1 _ _) ne1 _ _)
      replace HR := hid (show Wm.heap[w.heap.size + 1]? = some (.cells #[.slice none 0 0, .int .i64 0] 29 (0, 0)) by rw [hWm]; exact set_other (set_other (set_other (set_other (set_other HR.out ne2 _ _) ne2 _ _) ne2 _ _) ne2 _ _) ne2 _ _)
      replace HB := hid (show Below w.heap.size w Wm by rw [hWm]; exact below_set5 HB.out (by omega) (v * 5) ⟨h, e, bl, 1, true⟩)
      have P0 := box_cell HX.out 0 (v := .slice (some ⟨q, 0, none⟩) 8 d) rfl
      have P1 := box_cell HX.out 1 (v := .int .i64 n) rfl
      have r0 := box_cell HR.out 0 (v := .slice none 0 0) rfl
      have r1 := box_cell HR.out 1 (v := .int .i64 0) rfl
      have z0 := box_frozen HR.out
      have X5 := hid (set_block (set_block HR.out 0 (.slice (some ⟨q, 0, none⟩) 8 d)) 1 (.int .i64 n))
      have x0 := box_cell X5.out 0 (v := .slice (some ⟨q, 0, none⟩) 8 d) rfl
      have x1 := box_cell X5.out 1 (v := .int .i64 n) rfl
      repeat ((fail_if_success (with_reducible show Code.wp _ (Code.region 13 _ _) _ _ _)); (first | go_values | go_skip | go_guarded | go_step | go_upon | go_back | (simp only [Int.not_lt, Int.not_le] at *; go_simp)))
      rw [← hWm]
      clear hWm p0 c0 c1 c2 c3 c4 hfz
      go_wp2_with fail
      have HRL := hid (show (gs.set v ⟨h, e, bl, 1, true⟩).length = 8 by rw [List.length_set]; exact S8.out)
      rw [ER.out]
      refine bodyPost_ret (v := .tuple #[.agg #[.slice (some ⟨q, 0, none⟩) 8 d, .int .i64 n], .int .i64 v, .int .i64 1]) ?_ rfl ⟨_, rfl, some ⟨q, 0, none⟩, d, by simp only [HRL.out], ?_, ?_⟩
      · simp [results, Try.results31, go_sem, x0, x1]
      · rw [HRL.out]
        refine owns_base (base := w.heap.size + 2) ?_ (by omega)
        refine Touch.owns (Touch.setCell _ _ _) (Touch.owns (Touch.setCell _ _ _) HO.out ?_) ?_ <;> (simp only []; omega)
      · refine u_set (u_set HB.out ?_ _ _) ?_ _ _ <;> omega
end Go.Proofs.Ytnfjplmpaeiagaa
