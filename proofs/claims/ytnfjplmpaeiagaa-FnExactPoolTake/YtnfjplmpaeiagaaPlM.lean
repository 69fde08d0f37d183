/- Frames let go, by the model. -/
import Derived.Test.YtnfjplmpaeiagaaPlL
namespace Go.Proofs.Ytnfjplmpaeiagaa
open Go.ChangeShapes Go.WideShapes Go.ChangeAt Go.RowKit Go.Sort Go.Shelf

theorem frCells_set3 (fs : List Fr) (k : Nat) (f : Fr) (hf : fs[k]? = some f) (d : Int) : (frCells fs).set (k * 5 + 3) (.int .i64 d) = frCells (fs.set k ⟨f.h, f.e, f.b, d, f.u⟩) := by
  have hk : k < fs.length := (List.getElem?_eq_some_iff.1 hf).1
  apply List.ext_getElem?
  intro i
  by_cases hi : i < fs.length * 5
  · obtain ⟨m, j, hj, rfl⟩ : ∃ m j, j < 5 ∧ i = m * 5 + j := ⟨i / 5, i % 5, Nat.mod_lt _ (by omega), by omega⟩
    by_cases hm : m = k
    · subst hm
      rw [frCells_at (fs.set m ⟨f.h, f.e, f.b, d, f.u⟩) m ⟨f.h, f.e, f.b, d, f.u⟩ (by simp [hk]) j hj]
      have hl := frCells_len fs
      have e := frCells_at fs m f hf
      match j, hj with
      | 0, _ => rw [List.getElem?_set_ne (by omega), e 0 (by omega)]; rfl
      | 1, _ => rw [List.getElem?_set_ne (by omega), e 1 (by omega)]; rfl
      | 2, _ => rw [List.getElem?_set_ne (by omega), e 2 (by omega)]; rfl
      | 3, _ => rw [List.getElem?_set_self (by rw [hl]; omega)]; rfl
      | 4, _ => rw [List.getElem?_set_ne (by omega), e 4 (by omega)]; rfl
    · have hg : (fs.set k ⟨f.h, f.e, f.b, d, f.u⟩)[m]? = some fs[m] := by rw [List.getElem?_set_ne (by omega), List.getElem?_eq_getElem (by omega)]
      rw [frCells_at _ m fs[m] hg j hj, ← frCells_at fs m fs[m] (List.getElem?_eq_getElem (by omega)) j hj]
      rw [List.getElem?_set_ne (by omega)]
  · rw [List.getElem?_eq_none (by simp [frCells_len]; omega), List.getElem?_eq_none (by simp [frCells_len]; omega)]

set_option maxHeartbeats 1000000 in
theorem specPoolLet_no (a : Option Addr) (cap : Nat) (fs : List Fr) (hand place : Int) (w : World) (ha : FrsAt w a fs) (hx : fs.length ≤ 1048576) (hp : ¬ poolP fs hand) :
    Calls Try.prog 17 #[.agg #[.slice a fs.length cap, .int .i64 hand], .int .i64 place] w fun e w' => ∃ v, e = .returned (.tuple #[v, .bool false]) ∧ PoolO w w' [] 0 v := by
  have HA := hid ha
  have D := hid (decide_eq_false hp)
  clear hp ha
  go_enter Try.func17, Try.ntmps17
  go_wp2_with fail
  refine (specPoolOk_any a cap fs hand _ (HA.out.below (u_b2 _ _ _)) hx).mono ?_
  rw [D.out]
  rintro e w1 ⟨rfl, b1⟩
  obtain ⟨P1, R1, B1⟩ := u_box2 b1
  have HB := hid B1
  have r0 := box_cell R1 0 (v := .slice none 0 0) rfl
  have r1 := box_cell R1 1 (v := .int .i64 0) rfl
  have z0 := box_frozen R1
  have X5 := hid (set_block (set_block R1 0 (.slice none 0 0)) 1 (.int .i64 0))
  have x0 := box_cell X5.out 0 (v := .slice none 0 0) rfl
  have x1 := box_cell X5.out 1 (v := .int .i64 0) rfl
  clear b1 P1 R1 B1
  go_wp2_with fail
  refine bodyPost_ret (v := .tuple #[.agg #[.slice none 0 0, .int .i64 0], .bool false]) ?_ rfl ⟨_, rfl, none, 0, rfl, ⟨rfl, .inl ⟨rfl, rfl⟩⟩, ?_⟩
  · simp [results, Try.results17, go_sem, x0, x1]
  · refine u_set (u_set HB.out ?_ _ _) ?_ _ _ <;> omega

set_option maxHeartbeats 4000000 in
theorem specPoolLet_yes (a : Option Addr) (cap : Nat) (fs : List Fr) (hand place : Int) (w : World) (ha : FrsAt w a fs) (hp : poolP fs hand) (R : List Fr) (t : Bool) (hR : R.length = 8)
    (hcase : (∃ (k : Nat) (f : Fr), place = k ∧ fs[k]? = some f ∧ 0 < f.d ∧ f.d ≤ 99999 ∧ R = fs.set k (letF f) ∧ t = true) ∨ ((∀ k f, place = (k : Nat) → fs[k]? = some f → f.d = 0) ∧ R = fs ∧ t = false)) :
    Calls Try.prog 17 #[.agg #[.slice a fs.length cap, .int .i64 hand], .int .i64 place] w fun e w' => ∃ v, e = .returned (.tuple #[v, .bool t]) ∧ PoolO w w' R hand v := by
  have h8 := hp.1
  obtain ⟨b, off, rfl, hc⟩ := ha (by intro h; simp [h] at h8)
  have HA := hid ha
  have HC := hid hc
  have H8 := hid h8
  have D := hid (decide_eq_true hp)
  have K0 := hid (specPoolOk_any (some ⟨b, off, none⟩) cap fs hand)
  have HCS := hid hcase
  rw [h8] at K0 ⊢
  clear hp ha hc h8 hcase
  go_enter Try.func17, Try.ntmps17
  go_wp2_with fail
  refine (K0.out _ (HA.out.below (u_b2 _ _ _)) (by omega)).mono ?_
  rw [D.out]
  rintro e w1 ⟨rfl, b1⟩
  obtain ⟨P1, R1, B1⟩ := u_box2 b1
  have HR := hid R1
  have HB := hid B1
  have q0 := box_cell P1 0 (v := .slice (some ⟨b, off, none⟩) 8 cap) rfl
  have q1 := box_cell P1 1 (v := .int .i64 hand) rfl
  clear b1 P1 R1 B1
  go_wp2_with fail
  refine (l10Copy_in b off cap fs hand _ (fun k f hk => (HC.out k f hk).below HB.out (block_lt_of_cell (HC.out k f hk).c0)) H8.out).mono ?_
  rintro e w2 ⟨q, d, rfl, o2, b2⟩
  have hr1 := lt_of_block HR.out
  have b2' := u_cat b2 (u_b1 w2 (.cells #[.slice (some ⟨q, 0, none⟩) 8 d, .int .i64 hand] 29))
  obtain ⟨W, hW⟩ : ∃ W, W = w2.alloc (.cells #[.slice (some ⟨q, 0, none⟩) 8 d, .int .i64 hand] 29) := ⟨_, rfl⟩
  have HX := hid (show W.heap[w2.heap.size]? = some (.cells #[.slice (some ⟨q, 0, none⟩) 8 d, .int .i64 hand] 29 (0, 0)) by rw [hW]; exact laid _ _ _)
  have HR := hid (show W.heap[w.heap.size + 1]? = some (.cells #[.slice none 0 0, .int .i64 0] 29 (0, 0)) by rw [hW]; exact kept HR.out b2')
  have HO := hid (show W.ownsRow w1.heap.size 45 5 (.slice (some ⟨q, 0, none⟩) 8 d) 8 (frCells fs) by rw [hW]; exact o2.alloc _)
  have HB := hid (show Below w.heap.size w W by rw [hW]; exact u_catn HB.out (Nat.le_refl _) b2')
  have hq := o2.lt q rfl
  have hs2 := b2.size
  clear b2 b2' o2 q0 q1
  have p0 := box_cell HX.out 0 (v := .slice (some ⟨q, 0, none⟩) 8 d) rfl
  have p1 := box_cell HX.out 1 (v := .int .i64 hand) rfl
  have r0 := box_cell HR.out 0 (v := .slice none 0 0) rfl
  have r1 := box_cell HR.out 1 (v := .int .i64 0) rfl
  have z0 := box_frozen HR.out
  have X5 := hid (set_block (set_block HR.out 0 (.slice (some ⟨q, 0, none⟩) 8 d)) 1 (.int .i64 hand))
  have x0 := box_cell X5.out 0 (v := .slice (some ⟨q, 0, none⟩) 8 d) rfl
  have x1 := box_cell X5.out 1 (v := .int .i64 hand) rfl
  go_wp2_with fail
  rw [← hW]
  clear hW
  by_cases hin : 0 ≤ place ∧ place ≤ 7
  · obtain ⟨k, rfl⟩ : ∃ k : Nat, place = k := ⟨place.toNat, by omega⟩
    have hk8 : k < 8 := by omega
    obtain ⟨f, hf, c0, c1, c2, c3, c4⟩ := frs_cells HO.out k hk8
    have hfz := HO.out.frozenAt
    rcases HCS.out with ⟨k', f', h1, h2, h3, h4, h5, h6⟩ | ⟨h1, h5, h6⟩
    · obtain rfl : k' = k := by omega
      rw [hf] at h2; cases h2
      subst h5 h6
      have HF := hid hf
      have hd0 : (f.d == 0) = false := beq_eq_false_iff_ne.2 (by omega)
      clear HCS hf h1
      refine (l1In_yes _ _ _ _ hin).mono ?_
      rintro e w' ⟨rfl, rfl⟩
      go_wp2_with fail
      go_region
      obtain ⟨Wn, hWn⟩ : ∃ Wn, Wn = (w'.setCell ⟨q, k' * 5 + 3, none⟩ (.int .i64 (f.d - 1))).drew := ⟨_, rfl⟩
      have bn : Below w1.heap.size w' Wn := by rw [hWn]; exact u_drew (u_set (Below.refl _ _) hq.1 _ _)
      have HO := hid (show Wn.ownsRow w1.heap.size 45 5 (.slice (some ⟨q, 0, none⟩) 8 d) 8 (frCells (fs.set k' (letF f))) by
        have h := (HO.out.stored (k' * 5 + 3) (.int .i64 (f.d - 1))).1
        rw [frCells_set3 fs k' f HF.out] at h
        rw [hWn]
        exact u_owns h (fun k hk => rfl))
      have HX := hid (show Wn.heap[w2.heap.size]? = some (.cells #[.slice (some ⟨q, 0, none⟩) 8 d, .int .i64 hand] 29 (0, 0)) by rw [hWn]; exact set_other HX.out (by omega) _ _)
      have HR := hid ((bn.block _ (by omega)).trans HR.out)
      have HB := hid (HB.out.trans (bn.mono (by have := HB.out.size; omega)))
      rw [← hWn]
      clear hWn bn p0 p1 r0 r1 z0 X5 x0 x1 c0 c1 c2 c3 c4 hfz
      have p0 := box_cell HX.out 0 (v := .slice (some ⟨q, 0, none⟩) 8 d) rfl
      have p1 := box_cell HX.out 1 (v := .int .i64 hand) rfl
      have r0 := box_cell HR.out 0 (v := .slice none 0 0) rfl
      have r1 := box_cell HR.out 1 (v := .int .i64 0) rfl
      have z0 := box_frozen HR.out
      have X5 := hid (set_block (set_block HR.out 0 (.slice (some ⟨q, 0, none⟩) 8 d)) 1 (.int .i64 hand))
      have x0 := box_cell X5.out 0 (v := .slice (some ⟨q, 0, none⟩) 8 d) rfl
      have x1 := box_cell X5.out 1 (v := .int .i64 hand) rfl
      go_wp2_with fail
      refine bodyPost_ret (v := .tuple #[.agg #[.slice (some ⟨q, 0, none⟩) 8 d, .int .i64 hand], .bool true]) ?_ rfl ⟨_, rfl, some ⟨q, 0, none⟩, d, by rw [hR], ?_, ?_⟩
      · simp [results, Try.results17, go_sem, x0, x1]
      · rw [hR]
        refine owns_base (base := w1.heap.size) ?_ (by have := HB.out.size; omega)
        refine Touch.owns (Touch.setCell _ _ _) (Touch.owns (Touch.setCell _ _ _) HO.out ?_) ?_ <;> (simp only []; omega)
      · refine u_set (u_set HB.out ?_ _ _) ?_ _ _ <;> omega
    · subst h5 h6
      have hz := h1 k f rfl hf
      have hd0 : (f.d == 0) = true := beq_iff_eq.2 hz
      clear HCS hf h1 hz
      refine (l1In_yes _ _ _ _ hin).mono ?_
      rintro e w' ⟨rfl, rfl⟩
      go_wp2_with fail
      refine bodyPost_ret (v := .tuple #[.agg #[.slice (some ⟨q, 0, none⟩) 8 d, .int .i64 hand], .bool false]) ?_ rfl ⟨_, rfl, some ⟨q, 0, none⟩, d, by rw [hR], ?_, ?_⟩
      · simp [results, Try.results17, go_sem, x0, x1]
      · rw [hR]
        refine owns_base (base := w1.heap.size) ?_ (by have := HB.out.size; omega)
        refine Touch.owns (Touch.setCell _ _ _) (Touch.owns (Touch.setCell _ _ _) HO.out ?_) ?_ <;> (simp only []; omega)
      · refine u_set (u_set HB.out ?_ _ _) ?_ _ _ <;> omega
  · obtain ⟨rfl, rfl⟩ : R = fs ∧ t = false := by
      rcases HCS.out with ⟨k', f', h1, h2, _⟩ | ⟨_, h1⟩
      · have := (List.getElem?_eq_some_iff.1 h2).1
        have := H8.out
        omega
      · exact h1
    clear HCS
    refine (l1In_no _ _ _ _ (by omega)).mono ?_
    rintro e w' ⟨rfl, rfl⟩
    go_wp2_with fail
    refine bodyPost_ret (v := .tuple #[.agg #[.slice (some ⟨q, 0, none⟩) 8 d, .int .i64 hand], .bool false]) ?_ rfl ⟨_, rfl, some ⟨q, 0, none⟩, d, by rw [hR], ?_, ?_⟩
    · simp [results, Try.results17, go_sem, x0, x1]
    · rw [hR]
      refine owns_base (base := w1.heap.size) ?_ (by have := HB.out.size; omega)
      refine Touch.owns (Touch.setCell _ _ _) (Touch.owns (Touch.setCell _ _ _) HO.out ?_) ?_ <;> (simp only []; omega)
    · refine u_set (u_set HB.out ?_ _ _) ?_ _ _ <;> omega
end Go.Proofs.Ytnfjplmpaeiagaa
