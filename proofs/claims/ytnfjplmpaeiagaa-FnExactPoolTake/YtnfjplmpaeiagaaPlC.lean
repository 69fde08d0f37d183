/- Pools copied, and editions dropped, by the model. -/
import Derived.Test.YtnfjplmpaeiagaaPlT
import Derived.Test.YtnfjplmpaeiagaaIntsH
namespace Go.Proofs.Ytnfjplmpaeiagaa
open Go.ChangeShapes Go.WideShapes Go.ChangeAt Go.RowKit Go.Sort Go.Shelf

theorem fr_one (fs : List Fr) : ∀ u ∈ frCells fs, u.oneCell' = true := by
  intro u hu
  simp only [frCells, List.mem_flatMap] at hu
  obtain ⟨f, _, hu⟩ := hu
  simp [Fr.cells] at hu
  rcases hu with h | h | h | h | h <;> subst h <;> rfl
theorem fr_news {w : World} {b off : Nat} {fs : List Fr} (hc : ∀ k f, fs[k]? = some f → FrC w b (off + k * 5) f) (j : Nat) (u : Value) (hj : (frCells fs)[j]? = some u) : w.cell? (Addr.add ⟨b, off, none⟩ j) = some u := by
  have hjl : j < fs.length * 5 := by
    have := (List.getElem?_eq_some_iff.1 hj).1
    rwa [frCells_len] at this
  obtain ⟨k, i, hi, rfl⟩ : ∃ k i, i < 5 ∧ j = k * 5 + i := ⟨j / 5, j % 5, Nat.mod_lt _ (by omega), by omega⟩
  have hk : k < fs.length := by omega
  have hf := List.getElem?_eq_getElem hk
  rw [frCells_at fs k fs[k] hf i hi] at hj
  obtain ⟨c0, c1, c2, c3, c4⟩ := hc k fs[k] hf
  rw [addr_add, ← Nat.add_assoc]
  match i, hi with
  | 0, _ => rw [← hj]; exact c0
  | 1, _ => rw [← hj]; exact c1
  | 2, _ => rw [← hj]; exact c2
  | 3, _ => rw [← hj]; exact c3
  | 4, _ => rw [← hj]; exact c4

theorem fr_ne {fs : List Fr} (h8 : fs.length = 8) : [] ++ frCells fs ≠ [] := by
  intro h0
  have := frCells_len fs
  rw [List.nil_append] at h0
  rw [h0, h8] at this
  simp at this
set_option maxHeartbeats 2000000 in
theorem l10Copy_in (b off cap : Nat) (fs : List Fr) (hand : Int) (w : World) (hc : ∀ k f, fs[k]? = some f → FrC w b (off + k * 5) f) (h8 : fs.length = 8) :
    Calls Try.prog 30 #[.agg #[.slice (some ⟨b, off, none⟩) 8 cap, .int .i64 hand]] w fun e w' => ∃ q d, e = .returned (.agg #[.slice (some ⟨q, 0, none⟩) 8 d, .int .i64 hand]) ∧ w'.ownsRow w.heap.size 45 5 (.slice (some ⟨q, 0, none⟩) 8 d) 8 (frCells fs) ∧ Below w.heap.size w w' := by
  obtain ⟨i0, hi, hz0, hz1, hz2⟩ := info_parts Try.info45
  have HC := hid hc
  have H8 := hid h8
  clear hc h8
  obtain ⟨W, hW⟩ : ∃ W, W = ((w.alloc (.cells #[.slice (some ⟨b, off, none⟩) 8 cap, .int .i64 hand] 29)).alloc (.cells #[.slice none 0 0, .int .i64 0] 29)).alloc (.cells #[] 45) := ⟨_, rfl⟩
  have b0 : Below w.heap.size w W := by rw [hW]; exact u_b3 _ _ _ _
  obtain ⟨X0, X1, X2, -⟩ := u_box3 (w := w) (c := #[.slice (some ⟨b, off, none⟩) 8 cap, .int .i64 hand]) (t := 29) (d := #[.slice none 0 0, .int .i64 0]) (s := 29) (f := #[]) (r := 45) (w1 := W) (by rw [hW]; exact Below.refl _ _)
  have Z0 : W.heap.size = w.heap.size + 3 := by rw [hW]; simp
  have OW : W.ownsRow (w.heap.size + 2) 45 5 (.slice (some ⟨w.heap.size + 2, 0, none⟩) 0 0) 0 [] := ⟨rfl, .inr ⟨w.heap.size + 2, 0, #[], rfl, Nat.le_refl _, X2, Nat.le_refl _, by unfold maxLen; omega, rfl, rfl⟩⟩
  have HX0 := hid X0
  have HX1 := hid X1
  have HOW := hid OW
  have HB0 := hid b0
  have q0 := box_cell X0 0 (v := .slice (some ⟨b, off, none⟩) 8 cap) rfl
  have q1 := box_cell X0 1 (v := .int .i64 hand) rfl
  clear X0 X1 X2 OW b0
  go_enter Try.func30, Try.ntmps30
  go_wp2_with (at_builtin; rw [← hW]; refine wpList_append_own _ rfl _ _ 27 rfl (w.heap.size + 2) 45 i0 (.agg #[.int .i64 0, .int .i64 0, .int .i64 0, .int .i64 0, .bool false]) 5 40 Try.underlying27 hi hz0 hz1 hz2 rfl (by omega) _ _ _ rfl HOW.out ⟨b, off, none⟩ 8 cap (frCells fs) rfl (by rw [frCells_len, H8.out]) (fr_news (fun k f hk => (HC.out k f hk).below HB0.out (block_lt_of_cell (HC.out k f hk).c0))) (fr_one fs) (by unfold maxLen; omega) (by omega) (by omega) ?_; intro v' w1 o1 g1 _; obtain ⟨q, d, rfl, hq⟩ := owns_shape o1 (fr_ne H8.out); have b1 := (Below.refl (w.heap.size + 2) W).grown g1 (by omega) (fun k hk => (HOW.out.lt k hk).1); have Y0 := hid ((b1.block w.heap.size (by omega)).trans HX0.out); have Y1 := hid ((b1.block (w.heap.size + 1) (by omega)).trans HX1.out); have r0 := box_cell Y0.out 0 (v := .slice (some ⟨b, off, none⟩) 8 cap) rfl; have z0 := box_frozen Y0.out; have s0 := box_cell Y1.out 0 (v := .slice none 0 0) rfl; have s1 := box_cell Y1.out 1 (v := .int .i64 0) rfl; have z1 := box_frozen Y1.out; have r1 := box_cell Y0.out 1 (v := .int .i64 hand) rfl; have B1 := hid b1; have O1 := hid o1; clear b1 o1 g1)
  have X5 := hid (set_block (set_block (set_other Y1.out (k := w.heap.size + 1) (g := w.heap.size) (by omega) 0 (.slice (some ⟨q, 0, none⟩) 8 d)) 0 (.slice (some ⟨q, 0, none⟩) 8 d)) 1 (.int .i64 hand))
  have x0 := box_cell X5.out 0 (v := .slice (some ⟨q, 0, none⟩) 8 d) rfl
  have x1 := box_cell X5.out 1 (v := .int .i64 hand) rfl
  refine bodyPost_ret (v := .agg #[.slice (some ⟨q, 0, none⟩) 8 d, .int .i64 hand]) ?_ rfl ⟨q, d, rfl, ?_, ?_⟩
  · simp [results, Try.results30, go_sem, x0, x1]
  · have h1 := O1.out
    rw [List.nil_append] at h1
    refine owns_base (base := w.heap.size + 2) ?_ (by omega)
    refine Touch.owns (Touch.setCell _ _ _) (Touch.owns (Touch.setCell _ _ _) (Touch.owns (Touch.setCell _ _ _) h1 ?_) ?_) ?_ <;> (simp only []; omega)
  · refine u_set (u_set (u_set (HB0.out.trans (B1.out.mono (by omega))) ?_ _ _) ?_ _ _) ?_ _ _ <;> omega

/-- A frame of an edition that is not held is empty. -/
def dropF (ed : Int) (f : Fr) : Fr := if f.e = ed ∧ f.d = 0 then Fr.no else f
def dropTo (ed : Int) (fs : List Fr) (k : Nat) : List Fr := (fs.take k).map (dropF ed) ++ fs.drop k
theorem dropTo_len (ed : Int) (fs : List Fr) (k : Nat) : (dropTo ed fs k).length = fs.length := by simp [dropTo]; omega
theorem dropTo_at (ed : Int) (fs : List Fr) (k : Nat) (hk : k < fs.length) : (dropTo ed fs k)[k]? = some fs[k] := by
  unfold dropTo
  rw [List.getElem?_append_right (by simp; omega)]
  simp [Nat.min_eq_left (Nat.le_of_lt hk), hk]
theorem dropTo_succ (ed : Int) (fs : List Fr) (k : Nat) (hk : k < fs.length) : dropTo ed fs (k + 1) = (dropTo ed fs k).set k (dropF ed fs[k]) := by
  unfold dropTo
  have hl : ((fs.take k).map (dropF ed)).length = k := by simp; omega
  rw [List.set_append_right _ _ (by omega), hl, Nat.sub_self, List.take_succ_eq_append_getElem hk, List.map_append, List.append_assoc, List.map_singleton, List.singleton_append, List.drop_eq_getElem_cons hk, List.set_cons_zero]
theorem dropTo_same (ed : Int) (fs : List Fr) (k : Nat) (hk : k < fs.length) (h : dropF ed fs[k] = fs[k]) : dropTo ed fs (k + 1) = dropTo ed fs k := by
  rw [dropTo_succ ed fs k hk, h]
  apply List.ext_getElem?
  intro i
  by_cases hi : k = i
  · subst hi
    rw [List.getElem?_set_self (by rw [dropTo_len]; exact hk), dropTo_at ed fs k hk]
  · rw [List.getElem?_set_ne hi]
theorem dropTo_all (ed : Int) (fs : List Fr) (k : Nat) (hk : fs.length ≤ k) : dropTo ed fs k = fs.map (dropF ed) := by
  unfold dropTo
  rw [List.take_of_length_le hk, List.drop_eq_nil_of_le hk, List.append_nil]

set_option maxHeartbeats 4000000 in
theorem l10Drop_in (b off cap : Nat) (fs : List Fr) (hand ed : Int) (w : World) (hc : ∀ k f, fs[k]? = some f → FrC w b (off + k * 5) f) (h8 : fs.length = 8) :
    Calls Try.prog 38 #[.agg #[.slice (some ⟨b, off, none⟩) 8 cap, .int .i64 hand], .int .i64 ed] w fun e w' => ∃ q d, e = .returned (.agg #[.slice (some ⟨q, 0, none⟩) 8 d, .int .i64 hand]) ∧ w'.ownsRow w.heap.size 45 5 (.slice (some ⟨q, 0, none⟩) 8 d) 8 (frCells (fs.map (dropF ed))) ∧ Below w.heap.size w w' := by
  have HC := hid hc
  have H8 := hid h8
  clear hc h8
  go_enter Try.func38, Try.ntmps38
  go_wp2_with fail
  refine (l10Copy_in b off cap fs hand _ (fun k f hk => (HC.out k f hk).below (u_b2 w _ _) (block_lt_of_cell (HC.out k f hk).c0)) H8.out).mono ?_
  rintro e w1 ⟨q, d, rfl, o1, b1⟩
  obtain ⟨-, R1, B1⟩ := u_box2 b1
  simp only [World.size_alloc] at o1
  have hq := o1.lt q rfl
  obtain ⟨W, hW⟩ : ∃ W, W = w1.alloc (.cells #[.slice (some ⟨q, 0, none⟩) 8 d, .int .i64 hand] 29) := ⟨_, rfl⟩
  have HX := hid (show W.heap[w1.heap.size]? = some (.cells #[.slice (some ⟨q, 0, none⟩) 8 d, .int .i64 hand] 29 (0, 0)) by rw [hW]; exact laid _ _ _)
  have HR := hid (show W.heap[w.heap.size + 1]? = some (.cells #[.slice none 0 0, .int .i64 0] 29 (0, 0)) by rw [hW]; exact kept R1 (u_b1 _ _))
  have HO := hid (show W.ownsRow (w.heap.size + 1 + 1) 45 5 (.slice (some ⟨q, 0, none⟩) 8 d) 8 (frCells fs) by rw [hW]; exact o1.alloc _)
  have HB := hid (show Below w.heap.size w W by rw [hW]; exact u_catn B1 (Nat.le_refl _) (u_b1 _ _))
  have hr1 := lt_of_block R1
  clear o1 b1 R1 B1
  go_wp2_with fail
  rw [← hW]
  clear hW
  go_loopw [6] (fun i wr => ∃ k : Nat, k ≤ 8 ∧ i = .int .i64 k ∧ wr.heap[w1.heap.size]? = some (.cells #[.slice (some ⟨q, 0, none⟩) 8 d, .int .i64 hand] 29 (0, 0)) ∧ wr.heap[w.heap.size + 1]? = some (.cells #[.slice none 0 0, .int .i64 0] 29 (0, 0)) ∧ wr.ownsRow (w.heap.size + 1 + 1) 45 5 (.slice (some ⟨q, 0, none⟩) 8 d) 8 (frCells (dropTo ed fs k)) ∧ Below w.heap.size w wr) (fun i _ => 8 - (intOf i).toNat)
  case atStart => exact ⟨0, by omega, rfl, HX.out, HR.out, HO.out, HB.out⟩
  case round =>
    clear HX HR HO HB
    obtain ⟨k, hk, rfl, X, R, O, B⟩ := hrel
    have q0 := box_cell X 0 (v := .slice (some ⟨q, 0, none⟩) 8 d) rfl
    have q1 := box_cell X 1 (v := .int .i64 hand) rfl
    have HX := hid X
    have HR := hid R
    have HO := hid O
    have HB := hid B
    by_cases hlt : k < 8
    · have hkl : k < fs.length := by rw [H8.out]; exact hlt
      obtain ⟨f, hf, c0, c1, c2, c3, c4⟩ := frs_cells O k hlt
      have hfk : fs[k] = f := by rw [dropTo_at ed fs k hkl] at hf; exact Option.some.inj hf
      have hfz := O.frozenAt
      clear X R O B hf
      obtain ⟨t1, ht1⟩ : ∃ t1, (f.e == ed) = t1 := ⟨_, rfl⟩
      obtain ⟨t2, ht2⟩ : ∃ t2, (f.d == 0) = t2 := ⟨_, rfl⟩
      have HD := hid (show dropF ed f = if t1 = true ∧ t2 = true then Fr.no else f by unfold dropF; simp only [← ht1, ← ht2, beq_iff_eq])
      have HS := hid (dropTo_succ ed fs k hkl)
      have HT := hid (dropTo_same ed fs k hkl)
      rw [hfk] at HS HT
      clear hfk
      cases t1
      · have HT := hid (HT.out (by rw [HD.out]; simp))
        go_wp2
        go_roundw
        case rel => exact ⟨k + 1, by omega, by go_num, HX.out, HR.out, by rw [HT.out]; exact HO.out, HB.out⟩
        case measure => simp [intOf]; omega
      · cases t2
        · have HT := hid (HT.out (by rw [HD.out]; simp))
          go_wp2
          go_roundw
          case rel => exact ⟨k + 1, by omega, by go_num, HX.out, HR.out, by rw [HT.out]; exact HO.out, HB.out⟩
          case measure => simp [intOf]; omega
        · have HS := hid (show dropTo ed fs (k + 1) = (dropTo ed fs k).set k Fr.no by rw [HS.out, HD.out]; simp)
          go_wp2
          go_roundw
          case rel =>
            have bs := below_set5 (Below.refl (w.heap.size + 1 + 1) wr) (g := q) (by omega) (k * 5) Fr.no
            refine ⟨k + 1, by omega, by go_num, ?_, (bs.block _ (by omega)).trans HR.out, by rw [HS.out]; exact frs_store HO.out k hlt Fr.no, HB.out.trans (bs.mono (by omega))⟩
            rw [Below.heap_setCell _ _ _ _ (by simp; omega), Below.heap_setCell _ _ _ _ (by simp; omega), Below.heap_setCell _ _ _ _ (by simp; omega), Below.heap_setCell _ _ _ _ (by simp; omega), Below.heap_setCell _ _ _ _ (by simp; omega)]
            exact HX.out
          case measure => simp [intOf]; omega
    · have HO := hid (show wr.ownsRow (w.heap.size + 1 + 1) 45 5 (.slice (some ⟨q, 0, none⟩) 8 d) 8 (frCells (fs.map (dropF ed))) by rw [← dropTo_all ed fs k (by rw [H8.out]; omega)]; exact O)
      have r0 := box_cell R 0 (v := .slice none 0 0) rfl
      have r1 := box_cell R 1 (v := .int .i64 0) rfl
      have z0 := box_frozen R
      have X5 := hid (set_block (set_block R 0 (.slice (some ⟨q, 0, none⟩) 8 d)) 1 (.int .i64 hand))
      have x0 := box_cell X5.out 0 (v := .slice (some ⟨q, 0, none⟩) 8 d) rfl
      have x1 := box_cell X5.out 1 (v := .int .i64 hand) rfl
      clear X R O B
      go_wp2
      refine bodyPost_ret (v := .agg #[.slice (some ⟨q, 0, none⟩) 8 d, .int .i64 hand]) ?_ rfl ⟨q, d, rfl, ?_, ?_⟩
      · simp [results, Try.results38, go_sem, x0, x1]
      · refine owns_base (base := w.heap.size + 1 + 1) ?_ (by omega)
        refine Touch.owns (Touch.setCell _ _ _) (Touch.owns (Touch.setCell _ _ _) HO.out ?_) ?_ <;> (simp only []; omega)
      · refine u_set (u_set HB.out ?_ _ _) ?_ _ _ <;> omega
end Go.Proofs.Ytnfjplmpaeiagaa
