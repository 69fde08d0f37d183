/- Frames let go, by the model and by the program. -/
import Derived.Test.YtnfjplmpaeiagaaPlD
import Derived.Test.YtnfjplmpaeiagaaNdH
namespace Go.Proofs.Ytnfjplmpaeiagaa
open Go.ChangeShapes Go.WideShapes Go.ChangeAt Go.RowKit Go.Sort Go.Shelf

/-- A frame held once less. -/
def letF (f : Fr) : Fr := ⟨f.h, f.e, f.b, f.d - 1, f.u⟩
theorem ndCells_set3 (ns : List Nd) (k : Nat) (n : Nd) (d : Int) (hn : ns[k]? = some n) : (ndCells ns).set (k * 7 + 3) (.int .i64 d) = ndCells (ns.set k ⟨⟨n.f.h, n.f.e, n.f.b, d, n.f.u⟩, n.p, n.x⟩) := by
  have hk : k < ns.length := (List.getElem?_eq_some_iff.1 hn).1
  apply List.ext_getElem?
  intro i
  by_cases hi : i < ns.length * 7
  · obtain ⟨m, j, hj, rfl⟩ : ∃ m j, j < 7 ∧ i = m * 7 + j := ⟨i / 7, i % 7, Nat.mod_lt _ (by omega), by omega⟩
    by_cases hm : m = k
    · subst hm
      rw [ndCells_at (ns.set m ⟨⟨n.f.h, n.f.e, n.f.b, d, n.f.u⟩, n.p, n.x⟩) m ⟨⟨n.f.h, n.f.e, n.f.b, d, n.f.u⟩, n.p, n.x⟩ (by simp [hk]) j hj]
      have hl := ndCells_len ns
      have e := ndCells_at ns m n hn
      match j, hj with
      | 0, _ => rw [List.getElem?_set_ne (by omega), e 0 (by omega)]; rfl
      | 1, _ => rw [List.getElem?_set_ne (by omega), e 1 (by omega)]; rfl
      | 2, _ => rw [List.getElem?_set_ne (by omega), e 2 (by omega)]; rfl
      | 3, _ => rw [List.getElem?_set_self (by rw [hl]; omega)]; rfl
      | 4, _ => rw [List.getElem?_set_ne (by omega), e 4 (by omega)]; rfl
      | 5, _ => rw [List.getElem?_set_ne (by omega), e 5 (by omega)]; rfl
      | 6, _ => rw [List.getElem?_set_ne (by omega), e 6 (by omega)]; rfl
    · have hf : (ns.set k ⟨⟨n.f.h, n.f.e, n.f.b, d, n.f.u⟩, n.p, n.x⟩)[m]? = some ns[m] := by rw [List.getElem?_set_ne (by omega), List.getElem?_eq_getElem (by omega)]
      rw [ndCells_at _ m ns[m] hf j hj, ← ndCells_at ns m ns[m] (List.getElem?_eq_getElem (by omega)) j hj]
      rw [List.getElem?_set_ne (by omega)]
  · rw [List.getElem?_eq_none (by simp [ndCells_len]; omega), List.getElem?_eq_none (by simp [ndCells_len]; omega)]
theorem NdsAt.letGo {w : World} {base g : Nat} {fs : List Fr} (h : NdsAt w base g (ring g fs)) (k : Nat) (f : Fr) (hf : fs[k]? = some f) : NdsAt (w.setCell ⟨g, k * 7 + 3, none⟩ (.int .i64 (f.d - 1))) base g (ring g (fs.set k (letF f))) := by
  unfold NdsAt
  have e := ndCells_set3 (ring g fs) k ⟨f, (k : Int), some ⟨g, (k + 1) % 8 * 7, none⟩⟩ (f.d - 1) (ring_at g fs k f hf)
  rw [← ring_set]
  show World.ownsRow _ _ _ _ _ _ (ndCells ((ring g fs).set k ⟨⟨f.h, f.e, f.b, f.d - 1, f.u⟩, (k : Int), some ⟨g, (k + 1) % 8 * 7, none⟩⟩))
  rw [← e]
  exact (World.ownsRow.stored h _ _).1

set_option maxHeartbeats 1000000 in
theorem implPoolLet_no (a : Option Addr) (cap : Nat) (fs : List Fr) (hand place : Int) (w : World) (ha : FrsAt w a fs) (hx : fs.length ≤ 1048576) (hp : ¬ poolP fs hand) :
    Calls Try.prog 18 #[.agg #[.slice a fs.length cap, .int .i64 hand], .int .i64 place] w fun e w' => ∃ v, e = .returned (.tuple #[v, .bool false]) ∧ PoolO w w' [] 0 v := by
  have HA := hid ha
  have HP := hid hp
  clear hp ha
  go_enter Try.func18, Try.ntmps18
  go_wp2_with fail
  refine (ringNot a cap fs hand _ (HA.out.below (u_b2 _ _ _)) hx HP.out).mono ?_
  rintro e w1 ⟨x, y, rfl, b1⟩
  obtain ⟨-, R1, B1⟩ := u_box2 b1
  have HR := hid (kept R1 (u_b1 w1 (.cells #[.pointer x, .pointer y] 49)))
  have HB := hid (u_catn B1 (Nat.le_refl _) (u_b1 w1 (.cells #[.pointer x, .pointer y] 49)))
  have r0 := box_cell HR.out 0 (v := .slice none 0 0) rfl
  have r1 := box_cell HR.out 1 (v := .int .i64 0) rfl
  have z0 := box_frozen HR.out
  have X5 := hid (set_block (set_block HR.out 0 (.slice none 0 0)) 1 (.int .i64 0))
  have x0 := box_cell X5.out 0 (v := .slice none 0 0) rfl
  have x1 := box_cell X5.out 1 (v := .int .i64 0) rfl
  clear b1 R1 B1
  go_wp2_with fail
  refine bodyPost_ret (v := .tuple #[.agg #[.slice none 0 0, .int .i64 0], .bool false]) ?_ rfl ⟨_, rfl, none, 0, rfl, ⟨rfl, .inl ⟨rfl, rfl⟩⟩, ?_⟩
  · simp [results, Try.results18, go_sem, x0, x1]
  · refine u_set (u_set HB.out ?_ _ _) ?_ _ _ <;> omega

set_option maxHeartbeats 2000000 in
theorem implPoolLet_yes (a : Option Addr) (cap : Nat) (fs : List Fr) (m : Nat) (place : Int) (w : World) (ha : FrsAt w a fs) (hp : poolP fs m) (R : List Fr) (t : Bool) (hR : R.length = 8)
    (hcase : (∃ (k : Nat) (f : Fr), place = k ∧ fs[k]? = some f ∧ 0 < f.d ∧ f.d ≤ 99999 ∧ R = fs.set k (letF f) ∧ t = true) ∨ ((∀ k f, place = (k : Nat) → fs[k]? = some f → f.d ≤ 0) ∧ R = fs ∧ t = false)) :
    Calls Try.prog 18 #[.agg #[.slice a fs.length cap, .int .i64 m], .int .i64 place] w fun e w' => ∃ v, e = .returned (.tuple #[v, .bool t]) ∧ PoolO w w' R m v := by
  have h8 := hp.1
  have hm : m < 8 := by have := hp.2.1; omega
  have D := hid (show decide (framesP fs ∧ housesP fs) = true from decide_eq_true hp.2.2)
  have HA := hid ha
  have HC := hid hcase
  rw [h8]
  clear ha hp hcase
  go_enter Try.func18, Try.ntmps18
  go_wp2_with fail
  refine (ringOf_in a cap fs m _ (HA.out.below (u_b2 _ _ _)) h8 hm).mono ?_
  rw [D.out]
  rintro e w1 ⟨g, rfl, N1, b1⟩
  simp only [World.size_alloc] at N1
  obtain ⟨-, R1, B1⟩ := u_box2 b1
  have hgz := N1.lt
  have HX := hid (laid w1 #[.pointer (some ⟨g, 0, none⟩), .pointer (some ⟨g, m * 7, none⟩)] 49)
  have HR := hid (kept R1 (u_b1 w1 (.cells #[.pointer (some ⟨g, 0, none⟩), .pointer (some ⟨g, m * 7, none⟩)] 49)))
  have HN := hid (N1.below (u_b1 w1 (.cells #[.pointer (some ⟨g, 0, none⟩), .pointer (some ⟨g, m * 7, none⟩)] 49)) N1.lt.2)
  have HB := hid (u_catn B1 (Nat.le_refl _) (u_b1 w1 (.cells #[.pointer (some ⟨g, 0, none⟩), .pointer (some ⟨g, m * 7, none⟩)] 49)))
  clear b1 R1 B1 N1
  go_wp2_with fail
  refine (held_any g _ _ fs place _ HN.out).mono ?_
  rintro e w2 ⟨hcs, b2⟩
  have HX := hid (kept HX.out b2)
  have HR := hid (kept HR.out b2)
  have HN := hid (HN.out.below b2 HN.out.lt.2)
  have HB := hid (u_catn HB.out (Nat.le_refl _) b2)
  have hr2 := lt_of_block HR.out
  clear b2
  rcases hcs with ⟨k, hk, hk8, ⟨f, hf, hfd⟩, rfl⟩ | ⟨hno, rfl⟩
  · obtain ⟨hd9, rfl, rfl⟩ : f.d ≤ 99999 ∧ R = fs.set k (letF f) ∧ t = true := by
      rcases HC.out with ⟨k', f', h1, h2, _, h3, h4, h5⟩ | ⟨h1, _⟩
      · obtain rfl : k' = k := by omega
        rw [hf] at h2; cases h2
        exact ⟨h3, h4, h5⟩
      · have := h1 k f hk hf; omega
    have q0 := box_cell HX.out 0 (v := .pointer (some ⟨g, 0, none⟩)) rfl
    have q1 := box_cell HX.out 1 (v := .pointer (some ⟨g, m * 7, none⟩)) rfl
    have HF := hid hf
    clear HC hf
    unfold lets
    go_wp2_with fail
    refine (letGo_any g _ k fs f _ HN.out HF.out (by omega)).mono ?_
    rintro e w3 ⟨⟨v3, rfl⟩, hw3⟩
    have b3 : Below (w.heap.size + 1 + 1) w2 w3 := by rw [hw3]; exact u_set (Below.refl _ _) hgz.1 _ _
    have HN := hid (show NdsAt w3 (w.heap.size + 1 + 1) g (ring g (fs.set k (letF f))) by rw [hw3]; exact HN.out.letGo k f HF.out)
    have HX := hid (show w3.heap[w1.heap.size]? = some (.cells #[.pointer (some ⟨g, 0, none⟩), .pointer (some ⟨g, m * 7, none⟩)] 49 (0, 0)) by rw [hw3]; exact set_other HX.out (by omega) _ _)
    have HR := hid ((b3.block _ (by omega)).trans HR.out)
    have HB := hid (HB.out.trans (b3.mono (by omega)))
    have hs3 := b3.size
    clear b3 hw3 q0 q1
    have q0 := box_cell HX.out 0 (v := .pointer (some ⟨g, 0, none⟩)) rfl
    have q1 := box_cell HX.out 1 (v := .pointer (some ⟨g, m * 7, none⟩)) rfl
    go_wp2_with fail
    refine (pool_any g _ m (fs.set k (letF f)) _ HN.out hm).mono ?_
    rintro e w5 ⟨b, d, rfl, o5, b5⟩
    have R5 := hid (kept HR.out b5)
    have B5 := hid (u_catn HB.out (Nat.le_refl _) b5)
    have O5 := hid o5
    have r0 := box_cell R5.out 0 (v := .slice none 0 0) rfl
    have r1 := box_cell R5.out 1 (v := .int .i64 0) rfl
    have z0 := box_frozen R5.out
    have X5 := hid (set_block (set_block R5.out 0 (.slice b 8 d)) 1 (.int .i64 m))
    have x0 := box_cell X5.out 0 (v := .slice b 8 d) rfl
    have x1 := box_cell X5.out 1 (v := .int .i64 m) rfl
    clear b5 o5 q0 q1
    go_wp2_with fail
    refine bodyPost_ret (v := .tuple #[.agg #[.slice b 8 d, .int .i64 m], .bool true]) ?_ rfl ⟨_, rfl, b, d, by rw [hR], ?_, ?_⟩
    · simp [results, Try.results18, go_sem, x0, x1]
    · rw [hR]
      have := HB.out.size
      refine owns_base (base := w3.heap.size) ?_ (by omega)
      refine Touch.owns (Touch.setCell _ _ _) (Touch.owns (Touch.setCell _ _ _) O5.out ?_) ?_ <;> (simp only []; omega)
    · refine u_set (u_set B5.out ?_ _ _) ?_ _ _ <;> omega
  · obtain ⟨rfl, rfl⟩ : R = fs ∧ t = false := by
      rcases HC.out with ⟨k', f', h1, h2, h3, _⟩ | ⟨_, h1⟩
      · have := hno k' f' h1 h2; omega
      · exact h1
    have q0 := box_cell HX.out 0 (v := .pointer (some ⟨g, 0, none⟩)) rfl
    have q1 := box_cell HX.out 1 (v := .pointer (some ⟨g, m * 7, none⟩)) rfl
    clear HC hno
    go_wp2_with fail
    refine (pool_any g _ m R _ HN.out hm).mono ?_
    rintro e w5 ⟨b, d, rfl, o5, b5⟩
    have R5 := hid (kept HR.out b5)
    have B5 := hid (u_catn HB.out (Nat.le_refl _) b5)
    have O5 := hid o5
    have r0 := box_cell R5.out 0 (v := .slice none 0 0) rfl
    have r1 := box_cell R5.out 1 (v := .int .i64 0) rfl
    have z0 := box_frozen R5.out
    have X5 := hid (set_block (set_block R5.out 0 (.slice b 8 d)) 1 (.int .i64 m))
    have x0 := box_cell X5.out 0 (v := .slice b 8 d) rfl
    have x1 := box_cell X5.out 1 (v := .int .i64 m) rfl
    clear b5 o5 q0 q1
    go_wp2_with fail
    refine bodyPost_ret (v := .tuple #[.agg #[.slice b 8 d, .int .i64 m], .bool false]) ?_ rfl ⟨_, rfl, b, d, by rw [hR], ?_, ?_⟩
    · simp [results, Try.results18, go_sem, x0, x1]
    · rw [hR]
      have := HB.out.size
      refine owns_base (base := w2.heap.size) ?_ (by omega)
      refine Touch.owns (Touch.setCell _ _ _) (Touch.owns (Touch.setCell _ _ _) O5.out ?_) ?_ <;> (simp only []; omega)
    · refine u_set (u_set B5.out ?_ _ _) ?_ _ _ <;> omega
end Go.Proofs.Ytnfjplmpaeiagaa
