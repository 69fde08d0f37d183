/- The frame that is to go, by the model. -/
import Derived.Test.YtnfjplmpaeiagaaPtS
import Derived.Test.YtnfjplmpaeiagaaPlC
namespace Go.Proofs.Ytnfjplmpaeiagaa
open Go.ChangeShapes Go.WideShapes Go.ChangeAt Go.RowKit Go.Sort Go.Shelf
attribute [local go_sem] Oper.semAt_some

theorem frCells_set4 (fs : List Fr) (k : Nat) (f : Fr) (hf : fs[k]? = some f) (u : Bool) : (frCells fs).set (k * 5 + 4) (.bool u) = frCells (fs.set k ⟨f.h, f.e, f.b, f.d, u⟩) := by
  have hk : k < fs.length := (List.getElem?_eq_some_iff.1 hf).1
  apply List.ext_getElem?
  intro i
  by_cases hi : i < fs.length * 5
  · obtain ⟨m, j, hj, rfl⟩ : ∃ m j, j < 5 ∧ i = m * 5 + j := ⟨i / 5, i % 5, Nat.mod_lt _ (by omega), by omega⟩
    by_cases hm : m = k
    · subst hm
      rw [frCells_at (fs.set m ⟨f.h, f.e, f.b, f.d, u⟩) m ⟨f.h, f.e, f.b, f.d, u⟩ (by simp [hk]) j hj]
      have hl := frCells_len fs
      have e := frCells_at fs m f hf
      match j, hj with
      | 0, _ => rw [List.getElem?_set_ne (by omega), e 0 (by omega)]; rfl
      | 1, _ => rw [List.getElem?_set_ne (by omega), e 1 (by omega)]; rfl
      | 2, _ => rw [List.getElem?_set_ne (by omega), e 2 (by omega)]; rfl
      | 4, _ => rw [List.getElem?_set_self (by rw [hl]; omega)]; rfl
      | 3, _ => rw [List.getElem?_set_ne (by omega), e 3 (by omega)]; rfl
    · have hg : (fs.set k ⟨f.h, f.e, f.b, f.d, u⟩)[m]? = some fs[m] := by rw [List.getElem?_set_ne (by omega), List.getElem?_eq_getElem (by omega)]
      rw [frCells_at _ m fs[m] hg j hj, ← frCells_at fs m fs[m] (List.getElem?_eq_getElem (by omega)) j hj]
      rw [List.getElem?_set_ne (by omega)]
  · rw [List.getElem?_eq_none (by simp [frCells_len]; omega), List.getElem?_eq_none (by simp [frCells_len]; omega)]

theorem look_over {full : Bool} {house : Int} {f : Fr} (h : mayGo full house f = false) : look full house f = some f := by
  unfold look
  rw [if_neg (by rw [h]; simp)]
theorem scan_goes {full : Bool} {house : Int} {m n : Nat} {gs : List Fr} {f g : Fr} (hn : n < 17) (hf : gs[(m + n) % 8]? = some f) (hl : look full house f = some g) : scan full house (17 - n) (m + n) gs = scan full house (17 - (n + 1)) (m + (n + 1)) (gs.set ((m + n) % 8) g) := by
  obtain ⟨j, hj⟩ : ∃ j, 17 - n = j + 1 := ⟨17 - n - 1, by omega⟩
  have e : gs.getD ((m + n) % 8) Fr.no = f := by simp [List.getD, hf]
  rw [hj, show 17 - (n + 1) = j by omega]
  show (match look full house (gs.getD ((m + n) % 8) Fr.no) with
    | none => (gs, some ((m + n) % 8))
    | some f => scan full house j (m + n + 1) (gs.set ((m + n) % 8) f)) = _
  rw [e, hl]
  rfl
theorem scan_stop {full : Bool} {house : Int} {m n : Nat} {gs : List Fr} {f : Fr} (hn : n < 17) (hf : gs[(m + n) % 8]? = some f) (hl : look full house f = none) : scan full house (17 - n) (m + n) gs = (gs, some ((m + n) % 8)) := by
  obtain ⟨j, hj⟩ : ∃ j, 17 - n = j + 1 := ⟨17 - n - 1, by omega⟩
  have e : gs.getD ((m + n) % 8) Fr.no = f := by simp [List.getD, hf]
  rw [hj]
  show (match look full house (gs.getD ((m + n) % 8) Fr.no) with
    | none => (gs, some ((m + n) % 8))
    | some f => scan full house j (m + n + 1) (gs.set ((m + n) % 8) f)) = _
  rw [e, hl]
end Go.Proofs.Ytnfjplmpaeiagaa
