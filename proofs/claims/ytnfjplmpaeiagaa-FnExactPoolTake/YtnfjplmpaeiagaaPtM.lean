/- The hand that goes round: plain mathematics. -/
import Derived.Test.YtnfjplmpaeiagaaNdS
namespace Go.Proofs.Ytnfjplmpaeiagaa
open Go.ChangeShapes Go.WideShapes Go.ChangeAt Go.RowKit Go.Sort Go.Shelf

/-- A frame is passed over, as the house has as many as it may. -/
def overF (full : Bool) (house : Int) (f : Fr) : Bool := full && (decide (f.e = 0) || !decide (f.h = house))
/-- A frame that may go. -/
def mayGo (full : Bool) (house : Int) (f : Fr) : Bool := !overF full house f && decide (f.d ≤ 0)
def unuse (f : Fr) : Fr := ⟨f.h, f.e, f.b, f.d, false⟩
/-- What one look does: the frame is taken, or it is as it is then. -/
def look (full : Bool) (house : Int) (f : Fr) : Option Fr := if mayGo full house f = true then (if f.u = true then some (unuse f) else none) else some f
/-- So many looks from a place on: the frames, and where one was found. -/
def scan (full : Bool) (house : Int) : Nat → Nat → List Fr → List Fr × Option Nat
  | 0, _, fs => (fs, none)
  | n + 1, p, fs => match look full house (fs.getD (p % 8) Fr.no) with
    | none => (fs, some (p % 8))
    | some f => scan full house n (p + 1) (fs.set (p % 8) f)

theorem mayGo_unuse (full : Bool) (house : Int) (f : Fr) : mayGo full house (unuse f) = mayGo full house f := rfl
theorem look_go {full : Bool} {house : Int} {f g : Fr} (h : look full house f = some g) : mayGo full house g = mayGo full house f ∧ (mayGo full house f = true → g.u = false) ∧ (mayGo full house f = false → g = f) := by
  unfold look at h
  split at h
  · rename_i hm
    split at h
    · cases h
      exact ⟨mayGo_unuse _ _ _, fun _ => rfl, fun h => by rw [hm] at h; cases h⟩
    · cases h
  · rename_i hm
    cases h
    exact ⟨rfl, fun h => absurd h hm, fun _ => rfl⟩

/-- Nothing that may go, nothing changes. -/
theorem scan_none {full : Bool} {house : Int} : ∀ (n p : Nat) (fs : List Fr), fs.length = 8 → (∀ f ∈ fs, mayGo full house f = false) → scan full house n p fs = (fs, none)
  | 0, _, _, _, _ => rfl
  | n + 1, p, fs, h8, h => by
    have hp : p % 8 < fs.length := by omega
    have e : fs.getD (p % 8) Fr.no = fs[p % 8] := by simp [List.getD, hp]
    have hm := h fs[p % 8] (List.getElem_mem hp)
    have hl : look full house fs[p % 8] = some fs[p % 8] := by unfold look; rw [if_neg (by rw [hm]; simp)]
    unfold scan
    rw [e, hl]
    dsimp only
    rw [List.set_getElem_self hp]
    exact scan_none n (p + 1) fs h8 h

/-- What is so while nothing was found: which may go stays, and those that were looked at are used no more. -/
theorem scan_not {full : Bool} {house : Int} : ∀ (n p : Nat) (fs : List Fr), fs.length = 8 → (scan full house n p fs).2 = none →
    (scan full house n p fs).1.length = 8 ∧ ∀ i f, fs[i]? = some f → ∃ g, (scan full house n p fs).1[i]? = some g ∧ mayGo full house g = mayGo full house f ∧ (mayGo full house f = true → (f.u = false ∨ ∃ j, j < n ∧ (p + j) % 8 = i) → g.u = false)
  | 0, p, fs, h8, _ => ⟨h8, fun i f hf => ⟨f, hf, rfl, fun _ h => by
      rcases h with h | ⟨j, hj, _⟩
      · exact h
      · omega⟩⟩
  | n + 1, p, fs, h8, h => by
    have hp : p % 8 < fs.length := by omega
    have e : fs.getD (p % 8) Fr.no = fs[p % 8] := by simp [List.getD, hp]
    unfold scan at h ⊢
    rw [e] at h ⊢
    cases hl : look full house fs[p % 8] with
    | none => rw [hl] at h; cases h
    | some g0 =>
      rw [hl] at h
      dsimp only at h ⊢
      obtain ⟨k1, k2, _⟩ := look_go hl
      obtain ⟨l8, ih⟩ := scan_not n (p + 1) (fs.set (p % 8) g0) (by rw [List.length_set]; exact h8) h
      refine ⟨l8, fun i f hf => ?_⟩
      by_cases hi : p % 8 = i
      · subst hi
        have hf' : f = fs[p % 8] := by rw [List.getElem?_eq_getElem hp] at hf; exact (Option.some.inj hf).symm
        subst hf'
        obtain ⟨g, h1, h2, h3⟩ := ih (p % 8) g0 (by rw [List.getElem?_set_self hp])
        exact ⟨g, h1, h2.trans k1, fun hm _ => h3 (by rw [k1]; exact hm) (.inl (k2 hm))⟩
      · obtain ⟨g, h1, h2, h3⟩ := ih i f (by rw [List.getElem?_set_ne hi]; exact hf)
        refine ⟨g, h1, h2, fun hm hu => h3 hm ?_⟩
        rcases hu with hu | ⟨j, hj, hji⟩
        · exact .inl hu
        · right
          cases j with
          | zero => exact absurd hji hi
          | succ j => exact ⟨j, by omega, by rw [← hji]; congr 1; omega⟩

theorem scan_step (full : Bool) (house : Int) (n p : Nat) (fs : List Fr) : scan full house (n + 1) p fs = match look full house (fs.getD (p % 8) Fr.no) with
    | none => (fs, some (p % 8))
    | some f => scan full house n (p + 1) (fs.set (p % 8) f) := rfl
theorem scan_add {full : Bool} {house : Int} : ∀ (n m p : Nat) (fs : List Fr), (scan full house n p fs).2 = none → scan full house (n + m) p fs = scan full house m (p + n) (scan full house n p fs).1
  | 0, m, p, fs, _ => by rw [Nat.zero_add]; rfl
  | n + 1, m, p, fs, h => by
    rw [show n + 1 + m = (n + m) + 1 by omega]
    cases hl : look full house (fs.getD (p % 8) Fr.no) with
    | none => rw [scan_step, hl] at h; cases h
    | some g0 =>
      have e1 : scan full house (n + 1) p fs = scan full house n (p + 1) (fs.set (p % 8) g0) := by rw [scan_step, hl]
      have e2 : scan full house (n + m + 1) p fs = scan full house (n + m) (p + 1) (fs.set (p % 8) g0) := by rw [scan_step, hl]
      rw [e1] at h ⊢
      rw [e2, scan_add n m (p + 1) _ h, show p + 1 + n = p + (n + 1) by omega]
/-- If nothing was found in seventeen looks, there was nothing that may go. -/
theorem scan_full {full : Bool} {house : Int} (p : Nat) (fs : List Fr) (h8 : fs.length = 8) (h : (scan full house 17 p fs).2 = none) : ∀ f ∈ fs, mayGo full house f = false := by
  intro f hf
  rcases hm : mayGo full house f with _ | _
  · rfl
  · exfalso
    obtain ⟨i, hi⟩ := List.mem_iff_getElem?.1 hf
    have hil : i < 8 := by have := (List.getElem?_eq_some_iff.1 hi).1; omega
    obtain ⟨j, hj, hji⟩ : ∃ j, j < 8 ∧ (p + j) % 8 = i := ⟨(i + 8 - p % 8) % 8, Nat.mod_lt _ (by omega), by omega⟩
    have hsub : ∀ n m q gs, (scan full house (n + m) q gs).2 = none → (scan full house n q gs).2 = none := by
      intro n
      induction n with
      | zero => intro m q gs _; rfl
      | succ n ih =>
        intro m q gs hs
        rw [show n + 1 + m = (n + m) + 1 by omega] at hs
        unfold scan at hs ⊢
        cases hl : look full house (gs.getD (q % 8) Fr.no) with
        | none => rw [hl] at hs; cases hs
        | some g0 =>
          rw [hl] at hs
          dsimp only at hs ⊢
          exact ih m _ _ hs
    have h1 := hsub 8 9 p fs h
    obtain ⟨l8, ih⟩ := scan_not 8 p fs h8 h1
    obtain ⟨g, hg, hg1, hg2⟩ := ih i f hi
    have hgu := hg2 hm (.inr ⟨j, hj, hji⟩)
    rw [show (17 : Nat) = 8 + 9 from rfl, scan_add 8 9 p fs h1] at h
    generalize (scan full house 8 p fs).1 = gs at h hg l8
    have h3 := hsub (j + 1) (8 - j) (p + 8) gs (by rw [show j + 1 + (8 - j) = 9 by omega]; exact h)
    have h4 := hsub j 1 (p + 8) gs h3
    obtain ⟨m8, ih2⟩ := scan_not j (p + 8) gs l8 h4
    obtain ⟨g', hg', hm', hu'⟩ := ih2 i g hg
    have hmg : mayGo full house g = true := by rw [hg1]; exact hm
    have hu2 := hu' hmg (.inl hgu)
    rw [scan_add j 1 (p + 8) gs h4] at h3
    unfold scan at h3
    have hpi : (p + 8 + j) % 8 = i := by omega
    rw [hpi] at h3
    have e : (scan full house j (p + 8) gs).1.getD i Fr.no = g' := by simp [List.getD, hg']
    have hl : look full house g' = none := by
      unfold look
      rw [if_pos (by rw [hm']; exact hmg), if_neg (by rw [hu2]; simp)]
    rw [e, hl] at h3
    cases h3
end Go.Proofs.Ytnfjplmpaeiagaa
