/- Which block a getting wants: the first of a hundred that it lacks. -/
import Derived.Test.YtegldmdcdnnegaaDoorGtW
import Derived.Test.YtegldmdcdnnegaaDoorSlQ
import Derived.Test.YtegldmdcdnnegaaDoorPRowJa
import Derived.Test.YtegldmdcdnnegaaDoorDrawP
namespace Go.Proofs.YtegldmdcdnnegaaDoor
open Go.ChangeShapes Go.WideShapes Go.ChangeAt Go.RowKit Go.Sort Go.Shelf

/-- The first number from n on, so many at most, of which f is true. -/
def firstF (f : Int → Bool) : Nat → Int → Int
  | 0, _ => -1
  | k + 1, n => if f n then n else firstF f k (n + 1)
/-- From n on, below a hundred behind the first and below ten thousand. -/
def wantT (f : Int → Bool) (fr n : Int) : Int := firstF f (min (fr + 100) 10000 - n).toNat n
theorem wantT_yes {f : Int → Bool} {fr n : Int} (h1 : n < fr + 100) (h2 : n ≤ 9999) (hf : f n = true) : wantT f fr n = n := by
  unfold wantT
  obtain ⟨k, hk⟩ : ∃ k, (min (fr + 100) 10000 - n).toNat = k + 1 := ⟨(min (fr + 100) 10000 - n).toNat - 1, by omega⟩
  rw [hk, firstF, if_pos hf]
theorem wantT_no {f : Int → Bool} {fr n : Int} (h1 : n < fr + 100) (h2 : n ≤ 9999) (hf : f n = false) : wantT f fr n = wantT f fr (n + 1) := by
  unfold wantT
  obtain ⟨k, hk⟩ : ∃ k, (min (fr + 100) 10000 - n).toNat = k + 1 := ⟨(min (fr + 100) 10000 - n).toNat - 1, by omega⟩
  rw [hk, firstF, if_neg (by rw [hf]; decide)]
  congr 1
  omega
theorem wantT_end {f : Int → Bool} {fr n : Int} (h : fr + 100 ≤ n ∨ 9999 < n) : wantT f fr n = -1 := by
  unfold wantT
  rw [show (min (fr + 100) 10000 - n).toNat = 0 by omega]
  rfl
/-- The block is not known. -/
def lackB (L S : Int) (ws gs : List Int) (Z : Int) (es : List EqV) (n : Int) : Bool := decide ((saysS es Z (rowI L S ws gs n)).1 ≠ [])
def wantI (L S : Int) (ws gs : List Int) (C Z : Int) (es : List EqV) (fr : Int) : Int := if getP L S ws gs C Z es ∧ 0 ≤ fr ∧ fr ≤ 9999 then wantT (lackB L S ws gs Z es) fr fr else -1

theorem asc_upto {lo hi hi' : Int} {xs : List Int} (h : ascB lo hi xs = true) (hh : hi ≤ hi') : ascB lo hi' xs = true := asc_hi h hh
theorem win_le {n : Int} {ws gs : List Int} (hw : winP n ws) (hg : wgtP ws.length gs) (id : Int) : 1 ≤ winN ws gs id ∧ winN ws gs id ≤ n := by
  obtain ⟨p1, p2, _, _⟩ := pk_bd hg hw.1 hw.2.1 id
  have hm := winOf_mem ws gs (pkOf gs id) hg.2.symm p1 p2
  obtain ⟨k, hk, he⟩ := List.getElem_of_mem hm
  have hup := hw.2.2.1
  have hlast : prev0 ws ws.length = ws.getD (ws.length - 1) 0 := by unfold prev0; rw [if_neg (by have := hw.1; omega)]
  have e : winN ws gs id = ws.getD k 0 := by rw [getD_eq hk]; exact he.symm
  have l1 := upR_le hup (ws.length - 1 - k) k (by omega)
  rw [show k + (ws.length - 1 - k) = ws.length - 1 by omega, ← hlast, hw.2.2.2] at l1
  have l2 := upR_le hup k 0 (by omega)
  rw [Nat.zero_add] at l2
  have l3 := hup 0 hw.1
  have : prev0 ws 0 = 0 := rfl
  omega
theorem rowI_asc {L S : Int} {ws gs : List Int} {id : Int} (hp : planP L S ws gs) (i0 : 0 ≤ id) : ascB (-1) (cntI L S) (rowI L S ws gs id) = true ∧ (rowI L S ws gs id).length ≤ 24 := by
  unfold rowI
  by_cases h : id < cntI L S
  · rw [if_pos h]
    exact ⟨asc_cons.2 ⟨⟨by omega, h⟩, rfl⟩, by simp⟩
  · rw [if_neg h]
    obtain ⟨h1, h2⟩ := win_le hp.2.1 hp.2.2 id
    have h24 : cntI L S ≤ 24 := hp.1.2.2.2.2
    obtain ⟨N, hN⟩ := Int.eq_ofNat_of_zero_le (show 0 ≤ winN ws gs id by omega)
    rw [hN, Int.toNat_natCast]
    obtain ⟨k1, k2, k3⟩ := drawI_ok N id (by omega) (by omega)
    refine ⟨?_, by omega⟩
    have ha : ascB (-1) N (drawI N id) = true := by unfold rowOkB at k1; simp at k1; exact k1.2
    exact asc_hi ha (by omega)
/-- What the solver says of the row, and what is lacked. -/
theorem lack_says {L S : Int} {ws gs : List Int} {C Z : Int} {es : List EqV} {id : Int} (hg : getP L S ws gs C Z es) (i0 : 0 ≤ id) : decide (saysP C Z es (rowI L S ws gs id)) = !lackB L S ws gs Z es id := by
  have ha := (rowI_asc (ws := ws) (gs := gs) hg.1 i0).1
  rw [← hg.2.2.1] at ha
  unfold lackB
  by_cases h : (saysS es Z (rowI L S ws gs id)).1 = []
  · rw [decide_eq_true (show saysP C Z es _ from ⟨hg.2.1, ha, h⟩), decide_eq_false (not_not_intro h)]
    rfl
  · rw [decide_eq_false (fun k : saysP C Z es _ => h k.2.2), decide_eq_true h]
    rfl
theorem SamV.want {L S : Int} {ws gs : List Int} {C Z : Int} {es fs : List EqV} (h : SamV fs es) (fr : Int) : wantI L S ws gs C Z fs fr = wantI L S ws gs C Z es fr := by
  have e : lackB L S ws gs Z fs = lackB L S ws gs Z es := by
    funext n
    unfold lackB saysS
    rw [h.steps]
  have e2 : getP L S ws gs C Z fs ↔ getP L S ws gs C Z es := by unfold getP; rw [h.solver]
  unfold wantI
  rw [e]
  by_cases hp : getP L S ws gs C Z es ∧ 0 ≤ fr ∧ fr ≤ 9999
  · rw [if_pos hp, if_pos ⟨e2.2 hp.1, hp.2⟩]
  · rw [if_neg hp, if_neg (fun k => hp ⟨e2.1 k.1, k.2⟩)]
end Go.Proofs.YtegldmdcdnnegaaDoor
