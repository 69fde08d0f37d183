/- What the laws on clients share. -/
import Derived.Test.YtbakicgdloakgaaGreatDoorG42
import Derived.Test.YtbakicgdloakgaaGreatDoorG32
import Derived.Test.YtbakicgdloakgaaGreatDoorG27
import Derived.Test.YtbakicgdloakgaaGreatDoorG41
import Derived.Test.YtbakicgdloakgaaGreatDoorG14
namespace Go.Proofs.YtbakicgdloakgaaGreatDoor
open Go.ChangeShapes Go.WideShapes Go.ChangeAt Go.RowKit Go.Sort Go.Shelf

/-- What is kept but for what lies high leaves what was there first. -/
theorem keep_below {w w' : World} {a b n : Nat} (k : KeepOut w w' a b) (hb : Below 0 w w') (hn : n ≤ a) (hs : n ≤ w.heap.size) : Below n w w' :=
  ⟨hb.os, hb.tape, hb.output, hb.size, fun j hj => k j (by omega) (.inl (by omega))⟩
theorem ints_belowN {w w' : World} {n : Nat} {a : Option Addr} {xs : List Int} (h : IntsAt w a xs) (hl : xs ≠ [] → ∀ b o, a = some ⟨b, o, none⟩ → b < n) (hb : Below n w w') : IntsAt w' a xs := fun hne => by
  obtain ⟨b, off, ha, hc⟩ := h hne
  exact ⟨b, off, ha, fun i hi => (hb.cell (p := ⟨b, off + i, none⟩) (hl hne b off ha)).trans (hc i hi)⟩
/-- Where the rows of a getting lie. -/
structure RowsLt (m : Nat) (b1 b2 a : Option Addr) (fs : List EqV) : Prop where
  l1 : ∀ b o, b1 = some ⟨b, o, none⟩ → b < m
  l2 : ∀ b o, b2 = some ⟨b, o, none⟩ → b < m
  le : ∀ b o, a = some ⟨b, o, none⟩ → b < m
  lr : ∀ f ∈ fs, ∀ b o, f.a = some ⟨b, o, none⟩ → b < m
theorem mkE_addr : ∀ (fs : List EqV) (k : Nat), ∀ e ∈ mkE k fs, ∃ f ∈ fs, e.a = f.a
  | [], _, e, h => by simp [mkE] at h
  | f :: fs, k, e, h => by
    simp only [mkE, List.mem_cons] at h
    rcases h with rfl | h
    · exact ⟨f, by simp, rfl⟩
    · obtain ⟨g, hg, he⟩ := mkE_addr fs _ e h
      exact ⟨g, by simp [hg], he⟩
theorem GMk.keep {w w' : World} {k m : Nat} {b1 b2 a : Option Addr} {n1 n2 : Nat} {fs : List EqV} (h : GMk w k b1 b2 a n1 n2 fs) (hl : RowsLt m b1 b2 a fs) (hb : Below m w w') : GMk w' k b1 b2 a n1 n2 fs :=
  ⟨ints_belowN h.i1 (fun _ => hl.l1) hb, ints_belowN h.i2 (fun _ => hl.l2) hb, fun hne => by
    obtain ⟨b, off, ha, hc⟩ := h.eq hne
    have hbm := hl.le b off ha
    refine ⟨b, off, ha, fun j e hj => ?_⟩
    have h1 := hc j e hj
    obtain ⟨f, hf, he⟩ := mkE_addr fs _ e (List.mem_of_getElem? hj)
    exact ⟨(hb.cell (p := ⟨b, off + j * 2, none⟩) hbm).trans h1.c0, (hb.cell (p := ⟨b, off + j * 2 + 1, none⟩) hbm).trans h1.c1, ints_belowN h1.row (fun _ b' o' ha' => hl.lr f hf b' o' (by rw [← he]; exact ha')) hb⟩⟩
end Go.Proofs.YtbakicgdloakgaaGreatDoor
