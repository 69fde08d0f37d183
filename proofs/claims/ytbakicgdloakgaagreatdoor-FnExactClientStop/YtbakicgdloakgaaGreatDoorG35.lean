/- What the laws on clients share. -/
import Derived.Test.YtbakicgdloakgaaGreatDoorG33
import Derived.Test.YtbakicgdloakgaaGreatDoorG23
import Derived.Test.YtbakicgdloakgaaGreatDoorG18
import Derived.Test.YtbakicgdloakgaaGreatDoorG30
import Derived.Test.YtbakicgdloakgaaGreatDoorG9
namespace Go.Proofs.YtbakicgdloakgaaGreatDoor
open Go.ChangeShapes Go.WideShapes Go.ChangeAt Go.RowKit Go.Sort Go.Shelf

/-- What is kept but for what lies high leaves what was there first. -/
theorem keep_below {w w' : World} {a b n : Nat} (k : KeepOut w w' a b) (hb : Below 0 w w') (hn : n ≤ a) (hs : n ≤ w.heap.size) : Below n w w' :=
  ⟨hb.os, hb.tape, hb.output, hb.size, fun j hj => k j (by omega) (.inl (by omega))⟩
theorem ints_belowN {w w' : World} {n : Nat} {a : Option Addr} {xs : List Int} (h : IntsAt w a xs) (hl : xs ≠ [] → ∀ b o, a = some ⟨b, o, none⟩ → b < n) (hb : Below n w w') : IntsAt w' a xs := fun hne => by
  obtain ⟨b, off, ha, hc⟩ := h hne
  exact ⟨b, off, ha, fun i hi => (hb.cell (p := ⟨b, off + i, none⟩) (hl hne b off ha)).trans (hc i hi)⟩
theorem row_lt {w : World} {base sz n c m : Nat} {e : TypeId} {a : Option Addr} {xs : List Value} (h : w.ownsRow base e sz (.slice a n c) n xs) (hl : ∀ k, (.slice a n c : Value).ownBlock = some k → k < m) : ∀ b o, a = some ⟨b, o, none⟩ → b < m := fun b o ha => by
  rcases h.2 with ⟨hv, _⟩ | ⟨g, cap, cur, hv, _⟩
  · simp only [Value.slice.injEq] at hv
    rw [ha] at hv
    cases hv.1
  · simp only [Value.slice.injEq] at hv
    rw [ha] at hv
    have := hv.1
    cases this
    exact hl b (by rw [ha]; rfl)
/-- Where the rows of a getting lie. -/
structure RowsLt (m : Nat) (b1 b2 a : Option Addr) (fs : List EqV) : Prop where
  l1 : ∀ b o, b1 = some ⟨b, o, none⟩ → b < m
  l2 : ∀ b o, b2 = some ⟨b, o, none⟩ → b < m
  le : ∀ b o, a = some ⟨b, o, none⟩ → b < m
  lr : ∀ f ∈ fs, ∀ b o, f.a = some ⟨b, o, none⟩ → b < m
theorem rowsLt_of {w : World} {base lo m : Nat} {ws gs : List Int} {b1 b2 : Option Addr} {d1 d2 : Nat} {a : Option Addr} {c : Nat} {fs : List EqV} (h : GetOwn w base ws gs b1 b2 d1 d2 a c fs) (hi : GIn lo m b1 b2 a ws.length gs.length d1 d2 c fs) : RowsLt m b1 b2 a fs := by
  obtain ⟨n, _, _, _, h4, h5⟩ := h.up
  exact ⟨row_lt h.o1 (fun k hk => (hi.l1 k hk).2), row_lt h.o2 (fun k hk => (hi.l2 k hk).2), row_lt h4 (fun k hk => (hi.le k hk).2), fun f hf => row_lt (h5 f hf) (fun k hk => (hi.lr f hf k hk).2)⟩
theorem mkE_addr : ∀ (fs : List EqV) (k : Nat), ∀ e ∈ mkE k fs, ∃ f ∈ fs, e.a = f.a
  | [], _, e, h => by simp [mkE] at h
  | f :: fs, k, e, h => by
    simp only [mkE, List.mem_cons] at h
    rcases h with rfl | h
    · exact ⟨f, by simp, rfl⟩
    · obtain ⟨g, hg, he⟩ := mkE_addr fs _ e h
      exact ⟨g, by simp [hg], he⟩
theorem GMk.keep {w w' : World} {k m : Nat} {b1 b2 a : Option Addr} {n1 n2 : Nat} {fs : List EqV} (h : GMk w k b1 b2 a n1 n2 fs) (hl : RowsLt m b1 b2 a fs) (hb : Below m w w') : GMk w' k b1 b2 a n1 n2 fs :=
  ⟨ints_belowN h.i1 (fun _ => hl.l1) hb, ints_belowN h.i2 (fun _ => hl.l2) hb, fun hne => by
    obtain ⟨b, off, ha, hc⟩ := h.eq hne
    have hbm := hl.le b off ha
    refine ⟨b, off, ha, fun j e hj => ?_⟩
    have h1 := hc j e hj
    obtain ⟨f, hf, he⟩ := mkE_addr fs _ e (List.mem_of_getElem? hj)
    exact ⟨(hb.cell (p := ⟨b, off + j * 2, none⟩) hbm).trans h1.c0, (hb.cell (p := ⟨b, off + j * 2 + 1, none⟩) hbm).trans h1.c1, ints_belowN h1.row (fun _ b' o' ha' => hl.lr f hf b' o' (by rw [← he]; exact ha')) hb⟩⟩
end Go.Proofs.YtbakicgdloakgaaGreatDoor
