/- What is said of a row is the same, wherever equations lie. What is known behind an equation that was learnt: values alone. The links with another one at its place: by the program. A solver copied by the model. An equation learnt by the program: where nothing of its row is left. What an equation that is learnt makes of what is known: values alone. Links put together with what is learnt, one by one: the list's memory and its values. -/
import Derived.Test.YtbakicgdloakgaaGreatDoorG24
import Derived.Test.YtbakicgdloakgaaGreatDoorG28
import Derived.Test.YtbakicgdloakgaaGreatDoorG22
import Derived.Test.YtbakicgdloakgaaGreatDoorG12
import Derived.Test.YtbakicgdloakgaaGreatDoorG27
import Derived.Test.YtbakicgdloakgaaGreatDoorG23
import Derived.Test.YtbakicgdloakgaaGreatDoorG3
import Derived.Test.YtbakicgdloakgaaGreatDoorG17
import Derived.Test.YtbakicgdloakgaaGreatDoorG13
namespace Go.Proofs.YtbakicgdloakgaaGreatDoor
open Go.ChangeShapes Go.WideShapes Go.ChangeAt Go.RowKit Go.Sort Go.Shelf

theorem owns_cap {w : World} {base : Nat} {e : TypeId} {a : Option Addr} {n m cap : Nat} {xs : List Value} (h : w.ownsRow base e 1 (.slice a m cap) n xs) : a = none → cap = 0 := by
  intro ha
  subst ha
  rcases h.2 with ⟨hv, -⟩ | ⟨g, cap', cur, hv, -⟩
  · cases hv; rfl
  · cases hv
end Go.Proofs.YtbakicgdloakgaaGreatDoor
namespace Go.Proofs.YtbakicgdloakgaaGreatDoor
open Go.ChangeShapes Go.WideShapes Go.ChangeAt Go.RowKit Go.Sort Go.Shelf

/-- A row and its data. -/
abbrev Vl := List Int × ByteArray
/-- Put together with what is learnt, where that one's first number is in the row. -/
def mixE (s : List Int × List Int) (k : Vl) : Vl := if hd s.1 ∈ k.1 then (xorM k.1 s.1, strOfNums (xorL (numsOf k.2) s.2)) else k
/-- In its form, by values. -/
def okV (c z : Int) (ks : List Vl) : Prop := (∀ k ∈ ks, ascB (-1) c k.1 = true ∧ (k.2.size : Int) = z ∧ k.1 ≠ []) ∧ ks.Pairwise (fun a b => fit1 a.1 b.1)
end Go.Proofs.YtbakicgdloakgaaGreatDoor
namespace Go.Proofs.YtbakicgdloakgaaGreatDoor
open Go.ChangeShapes Go.WideShapes Go.ChangeAt Go.RowKit Go.Sort Go.Shelf
attribute [local go_sem] Oper.semAt_some

/-- A link by itself: where it leads is left open. -/
def LkIs (w : World) (base : Nat) (l : Lk) (p : Option Addr) : Prop := base ≤ l.b ∧ base ≤ l.q ∧
  w.heap[l.b]? = some (.cells #[.int .u32 (setI l.r : Nat), .slice (some ⟨l.q, 0, none⟩) l.d.length l.c, .pointer p] 140 (0, 0)) ∧ BytsAt w l.q l.d
theorem BytsAt.set_link {w : World} {q : Nat} {d : List Int} {g : Nat} {x : Int} {v1 v2 : Value} (h : BytsAt w q d) (hg : w.heap[g]? = some (.cells #[.int .u32 x, v1, v2] 140 (0, 0))) (i : Nat) (u : Value) : BytsAt (w.setCell ⟨g, i, none⟩ u) q d := by
  by_cases hq : q = g
  · subst hq
    refine ⟨by rw [show (w.setCell ⟨q, i, none⟩ u).heap.size = w.heap.size by simp [World.setCell]]; exact h.1, fun j hj => ?_⟩
    have h0 := h.2 0 (by omega)
    rw [box_cell hg 0 (v := .int .u32 x) rfl] at h0
    cases h0
  · exact h.set hq i u
theorem LkIs.set {w : World} {base : Nat} {l : Lk} {p : Option Addr} (h : LkIs w base l p) {g : Nat} {x : Int} {v1 v2 : Value} (hg : w.heap[g]? = some (.cells #[.int .u32 x, v1, v2] 140 (0, 0))) (hne : l.b ≠ g) (u : Value) : LkIs (w.setCell ⟨g, 2, none⟩ u) base l p :=
  ⟨h.1, h.2.1, set_other h.2.2.1 hne _ _, h.2.2.2.set_link hg _ _⟩
theorem LkIs.next {w : World} {base : Nat} {l : Lk} {p : Option Addr} (h : LkIs w base l p) (p' : Option Addr) : LkIs (w.setCell ⟨l.b, 2, none⟩ (.pointer p')) base l p' :=
  ⟨h.1, h.2.1, by have := set_block h.2.2.1 2 (.pointer p'); simpa using this, h.2.2.2.set_link h.2.2.1 _ _⟩
theorem LkIs.below {w w' : World} {base : Nat} {l : Lk} {p : Option Addr} (h : LkIs w base l p) (hb : Below w.heap.size w w') : LkIs w' base l p := ⟨h.1, h.2.1, kept h.2.2.1 hb, h.2.2.2.below hb⟩
/-- What is left as it was: all blocks but those of some links; all bytes. -/
def LkKeep (w w' : World) (bs : List Nat) : Prop := (∀ g, g < w.heap.size → g ∉ bs → w'.heap[g]? = w.heap[g]?) ∧ (∀ q d, BytsAt w q d → BytsAt w' q d)
theorem LkKeep.set {w w' : World} {bs : List Nat} (h : LkKeep w w' bs) {g : Nat} {x : Int} {v1 v2 : Value} (hg : w'.heap[g]? = some (.cells #[.int .u32 x, v1, v2] 140 (0, 0))) (hb : g ∈ bs) (u : Value) : LkKeep w (w'.setCell ⟨g, 2, none⟩ u) bs :=
  ⟨fun k hk hn => set_other (h.1 k hk hn) (fun e => hn (by rw [e]; exact hb)) _ _, fun q d hq => (h.2 q d hq).set_link hg _ _⟩
theorem LkKeep.trans {a b c : World} {bs cs : List Nat} (h : LkKeep a b bs) (k : LkKeep b c cs) (hs : a.heap.size ≤ b.heap.size) (hc : ∀ x ∈ cs, x ∈ bs) : LkKeep a c bs :=
  ⟨fun g hg hn => (k.1 g (by omega) (fun h2 => hn (hc g h2))).trans (h.1 g hg hn), fun q d hq => k.2 q d (h.2 q d hq)⟩
end Go.Proofs.YtbakicgdloakgaaGreatDoor
namespace Go.Proofs.YtbakicgdloakgaaGreatDoor
open Go.ChangeShapes Go.WideShapes Go.ChangeAt Go.RowKit Go.Sort Go.Shelf
attribute [local go_sem] Oper.semAt_some

end Go.Proofs.YtbakicgdloakgaaGreatDoor
namespace Go.Proofs.YtbakicgdloakgaaGreatDoor
open Go.ChangeShapes Go.WideShapes Go.ChangeAt Go.RowKit Go.Sort Go.Shelf
attribute [local go_sem] Oper.semAt_some

end Go.Proofs.YtbakicgdloakgaaGreatDoor
namespace Go.Proofs.YtbakicgdloakgaaGreatDoor
open Go.ChangeShapes Go.WideShapes Go.ChangeAt Go.RowKit Go.Sort Go.Shelf

end Go.Proofs.YtbakicgdloakgaaGreatDoor
namespace Go.Proofs.YtbakicgdloakgaaGreatDoor
open Go.ChangeShapes Go.WideShapes Go.ChangeAt Go.RowKit Go.Sort Go.Shelf

/-- A link's row and data, as a text. -/
def valL (l : Lk) : Vl := (l.r, strOfNums l.d)
def valsL (ls : List Lk) : List Vl := ls.map valL
theorem ptr_map : ∀ {ks ls : List Lk}, ks.map Lk.b = ls.map Lk.b → ptrOf ks = ptrOf ls
  | [], [], _ => rfl
  | [], _ :: _, h => by simp at h
  | _ :: _, [], h => by simp at h
  | k :: _, l :: _, h => by
    simp only [List.map_cons, List.cons.injEq] at h
    show some (⟨k.b, 0, none⟩ : Addr) = some ⟨l.b, 0, none⟩
    rw [h.1]
theorem ptr_drop {ks ls : List Lk} (h : ks.map Lk.b = ls.map Lk.b) (j : Nat) : ptrOf (ks.drop j) = ptrOf (ls.drop j) := ptr_map (by rw [List.map_drop, List.map_drop, h])
theorem leads_map {W : World} {ks ls : List Lk} (h : ks.map Lk.b = ls.map Lk.b) (hk : LeadsL W ks) : LeadsL W ls := fun j hj => by
  have hl : ks.length = ls.length := by simpa using congrArg List.length h
  have e : ks[j].b = ls[j].b := by
    have h1 := congrArg (fun l => l[j]?) h
    simpa [List.getElem?_eq_getElem (show j < ks.length by omega), List.getElem?_eq_getElem hj] using h1
  have h1 := hk j (by omega)
  rw [e, ptr_drop h] at h1
  exact h1
/-- A link's cells are written anew: its row, its data. -/
theorem lks_mix {W : World} {base : Nat} {ks : List Lk} (h : LksAt W base ks) (hN : (ks.map Lk.b).Nodup) (x : Nat) (hx : x < ks.length) (l' : Lk) (hb : l'.b = ks[x].b) (hq : base ≤ l'.q) (hby : BytsAt W l'.q l'.d) :
    LksAt ((W.setCell ⟨ks[x].b, 0, none⟩ (.int .u32 (setI l'.r : Nat))).setCell ⟨ks[x].b, 1, none⟩ (.slice (some ⟨l'.q, 0, none⟩) l'.d.length l'.c)) base (ks.set x l') := by
  have hset : ∀ k (hk : k < ks.length), ((ks.set x l').map Lk.b) = ks.map Lk.b := fun k hk => by
    rw [List.map_set, hb]
    apply List.ext_getElem?
    intro i
    by_cases hi : x = i
    · subst hi; rw [List.getElem?_set_self (by simpa using hx)]; simp [hx]
    · rw [List.getElem?_set_ne hi]
  have hX := (h x hx).2.2.1
  have hX1 := set_block hX 0 (.int .u32 (setI l'.r : Nat))
  intro k hk
  have hk' : k < ks.length := by simpa using hk
  have hp : ptrOf ((ks.set x l').drop (k + 1)) = ptrOf (ks.drop (k + 1)) := ptr_drop (hset k hk') (k + 1)
  by_cases hkx : x = k
  · subst hkx
    rw [List.getElem_set_self, hp]
    refine ⟨by rw [hb]; exact (h x hx).1, hq, ?_, ?_⟩
    · rw [hb]
      exact set_block hX1 1 _
    · exact (hby.set_link hX _ _).set_link (x := (setI l'.r : Nat)) hX1 _ _
  · rw [List.getElem_set_ne hkx, hp]
    obtain ⟨h1, h2, h3, h4⟩ := h k hk'
    have hne : ks[k].b ≠ ks[x].b := by
      have h5 := List.pairwise_iff_getElem.1 hN
      intro e
      rcases Nat.lt_or_gt_of_ne hkx with hlt | hlt
      · exact h5 x k (by simpa using hx) (by simpa using hk') hlt (by simpa using e.symm)
      · exact h5 k x (by simpa using hk') (by simpa using hx) hlt (by simpa using e)
    exact ⟨h1, h2, set_other (set_other h3 hne _ _) hne _ _, (h4.set_link hX _ _).set_link (x := (setI l'.r : Nat)) hX1 _ _⟩
theorem mix_keep {w W : World} {bs : List Nat} (h : LkKeep w W bs) {g : Nat} {x : Int} {v1 v2 : Value} (hg : W.heap[g]? = some (.cells #[.int .u32 x, v1, v2] 140 (0, 0))) (hb : g ∈ bs) (y : Int) (u : Value) :
    LkKeep w ((W.setCell ⟨g, 0, none⟩ (.int .u32 y)).setCell ⟨g, 1, none⟩ u) bs :=
  ⟨fun k hk hn => set_other (set_other (h.1 k hk hn) (fun e => hn (by rw [e]; exact hb)) _ _) (fun e => hn (by rw [e]; exact hb)) _ _,
    fun q d hq => ((h.2 q d hq).set_link hg _ _).set_link (x := y) (set_block hg 0 _) _ _⟩
theorem modify_val {α β : Type} (v : α → β) (f : β → β) (ks : List α) (x : Nat) (hx : x < ks.length) (l' : α) (h : v l' = f (v ks[x])) : (ks.set x l').map v = (ks.map v).modify x f := by
  apply List.ext_getElem?
  intro i
  rw [List.getElem?_modify, List.getElem?_map, List.getElem?_map]
  by_cases hi : x = i
  · subst hi; rw [List.getElem?_set_self hx, List.getElem?_eq_getElem hx]; simp [h]
  · rw [List.getElem?_set_ne hi]; cases ks[i]? <;> simp [hi]
theorem modify_same {α β : Type} (v : α → β) (f : β → β) (ks : List α) (x : Nat) (hx : x < ks.length) (h : f (v ks[x]) = v ks[x]) : ks.map v = (ks.map v).modify x f := by
  have := modify_val v f ks x hx ks[x] h.symm
  rwa [List.set_getElem_self] at this

/-- A link that may be put together with what is learnt: in its form, its first number not in that. -/
def GoodL (n : Nat) (s : List Int × List Int) (l : Lk) : Prop := ascB (-1) 24 l.r = true ∧ l.r ≠ [] ∧ hd l.r ∉ s.1 ∧ l.d.length = n ∧ BytesL l.d
/-- What the list is when some of its links were put together with what is learnt. -/
structure MixIs (w : World) (base n : Nat) (s : List Int × List Int) (ls : List Lk) (pre : List (Fin ls.length)) (W : World) (ks : List Lk) : Prop where
  bs : ks.map Lk.b = ls.map Lk.b
  at' : LksAt W base ks
  vals : valsL ks = atEach (mixE s) (valsL ls) pre
  good : ∀ l ∈ ks, GoodL n s l
  keep : LkKeep w W (ls.map Lk.b)
  bel : Below base w W
theorem MixIs.below {w : World} {base n : Nat} {s : List Int × List Int} {ls : List Lk} {pre : List (Fin ls.length)} {W W' : World} {ks : List Lk} (h : MixIs w base n s ls pre W ks) (hb : Below W.heap.size W W') (hw : base ≤ w.heap.size) : MixIs w base n s ls pre W' ks :=
  have hW := h.bel.size
  ⟨h.bs, h.at'.below hb, h.vals, h.good, ⟨fun g hg hn => (hb.block g (by omega)).trans (h.keep.1 g hg hn), fun q d hq => (h.keep.2 q d hq).below hb⟩, h.bel.trans (hb.mono (by omega))⟩
theorem MixIs.same {w : World} {base n : Nat} {s : List Int × List Int} {ls : List Lk} {pre : List (Fin ls.length)} {W : World} {ks : List Lk} (h : MixIs w base n s ls pre W ks) (x : Fin ls.length) (hx : x.val < ks.length) (hs : mixE s (valL ks[x.val]) = valL ks[x.val]) : MixIs w base n s ls (pre ++ [x]) W ks :=
  ⟨h.bs, h.at', by
    rw [atEach_snoc, ← h.vals]
    exact modify_same valL (mixE s) ks x.val hx hs, h.good, h.keep, h.bel⟩
theorem MixIs.step {w : World} {base n : Nat} {s : List Int × List Int} {ls : List Lk} {pre : List (Fin ls.length)} {W : World} {ks : List Lk} (h : MixIs w base n s ls pre W ks) (hN : (ls.map Lk.b).Nodup) (x : Fin ls.length) (hx : x.val < ks.length) (l' : Lk) (hb : l'.b = ks[x.val].b) (hq : base ≤ l'.q) (hby : BytsAt W l'.q l'.d)
    (hv : valL l' = mixE s (valL ks[x.val])) (hg : GoodL n s l') :
    MixIs w base n s ls (pre ++ [x]) ((W.setCell ⟨ks[x.val].b, 0, none⟩ (.int .u32 (setI l'.r : Nat))).setCell ⟨ks[x.val].b, 1, none⟩ (.slice (some ⟨l'.q, 0, none⟩) l'.d.length l'.c)) (ks.set x.val l') := by
  have hX := (h.at' x.val hx).2.2.1
  have hmem : ks[x.val].b ∈ ls.map Lk.b := by rw [← h.bs]; exact List.mem_map_of_mem (List.getElem_mem hx)
  refine ⟨?_, lks_mix h.at' (by rw [h.bs]; exact hN) x.val hx l' hb hq hby, ?_, fun l hl => ?_, mix_keep h.keep hX hmem _ _, ?_⟩
  · rw [← h.bs, List.map_set, hb]
    apply List.ext_getElem?
    intro i
    by_cases hi : x.val = i
    · rw [← hi, List.getElem?_set_self (by simpa using hx)]; simp [hx]
    · rw [List.getElem?_set_ne hi]
  · rw [atEach_snoc, ← h.vals]
    exact modify_val valL (mixE s) ks x.val hx l' hv
  · rcases List.mem_or_eq_of_mem_set hl with h1 | h1
    · exact h.good l h1
    · rw [h1]; exact hg
  · exact u_set (u_set h.bel (h.at' x.val hx).1 _ _) (h.at' x.val hx).1 _ _
theorem MixIs.own {w : World} {base n B : Nat} {s : List Int × List Int} {ls : List Lk} {pre : List (Fin ls.length)} {W W' : World} {ks : List Lk} {row : Option Nat} (h : MixIs w base n s ls pre W ks) (hg : W.grownBy W' row) (hr : ∀ r, row = some r → B ≤ r ∧ ∃ o : Obj, W.heap[r]? = some o ∧ o.isCells = false) (hw : w.heap.size ≤ B) (hb : base ≤ w.heap.size) : MixIs w base n s ls pre W' ks :=
  have hW := h.bel.size
  ⟨h.bs, fun k hk => by
    obtain ⟨h1, h2, h3, h4⟩ := h.at' k hk
    exact ⟨h1, h2, own_blk h3 hg hr, h4.own hg (fun r e => (hr r e).2)⟩, h.vals, h.good,
    ⟨fun g hgl hn => (hg.block g (by omega) (fun e => by have := (hr g e.symm).1; omega)).trans (h.keep.1 g hgl hn), fun q d hq => (h.keep.2 q d hq).own hg (fun r e => (hr r e).2)⟩,
    h.bel.grown hg (by omega) (fun k e => by have := (hr k e).1; omega)⟩
theorem MixIs.leads {w : World} {base n : Nat} {s : List Int × List Int} {ls : List Lk} {pre : List (Fin ls.length)} {W : World} {ks : List Lk} (h : MixIs w base n s ls pre W ks) : LeadsL W ls := leads_map h.bs h.at'.leads
theorem LksAt.own {W W' : World} {base B : Nat} {ks : List Lk} {row : Option Nat} (h : LksAt W base ks) (hg : W.grownBy W' row) (hr : ∀ r, row = some r → B ≤ r ∧ ∃ o : Obj, W.heap[r]? = some o ∧ o.isCells = false) : LksAt W' base ks := fun k hk => by
  obtain ⟨h1, h2, h3, h4⟩ := h k hk
  exact ⟨h1, h2, own_blk h3 hg hr, h4.own hg (fun r e => (hr r e).2)⟩
theorem LkKeep.own {w W W' : World} {B : Nat} {bs : List Nat} {row : Option Nat} (h : LkKeep w W bs) (hg : W.grownBy W' row) (hr : ∀ r, row = some r → B ≤ r ∧ ∃ o : Obj, W.heap[r]? = some o ∧ o.isCells = false) (hw : w.heap.size ≤ B) (hW : w.heap.size ≤ W.heap.size) : LkKeep w W' bs :=
  ⟨fun g hgl hn => (hg.block g (by omega) (fun e => by have := (hr g e.symm).1; omega)).trans (h.1 g hgl hn), fun q d hq => (h.2 q d hq).own hg (fun r e => (hr r e).2)⟩
theorem LkKeep.below {w w' : World} {bs : List Nat} {base : Nat} (h : LkKeep w w' bs) (h0 : Below 0 w w') (hb : ∀ b ∈ bs, base ≤ b) (hw : base ≤ w.heap.size) : Below base w w' :=
  ⟨h0.os, h0.tape, h0.output, h0.size, fun k hk => h.1 k (by omega) (fun hm => by have := hb k hm; omega)⟩
theorem Tab.keep {w W : World} {ls : List Lk} {base : Nat} (h : Tab w) (hL : LksAt w base ls) (hk : LkKeep w W (ls.map Lk.b)) : Tab W := fun i hi => by
  have h0 := block_lt_of_cell (h i hi)
  refine (World.cell?_of_block (w := w) (a := ⟨0, i, none⟩) (hk.1 _ h0 (fun hm => ?_))).trans (h i hi)
  obtain ⟨l, hl, e⟩ := List.mem_map.1 hm
  obtain ⟨k, hk, rfl⟩ := List.getElem_of_mem hl
  have h1 := box_cell (hL k hk).2.2.1 0 (v := .int .u32 (setI ls[k].r : Nat)) rfl
  rw [e, h 0 (by omega)] at h1
  cases h1
end Go.Proofs.YtbakicgdloakgaaGreatDoor
