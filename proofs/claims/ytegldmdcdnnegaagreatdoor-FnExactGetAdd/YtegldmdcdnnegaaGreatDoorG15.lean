/- Links put together with what is learnt, one by one: the list's memory and its values. A copy of ints, as the laws make it. -/
import Derived.Test.YtegldmdcdnnegaaGreatDoorG4
import Derived.Test.YtegldmdcdnnegaaGreatDoorG14
import Derived.Test.YtegldmdcdnnegaaGreatDoorG12
import Derived.Test.YtegldmdcdnnegaaGreatDoorG1
namespace Go.Proofs.YtegldmdcdnnegaaGreatDoor
open Go.ChangeShapes Go.WideShapes Go.ChangeAt Go.RowKit Go.Sort Go.Shelf

/-- A link's row and data, as a text. -/
def valL (l : Lk) : Vl := (l.r, strOfNums l.d)
def valsL (ls : List Lk) : List Vl := ls.map valL
theorem ptr_map : ∀ {ks ls : List Lk}, ks.map Lk.b = ls.map Lk.b → ptrOf ks = ptrOf ls
  | [], [], _ => rfl
  | [], _ :: _, h => by simp at h
  | _ :: _, [], h => by simp at h
  | k :: _, l :: _, h => by
    simp only [List.map_cons, List.cons.injEq] at h
    show some (⟨k.b, 0, none⟩ : Addr) = some ⟨l.b, 0, none⟩
    rw [h.1]
theorem ptr_drop {ks ls : List Lk} (h : ks.map Lk.b = ls.map Lk.b) (j : Nat) : ptrOf (ks.drop j) = ptrOf (ls.drop j) := ptr_map (by rw [List.map_drop, List.map_drop, h])
theorem leads_map {W : World} {ks ls : List Lk} (h : ks.map Lk.b = ls.map Lk.b) (hk : LeadsL W ks) : LeadsL W ls := fun j hj => by
  have hl : ks.length = ls.length := by simpa using congrArg List.length h
  have e : ks[j].b = ls[j].b := by
    have h1 := congrArg (fun l => l[j]?) h
    simpa [List.getElem?_eq_getElem (show j < ks.length by omega), List.getElem?_eq_getElem hj] using h1
  have h1 := hk j (by omega)
  rw [e, ptr_drop h] at h1
  exact h1
def KeepsL (ls : List Lk) (W W' : World) : Prop := LeadsL W ls → LeadsL W' ls
theorem keepsL_t {ls : List Lk} {A B C : World} (h : KeepsL ls A B) (k : KeepsL ls B C) : KeepsL ls A C := fun x => k (h x)
theorem keepsL_b {ls : List Lk} {n : Nat} (W : World) (l : Nat) (o o' : Obj) (_ : n ≤ l) (h : W.heap[l]? = some o) (hc : o.isCells = false) (_ : o.isWalk = false) : KeepsL ls W (W.putObj l o') :=
  fun hL k hk => cell_kept (hL k hk) (grownBy_putObj' W l o') (fun r e => by cases e; exact ⟨_, h, hc⟩)
/-- A link's cells are written anew: its row, its data. -/
theorem lks_mix {W : World} {base : Nat} {ks : List Lk} (h : LksAt W base ks) (hN : (ks.map Lk.b).Nodup) (x : Nat) (hx : x < ks.length) (l' : Lk) (hb : l'.b = ks[x].b) (hq : base ≤ l'.q) (hby : BytsAt W l'.q l'.d) :
    LksAt ((W.setCell ⟨ks[x].b, 0, none⟩ (.int .u32 (setI l'.r : Nat))).setCell ⟨ks[x].b, 1, none⟩ (.slice (some ⟨l'.q, 0, none⟩) l'.d.length l'.c)) base (ks.set x l') := by
  have hset : ∀ k (hk : k < ks.length), ((ks.set x l').map Lk.b) = ks.map Lk.b := fun k hk => by
    rw [List.map_set, hb]
    apply List.ext_getElem?
    intro i
    by_cases hi : x = i
    · subst hi; rw [List.getElem?_set_self (by simpa using hx)]; simp [hx]
    · rw [List.getElem?_set_ne hi]
  have hX := (h x hx).2.2.1
  have hX1 := set_block hX 0 (.int .u32 (setI l'.r : Nat))
  intro k hk
  have hk' : k < ks.length := by simpa using hk
  have hp : ptrOf ((ks.set x l').drop (k + 1)) = ptrOf (ks.drop (k + 1)) := ptr_drop (hset k hk') (k + 1)
  by_cases hkx : x = k
  · subst hkx
    rw [List.getElem_set_self, hp]
    refine ⟨by rw [hb]; exact (h x hx).1, hq, ?_, ?_⟩
    · rw [hb]
      exact set_block hX1 1 _
    · exact (hby.set_link hX _ _).set_link (x := (setI l'.r : Nat)) hX1 _ _
  · rw [List.getElem_set_ne hkx, hp]
    obtain ⟨h1, h2, h3, h4⟩ := h k hk'
    have hne : ks[k].b ≠ ks[x].b := by
      have h5 := List.pairwise_iff_getElem.1 hN
      intro e
      rcases Nat.lt_or_gt_of_ne hkx with hlt | hlt
      · exact h5 x k (by simpa using hx) (by simpa using hk') hlt (by simpa using e.symm)
      · exact h5 k x (by simpa using hk') (by simpa using hx) hlt (by simpa using e)
    exact ⟨h1, h2, set_other (set_other h3 hne _ _) hne _ _, (h4.set_link hX _ _).set_link (x := (setI l'.r : Nat)) hX1 _ _⟩
theorem mix_keep {w W : World} {bs : List Nat} (h : LkKeep w W bs) {g : Nat} {x : Int} {v1 v2 : Value} (hg : W.heap[g]? = some (.cells #[.int .u32 x, v1, v2] 130 (0, 0))) (hb : g ∈ bs) (y : Int) (u : Value) :
    LkKeep w ((W.setCell ⟨g, 0, none⟩ (.int .u32 y)).setCell ⟨g, 1, none⟩ u) bs :=
  ⟨fun k hk hn => set_other (set_other (h.1 k hk hn) (fun e => hn (by rw [e]; exact hb)) _ _) (fun e => hn (by rw [e]; exact hb)) _ _,
    fun q d hq => ((h.2 q d hq).set_link hg _ _).set_link (x := y) (set_block hg 0 _) _ _⟩
theorem mix_byts {W : World} {g : Nat} {x : Int} {v1 v2 : Value} (hg : W.heap[g]? = some (.cells #[.int .u32 x, v1, v2] 130 (0, 0))) (y : Int) (u : Value) {q : Nat} {d : List Int} (h : BytsAt W q d) :
    BytsAt ((W.setCell ⟨g, 0, none⟩ (.int .u32 y)).setCell ⟨g, 1, none⟩ u) q d := (h.set_link hg _ _).set_link (x := y) (set_block hg 0 _) _ _
theorem modify_val {α β : Type} (v : α → β) (f : β → β) (ks : List α) (x : Nat) (hx : x < ks.length) (l' : α) (h : v l' = f (v ks[x])) : (ks.set x l').map v = (ks.map v).modify x f := by
  apply List.ext_getElem?
  intro i
  rw [List.getElem?_modify, List.getElem?_map, List.getElem?_map]
  by_cases hi : x = i
  · subst hi; rw [List.getElem?_set_self hx, List.getElem?_eq_getElem hx]; simp [h]
  · rw [List.getElem?_set_ne hi]; cases ks[i]? <;> simp [hi]
theorem modify_same {α β : Type} (v : α → β) (f : β → β) (ks : List α) (x : Nat) (hx : x < ks.length) (h : f (v ks[x]) = v ks[x]) : ks.map v = (ks.map v).modify x f := by
  have := modify_val v f ks x hx ks[x] h.symm
  rwa [List.set_getElem_self] at this

/-- A link that may be put together with what is learnt: in its form, its first number not in that. -/
def GoodL (n : Nat) (s : List Int × List Int) (l : Lk) : Prop := ascB (-1) 24 l.r = true ∧ l.r ≠ [] ∧ hd l.r ∉ s.1 ∧ l.d.length = n ∧ BytesL l.d
/-- What the list is when some of its links were put together with what is learnt. -/
structure MixIs (w : World) (base n : Nat) (s : List Int × List Int) (ls : List Lk) (pre : List (Fin ls.length)) (W : World) (ks : List Lk) : Prop where
  bs : ks.map Lk.b = ls.map Lk.b
  at' : LksAt W base ks
  vals : valsL ks = atEach (mixE s) (valsL ls) pre
  good : ∀ l ∈ ks, GoodL n s l
  keep : LkKeep w W (ls.map Lk.b)
  bel : Below base w W
theorem MixIs.below {w : World} {base n : Nat} {s : List Int × List Int} {ls : List Lk} {pre : List (Fin ls.length)} {W W' : World} {ks : List Lk} (h : MixIs w base n s ls pre W ks) (hb : Below W.heap.size W W') (hw : base ≤ w.heap.size) : MixIs w base n s ls pre W' ks :=
  have hW := h.bel.size
  ⟨h.bs, h.at'.below hb, h.vals, h.good, ⟨fun g hg hn => (hb.block g (by omega)).trans (h.keep.1 g hg hn), fun q d hq => (h.keep.2 q d hq).below hb⟩, h.bel.trans (hb.mono (by omega))⟩
theorem MixIs.same {w : World} {base n : Nat} {s : List Int × List Int} {ls : List Lk} {pre : List (Fin ls.length)} {W : World} {ks : List Lk} (h : MixIs w base n s ls pre W ks) (x : Fin ls.length) (hx : x.val < ks.length) (hs : mixE s (valL ks[x.val]) = valL ks[x.val]) : MixIs w base n s ls (pre ++ [x]) W ks :=
  ⟨h.bs, h.at', by
    rw [atEach_snoc, ← h.vals]
    exact modify_same valL (mixE s) ks x.val hx hs, h.good, h.keep, h.bel⟩
theorem MixIs.step {w : World} {base n : Nat} {s : List Int × List Int} {ls : List Lk} {pre : List (Fin ls.length)} {W : World} {ks : List Lk} (h : MixIs w base n s ls pre W ks) (hN : (ls.map Lk.b).Nodup) (x : Fin ls.length) (hx : x.val < ks.length) (l' : Lk) (hb : l'.b = ks[x.val].b) (hq : base ≤ l'.q) (hby : BytsAt W l'.q l'.d)
    (hv : valL l' = mixE s (valL ks[x.val])) (hg : GoodL n s l') :
    MixIs w base n s ls (pre ++ [x]) ((W.setCell ⟨ks[x.val].b, 0, none⟩ (.int .u32 (setI l'.r : Nat))).setCell ⟨ks[x.val].b, 1, none⟩ (.slice (some ⟨l'.q, 0, none⟩) l'.d.length l'.c)) (ks.set x.val l') := by
  have hX := (h.at' x.val hx).2.2.1
  have hmem : ks[x.val].b ∈ ls.map Lk.b := by rw [← h.bs]; exact List.mem_map_of_mem (List.getElem_mem hx)
  refine ⟨?_, lks_mix h.at' (by rw [h.bs]; exact hN) x.val hx l' hb hq hby, ?_, fun l hl => ?_, mix_keep h.keep hX hmem _ _, ?_⟩
  · rw [← h.bs, List.map_set, hb]
    apply List.ext_getElem?
    intro i
    by_cases hi : x.val = i
    · rw [← hi, List.getElem?_set_self (by simpa using hx)]; simp [hx]
    · rw [List.getElem?_set_ne hi]
  · rw [atEach_snoc, ← h.vals]
    exact modify_val valL (mixE s) ks x.val hx l' hv
  · rcases List.mem_or_eq_of_mem_set hl with h1 | h1
    · exact h.good l h1
    · rw [h1]; exact hg
  · exact u_set (u_set h.bel (h.at' x.val hx).1 _ _) (h.at' x.val hx).1 _ _
theorem MixIs.own {w : World} {base n B : Nat} {s : List Int × List Int} {ls : List Lk} {pre : List (Fin ls.length)} {W W' : World} {ks : List Lk} {row : Option Nat} (h : MixIs w base n s ls pre W ks) (hg : W.grownBy W' row) (hr : ∀ r, row = some r → B ≤ r ∧ ∃ o : Obj, W.heap[r]? = some o ∧ o.isCells = false) (hw : w.heap.size ≤ B) (hb : base ≤ w.heap.size) : MixIs w base n s ls pre W' ks :=
  have hW := h.bel.size
  ⟨h.bs, fun k hk => by
    obtain ⟨h1, h2, h3, h4⟩ := h.at' k hk
    exact ⟨h1, h2, own_blk h3 hg hr, h4.own hg (fun r e => (hr r e).2)⟩, h.vals, h.good,
    ⟨fun g hgl hn => (hg.block g (by omega) (fun e => by have := (hr g e.symm).1; omega)).trans (h.keep.1 g hgl hn), fun q d hq => (h.keep.2 q d hq).own hg (fun r e => (hr r e).2)⟩,
    h.bel.grown hg (by omega) (fun k e => by have := (hr k e).1; omega)⟩
theorem MixIs.leads {w : World} {base n : Nat} {s : List Int × List Int} {ls : List Lk} {pre : List (Fin ls.length)} {W : World} {ks : List Lk} (h : MixIs w base n s ls pre W ks) : LeadsL W ls := leads_map h.bs h.at'.leads
theorem MixIs.start {w W : World} {base n : Nat} {s : List Int × List Int} {ls : List Lk} (hL : LksAt w base ls) (hg : ∀ l ∈ ls, GoodL n s l) (hb : Below w.heap.size w W) (hw : base ≤ w.heap.size) : MixIs w base n s ls [] W ls :=
  ⟨rfl, hL.below hb, rfl, hg, LkKeep.of_below hb _, hb.mono hw⟩
/-- What is learnt of a link that it meets. -/
theorem good_mix {n : Nat} {s : List Int × List Int} {l : Lk} (h : GoodL n s l) (hs : ascB (-1) 24 s.1 = true) (hs0 : s.1 ≠ []) (hn : s.2.length = n) (hin : hd s.1 ∈ l.r) (b q c : Nat) :
    GoodL n s ⟨b, xorM l.r s.1, q, c, xorL l.d s.2⟩ ∧ valL ⟨b, xorM l.r s.1, q, c, xorL l.d s.2⟩ = mixE s (valL l) := by
  obtain ⟨h1, h2, h3, h4, h5⟩ := h
  have hm := mix_facts (s := s) (k := valL l) hs h1 hs0 h2 h3
  have e : mixE s (valL l) = (xorM l.r s.1, strOfNums (xorL l.d s.2)) := by
    show (if hd s.1 ∈ l.r then (xorM l.r s.1, strOfNums (xorL (numsOf (strOfNums l.d)) s.2)) else valL l) = _
    rw [if_pos hin, show numsOf (strOfNums l.d) = l.d from nums_str h5]
  rw [e] at hm
  refine ⟨⟨hm.2.2.1, hm.1, ?_, ?_, xorL_bytes _ _⟩, e.symm⟩
  · show hd (xorM l.r s.1) ∉ s.1
    rw [hm.2.1]; exact h3
  · show (xorL l.d s.2).length = n
    rw [xorL_len _ _ (by omega)]; exact h4
theorem good_not {s : List Int × List Int} {l : Lk} (hin : hd s.1 ∉ l.r) : mixE s (valL l) = valL l := by
  show (if hd s.1 ∈ l.r then _ else valL l) = valL l
  rw [if_neg hin]
theorem insL_vals {a : Lk} : ∀ {ks : List Lk}, valsL (insL a ks) = insE (valL a) (valsL ks)
  | [] => rfl
  | k :: ks => by
    show valsL (if hd a.r < hd k.r then a :: k :: ks else k :: insL a ks) = if hd a.r < hd k.r then valL a :: valL k :: valsL ks else valL k :: insE (valL a) (valsL ks)
    split
    · rfl
    · show valL k :: valsL (insL a ks) = _
      rw [insL_vals]
theorem blk_ne {W : World} {a b : Nat} {c1 c2 : Array Value} {t1 t2 : TypeId} {z1 z2 : Nat × Nat} (h1 : W.heap[a]? = some (.cells c1 t1 z1)) (h2 : W.heap[b]? = some (.cells c2 t2 z2)) (h : t1 ≠ t2) : a ≠ b := by
  rintro rfl
  rw [h1] at h2
  cases h2
  exact h rfl
theorem atEach_all' {α : Type} {n : Nat} (f : α → α) (xs : List α) (h : xs.length = n) : atEach f xs (List.finRange n) = xs.map f := by
  subst h; exact atEach_all f xs
theorem LksAt.own {W W' : World} {base B : Nat} {ks : List Lk} {row : Option Nat} (h : LksAt W base ks) (hg : W.grownBy W' row) (hr : ∀ r, row = some r → B ≤ r ∧ ∃ o : Obj, W.heap[r]? = some o ∧ o.isCells = false) : LksAt W' base ks := fun k hk => by
  obtain ⟨h1, h2, h3, h4⟩ := h k hk
  exact ⟨h1, h2, own_blk h3 hg hr, h4.own hg (fun r e => (hr r e).2)⟩
theorem LkKeep.own {w W W' : World} {B : Nat} {bs : List Nat} {row : Option Nat} (h : LkKeep w W bs) (hg : W.grownBy W' row) (hr : ∀ r, row = some r → B ≤ r ∧ ∃ o : Obj, W.heap[r]? = some o ∧ o.isCells = false) (hw : w.heap.size ≤ B) (hW : w.heap.size ≤ W.heap.size) : LkKeep w W' bs :=
  ⟨fun g hgl hn => (hg.block g (by omega) (fun e => by have := (hr g e.symm).1; omega)).trans (h.1 g hgl hn), fun q d hq => (h.2 q d hq).own hg (fun r e => (hr r e).2)⟩
theorem lks_setsb {w : World} {base sb : Nat} {ks : List Lk} {x : Int} {v1 v2 : Value} (h : LksAt w base ks) (hs : w.heap[sb]? = some (.cells #[.int .i64 x, v1, v2] 55 (0, 0))) (i : Nat) (u : Value) : LksAt (w.setCell ⟨sb, i, none⟩ u) base ks := fun k hk => by
  obtain ⟨h1, h2, h3, h4⟩ := h k hk
  exact ⟨h1, h2, set_other h3 (blk_ne h3 hs (by decide)) _ _, h4.set_any (box_cell hs 0 (v := .int .i64 x) rfl) (fun _ => by simp) _ _⟩
theorem lks_setbx {w : World} {base sb : Nat} {ks : List Lk} {x : Int} {cs : Array Value} {ct : TypeId} (h : LksAt w base ks) (hs : w.heap[sb]? = some (.cells cs ct (0, 0))) (h0 : cs[0]? = some (.int .i64 x)) (i : Nat) (u : Value) : LksAt (w.setCell ⟨sb, i, none⟩ u) base ks := fun k hk => by
  obtain ⟨h1, h2, h3, h4⟩ := h k hk
  exact ⟨h1, h2, set_other h3 (fun e => by have e1 := box_cell hs 0 h0; rw [← e, box_cell h3 0 (v := .int .u32 (setI ks[k].r : Nat)) rfl] at e1; cases e1) _ _, h4.set_any (box_cell hs 0 h0) (fun _ => by simp) _ _⟩
theorem insL_nodup {a : Lk} : ∀ {ks : List Lk}, (a.b :: ks.map Lk.b).Nodup → ((insL a ks).map Lk.b).Nodup
  | [], _ => by simp [insL]
  | k :: ks, h => by
    unfold insL
    split
    · exact h
    · simp only [List.map_cons, List.nodup_cons, List.mem_cons, not_or] at h ⊢
      obtain ⟨⟨h1, h2⟩, h3, h4⟩ := h
      refine ⟨fun hm => ?_, insL_nodup (by simp only [List.nodup_cons]; exact ⟨h2, h4⟩)⟩
      obtain ⟨l, hl, e⟩ := List.mem_map.1 hm
      rcases insL_mem hl with rfl | hl2
      · exact h1 e
      · exact h3 (by rw [← e]; exact List.mem_map_of_mem hl2)
theorem LkKeep.below {w w' : World} {bs : List Nat} {base : Nat} (h : LkKeep w w' bs) (h0 : Below 0 w w') (hb : ∀ b ∈ bs, base ≤ b) (hw : base ≤ w.heap.size) : Below base w w' :=
  ⟨h0.os, h0.tape, h0.output, h0.size, fun k hk => h.1 k (by omega) (fun hm => by have := hb k hm; omega)⟩
theorem Tab.keep {w W : World} {ls : List Lk} {base : Nat} (h : Tab w) (hL : LksAt w base ls) (hk : LkKeep w W (ls.map Lk.b)) : Tab W := fun i hi => by
  have h0 := block_lt_of_cell (h i hi)
  refine (World.cell?_of_block (w := w) (a := ⟨1, i, none⟩) (hk.1 _ h0 (fun hm => ?_))).trans (h i hi)
  obtain ⟨l, hl, e⟩ := List.mem_map.1 hm
  obtain ⟨k, hk, rfl⟩ := List.getElem_of_mem hl
  have h1 := box_cell (hL k hk).2.2.1 0 (v := .int .u32 (setI ls[k].r : Nat)) rfl
  rw [e, h 0 (by omega)] at h1
  cases h1
theorem foldL_bytes : ∀ {ls : List Lk} {s : List Int × List Int}, BytesL s.2 → BytesL (ls.foldl stepL s).2
  | [], _, h => h
  | l :: ls, s, h => foldL_bytes (ls := ls) (s := stepL s l) (by
      unfold stepL
      split
      · exact xorL_bytes _ _
      · exact h)
end Go.Proofs.YtegldmdcdnnegaaGreatDoor
namespace Go.Proofs.YtegldmdcdnnegaaGreatDoor
open Go.ChangeShapes Go.WideShapes Go.ChangeAt Go.RowKit

set_option maxRecDepth 100000 in
set_option maxHeartbeats 1000000 in
theorem toIntS_any (a : Option Addr) (cap : Nat) (xs : List Int) (w : World) (ha : IntsAt w a xs) (hx : xs.length ≤ 1048576) :
    Calls Tryz.prog 44 #[.slice a xs.length cap] w fun e w' => ∃ v, e = .returned v ∧ w'.ownsRow w.heap.size 3 1 v xs.length (xs.map (Value.int .i64)) ∧ Below w.heap.size w w' := by
  obtain ⟨i0, hi, hz0, hz1, hz2⟩ := info_parts Tryz.info3
  go_enter Tryz.func44, Tryz.ntmps44
  go_wp2_with (at_make; refine wpList_make_full _ rfl _ _ 22 rfl w.heap.size 3 i0 (.int .i64 0) 1 Tryz.underlying22 hi hz0 hz1 _ _ _ _ xs.length rfl rfl rfl rfl (by rw [hz2]; omega) (by unfold maxLen; omega) (Nat.le_refl _) ?_; intro w1 hown1 hgr1)
  have hb1 : Below w.heap.size w w1 := (Below.refl _ _).grown hgr1 (Nat.le_refl _) (fun k hk => by simp at hk)
  rw [made_ints] at hown1
  have HO : Hid _ := hown1
  clear hown1 hgr1
  go_loopw [4] (fun i wr => ∃ k : Nat, k ≤ xs.length ∧ i = .int .i64 k ∧ wr.ownsRow w.heap.size 3 1 (.slice (some ⟨w.heap.size, 0, none⟩) xs.length xs.length) xs.length ((xs.take k ++ List.replicate (xs.length - k) (0 : Int)).map (Value.int .i64)) ∧ Below w.heap.size w wr) (fun i _ => xs.length - (intOf i).toNat)
  case atStart => exact ⟨0, Nat.zero_le _, rfl, HO.out, hb1⟩
  case round =>
    obtain ⟨k, hk, rfl, hown, hnx⟩ := hrel
    by_cases hlt : k < xs.length
    · obtain ⟨b, off, rfl, hc⟩ := ha (by intro h; simp [h] at hlt)
      have hck := hc k hlt
      have hck' := (hnx.cell (p := ⟨b, off + k, none⟩) (block_lt_of_cell hck)).trans hck
      have hcell := hown.cellAt k (by omega)
      have hf := hown.frozenAt k
      obtain ⟨u, hu⟩ : ∃ u, wr.cell? ⟨w.heap.size, k, none⟩ = some u := by
        rw [hcell]; exact ⟨_, List.getElem?_eq_getElem (by simp; omega)⟩
      have HST : Hid _ := hown.stored k (.int .i64 (xs.getD k 0))
      obtain ⟨X, hX⟩ : ∃ X, X = xs.getD k 0 := ⟨_, rfl⟩
      rw [← hX] at hck'
      have HX : Hid _ := hX
      clear hcell hown hck hc hX
      go_wp2
      go_roundw
      case rel =>
        refine ⟨k + 1, by omega, by go_num, ?_, hnx.setCell (Nat.le_refl _) _⟩
        have h1 := HST.out.1
        rw [← copy_set xs k hlt, List.map_set]
        rw [← HX.out] at h1 ⊢
        exact h1
      case measure => simp [intOf]; omega
    · obtain rfl : k = xs.length := by omega
      have HW : Hid _ := hown
      clear hown
      go_wp2
      go_ret
      refine ⟨_, rfl, ?_, hnx⟩
      have := HW.out
      rw [List.take_length, Nat.sub_self, List.replicate_zero, List.append_nil] at this
      exact this
end Go.Proofs.YtegldmdcdnnegaaGreatDoor
