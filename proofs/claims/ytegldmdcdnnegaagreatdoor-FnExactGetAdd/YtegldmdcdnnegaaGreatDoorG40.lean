/- A plan of a region (Frv) where each read is held against what the world is when it is taken; binary operations count as reads. The class in which all below a block is kept (for plans of regions: Frw). -/
import Derived.Test.YtegldmdcdnnegaaGreatDoorG39
namespace Go.Proofs.YtegldmdcdnnegaaGreatDoor
open Go.ChangeShapes Go.WideShapes Go.ChangeAt Go.RowKit Go.Sort

def readOpB (o : Oper) : Bool := match o.op with | .binOp _ _ _ _ _ => true | _ => readOp o
theorem readOpB_run {P : Program} {o : Oper} (h : readOpB o = true) (ρ : Operand → Value) (w : World) {C : World → Prop} {v : Value} (hq : Oper.quietUpon P C w v ((execOp ρ o).run P w)) : (execOp ρ o).run P w = .ok (.value v) w := by
  by_cases hr : readOp o = true
  · exact readOp_run hr ρ w hq
  · obtain ⟨dst, op, type, pos, after, guard⟩ := o
    cases op <;> first | (exact absurd h hr) | (exact IsVal.run (IsVal.bind _ _ (fun _ => IsVal.pure _)) hq)

def plrB (md : Region.Mode) (l : List Oper) : Option (List Nat) → Plm → Array Bool → Bool
  | none, .done, L => Region.ready md l.toArray L == []
  | none, .pull ks r, L => ks.all (fun p => decide (p.1 + p.2 ≤ l.length)) && frontL md l.toArray (setAll L (ixs ks)) (ixs ks) L && (cutOut l ks).all readOpB &&
      (ixs ks).all (fun i => decide (i < l.length)) && plrB md l none r (setAll L (ixs ks))
  | none, .step k r, L => decide (k < l.length) && (Region.ready md l.toArray L == [k]) && plrB md l none r (L.setIfInBounds k true)
  | none, .fork k r o, L => decide (k < l.length) && (Region.ready md l.toArray L).all (fun i => i == k || o.heads.contains i) && !(Region.ready md l.toArray L == []) && plrB md l none r (L.setIfInBounds k true) &&
      (o.size == r.size + 1) && plrB md l (some []) o L
  | some _, .step k r, L => decide (k < l.length) && plrB md l none r (L.setIfInBounds k true)
  | some _, .fork k r o, L => decide (k < l.length) && plrB md l none r (L.setIfInBounds k true) && (o.size == r.size + 1) && plrB md l (some []) o L
  | some _, _, _ => false

section
variable {P : Program} {l : List Oper} {md : Region.Mode} {Q : Exit → Act → World → Prop} {R : World → World → Prop}

def wpPlr (P : Program) (l : List Oper) (Q : Exit → Act → World → Prop) (R : World → World → Prop) : Plm → Act → World → Prop
  | .done, a, w => Q .normal a w
  | .pull ks r, a, w => wpQuiet P l.toArray (R w) (fun a' => wpPlr P l Q R r a' w) (cutOut l ks) a
  | .step k r, a, w => wpOne P l.toArray Q (fun a' w' => R w w' ∧ wpPlr P l Q R r a' w') ((l.drop k).take 1) a w
  | .fork k r o, a, w => wpOne P l.toArray Q (fun a' w' => R w w' ∧ wpPlr P l Q R r a' w') ((l.drop k).take 1) a w ∧ wpPlr P l Q R o a w

theorem plr_done {a : Act} {w : World} (h : Q .normal a w) : wpPlr P l Q R .done a w := h
theorem plr_pull {ks : List (Nat × Nat)} {r : Plm} {a : Act} {w : World} (h : wpQuiet P l.toArray (R w) (fun a' => wpPlr P l Q R r a' w) (cutOut l ks) a) : wpPlr P l Q R (.pull ks r) a w := h
theorem plr_step {k : Nat} {r : Plm} {o : Oper} {a : Act} {w : World} (ho : l[k]? = some o) (h : ∀ K : Act → World → Prop, (∀ a' w', R w w' → wpPlr P l Q R r a' w' → K a' w') → if Region.wanted o (yielded l.toArray a.tmps) then o.wp P a w K Q else K (a.put o.dst undef) w) : wpPlr P l Q R (.step k r) a w := by
  have hd : (l.drop k).take 1 = [o] := by
    obtain ⟨hl, he⟩ := List.getElem?_eq_some_iff.1 ho
    rw [List.drop_eq_getElem_cons hl, he]; rfl
  show wpOne P l.toArray Q _ ((l.drop k).take 1) a w
  rw [hd]
  exact h (fun a' w' => R w w' ∧ wpPlr P l Q R r a' w') (fun _ _ k1 k2 => ⟨k1, k2⟩)
theorem plr_fork {k : Nat} {r o : Plm} {a : Act} {w : World} (h : wpPlr P l Q R (.step k r) a w) (h' : wpPlr P l Q R o a w) : wpPlr P l Q R (.fork k r o) a w := ⟨h, h'⟩

theorem wpMid_weak {C C' : World → Prop} {c : Nat} (hC : ∀ x, C x → C' x) : ∀ (n : Nat) (listed : Array Bool) (a : Act) (w : World), wpMid P md l.toArray Q C c n listed a w → wpMid P md l.toArray Q C' c n listed a w
  | 0, _, _, _, h => h
  | n + 1, _, _, _, h => ⟨h.1, fun i hi => wpOp_mono (fun a' w' h' => ⟨fun k => hC _ (h'.1 k), wpMid_weak hC n _ a' w' h'.2⟩) (h.2 i hi)⟩

theorem wpMid_lexB {C : World → Prop} {c : Nat} (hs : Region.noSelect l.toArray = true) (hQ : ∀ c a d v w, Q (.panic c) (a.put d v) w → Q (.panic c) a w)
    {L1 : Array Bool} {b : Nat} {K : Act → Prop} {w : World} (hw : C w) (hK : ∀ a, Shut md l.toArray L1 → K a → wpMid P md l.toArray Q C c b L1 a w) :
    ∀ (is : List Nat) (m : List Oper) (listed : Array Bool) (a : Act), Lies l.toArray is m → (∀ i ∈ is, i < c ∧ ∀ j, c ≤ j → j < l.toArray.size → behind md l.toArray i l.toArray.size j = true) →
      Shut md l.toArray listed → m.all readOpB = true → frontL md l.toArray L1 is listed = true → wpQuiet P l.toArray C K m a → wpMid P md l.toArray Q C c (m.length + b) listed a w
  | [], [], listed, a, _, _, hsh, _, hB, h => by
    have e : listed = L1 := by simpa [frontL] using hB
    rw [e] at hsh ⊢
    rw [List.length_nil, Nat.zero_add]
    exact hK a hsh h
  | k :: is, o :: m, listed, a, hl, hpost, hsh, hp, hB, h => by
    have h0 : l.toArray[k]? = some o := hl.1
    simp only [frontL, Bool.and_eq_true] at hB
    obtain ⟨⟨hr, hf⟩, hB'⟩ := hB
    simp only [List.all_cons, Bool.and_eq_true] at hp
    have hst : qOp P l.toArray C k (wpQuiet P l.toArray C K m) a := by unfold qOp; simp only [h0]; exact h
    obtain ⟨v, hy, hK'⟩ := yieldsIn_of_qOp h0 hst
    have hY : YieldsIf P l.toArray C o v a := by
      rcases hy with ⟨h1, h2⟩ | h1
      · exact .inl ⟨h1, fun w' hw' => readOpB_run hp.1 _ w' (h2 w' hw')⟩
      · exact .inr h1
    have hr' : k ∈ Region.ready md l.toArray listed := by simpa using hr
    have hc := hpost k (List.mem_cons_self ..)
    rw [show (o :: m).length + b = (m.length + b) + 1 by simp; omega]
    exact wpMid_first h0 hs hQ hc.2 hc.1 _ listed a w hsh (Region.free_spec h0 hf) hr' hY hw
      (wpMid_lexB hs hQ hw hK is m _ _ hl.2 (fun i hi => hpost i (List.mem_cons_of_mem _ hi)) (hsh.set hr') hp.2 hB' hK')
  | [], _ :: _, _, _, h, _, _, _, _, _ => h.elim
  | _ :: _, [], _, _, h, _, _, _, _, _ => h.elim

mutual
theorem wpMid_plr (h0 : ∀ w, R w w) (ht : ∀ u v w, R u v → R v w → R u w) (hs : Region.noSelect l.toArray = true) (hQ : ∀ c a d v w, Q (.panic c) (a.put d v) w → Q (.panic c) a w) :
    ∀ (p : Plm) (listed : Array Bool) (a : Act) (w : World), Shut md l.toArray listed → plrB md l none p listed = true → wpPlr P l Q R p a w → wpMid P md l.toArray Q (R w) l.length p.size listed a w
  | .done, listed, a, w, _, hB, h => ⟨by simpa [plrB] using hB, h⟩
  | .pull ks r, listed, a, w, hsh, hB, h => by
    simp only [plrB, Bool.and_eq_true] at hB
    obtain ⟨⟨⟨⟨hks, hf⟩, hrd⟩, hpost⟩, hr⟩ := hB
    have hl := lies_cut l ks hks
    have h1 := wpMid_lexB (P := P) (md := md) (Q := Q) (C := R w) (c := l.length) (b := r.size) hs hQ (h0 w) (K := fun a' => wpPlr P l Q R r a' w)
      (fun a' hsh' hK => wpMid_plr h0 ht hs hQ r _ a' w hsh' hr hK) (ixs ks) (cutOut l ks) listed a hl (fun i hi => by
        have h2 := List.all_eq_true.1 hpost i hi
        refine ⟨by simpa using h2, fun j hj hjl => ?_⟩
        have hjl' : j < l.length := by simpa using hjl
        omega) hsh hrd hf h
    rw [← lies_len hl] at h1
    exact h1
  | .step k r, listed, a, w, hsh, hB, h => by
    simp only [plrB, Bool.and_eq_true, decide_eq_true_eq, beq_iff_eq] at hB
    obtain ⟨⟨hk, hr⟩, hB'⟩ := hB
    refine ⟨fun he => (by rw [hr] at he; cases he), fun i hi => ?_⟩
    have hi' := hi
    rw [hr] at hi'
    obtain rfl : i = k := by simpa using hi'
    exact wpOp_mono (fun a' w' h2 => ⟨fun _ => h2.1, wpMid_weak (ht _ _ · h2.1) _ _ _ _ (wpMid_plr h0 ht hs hQ r _ a' w' (hsh.set hi) hB' h2.2)⟩) (wpOp_one hk h)
  | .fork k r o, listed, a, w, hsh, hB, h => by
    simp only [plrB, Bool.and_eq_true, decide_eq_true_eq, beq_iff_eq, Bool.not_eq_true'] at hB
    obtain ⟨⟨⟨⟨⟨hk, hall⟩, hne⟩, hB1⟩, hsz⟩, hB2⟩ := hB
    refine ⟨fun he => (by rw [he] at hne; simp at hne), fun i hi => ?_⟩
    have h3 := List.all_eq_true.1 hall i hi
    simp only [Bool.or_eq_true, beq_iff_eq] at h3
    by_cases hik : i = k
    · subst hik
      exact wpOp_mono (fun a' w' h2 => ⟨fun _ => h2.1, wpMid_weak (ht _ _ · h2.1) _ _ _ _ (wpMid_plr h0 ht hs hQ r _ a' w' (hsh.set hi) hB1 h2.2)⟩) (wpOp_one hk h.1)
    · have h4 := wpOther_plr h0 ht hs hQ o listed a w i hsh hB2 h.2 (by simpa using h3.resolve_left hik) hi
      rw [hsz] at h4
      exact h4
theorem wpOther_plr (h0 : ∀ w, R w w) (ht : ∀ u v w, R u v → R v w → R u w) (hs : Region.noSelect l.toArray = true) (hQ : ∀ c a d v w, Q (.panic c) (a.put d v) w → Q (.panic c) a w) :
    ∀ (p : Plm) (listed : Array Bool) (a : Act) (w : World) (i : Nat), Shut md l.toArray listed → plrB md l (some []) p listed = true → wpPlr P l Q R p a w → i ∈ p.heads → i ∈ Region.ready md l.toArray listed →
      wpOp P l.toArray Q i (fun a' w' => (i < l.length → R w w') ∧ wpMid P md l.toArray Q (R w) l.length (p.size - 1) (listed.setIfInBounds i true) a' w') a w
  | .done, _, _, _, _, _, hB, _, _, _ => by simp [plrB] at hB
  | .pull _ _, _, _, _, _, _, hB, _, _, _ => by simp [plrB] at hB
  | .step k r, listed, a, w, i, hsh, hB, h, hm, hi => by
    simp only [plrB, Bool.and_eq_true, decide_eq_true_eq] at hB
    obtain rfl : i = k := by simpa [Plm.heads] using hm
    exact wpOp_mono (fun a' w' h2 => ⟨fun _ => h2.1, wpMid_weak (ht _ _ · h2.1) _ _ _ _ (wpMid_plr h0 ht hs hQ r _ a' w' (hsh.set hi) hB.2 h2.2)⟩) (wpOp_one hB.1 h)
  | .fork k r o, listed, a, w, i, hsh, hB, h, hm, hi => by
    simp only [plrB, Bool.and_eq_true, decide_eq_true_eq, beq_iff_eq] at hB
    obtain ⟨⟨⟨hk, hB1⟩, hsz⟩, hB2⟩ := hB
    by_cases hik : i = k
    · subst hik
      exact wpOp_mono (fun a' w' h2 => ⟨fun _ => h2.1, wpMid_weak (ht _ _ · h2.1) _ _ _ _ (wpMid_plr h0 ht hs hQ r _ a' w' (hsh.set hi) hB1 h2.2)⟩) (wpOp_one hk h.1)
    · have h4 := wpOther_plr h0 ht hs hQ o listed a w i hsh hB2 h.2 (by
        rcases List.mem_cons.1 (show i ∈ k :: o.heads from hm) with h5 | h5
        · exact absurd h5 hik
        · exact h5) hi
      rw [hsz] at h4
      exact h4
end
end

def plarB (l : List Oper) (p : Plm) : Bool := Region.noSelect l.toArray && (p.size == l.length) && plrB .any l none p (Array.replicate l.length false)
/-- What is pulled holds in all worlds that keep to the one where it is pulled. -/
theorem wp_plar {P : Program} {id : Nat} {K : Act → World → Prop} {Q : Exit → Act → World → Prop} {a : Act} {w : World} {l : List Oper} (R : World → World → Prop) (h0 : ∀ w, R w w) (ht : ∀ u v w, R u v → R v w → R u w) (p : Plm) (hm : P.follows .mixedOrders = true) (hB : plarB l p = true)
    (h : ∀ w1, (∃ p : Regrown, w1 = grow (redrawn w p.d) p.os) → wpPlr P l (Exit.then K (fun _ _ _ => False)) R p a w1) : (Code.region id l.toArray true).wp P (Exit.then K Q) a w := by
  simp only [plarB, Bool.and_eq_true, beq_iff_eq] at hB
  obtain ⟨⟨hs, hsz⟩, hB⟩ := hB
  have hr : ∃ p : Regrown, grow (redrawn w (w.drawn + 1)) #[] = grow (redrawn w p.d) p.os := ⟨⟨w.drawn + 1, #[]⟩, rfl⟩
  refine Code.wp_mono (fun e _ _ h => by cases e <;> first | exact h | exact h.elim) (wp_region_any (Q := Exit.then K (fun _ _ _ => False)) hm ?_)
  have h1 := wpMid_plr (P := P) (Q := Exit.then K (fun _ _ _ => False)) (R := R) (md := .any) h0 ht hs (fun _ _ _ _ _ h => h.elim) p (Array.replicate l.length false) a _ (fun k o _ hk => by simp [Array.getElem?_replicate] at hk; split at hk <;> simp_all) hB (h _ hr)
  rw [hsz] at h1
  have h2 := wpAny_of_wpMid _ _ _ _ h1
  rw [grow_empty] at h2
  rw [List.size_toArray]
  exact h2
end Go.Proofs.YtegldmdcdnnegaaGreatDoor
namespace Go.Proofs.YtegldmdcdnnegaaGreatDoor
open Go.ChangeShapes Go.WideShapes Go.ChangeAt Go.RowKit Go.Sort

structure BW (B : Nat) (w : World) where
  to : World
  kp : Below B w to
theorem bw_of {B : Nat} {w w' : World} (h : Below B w w') : ∃ q : BW B w, w' = q.to := ⟨⟨w', h⟩, rfl⟩
theorem bw_refl {B : Nat} (w : World) : ∃ q : BW B w, w = q.to := bw_of (Below.refl _ _)
theorem bw_trans {B : Nat} (u v w : World) (h : ∃ q : BW B u, v = q.to) (k : ∃ q : BW B v, w = q.to) : ∃ q : BW B u, w = q.to := by
  obtain ⟨⟨v, h⟩, rfl⟩ := h
  obtain ⟨⟨w, k⟩, rfl⟩ := k
  exact bw_of (h.trans k)
theorem bw_ne {B : Nat} (w : World) : Nonempty (BW B w) := ⟨⟨w, Below.refl _ _⟩⟩
theorem bw_cell {B : Nat} {w : World} {p : Addr} {v : Value} (h : w.cell? p = some v) (hp : p.block < B) (q : BW B w) : q.to.cell? p = some v := (q.kp.cell hp).trans h
end Go.Proofs.YtegldmdcdnnegaaGreatDoor
