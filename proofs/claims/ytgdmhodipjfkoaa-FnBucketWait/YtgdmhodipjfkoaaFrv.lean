/- A plan of a region (Fru) over any class of worlds, with forks of three. -/
import Derived.Test.YtgdmhodipjfkoaaFru
namespace Go.Proofs.Ytgdmhodipjfkoaa
open Go.ChangeShapes Go.WideShapes Go.ChangeAt Go.RowKit Go.Sort

inductive Plm where
  | done : Plm
  | pull (ks : List (Nat × Nat)) (r : Plm) : Plm
  | step (k : Nat) (r : Plm) : Plm
  | fork (k : Nat) (r : Plm) (o : Plm) : Plm
/-- A step, or a fork of steps: what is ready, in this order. -/
def Plm.size : Plm → Nat
  | .done => 0
  | .pull ks r => (ixs ks).length + r.size
  | .step _ r => r.size + 1
  | .fork _ r _ => r.size + 1
/-- The steps that a fork offers. -/
def Plm.heads : Plm → List Nat
  | .step k _ => [k]
  | .fork k _ o => k :: o.heads
  | _ => []
def plmB (md : Region.Mode) (l : List Oper) (c : Nat) : Bool → Option (List Nat) → Plm → Array Bool → Bool
  | _, none, .done, L => Region.ready md l.toArray L == []
  | b, none, .pull ks r, L => b && ks.all (fun p => decide (p.1 + p.2 ≤ l.length)) && frontL md l.toArray (setAll L (ixs ks)) (ixs ks) L && (cutOut l ks).all readOp &&
      (ixs ks).all (fun i => decide (i < c) && (List.range' c (l.length - c)).all (fun j => behind md l.toArray i l.length j)) && plmB md l c b none r (setAll L (ixs ks))
  | b, none, .step k r, L => decide (k < l.length) && (Region.ready md l.toArray L == [k]) && plmB md l c (b && decide (k < c)) none r (L.setIfInBounds k true)
  | b, none, .fork k r o, L => decide (k < l.length) && (Region.ready md l.toArray L).all (fun i => i == k || o.heads.contains i) && !(Region.ready md l.toArray L == []) && plmB md l c (b && decide (k < c)) none r (L.setIfInBounds k true) &&
      (o.size == r.size + 1) && plmB md l c b (some []) o L
  | b, some _, .step k r, L => decide (k < l.length) && plmB md l c (b && decide (k < c)) none r (L.setIfInBounds k true)
  | b, some _, .fork k r o, L => decide (k < l.length) && plmB md l c (b && decide (k < c)) none r (L.setIfInBounds k true) && (o.size == r.size + 1) && plmB md l c b (some []) o L
  | _, some _, _, _ => false

section
variable {P : Program} {l : List Oper} {md : Region.Mode} {Q : Exit → Act → World → Prop} {C : World → Prop} {c : Nat}

def wpPlm (P : Program) (l : List Oper) (Q : Exit → Act → World → Prop) (C : World → Prop) (c : Nat) : Plm → Act → World → Prop
  | .done, a, w => Q .normal a w
  | .pull ks r, a, w => wpQuiet P l.toArray C (fun a' => wpPlm P l Q C c r a' w) (cutOut l ks) a
  | .step k r, a, w => wpOne P l.toArray Q (fun a' w' => (k < c → C w') ∧ wpPlm P l Q C c r a' w') ((l.drop k).take 1) a w
  | .fork k r o, a, w => wpOne P l.toArray Q (fun a' w' => (k < c → C w') ∧ wpPlm P l Q C c r a' w') ((l.drop k).take 1) a w ∧ wpPlm P l Q C c o a w

theorem plm_done {a : Act} {w : World} (h : Q .normal a w) : wpPlm P l Q C c .done a w := h
theorem plm_pull {ks : List (Nat × Nat)} {r : Plm} {a : Act} {w : World} (h : wpQuiet P l.toArray C (fun a' => wpPlm P l Q C c r a' w) (cutOut l ks) a) : wpPlm P l Q C c (.pull ks r) a w := h
theorem plm_step {k : Nat} {r : Plm} {o : Oper} {a : Act} {w : World} (ho : l[k]? = some o) (h : ∀ K : Act → World → Prop, (∀ a' w', C w' → wpPlm P l Q C c r a' w' → K a' w') → if Region.wanted o (yielded l.toArray a.tmps) then o.wp P a w K Q else C w ∧ K (a.put o.dst undef) w) : wpPlm P l Q C c (.step k r) a w := by
  have hd : (l.drop k).take 1 = [o] := by
    obtain ⟨hl, he⟩ := List.getElem?_eq_some_iff.1 ho
    rw [List.drop_eq_getElem_cons hl, he]; rfl
  show wpOne P l.toArray Q _ ((l.drop k).take 1) a w
  rw [hd]
  have h1 := h (fun a' w' => (k < c → C w') ∧ wpPlm P l Q C c r a' w') (fun _ _ k1 k2 => ⟨fun _ => k1, k2⟩)
  show if Region.wanted o (yielded l.toArray a.tmps) = true then o.wp P a w _ Q else _
  by_cases hw : Region.wanted o (yielded l.toArray a.tmps) = true
  · rw [if_pos hw] at h1 ⊢
    exact h1
  · rw [if_neg hw] at h1 ⊢
    exact h1.2
theorem plm_last {k : Nat} {r : Plm} {o : Oper} {a : Act} {w : World} (ho : l[k]? = some o) (hk : ¬ k < c) (h : ∀ K : Act → World → Prop, (∀ a' w', wpPlm P l Q C c r a' w' → K a' w') → if Region.wanted o (yielded l.toArray a.tmps) then o.wp P a w K Q else K (a.put o.dst undef) w) : wpPlm P l Q C c (.step k r) a w := by
  have hd : (l.drop k).take 1 = [o] := by
    obtain ⟨hl, he⟩ := List.getElem?_eq_some_iff.1 ho
    rw [List.drop_eq_getElem_cons hl, he]; rfl
  show wpOne P l.toArray Q _ ((l.drop k).take 1) a w
  rw [hd]
  exact h (fun a' w' => (k < c → C w') ∧ wpPlm P l Q C c r a' w') (fun _ _ k2 => ⟨fun h => absurd h hk, k2⟩)
theorem plm_fork {k : Nat} {r o : Plm} {a : Act} {w : World} (h : wpPlm P l Q C c (.step k r) a w) (h' : wpPlm P l Q C c o a w) : wpPlm P l Q C c (.fork k r o) a w := ⟨h, h'⟩

mutual
theorem wpMid_plm (hs : Region.noSelect l.toArray = true) (hQ : ∀ c a d v w, Q (.panic c) (a.put d v) w → Q (.panic c) a w) :
    ∀ (p : Plm) (b : Bool) (listed : Array Bool) (a : Act) (w : World), Shut md l.toArray listed → (b = true → C w) → plmB md l c b none p listed = true → wpPlm P l Q C c p a w → wpMid P md l.toArray Q C c p.size listed a w
  | .done, _, listed, a, w, _, _, hB, h => ⟨by simpa [plmB] using hB, h⟩
  | .pull ks r, b, listed, a, w, hsh, hC, hB, h => by
    simp only [plmB, Bool.and_eq_true] at hB
    obtain ⟨⟨⟨⟨⟨hb, hks⟩, hf⟩, hrd⟩, hpost⟩, hr⟩ := hB
    have hl := lies_cut l ks hks
    have h1 := wpMid_lexW (P := P) (md := md) (Q := Q) (C := C) (c := c) (b := r.size) hs hQ (hC hb) (K := fun a' => wpPlm P l Q C c r a' w)
      (fun a' hsh' hK => wpMid_plm hs hQ r b _ a' w hsh' hC hr hK) (ixs ks) (cutOut l ks) listed a hl (fun i hi => by
        have h2 := List.all_eq_true.1 hpost i hi
        simp only [Bool.and_eq_true, decide_eq_true_eq] at h2
        refine ⟨h2.1, fun j hj hjl => ?_⟩
        have hjl' : j < l.length := by simpa using hjl
        have h3 := List.all_eq_true.1 h2.2 j (List.mem_range'_1.2 ⟨hj, by omega⟩)
        simpa using h3) hsh hrd hf h
    rw [← lies_len hl] at h1
    exact h1
  | .step k r, b, listed, a, w, hsh, hC, hB, h => by
    simp only [plmB, Bool.and_eq_true, decide_eq_true_eq, beq_iff_eq] at hB
    obtain ⟨⟨hk, hr⟩, hB'⟩ := hB
    refine ⟨fun he => (by rw [hr] at he; cases he), fun i hi => ?_⟩
    have hi' := hi
    rw [hr] at hi'
    obtain rfl : i = k := by simpa using hi'
    exact wpOp_mono (fun a' w' h2 => ⟨h2.1, wpMid_plm hs hQ r _ _ a' w' (hsh.set hi) (fun hbk => h2.1 (by simp only [Bool.and_eq_true, decide_eq_true_eq] at hbk; exact hbk.2)) hB' h2.2⟩) (wpOp_one hk h)
  | .fork k r o, b, listed, a, w, hsh, hC, hB, h => by
    simp only [plmB, Bool.and_eq_true, decide_eq_true_eq, beq_iff_eq, Bool.not_eq_true'] at hB
    obtain ⟨⟨⟨⟨⟨hk, hall⟩, hne⟩, hB1⟩, hsz⟩, hB2⟩ := hB
    refine ⟨fun he => (by rw [he] at hne; simp at hne), fun i hi => ?_⟩
    have h3 := List.all_eq_true.1 hall i hi
    simp only [Bool.or_eq_true, beq_iff_eq] at h3
    by_cases hik : i = k
    · subst hik
      exact wpOp_mono (fun a' w' h2 => ⟨h2.1, wpMid_plm hs hQ r _ _ a' w' (hsh.set hi) (fun hbk => h2.1 (by simp only [Bool.and_eq_true, decide_eq_true_eq] at hbk; exact hbk.2)) hB1 h2.2⟩) (wpOp_one hk h.1)
    · have h4 := wpOther_plm hs hQ o b listed a w i hsh hC hB2 h.2 (by simpa using h3.resolve_left hik) hi
      rw [hsz] at h4
      exact h4
theorem wpOther_plm (hs : Region.noSelect l.toArray = true) (hQ : ∀ c a d v w, Q (.panic c) (a.put d v) w → Q (.panic c) a w) :
    ∀ (p : Plm) (b : Bool) (listed : Array Bool) (a : Act) (w : World) (i : Nat), Shut md l.toArray listed → (b = true → C w) → plmB md l c b (some []) p listed = true → wpPlm P l Q C c p a w → i ∈ p.heads → i ∈ Region.ready md l.toArray listed →
      wpOp P l.toArray Q i (fun a' w' => (i < c → C w') ∧ wpMid P md l.toArray Q C c (p.size - 1) (listed.setIfInBounds i true) a' w') a w
  | .done, _, _, _, _, _, _, _, hB, _, _, _ => by simp [plmB] at hB
  | .pull _ _, _, _, _, _, _, _, _, hB, _, _, _ => by simp [plmB] at hB
  | .step k r, b, listed, a, w, i, hsh, hC, hB, h, hm, hi => by
    simp only [plmB, Bool.and_eq_true, decide_eq_true_eq] at hB
    obtain rfl : i = k := by simpa [Plm.heads] using hm
    exact wpOp_mono (fun a' w' h2 => ⟨h2.1, wpMid_plm hs hQ r _ _ a' w' (hsh.set hi) (fun hbk => h2.1 (by simp only [Bool.and_eq_true, decide_eq_true_eq] at hbk; exact hbk.2)) hB.2 h2.2⟩) (wpOp_one hB.1 h)
  | .fork k r o, b, listed, a, w, i, hsh, hC, hB, h, hm, hi => by
    simp only [plmB, Bool.and_eq_true, decide_eq_true_eq, beq_iff_eq] at hB
    obtain ⟨⟨⟨hk, hB1⟩, hsz⟩, hB2⟩ := hB
    by_cases hik : i = k
    · subst hik
      exact wpOp_mono (fun a' w' h2 => ⟨h2.1, wpMid_plm hs hQ r _ _ a' w' (hsh.set hi) (fun hbk => h2.1 (by simp only [Bool.and_eq_true, decide_eq_true_eq] at hbk; exact hbk.2)) hB1 h2.2⟩) (wpOp_one hk h.1)
    · have h4 := wpOther_plm hs hQ o b listed a w i hsh hC hB2 h.2 (by
        rcases List.mem_cons.1 (show i ∈ k :: o.heads from hm) with h5 | h5
        · exact absurd h5 hik
        · exact h5) hi
      rw [hsz] at h4
      exact h4
end
end

def plamB (l : List Oper) (c : Nat) (p : Plm) : Bool := Region.noSelect l.toArray && (p.size == l.length) && plmB .any l c true none p (Array.replicate l.length false)
/-- In any class that the region's start lies in. -/
theorem wp_plam {P : Program} {id : Nat} {K : Act → World → Prop} {Q : Exit → Act → World → Prop} {a : Act} {w : World} {l : List Oper} (C : World → Prop) (c : Nat) (p : Plm) (hm : P.follows .mixedOrders = true) (hB : plamB l c p = true)
    (hC : ∀ w1, (∃ p : Regrown, w1 = grow (redrawn w p.d) p.os) → C w1)
    (h : ∀ w1, (∃ p : Regrown, w1 = grow (redrawn w p.d) p.os) → wpPlm P l (Exit.then K (fun _ _ _ => False)) C c p a w1) : (Code.region id l.toArray true).wp P (Exit.then K Q) a w := by
  simp only [plamB, Bool.and_eq_true, beq_iff_eq] at hB
  obtain ⟨⟨hs, hsz⟩, hB⟩ := hB
  have hr : ∃ p : Regrown, grow (redrawn w (w.drawn + 1)) #[] = grow (redrawn w p.d) p.os := ⟨⟨w.drawn + 1, #[]⟩, rfl⟩
  refine Code.wp_mono (fun e _ _ h => by cases e <;> first | exact h | exact h.elim) (wp_region_any (Q := Exit.then K (fun _ _ _ => False)) hm ?_)
  have h1 := wpMid_plm (P := P) (Q := Exit.then K (fun _ _ _ => False)) (C := C) (md := .any) hs (fun _ _ _ _ _ h => h.elim) p true (Array.replicate l.length false) a _ (fun k o _ hk => by simp [Array.getElem?_replicate] at hk; split at hk <;> simp_all) (fun _ => hC _ hr) hB (h _ hr)
  rw [hsz] at h1
  have h2 := wpAny_of_wpMid _ _ _ _ h1
  rw [grow_empty] at h2
  rw [List.size_toArray]
  exact h2
end Go.Proofs.Ytgdmhodipjfkoaa
