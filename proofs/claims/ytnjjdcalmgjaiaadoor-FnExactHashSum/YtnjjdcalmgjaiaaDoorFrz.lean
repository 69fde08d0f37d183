/- One region with reads, calls and stores by a plan; what only reckons counts as a read. -/
import Derived.Test.YtnjjdcalmgjaiaaDoorFrq
namespace Go.Proofs.YtnjjdcalmgjaiaaDoor
open Go.ChangeShapes Go.WideShapes Go.ChangeAt Go.RowKit Go.Sort

/-- An operation that only reads, or only reckons. -/
def readOpC (o : Oper) : Bool := match o.op with | .binOp _ _ _ _ _ | .index _ _ _ | .build _ _ | .makeInterface _ _ | .slice _ _ _ _ _ | .field _ _ _ => true | _ => readOp o
theorem readOpC_run {P : Program} {o : Oper} (h : readOpC o = true) (ρ : Operand → Value) (w : World) {C : World → Prop} {v : Value} (hq : Oper.quietUpon P C w v ((execOp ρ o).run P w)) : (execOp ρ o).run P w = .ok (.value v) w := by
  by_cases hr : readOp o = true
  · exact readOp_run hr ρ w hq
  · obtain ⟨dst, op, type, pos, after, guard⟩ := o
    cases op <;> first | (exact absurd h hr) | (exact IsVal.run (IsVal.bind _ _ (fun _ => IsVal.pure _)) hq)

inductive Plz where
  | done : Plz
  | pull (ks : List (Nat × Nat)) (r : Plz) : Plz
  | step (k : Nat) (r : Plz) : Plz
  | fork (k : Nat) (r : Plz) (k' : Nat) (r' : Plz) : Plz
def Plz.size : Plz → Nat
  | .done => 0
  | .pull ks r => (ixs ks).length + r.size
  | .step _ r => r.size + 1
  | .fork _ r _ _ => r.size + 1
def setAlz (L : Array Bool) (ks : List Nat) : Array Bool := ks.foldl (fun b k => b.setIfInBounds k true) L
def plzB (md : Region.Mode) (l : List Oper) (c : Nat) : Bool → Plz → Array Bool → Bool
  | _, .done, L => Region.ready md l.toArray L == []
  | b, .pull ks r, L => b && ks.all (fun p => decide (p.1 + p.2 ≤ l.length)) && frontL md l.toArray (setAlz L (ixs ks)) (ixs ks) L && (cutOut l ks).all readOpC &&
      (ixs ks).all (fun i => decide (i < c) && (List.range' c (l.length - c)).all (fun j => behind md l.toArray i l.length j)) && plzB md l c b r (setAlz L (ixs ks))
  | b, .step k r, L => decide (k < l.length) && (Region.ready md l.toArray L == [k]) && plzB md l c (b && decide (k < c)) r (L.setIfInBounds k true)
  | b, .fork k r k' r', L => decide (k < l.length) && decide (k' < l.length) && (r.size == r'.size) && (Region.ready md l.toArray L == [k, k'] || Region.ready md l.toArray L == [k', k]) &&
      plzB md l c (b && decide (k < c)) r (L.setIfInBounds k true) && plzB md l c (b && decide (k' < c)) r' (L.setIfInBounds k' true)

section
variable {P : Program} {l : List Oper} {md : Region.Mode} {Q : Exit → Act → World → Prop} {C : World → Prop} {c : Nat}

/-- One operation; where it is ahead of c the class is kept. -/
def wpOnz (P : Program) (ops : Array Oper) (Q : Exit → Act → World → Prop) (R : Act → World → Prop) : List Oper → Act → World → Prop
  | o :: _, a, w => if Region.wanted o (yielded ops a.tmps) then o.wp P a w R Q else R (a.put o.dst undef) w
  | [], _, _ => False
def wpPlz (P : Program) (l : List Oper) (Q : Exit → Act → World → Prop) (C : World → Prop) (c : Nat) : Plz → Act → World → Prop
  | .done, a, w => Q .normal a w
  | .pull ks r, a, w => wpQuiet P l.toArray C (fun a' => wpPlz P l Q C c r a' w) (cutOut l ks) a
  | .step k r, a, w => wpOnz P l.toArray Q (fun a' w' => (k < c → C w') ∧ wpPlz P l Q C c r a' w') ((l.drop k).take 1) a w
  | .fork k r k' r', a, w => wpOnz P l.toArray Q (fun a' w' => (k < c → C w') ∧ wpPlz P l Q C c r a' w') ((l.drop k).take 1) a w ∧ wpOnz P l.toArray Q (fun a' w' => (k' < c → C w') ∧ wpPlz P l Q C c r' a' w') ((l.drop k').take 1) a w

theorem plz_done {a : Act} {w : World} (h : Q .normal a w) : wpPlz P l Q C c .done a w := h
theorem plz_pull {ks : List (Nat × Nat)} {r : Plz} {a : Act} {w : World} (h : wpQuiet P l.toArray C (fun a' => wpPlz P l Q C c r a' w) (cutOut l ks) a) : wpPlz P l Q C c (.pull ks r) a w := h
theorem plz_step {k : Nat} {r : Plz} {o : Oper} {a : Act} {w : World} (ho : l[k]? = some o) (_hk : k < c) (h : ∀ K : Act → World → Prop, (∀ a' w', C w' → wpPlz P l Q C c r a' w' → K a' w') → if Region.wanted o (yielded l.toArray a.tmps) then o.wp P a w K Q else C w ∧ K (a.put o.dst undef) w) : wpPlz P l Q C c (.step k r) a w := by
  have hd : (l.drop k).take 1 = [o] := by
    obtain ⟨hl, he⟩ := List.getElem?_eq_some_iff.1 ho
    rw [List.drop_eq_getElem_cons hl, he]; rfl
  show wpOnz P l.toArray Q _ ((l.drop k).take 1) a w
  rw [hd]
  have h1 := h (fun a' w' => (k < c → C w') ∧ wpPlz P l Q C c r a' w') (fun _ _ k1 k2 => ⟨fun _ => k1, k2⟩)
  show if Region.wanted o (yielded l.toArray a.tmps) = true then o.wp P a w _ Q else _
  by_cases hw : Region.wanted o (yielded l.toArray a.tmps) = true
  · rw [if_pos hw] at h1 ⊢
    exact h1
  · rw [if_neg hw] at h1 ⊢
    exact h1.2
theorem plz_last {k : Nat} {r : Plz} {o : Oper} {a : Act} {w : World} (ho : l[k]? = some o) (hk : ¬ k < c) (h : ∀ K : Act → World → Prop, (∀ a' w', wpPlz P l Q C c r a' w' → K a' w') → if Region.wanted o (yielded l.toArray a.tmps) then o.wp P a w K Q else K (a.put o.dst undef) w) : wpPlz P l Q C c (.step k r) a w := by
  have hd : (l.drop k).take 1 = [o] := by
    obtain ⟨hl, he⟩ := List.getElem?_eq_some_iff.1 ho
    rw [List.drop_eq_getElem_cons hl, he]; rfl
  show wpOnz P l.toArray Q _ ((l.drop k).take 1) a w
  rw [hd]
  exact h (fun a' w' => (k < c → C w') ∧ wpPlz P l Q C c r a' w') (fun _ _ k2 => ⟨fun h => absurd h hk, k2⟩)
theorem wpOp_onz {k : Nat} {R : Act → World → Prop} {a : Act} {w : World} (hk : k < l.length) (h : wpOnz P l.toArray Q R ((l.drop k).take 1) a w) : wpOp P l.toArray Q k R a w := by
  have h0 : l.toArray[k]? = some l[k] := by simp [hk]
  rw [List.drop_eq_getElem_cons hk, List.take_succ_cons, List.take_zero] at h
  unfold wpOnz at h
  unfold wpOp
  simp only [h0]
  by_cases hw : Region.wanted l[k] (yielded l.toArray a.tmps) = true
  · simp only [hw, if_true] at h ⊢
    exact .inl h
  · simp only [hw] at h ⊢
    exact h

theorem wpMid_lexZ (hs : Region.noSelect l.toArray = true) (hQ : ∀ c a d v w, Q (.panic c) (a.put d v) w → Q (.panic c) a w)
    {L1 : Array Bool} {b : Nat} {K : Act → Prop} {w : World} (hw : C w) (hK : ∀ a, Shut md l.toArray L1 → K a → wpMid P md l.toArray Q C c b L1 a w) :
    ∀ (is : List Nat) (m : List Oper) (listed : Array Bool) (a : Act), Lies l.toArray is m → (∀ i ∈ is, i < c ∧ ∀ j, c ≤ j → j < l.toArray.size → behind md l.toArray i l.toArray.size j = true) →
      Shut md l.toArray listed → m.all readOpC = true → frontL md l.toArray L1 is listed = true → wpQuiet P l.toArray C K m a → wpMid P md l.toArray Q C c (m.length + b) listed a w
  | [], [], listed, a, _, _, hsh, _, hB, h => by
    have e : listed = L1 := by simpa [frontL] using hB
    rw [e] at hsh ⊢
    rw [List.length_nil, Nat.zero_add]
    exact hK a hsh h
  | k :: is, o :: m, listed, a, hl, hpost, hsh, hp, hB, h => by
    have h0 : l.toArray[k]? = some o := hl.1
    simp only [frontL, Bool.and_eq_true] at hB
    obtain ⟨⟨hr, hf⟩, hB'⟩ := hB
    simp only [List.all_cons, Bool.and_eq_true] at hp
    have hst : qOp P l.toArray C k (wpQuiet P l.toArray C K m) a := by unfold qOp; simp only [h0]; exact h
    obtain ⟨v, hy, hK'⟩ := yieldsIn_of_qOp h0 hst
    have hY : YieldsIf P l.toArray C o v a := by
      rcases hy with ⟨h1, h2⟩ | h1
      · exact .inl ⟨h1, fun w' hw' => readOpC_run hp.1 _ w' (h2 w' hw')⟩
      · exact .inr h1
    have hr' : k ∈ Region.ready md l.toArray listed := by simpa using hr
    have hc := hpost k (List.mem_cons_self ..)
    rw [show (o :: m).length + b = (m.length + b) + 1 by simp; omega]
    exact wpMid_first h0 hs hQ hc.2 hc.1 _ listed a w hsh (Region.free_spec h0 hf) hr' hY hw
      (wpMid_lexZ hs hQ hw hK is m _ _ hl.2 (fun i hi => hpost i (List.mem_cons_of_mem _ hi)) (hsh.set hr') hp.2 hB' hK')
  | [], _ :: _, _, _, h, _, _, _, _, _ => h.elim
  | _ :: _, [], _, _, h, _, _, _, _, _ => h.elim

theorem wpMid_plz (hs : Region.noSelect l.toArray = true) (hQ : ∀ c a d v w, Q (.panic c) (a.put d v) w → Q (.panic c) a w) :
    ∀ (p : Plz) (b : Bool) (listed : Array Bool) (a : Act) (w : World), Shut md l.toArray listed → (b = true → C w) → plzB md l c b p listed = true → wpPlz P l Q C c p a w → wpMid P md l.toArray Q C c p.size listed a w
  | .done, _, listed, a, w, _, _, hB, h => ⟨by simpa [plzB] using hB, h⟩
  | .pull ks r, b, listed, a, w, hsh, hC, hB, h => by
    simp only [plzB, Bool.and_eq_true] at hB
    obtain ⟨⟨⟨⟨⟨hb, hks⟩, hf⟩, hrd⟩, hpost⟩, hr⟩ := hB
    have hl := lies_cut l ks hks
    have h1 := wpMid_lexZ (P := P) (md := md) (Q := Q) (C := C) (c := c) (b := r.size) hs hQ (hC hb) (K := fun a' => wpPlz P l Q C c r a' w)
      (fun a' hsh' hK => wpMid_plz hs hQ r b _ a' w hsh' hC hr hK) (ixs ks) (cutOut l ks) listed a hl (fun i hi => by
        have h2 := List.all_eq_true.1 hpost i hi
        simp only [Bool.and_eq_true, decide_eq_true_eq] at h2
        refine ⟨h2.1, fun j hj hjl => ?_⟩
        have hjl' : j < l.length := by simpa using hjl
        have h3 := List.all_eq_true.1 h2.2 j (List.mem_range'_1.2 ⟨hj, by omega⟩)
        simpa using h3) hsh hrd hf h
    rw [← lies_len hl] at h1
    exact h1
  | .step k r, b, listed, a, w, hsh, hC, hB, h => by
    simp only [plzB, Bool.and_eq_true, decide_eq_true_eq, beq_iff_eq] at hB
    obtain ⟨⟨hk, hr⟩, hB'⟩ := hB
    refine ⟨fun he => (by rw [hr] at he; cases he), fun i hi => ?_⟩
    have hi' := hi
    rw [hr] at hi'
    obtain rfl : i = k := by simpa using hi'
    exact wpOp_mono (fun a' w' h2 => ⟨h2.1, wpMid_plz hs hQ r _ _ a' w' (hsh.set hi) (fun hbk => h2.1 (by simp only [Bool.and_eq_true, decide_eq_true_eq] at hbk; exact hbk.2)) hB' h2.2⟩) (wpOp_onz hk h)
  | .fork k r k' r', b, listed, a, w, hsh, hC, hB, h => by
    simp only [plzB, Bool.and_eq_true, Bool.or_eq_true, decide_eq_true_eq, beq_iff_eq] at hB
    obtain ⟨⟨⟨⟨⟨hk, hk'⟩, hsz⟩, hr⟩, hB1⟩, hB2⟩ := hB
    refine ⟨fun he => (by rcases hr with hr | hr <;> rw [hr] at he <;> cases he), fun i hi => ?_⟩
    have hi2 : i = k ∨ i = k' := by rcases hr with hr | hr <;> rw [hr] at hi <;> simp at hi <;> omega
    by_cases hik : i = k
    · subst hik
      exact wpOp_mono (fun a' w' h2 => ⟨h2.1, wpMid_plz hs hQ r _ _ a' w' (hsh.set hi) (fun hbk => h2.1 (by simp only [Bool.and_eq_true, decide_eq_true_eq] at hbk; exact hbk.2)) hB1 h2.2⟩) (wpOp_onz hk h.1)
    · obtain rfl : i = k' := by omega
      show wpOp _ _ _ _ (fun a' w' => _ ∧ wpMid P md l.toArray Q C c r.size _ a' w') a w
      rw [hsz]
      exact wpOp_mono (fun a' w' h2 => ⟨h2.1, wpMid_plz hs hQ r' _ _ a' w' (hsh.set hi) (fun hbk => h2.1 (by simp only [Bool.and_eq_true, decide_eq_true_eq] at hbk; exact hbk.2)) hB2 h2.2⟩) (wpOp_onz hk' h.2)
end

def planzB (l : List Oper) (c : Nat) (p : Plz) : Bool := Region.noSelect l.toArray && (p.size == l.length) && plzB .any l c true p (Array.replicate l.length false)
theorem any_planz {P : Program} {C : World → Prop} {Q : Exit → Act → World → Prop} {a : Act} {w : World} {l : List Oper} (c : Nat) (p : Plz) (hB : planzB l c p = true) (hQ : ∀ c a d v w, Q (.panic c) (a.put d v) w → Q (.panic c) a w) (hC : C w)
    (h : wpPlz P l Q C c p a w) : wpAny P .any l.toArray Q l.toArray.size (Array.replicate l.toArray.size false) a w := by
  simp only [planzB, Bool.and_eq_true, beq_iff_eq] at hB
  obtain ⟨⟨hs, hsz⟩, hB⟩ := hB
  have h1 := wpMid_plz (P := P) (Q := Q) (C := C) (md := .any) hs hQ p true (Array.replicate l.length false) a w (fun k o _ hk => by simp [Array.getElem?_replicate] at hk; split at hk <;> simp_all) (fun _ => hC) hB h
  rw [hsz] at h1
  have h2 := wpAny_of_wpMid _ _ _ _ h1
  simpa using h2
/-- .. whatever comes behind the region. -/
theorem wp_planzQ {P : Program} {id : Nat} {Q : Exit → Act → World → Prop} {a : Act} {w : World} {l : List Oper} (c : Nat) (p : Plz) (hm : P.follows .mixedOrders = true) (hB : planzB l c p = true)
    (h : ∀ w1, (∃ p : Regrown, w1 = grow (redrawn w p.d) p.os) → wpPlz P l (Exit.then (Q .normal) (fun _ _ _ => False)) (fun w' => ∃ p : Regrown, w' = grow (redrawn w p.d) p.os) c p a w1) : (Code.region id l.toArray true).wp P Q a w :=
  Code.wp_mono (fun e _ _ h => by cases e <;> first | exact h | exact h.elim) (wp_region_any (Q := Exit.then (Q .normal) (fun _ _ _ => False)) hm (any_planz (C := fun w' => ∃ p : Regrown, w' = grow (redrawn w p.d) p.os) c p hB (fun _ _ _ _ _ h => h.elim) ⟨⟨w.drawn + 1, #[]⟩, by rw [grow_empty]; rfl⟩ (h _ ⟨⟨w.drawn + 1, #[]⟩, by rw [grow_empty]; rfl⟩)))
end Go.Proofs.YtnjjdcalmgjaiaaDoor
