/- A region that draws its order: reads in an order of our own, then calls that lay memory, then stores: walked once. -/
import Derived.Test.YtfciopjcbeccgaaGreatDoorG3
namespace Go.Proofs.YtfciopjcbeccgaaGreatDoor
open Go.ChangeShapes Go.WideShapes Go.ChangeAt Go.RowKit Go.Sort

def ixs : List (Nat × Nat) → List Nat
  | [] => []
  | (s, n) :: ps => List.range' s n ++ ixs ps
def cutOut (l : List Oper) : List (Nat × Nat) → List Oper
  | [] => []
  | (s, n) :: ps => (l.drop s).take n ++ cutOut l ps
/-- Those places hold those operations. -/
def Lies (ops : Array Oper) : List Nat → List Oper → Prop
  | [], [] => True
  | i :: is, o :: l => ops[i]? = some o ∧ Lies ops is l
  | _, _ => False
theorem Lies.append {ops : Array Oper} : ∀ {is : List Nat} {l : List Oper} {js : List Nat} {m : List Oper}, Lies ops is l → Lies ops js m → Lies ops (is ++ js) (l ++ m)
  | [], [], _, _, _, h => h
  | _ :: _, _ :: _, _, _, h, k => ⟨h.1, h.2.append k⟩
  | [], _ :: _, _, _, h, _ => h.elim
  | _ :: _, [], _, _, h, _ => h.elim
theorem lies_range (l : List Oper) : ∀ (n s : Nat), s + n ≤ l.length → Lies l.toArray (List.range' s n) ((l.drop s).take n)
  | 0, s, _ => by simp [Lies]
  | n + 1, s, h => by
    have hs : s < l.length := by omega
    rw [List.range'_succ, List.drop_eq_getElem_cons hs, List.take_succ_cons]
    exact ⟨by simp [List.getElem?_eq_getElem hs], lies_range l n (s + 1) (by omega)⟩
theorem lies_cut (l : List Oper) : ∀ (ps : List (Nat × Nat)), ps.all (fun p => decide (p.1 + p.2 ≤ l.length)) = true → Lies l.toArray (ixs ps) (cutOut l ps)
  | [], _ => trivial
  | (s, n) :: ps, h => by
    simp only [List.all_cons, Bool.and_eq_true, decide_eq_true_eq] at h
    exact (lies_range l n s h.1).append (lies_cut l ps h.2)
theorem lies_len {ops : Array Oper} : ∀ {is : List Nat} {l : List Oper}, Lies ops is l → is.length = l.length
  | [], [], _ => rfl
  | _ :: _, _ :: _, h => by simp [lies_len h.2]
  | [], _ :: _, h => h.elim
  | _ :: _, [], h => h.elim

def frontL (md : Region.Mode) (ops : Array Oper) (L1 : Array Bool) : List Nat → Array Bool → Bool
  | [], listed => listed == L1
  | k :: is, listed => (Region.ready md ops listed).contains k && Region.free md ops listed k && frontL md ops L1 is (listed.setIfInBounds k true)
def backL (md : Region.Mode) (ops : Array Oper) : List Nat → Array Bool → Bool
  | [], listed => Region.ready md ops listed == []
  | k :: js, listed => Region.ready md ops listed == [k] && backL md ops js (listed.setIfInBounds k true)
/-- The first n are ahead of c, the others are not. -/
def ordB (c : Nat) : Nat → List Nat → Bool
  | 0, js => js.all (fun j => decide (c ≤ j))
  | _ + 1, [] => true
  | n + 1, j :: js => decide (j < c) && ordB c n js

section
variable {P : Program} {ops : Array Oper} {md : Region.Mode} {Q : Exit → Act → World → Prop} {C : World → Prop} {c : Nat}

theorem wpMid_lexL (hs : Region.noSelect ops = true) (hQ : ∀ c a d v w, Q (.panic c) (a.put d v) w → Q (.panic c) a w)
    {L1 : Array Bool} {b : Nat} {K : Act → Prop} (hK : ∀ a w, C w → K a → wpMid P md ops Q C c b L1 a w) :
    ∀ (is : List Nat) (l : List Oper) (listed : Array Bool) (a : Act) (w : World), Lies ops is l → (∀ i ∈ is, i < c ∧ ∀ j, c ≤ j → j < ops.size → behind md ops i ops.size j = true) →
      Shut md ops listed → C w → l.all readOp = true → frontL md ops L1 is listed = true → wpQuiet P ops C K l a → wpMid P md ops Q C c (l.length + b) listed a w
  | [], [], listed, a, w, _, _, _, hw, _, hB, h => by
    have e : listed = L1 := by simpa [frontL] using hB
    rw [e, List.length_nil, Nat.zero_add]
    exact hK a w hw h
  | k :: is, o :: l, listed, a, w, hl, hpost, hsh, hw, hp, hB, h => by
    have h0 : ops[k]? = some o := hl.1
    simp only [frontL, Bool.and_eq_true] at hB
    obtain ⟨⟨hr, hf⟩, hB'⟩ := hB
    simp only [List.all_cons, Bool.and_eq_true] at hp
    have hst : qOp P ops C k (wpQuiet P ops C K l) a := by unfold qOp; simp only [h0]; exact h
    obtain ⟨v, hy, hK'⟩ := yieldsIn_of_qOp h0 hst
    have hY : YieldsIf P ops C o v a := by
      rcases hy with ⟨h1, h2⟩ | h1
      · exact .inl ⟨h1, fun w' hw' => readOp_run hp.1 _ w' (h2 w' hw')⟩
      · exact .inr h1
    have hr' : k ∈ Region.ready md ops listed := by simpa using hr
    have hc := hpost k (List.mem_cons_self ..)
    rw [show (o :: l).length + b = (l.length + b) + 1 by simp; omega]
    exact wpMid_first h0 hs hQ hc.2 hc.1 _ listed a w hsh (Region.free_spec h0 hf) hr' hY hw
      (wpMid_lexL hs hQ hK is l _ _ w hl.2 (fun i hi => hpost i (List.mem_cons_of_mem _ hi)) (hsh.set hr') hw hp.2 hB' hK')
  | [], _ :: _, _, _, _, h, _, _, _, _, _, _ => h.elim
  | _ :: _, [], _, _, _, h, _, _, _, _, _, _ => h.elim

theorem wpMid_backL : ∀ (n : Nat) (js : List Nat) (l : List Oper) (listed : Array Bool) (a : Act) (w : World), Lies ops js l → ordB c n js = true →
    backL md ops js listed = true → wpRest P ops Q C n l a w → wpMid P md ops Q C c l.length listed a w
  | n, [], [], listed, a, w, _, _, hB, h => by
    refine ⟨by simpa [backL] using hB, ?_⟩
    cases n with
    | zero => exact h
    | succ n => exact h
  | 0, k :: js, o :: l, listed, a, w, hl, ho, hB, h => by
    have h0 : ops[k]? = some o := hl.1
    simp only [backL, Bool.and_eq_true, beq_iff_eq] at hB
    simp only [ordB, List.all_cons, Bool.and_eq_true, decide_eq_true_eq] at ho
    refine ⟨fun he => (by rw [hB.1] at he; cases he), fun i hi => ?_⟩
    rw [hB.1] at hi
    obtain rfl : i = k := by simpa using hi
    unfold wpOp
    simp only [h0]
    have h' : wpList P ops Q (o :: l) a w := h
    have go : ∀ a' w', wpList P ops Q l a' w' → (i < c → C w') ∧ wpMid P md ops Q C c l.length (listed.setIfInBounds i true) a' w' := fun a' w' h2 =>
      ⟨fun hc => by omega, wpMid_backL 0 js l _ a' w' hl.2 ho.2 hB.2 h2⟩
    unfold wpList at h'
    by_cases hw : Region.wanted o (yielded ops a.tmps) = true
    · simp only [hw, if_true] at h' ⊢
      exact h'.imp (Oper.wp_mono go) id
    · simp only [hw] at h' ⊢
      exact go _ _ h'
  | n + 1, k :: js, o :: l, listed, a, w, hl, ho, hB, h => by
    have h0 : ops[k]? = some o := hl.1
    simp only [backL, Bool.and_eq_true, beq_iff_eq] at hB
    simp only [ordB, Bool.and_eq_true, decide_eq_true_eq] at ho
    refine ⟨fun he => (by rw [hB.1] at he; cases he), fun i hi => ?_⟩
    rw [hB.1] at hi
    obtain rfl : i = k := by simpa using hi
    unfold wpOp
    simp only [h0]
    have go : ∀ a' w', (C w' ∧ wpRest P ops Q C n l a' w') → (i < c → C w') ∧ wpMid P md ops Q C c l.length (listed.setIfInBounds i true) a' w' := fun a' w' h2 =>
      ⟨fun _ => h2.1, wpMid_backL n js l _ a' w' hl.2 ho.2 hB.2 h2.2⟩
    unfold wpRest at h
    by_cases hw : Region.wanted o (yielded ops a.tmps) = true
    · simp only [hw, if_true] at h ⊢
      exact .inl (Oper.wp_mono go h)
    · simp only [hw] at h ⊢
      exact go _ _ h
  | _, [], _ :: _, _, _, _, h, _, _, _ => h.elim
  | 0, _ :: _, [], _, _, _, h, _, _, _ => h.elim
  | _ + 1, _ :: _, [], _, _, _, h, _, _, _ => h.elim
end

def pickB (l : List Oper) (c n : Nat) (ps qs : List (Nat × Nat)) : Bool :=
  ps.all (fun p => decide (p.1 + p.2 ≤ l.length)) && qs.all (fun p => decide (p.1 + p.2 ≤ l.length)) && ((ixs ps).length + (ixs qs).length == l.length) && Region.noSelect l.toArray &&
    frontL .any l.toArray ((ixs ps).foldl (fun b k => b.setIfInBounds k true) (Array.replicate l.length false)) (ixs ps) (Array.replicate l.length false) && (cutOut l ps).all readOp &&
    (ixs ps).all (fun i => decide (i < c) && (List.range' c (l.length - c)).all (fun j => behind .any l.toArray i l.length j)) &&
    backL .any l.toArray (ixs qs) ((ixs ps).foldl (fun b k => b.setIfInBounds k true) (Array.replicate l.length false)) && ordB c n (ixs qs)

theorem any_pick {P : Program} {C : World → Prop} {Q : Exit → Act → World → Prop} {a : Act} {w : World} {l : List Oper} (c n : Nat) (ps qs : List (Nat × Nat)) (hB : pickB l c n ps qs = true) (hQ : ∀ c a d v w, Q (.panic c) (a.put d v) w → Q (.panic c) a w) (hC : C w)
    (h : wpQuiet P l.toArray C (fun a' => ∀ w', C w' → wpRest P l.toArray Q C n (cutOut l qs) a' w') (cutOut l ps) a) : wpAny P .any l.toArray Q l.toArray.size (Array.replicate l.toArray.size false) a w := by
  simp only [pickB, Bool.and_eq_true, beq_iff_eq] at hB
  obtain ⟨⟨⟨⟨⟨⟨⟨⟨hp, hq⟩, hlen⟩, hs⟩, hf⟩, hrd⟩, hpost⟩, hb⟩, ho⟩ := hB
  have hlp := lies_cut l ps hp
  have hlq := lies_cut l qs hq
  have h1 := wpMid_lexL (P := P) (Q := Q) (C := C) (md := .any) (ops := l.toArray) (c := c) (b := (cutOut l qs).length) hs hQ (K := fun a' => ∀ w', C w' → wpRest P l.toArray Q C n (cutOut l qs) a' w')
    (fun a' w' hw' hK => wpMid_backL n (ixs qs) (cutOut l qs) _ a' w' hlq ho hb (hK w' hw'))
    (ixs ps) (cutOut l ps) (Array.replicate l.length false) a w hlp (fun i hi => by
      have h2 := List.all_eq_true.1 hpost i hi
      simp only [Bool.and_eq_true, decide_eq_true_eq] at h2
      refine ⟨h2.1, fun j hj hjl => ?_⟩
      have hjl' : j < l.length := by simpa using hjl
      have h3 := List.all_eq_true.1 h2.2 j (List.mem_range'_1.2 ⟨hj, by omega⟩)
      simpa using h3)
    (fun k o _ hk => by simp [Array.getElem?_replicate] at hk; split at hk <;> simp_all) hC hrd hf h
  have e : (cutOut l ps).length + (cutOut l qs).length = l.length := by rw [← lies_len hlp, ← lies_len hlq]; exact hlen
  rw [e] at h1
  have h2 := wpAny_of_wpMid _ _ _ _ h1
  simpa using h2
theorem wp_pick {P : Program} {id : Nat} {Q : Exit → Act → World → Prop} {a : Act} {w : World} {l : List Oper} (c n : Nat) (ps qs : List (Nat × Nat)) (hm : P.follows .mixedOrders = true) (hB : pickB l c n ps qs = true) (hQ : ∀ c a d v w, Q (.panic c) (a.put d v) w → Q (.panic c) a w)
    (h : wpQuiet P l.toArray (fun w' => ∃ p : Regrown, w' = grow (redrawn w p.d) p.os) (fun a' => ∀ w', (∃ p : Regrown, w' = grow (redrawn w p.d) p.os) → wpRest P l.toArray Q (fun w' => ∃ p : Regrown, w' = grow (redrawn w p.d) p.os) n (cutOut l qs) a' w') (cutOut l ps) a) : (Code.region id l.toArray true).wp P Q a w :=
  wp_region_any hm (any_pick (C := fun w' => ∃ p : Regrown, w' = grow (redrawn w p.d) p.os) c n ps qs hB hQ ⟨⟨w.drawn + 1, #[]⟩, by rw [grow_empty]; rfl⟩ h)
theorem inR_pick {P : Program} {id : Nat} {Q : Exit → Act → World → Prop} {a : Act} {w : World} {l : List Oper} {r n' : Nat} (c n : Nat) (ps qs : List (Nat × Nat)) (hm : P.follows .mixedOrders = true) (hB : pickB l c n ps qs = true) (hn : l.all noDefer = true) (hQ0 : ¬ LetsOut Q) (hQ : ∀ c a d v w, Q (.panic c) (a.put d v) w → Q (.panic c) a w)
    (h : wpQuiet P l.toArray (fun w' => ∃ p : Regrown, w' = grow (redrawn w p.d) p.os) (fun a' => ∀ w', (∃ p : Regrown, w' = grow (redrawn w p.d) p.os) → wpRest P l.toArray Q (fun w' => ∃ p : Regrown, w' = grow (redrawn w p.d) p.os) n (cutOut l qs) a' w') (cutOut l ps) a) : (Code.region id l.toArray true).wpIn (Fence.wide.inRound r) n' P Q a w :=
  wpIn_region_any hm (inR_any hQ0 (nd_all hn) _ _ _ _ (any_pick (C := fun w' => ∃ p : Regrown, w' = grow (redrawn w p.d) p.os) c n ps qs hB hQ ⟨⟨w.drawn + 1, #[]⟩, by rw [grow_empty]; rfl⟩ h))
end Go.Proofs.YtfciopjcbeccgaaGreatDoor
