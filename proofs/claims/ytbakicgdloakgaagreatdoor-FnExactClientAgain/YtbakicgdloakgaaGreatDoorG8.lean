/- A region that draws its order: reads first, then what lays memory in its order, one operation (an allocation) anywhere among them, then the rest. One region with reads, calls and stores by a plan; what only reckons counts as a read. As Frp: operations that look at no memory are taken ahead of all others, whenever they come. -/
import Derived.Test.YtbakicgdloakgaaGreatDoorG7
namespace Go.Proofs.YtbakicgdloakgaaGreatDoor
open Go.ChangeShapes Go.WideShapes Go.ChangeAt Go.RowKit Go.Sort

/-- The operation at f may come at any time ahead of the rest. -/
def floatL (md : Region.Mode) (ops : Array Oper) (c f : Nat) (ts : List Nat) : List Nat → Array Bool → Bool
  | [], listed => backL md ops (f :: ts) listed && ordB c 1 (f :: ts)
  | k :: js, listed => (Region.ready md ops listed == [k, f] || Region.ready md ops listed == [f, k]) && decide (k < c) && floatL md ops c f ts js (listed.setIfInBounds k true) &&
      backL md ops (k :: js ++ ts) (listed.setIfInBounds f true) && ordB c (k :: js).length (k :: js ++ ts)

section
variable {P : Program} {ops : Array Oper} {md : Region.Mode} {Q : Exit → Act → World → Prop} {C : World → Prop} {c : Nat}

def wpRestF (P : Program) (ops : Array Oper) (Q : Exit → Act → World → Prop) (C : World → Prop) (f : Oper) (tl : List Oper) : List Oper → Act → World → Prop
  | [], a, w => wpRest P ops Q C 1 (f :: tl) a w
  | o :: js, a, w => (if Region.wanted o (yielded ops a.tmps) then o.wp P a w (fun a' w' => C w' ∧ wpRestF P ops Q C f tl js a' w') Q else C w ∧ wpRestF P ops Q C f tl js (a.put o.dst undef) w) ∧
      wpRest P ops Q C ((o :: js).length + 1) (f :: (o :: js ++ tl)) a w
theorem wpRestF_nil {f : Oper} {tl : List Oper} {a : Act} {w : World} (h : wpRest P ops Q C 1 (f :: tl) a w) : wpRestF P ops Q C f tl [] a w := h
theorem wpRestF_step {f o : Oper} {tl js : List Oper} {a : Act} {w : World} (h : ∀ K : Act → World → Prop, (∀ a' w', C w' → wpRestF P ops Q C f tl js a' w' → K a' w') → if Region.wanted o (yielded ops a.tmps) then o.wp P a w K Q else C w ∧ K (a.put o.dst undef) w)
    (k : wpRest P ops Q C ((o :: js).length + 1) (f :: (o :: js ++ tl)) a w) : wpRestF P ops Q C f tl (o :: js) a w := by
  refine ⟨?_, k⟩
  have h1 := h (fun a' w' => C w' ∧ wpRestF P ops Q C f tl js a' w') (fun _ _ k1 k2 => ⟨k1, k2⟩)
  split
  · rename_i hw; simpa only [hw, if_true] using h1
  · rename_i hw
    simp only [hw] at h1
    exact h1.2

/-- One operation, the class kept behind it. -/
theorem wpOp_rest {i n : Nat} {o : Oper} {l : List Oper} {js : List Nat} {listed : Array Bool} {a : Act} {w : World} (h0 : ops[i]? = some o) (hl : Lies ops js l) (ho : ordB c n js = true) (hB : backL md ops js (listed.setIfInBounds i true) = true)
    (h : wpRest P ops Q C (n + 1) (o :: l) a w) : wpOp P ops Q i (fun a' w' => (i < c → C w') ∧ wpMid P md ops Q C c l.length (listed.setIfInBounds i true) a' w') a w := by
  unfold wpOp
  simp only [h0]
  have go : ∀ a' w', (C w' ∧ wpRest P ops Q C n l a' w') → (i < c → C w') ∧ wpMid P md ops Q C c l.length (listed.setIfInBounds i true) a' w' := fun a' w' h2 =>
    ⟨fun _ => h2.1, wpMid_backL n js l _ a' w' hl ho hB h2.2⟩
  unfold wpRest at h
  by_cases hw : Region.wanted o (yielded ops a.tmps) = true
  · simp only [hw, if_true] at h ⊢
    exact .inl (Oper.wp_mono go h)
  · simp only [hw] at h ⊢
    exact go _ _ h

theorem wpMid_float {f : Nat} {fo : Oper} {ts : List Nat} {tl : List Oper} (hf : ops[f]? = some fo) (ht : Lies ops ts tl) :
    ∀ (js : List Nat) (l : List Oper) (listed : Array Bool) (a : Act) (w : World), Lies ops js l → floatL md ops c f ts js listed = true → wpRestF P ops Q C fo tl l a w → wpMid P md ops Q C c (l.length + 1 + tl.length) listed a w
  | [], [], listed, a, w, _, hB, h => by
    simp only [floatL, Bool.and_eq_true] at hB
    rw [show ([] : List Oper).length + 1 + tl.length = (fo :: tl).length by simp; omega]
    exact wpMid_backL 1 (f :: ts) (fo :: tl) listed a w ⟨hf, ht⟩ hB.2 hB.1 h
  | k :: js, o :: l, listed, a, w, hl, hB, h => by
    have h0 : ops[k]? = some o := hl.1
    simp only [floatL, Bool.and_eq_true, Bool.or_eq_true, beq_iff_eq, decide_eq_true_eq] at hB
    obtain ⟨⟨⟨⟨hr, hkc⟩, hfl⟩, hb⟩, ho⟩ := hB
    rw [show (o :: l).length + 1 + tl.length = (l.length + 1 + tl.length) + 1 by simp; omega]
    have hmem : ∀ i, i ∈ Region.ready md ops listed → i = k ∨ i = f := fun i hi => by
      rcases hr with hr | hr <;> rw [hr] at hi <;> simp at hi <;> omega
    have hne : Region.ready md ops listed ≠ [] := by rcases hr with hr | hr <;> rw [hr] <;> simp
    refine ⟨fun he => (hne he).elim, fun i hi => ?_⟩
    rcases hmem i hi with rfl | rfl
    · have go : ∀ a' w', (C w' ∧ wpRestF P ops Q C fo tl l a' w') → (i < c → C w') ∧ wpMid P md ops Q C c (l.length + 1 + tl.length) (listed.setIfInBounds i true) a' w' := fun a' w' h2 =>
        ⟨fun _ => h2.1, wpMid_float hf ht js l _ a' w' hl.2 hfl h2.2⟩
      have h1 := h.1
      unfold wpOp
      simp only [h0]
      by_cases hw : Region.wanted o (yielded ops a.tmps) = true
      · simp only [hw, if_true] at h1 ⊢
        exact .inl (Oper.wp_mono go h1)
      · simp only [hw] at h1 ⊢
        exact go _ _ h1
    · have e : l.length + 1 + tl.length = (o :: l ++ tl).length := by simp; omega
      rw [e]
      have elen : (k :: js).length = (o :: l).length := lies_len hl
      rw [elen] at ho
      exact wpOp_rest hf (hl.append ht) ho hb h.2
  | [], _ :: _, _, _, _, h, _, _ => h.elim
  | _ :: _, [], _, _, _, h, _, _ => h.elim
end

def floatB (l : List Oper) (c f : Nat) (ps qs rs : List (Nat × Nat)) : Bool :=
  ps.all (fun p => decide (p.1 + p.2 ≤ l.length)) && qs.all (fun p => decide (p.1 + p.2 ≤ l.length)) && rs.all (fun p => decide (p.1 + p.2 ≤ l.length)) && ((ixs ps).length + ((ixs qs).length + 1 + (ixs rs).length) == l.length) && Region.noSelect l.toArray &&
    frontL .any l.toArray ((ixs ps).foldl (fun b k => b.setIfInBounds k true) (Array.replicate l.length false)) (ixs ps) (Array.replicate l.length false) && (cutOut l ps).all readOp &&
    (ixs ps).all (fun i => decide (i < c) && (List.range' c (l.length - c)).all (fun j => behind .any l.toArray i l.length j)) &&
    floatL .any l.toArray c f (ixs rs) (ixs qs) ((ixs ps).foldl (fun b k => b.setIfInBounds k true) (Array.replicate l.length false))

theorem any_float {P : Program} {C : World → Prop} {Q : Exit → Act → World → Prop} {a : Act} {w : World} {l : List Oper} (c f : Nat) (fo : Oper) (ps qs rs : List (Nat × Nat)) (hf : l[f]? = some fo) (hB : floatB l c f ps qs rs = true) (hQ : ∀ c a d v w, Q (.panic c) (a.put d v) w → Q (.panic c) a w) (hC : C w)
    (h : wpQuiet P l.toArray C (fun a' => ∀ w', C w' → wpRestF P l.toArray Q C fo (cutOut l rs) (cutOut l qs) a' w') (cutOut l ps) a) : wpAny P .any l.toArray Q l.toArray.size (Array.replicate l.toArray.size false) a w := by
  simp only [floatB, Bool.and_eq_true, beq_iff_eq] at hB
  obtain ⟨⟨⟨⟨⟨⟨⟨⟨hp, hq⟩, hr⟩, hlen⟩, hs⟩, hfr⟩, hrd⟩, hpost⟩, hb⟩ := hB
  have hlp := lies_cut l ps hp
  have hlq := lies_cut l qs hq
  have hlr := lies_cut l rs hr
  have hf' : l.toArray[f]? = some fo := by simpa using hf
  have h1 := wpMid_lexL (P := P) (Q := Q) (C := C) (md := .any) (ops := l.toArray) (c := c) (b := (cutOut l qs).length + 1 + (cutOut l rs).length) hs hQ (K := fun a' => ∀ w', C w' → wpRestF P l.toArray Q C fo (cutOut l rs) (cutOut l qs) a' w')
    (fun a' w' hw' hK => wpMid_float hf' hlr (ixs qs) (cutOut l qs) _ a' w' hlq hb (hK w' hw'))
    (ixs ps) (cutOut l ps) (Array.replicate l.length false) a w hlp (fun i hi => by
      have h2 := List.all_eq_true.1 hpost i hi
      simp only [Bool.and_eq_true, decide_eq_true_eq] at h2
      refine ⟨h2.1, fun j hj hjl => ?_⟩
      have hjl' : j < l.length := by simpa using hjl
      have h3 := List.all_eq_true.1 h2.2 j (List.mem_range'_1.2 ⟨hj, by omega⟩)
      simpa using h3)
    (fun k o _ hk => by simp [Array.getElem?_replicate] at hk; split at hk <;> simp_all) hC hrd hfr h
  have e : (cutOut l ps).length + ((cutOut l qs).length + 1 + (cutOut l rs).length) = l.length := by rw [← lies_len hlp, ← lies_len hlq, ← lies_len hlr]; exact hlen
  rw [e] at h1
  have h2 := wpAny_of_wpMid _ _ _ _ h1
  simpa using h2
theorem wp_float {P : Program} {id : Nat} {Q : Exit → Act → World → Prop} {a : Act} {w : World} {l : List Oper} (c f : Nat) (fo : Oper) (ps qs rs : List (Nat × Nat)) (hm : P.follows .mixedOrders = true) (hf : l[f]? = some fo) (hB : floatB l c f ps qs rs = true) (hQ : ∀ c a d v w, Q (.panic c) (a.put d v) w → Q (.panic c) a w)
    (h : wpQuiet P l.toArray (fun w' => ∃ p : Regrown, w' = grow (redrawn w p.d) p.os) (fun a' => ∀ w', (∃ p : Regrown, w' = grow (redrawn w p.d) p.os) → wpRestF P l.toArray Q (fun w' => ∃ p : Regrown, w' = grow (redrawn w p.d) p.os) fo (cutOut l rs) (cutOut l qs) a' w') (cutOut l ps) a) : (Code.region id l.toArray true).wp P Q a w :=
  wp_region_any hm (any_float (C := fun w' => ∃ p : Regrown, w' = grow (redrawn w p.d) p.os) c f fo ps qs rs hf hB hQ ⟨⟨w.drawn + 1, #[]⟩, by rw [grow_empty]; rfl⟩ h)
end Go.Proofs.YtbakicgdloakgaaGreatDoor
namespace Go.Proofs.YtbakicgdloakgaaGreatDoor
open Go.ChangeShapes Go.WideShapes Go.ChangeAt Go.RowKit Go.Sort

/-- An operation that only reads, or only reckons. -/
def readOpC (o : Oper) : Bool := match o.op with | .binOp _ _ _ _ _ | .index _ _ _ | .build _ _ | .makeInterface _ _ | .slice _ _ _ _ _ | .field _ _ _ => true | _ => readOp o
theorem readOpC_run {P : Program} {o : Oper} (h : readOpC o = true) (ρ : Operand → Value) (w : World) {C : World → Prop} {v : Value} (hq : Oper.quietUpon P C w v ((execOp ρ o).run P w)) : (execOp ρ o).run P w = .ok (.value v) w := by
  by_cases hr : readOp o = true
  · exact readOp_run hr ρ w hq
  · obtain ⟨dst, op, type, pos, after, guard⟩ := o
    cases op <;> first | (exact absurd h hr) | (exact IsVal.run (IsVal.bind _ _ (fun _ => IsVal.pure _)) hq)

inductive Plz where
  | done : Plz
  | pull (ks : List (Nat × Nat)) (r : Plz) : Plz
  | step (k : Nat) (r : Plz) : Plz
  | fork (k : Nat) (r : Plz) (k' : Nat) (r' : Plz) : Plz
def Plz.size : Plz → Nat
  | .done => 0
  | .pull ks r => (ixs ks).length + r.size
  | .step _ r => r.size + 1
  | .fork _ r _ _ => r.size + 1
def setAlz (L : Array Bool) (ks : List Nat) : Array Bool := ks.foldl (fun b k => b.setIfInBounds k true) L
def plzB (md : Region.Mode) (l : List Oper) (c : Nat) : Bool → Plz → Array Bool → Bool
  | _, .done, L => Region.ready md l.toArray L == []
  | b, .pull ks r, L => b && ks.all (fun p => decide (p.1 + p.2 ≤ l.length)) && frontL md l.toArray (setAlz L (ixs ks)) (ixs ks) L && (cutOut l ks).all readOpC &&
      (ixs ks).all (fun i => decide (i < c) && (List.range' c (l.length - c)).all (fun j => behind md l.toArray i l.length j)) && plzB md l c b r (setAlz L (ixs ks))
  | b, .step k r, L => decide (k < l.length) && (Region.ready md l.toArray L == [k]) && plzB md l c (b && decide (k < c)) r (L.setIfInBounds k true)
  | b, .fork k r k' r', L => decide (k < l.length) && decide (k' < l.length) && (r.size == r'.size) && (Region.ready md l.toArray L == [k, k'] || Region.ready md l.toArray L == [k', k]) &&
      plzB md l c (b && decide (k < c)) r (L.setIfInBounds k true) && plzB md l c (b && decide (k' < c)) r' (L.setIfInBounds k' true)

section
variable {P : Program} {l : List Oper} {md : Region.Mode} {Q : Exit → Act → World → Prop} {C : World → Prop} {c : Nat}

/-- One operation; where it is ahead of c the class is kept. -/
def wpOnz (P : Program) (ops : Array Oper) (Q : Exit → Act → World → Prop) (R : Act → World → Prop) : List Oper → Act → World → Prop
  | o :: _, a, w => if Region.wanted o (yielded ops a.tmps) then o.wp P a w R Q else R (a.put o.dst undef) w
  | [], _, _ => False
def wpPlz (P : Program) (l : List Oper) (Q : Exit → Act → World → Prop) (C : World → Prop) (c : Nat) : Plz → Act → World → Prop
  | .done, a, w => Q .normal a w
  | .pull ks r, a, w => wpQuiet P l.toArray C (fun a' => wpPlz P l Q C c r a' w) (cutOut l ks) a
  | .step k r, a, w => wpOnz P l.toArray Q (fun a' w' => (k < c → C w') ∧ wpPlz P l Q C c r a' w') ((l.drop k).take 1) a w
  | .fork k r k' r', a, w => wpOnz P l.toArray Q (fun a' w' => (k < c → C w') ∧ wpPlz P l Q C c r a' w') ((l.drop k).take 1) a w ∧ wpOnz P l.toArray Q (fun a' w' => (k' < c → C w') ∧ wpPlz P l Q C c r' a' w') ((l.drop k').take 1) a w

theorem plz_done {a : Act} {w : World} (h : Q .normal a w) : wpPlz P l Q C c .done a w := h
theorem plz_pull {ks : List (Nat × Nat)} {r : Plz} {a : Act} {w : World} (h : wpQuiet P l.toArray C (fun a' => wpPlz P l Q C c r a' w) (cutOut l ks) a) : wpPlz P l Q C c (.pull ks r) a w := h
theorem plz_step {k : Nat} {r : Plz} {o : Oper} {a : Act} {w : World} (ho : l[k]? = some o) (_hk : k < c) (h : ∀ K : Act → World → Prop, (∀ a' w', C w' → wpPlz P l Q C c r a' w' → K a' w') → if Region.wanted o (yielded l.toArray a.tmps) then o.wp P a w K Q else C w ∧ K (a.put o.dst undef) w) : wpPlz P l Q C c (.step k r) a w := by
  have hd : (l.drop k).take 1 = [o] := by
    obtain ⟨hl, he⟩ := List.getElem?_eq_some_iff.1 ho
    rw [List.drop_eq_getElem_cons hl, he]; rfl
  show wpOnz P l.toArray Q _ ((l.drop k).take 1) a w
  rw [hd]
  have h1 := h (fun a' w' => (k < c → C w') ∧ wpPlz P l Q C c r a' w') (fun _ _ k1 k2 => ⟨fun _ => k1, k2⟩)
  show if Region.wanted o (yielded l.toArray a.tmps) = true then o.wp P a w _ Q else _
  by_cases hw : Region.wanted o (yielded l.toArray a.tmps) = true
  · rw [if_pos hw] at h1 ⊢
    exact h1
  · rw [if_neg hw] at h1 ⊢
    exact h1.2
theorem plz_last {k : Nat} {r : Plz} {o : Oper} {a : Act} {w : World} (ho : l[k]? = some o) (hk : ¬ k < c) (h : ∀ K : Act → World → Prop, (∀ a' w', wpPlz P l Q C c r a' w' → K a' w') → if Region.wanted o (yielded l.toArray a.tmps) then o.wp P a w K Q else K (a.put o.dst undef) w) : wpPlz P l Q C c (.step k r) a w := by
  have hd : (l.drop k).take 1 = [o] := by
    obtain ⟨hl, he⟩ := List.getElem?_eq_some_iff.1 ho
    rw [List.drop_eq_getElem_cons hl, he]; rfl
  show wpOnz P l.toArray Q _ ((l.drop k).take 1) a w
  rw [hd]
  exact h (fun a' w' => (k < c → C w') ∧ wpPlz P l Q C c r a' w') (fun _ _ k2 => ⟨fun h => absurd h hk, k2⟩)
theorem plz_fork {k k' : Nat} {r r' : Plz} {a : Act} {w : World} (h : wpPlz P l Q C c (.step k r) a w) (h' : wpPlz P l Q C c (.step k' r') a w) : wpPlz P l Q C c (.fork k r k' r') a w := ⟨h, h'⟩

theorem wpOp_onz {k : Nat} {R : Act → World → Prop} {a : Act} {w : World} (hk : k < l.length) (h : wpOnz P l.toArray Q R ((l.drop k).take 1) a w) : wpOp P l.toArray Q k R a w := by
  have h0 : l.toArray[k]? = some l[k] := by simp [hk]
  rw [List.drop_eq_getElem_cons hk, List.take_succ_cons, List.take_zero] at h
  unfold wpOnz at h
  unfold wpOp
  simp only [h0]
  by_cases hw : Region.wanted l[k] (yielded l.toArray a.tmps) = true
  · simp only [hw, if_true] at h ⊢
    exact .inl h
  · simp only [hw] at h ⊢
    exact h

theorem wpMid_lexZ (hs : Region.noSelect l.toArray = true) (hQ : ∀ c a d v w, Q (.panic c) (a.put d v) w → Q (.panic c) a w)
    {L1 : Array Bool} {b : Nat} {K : Act → Prop} {w : World} (hw : C w) (hK : ∀ a, Shut md l.toArray L1 → K a → wpMid P md l.toArray Q C c b L1 a w) :
    ∀ (is : List Nat) (m : List Oper) (listed : Array Bool) (a : Act), Lies l.toArray is m → (∀ i ∈ is, i < c ∧ ∀ j, c ≤ j → j < l.toArray.size → behind md l.toArray i l.toArray.size j = true) →
      Shut md l.toArray listed → m.all readOpC = true → frontL md l.toArray L1 is listed = true → wpQuiet P l.toArray C K m a → wpMid P md l.toArray Q C c (m.length + b) listed a w
  | [], [], listed, a, _, _, hsh, _, hB, h => by
    have e : listed = L1 := by simpa [frontL] using hB
    rw [e] at hsh ⊢
    rw [List.length_nil, Nat.zero_add]
    exact hK a hsh h
  | k :: is, o :: m, listed, a, hl, hpost, hsh, hp, hB, h => by
    have h0 : l.toArray[k]? = some o := hl.1
    simp only [frontL, Bool.and_eq_true] at hB
    obtain ⟨⟨hr, hf⟩, hB'⟩ := hB
    simp only [List.all_cons, Bool.and_eq_true] at hp
    have hst : qOp P l.toArray C k (wpQuiet P l.toArray C K m) a := by unfold qOp; simp only [h0]; exact h
    obtain ⟨v, hy, hK'⟩ := yieldsIn_of_qOp h0 hst
    have hY : YieldsIf P l.toArray C o v a := by
      rcases hy with ⟨h1, h2⟩ | h1
      · exact .inl ⟨h1, fun w' hw' => readOpC_run hp.1 _ w' (h2 w' hw')⟩
      · exact .inr h1
    have hr' : k ∈ Region.ready md l.toArray listed := by simpa using hr
    have hc := hpost k (List.mem_cons_self ..)
    rw [show (o :: m).length + b = (m.length + b) + 1 by simp; omega]
    exact wpMid_first h0 hs hQ hc.2 hc.1 _ listed a w hsh (Region.free_spec h0 hf) hr' hY hw
      (wpMid_lexZ hs hQ hw hK is m _ _ hl.2 (fun i hi => hpost i (List.mem_cons_of_mem _ hi)) (hsh.set hr') hp.2 hB' hK')
  | [], _ :: _, _, _, h, _, _, _, _, _ => h.elim
  | _ :: _, [], _, _, h, _, _, _, _, _ => h.elim

theorem wpMid_plz (hs : Region.noSelect l.toArray = true) (hQ : ∀ c a d v w, Q (.panic c) (a.put d v) w → Q (.panic c) a w) :
    ∀ (p : Plz) (b : Bool) (listed : Array Bool) (a : Act) (w : World), Shut md l.toArray listed → (b = true → C w) → plzB md l c b p listed = true → wpPlz P l Q C c p a w → wpMid P md l.toArray Q C c p.size listed a w
  | .done, _, listed, a, w, _, _, hB, h => ⟨by simpa [plzB] using hB, h⟩
  | .pull ks r, b, listed, a, w, hsh, hC, hB, h => by
    simp only [plzB, Bool.and_eq_true] at hB
    obtain ⟨⟨⟨⟨⟨hb, hks⟩, hf⟩, hrd⟩, hpost⟩, hr⟩ := hB
    have hl := lies_cut l ks hks
    have h1 := wpMid_lexZ (P := P) (md := md) (Q := Q) (C := C) (c := c) (b := r.size) hs hQ (hC hb) (K := fun a' => wpPlz P l Q C c r a' w)
      (fun a' hsh' hK => wpMid_plz hs hQ r b _ a' w hsh' hC hr hK) (ixs ks) (cutOut l ks) listed a hl (fun i hi => by
        have h2 := List.all_eq_true.1 hpost i hi
        simp only [Bool.and_eq_true, decide_eq_true_eq] at h2
        refine ⟨h2.1, fun j hj hjl => ?_⟩
        have hjl' : j < l.length := by simpa using hjl
        have h3 := List.all_eq_true.1 h2.2 j (List.mem_range'_1.2 ⟨hj, by omega⟩)
        simpa using h3) hsh hrd hf h
    rw [← lies_len hl] at h1
    exact h1
  | .step k r, b, listed, a, w, hsh, hC, hB, h => by
    simp only [plzB, Bool.and_eq_true, decide_eq_true_eq, beq_iff_eq] at hB
    obtain ⟨⟨hk, hr⟩, hB'⟩ := hB
    refine ⟨fun he => (by rw [hr] at he; cases he), fun i hi => ?_⟩
    have hi' := hi
    rw [hr] at hi'
    obtain rfl : i = k := by simpa using hi'
    exact wpOp_mono (fun a' w' h2 => ⟨h2.1, wpMid_plz hs hQ r _ _ a' w' (hsh.set hi) (fun hbk => h2.1 (by simp only [Bool.and_eq_true, decide_eq_true_eq] at hbk; exact hbk.2)) hB' h2.2⟩) (wpOp_onz hk h)
  | .fork k r k' r', b, listed, a, w, hsh, hC, hB, h => by
    simp only [plzB, Bool.and_eq_true, Bool.or_eq_true, decide_eq_true_eq, beq_iff_eq] at hB
    obtain ⟨⟨⟨⟨⟨hk, hk'⟩, hsz⟩, hr⟩, hB1⟩, hB2⟩ := hB
    refine ⟨fun he => (by rcases hr with hr | hr <;> rw [hr] at he <;> cases he), fun i hi => ?_⟩
    have hi2 : i = k ∨ i = k' := by rcases hr with hr | hr <;> rw [hr] at hi <;> simp at hi <;> omega
    by_cases hik : i = k
    · subst hik
      exact wpOp_mono (fun a' w' h2 => ⟨h2.1, wpMid_plz hs hQ r _ _ a' w' (hsh.set hi) (fun hbk => h2.1 (by simp only [Bool.and_eq_true, decide_eq_true_eq] at hbk; exact hbk.2)) hB1 h2.2⟩) (wpOp_onz hk h.1)
    · obtain rfl : i = k' := by omega
      show wpOp _ _ _ _ (fun a' w' => _ ∧ wpMid P md l.toArray Q C c r.size _ a' w') a w
      rw [hsz]
      exact wpOp_mono (fun a' w' h2 => ⟨h2.1, wpMid_plz hs hQ r' _ _ a' w' (hsh.set hi) (fun hbk => h2.1 (by simp only [Bool.and_eq_true, decide_eq_true_eq] at hbk; exact hbk.2)) hB2 h2.2⟩) (wpOp_onz hk' h.2)
end

def planzB (l : List Oper) (c : Nat) (p : Plz) : Bool := Region.noSelect l.toArray && (p.size == l.length) && plzB .any l c true p (Array.replicate l.length false)
theorem any_planz {P : Program} {C : World → Prop} {Q : Exit → Act → World → Prop} {a : Act} {w : World} {l : List Oper} (c : Nat) (p : Plz) (hB : planzB l c p = true) (hQ : ∀ c a d v w, Q (.panic c) (a.put d v) w → Q (.panic c) a w) (hC : C w)
    (h : wpPlz P l Q C c p a w) : wpAny P .any l.toArray Q l.toArray.size (Array.replicate l.toArray.size false) a w := by
  simp only [planzB, Bool.and_eq_true, beq_iff_eq] at hB
  obtain ⟨⟨hs, hsz⟩, hB⟩ := hB
  have h1 := wpMid_plz (P := P) (Q := Q) (C := C) (md := .any) hs hQ p true (Array.replicate l.length false) a w (fun k o _ hk => by simp [Array.getElem?_replicate] at hk; split at hk <;> simp_all) (fun _ => hC) hB h
  rw [hsz] at h1
  have h2 := wpAny_of_wpMid _ _ _ _ h1
  simpa using h2
/-- In the class of worlds that are grown from the region's start. -/
theorem wp_planz {P : Program} {id : Nat} {K : Act → World → Prop} {Q : Exit → Act → World → Prop} {a : Act} {w : World} {l : List Oper} (c : Nat) (p : Plz) (hm : P.follows .mixedOrders = true) (hB : planzB l c p = true)
    (h : ∀ w1, (∃ p : Regrown, w1 = grow (redrawn w p.d) p.os) → wpPlz P l (Exit.then K (fun _ _ _ => False)) (fun w' => ∃ p : Regrown, w' = grow (redrawn w p.d) p.os) c p a w1) : (Code.region id l.toArray true).wp P (Exit.then K Q) a w :=
  Code.wp_mono (fun e _ _ h => by cases e <;> first | exact h | exact h.elim) (wp_region_any (Q := Exit.then K (fun _ _ _ => False)) hm (any_planz (C := fun w' => ∃ p : Regrown, w' = grow (redrawn w p.d) p.os) c p hB (fun _ _ _ _ _ h => h.elim) ⟨⟨w.drawn + 1, #[]⟩, by rw [grow_empty]; rfl⟩ (h _ ⟨⟨w.drawn + 1, #[]⟩, by rw [grow_empty]; rfl⟩)))
end Go.Proofs.YtbakicgdloakgaaGreatDoor
namespace Go.Proofs.YtbakicgdloakgaaGreatDoor
open Go.ChangeShapes Go.WideShapes Go.ChangeAt Go.RowKit Go.Sort

section
variable {P : Program} {ops : Array Oper} {md : Region.Mode} {Q : Exit → Act → World → Prop} {C : World → Prop}

end

theorem wp_floatn {P : Program} {id : Nat} {K : Act → World → Prop} {Q : Exit → Act → World → Prop} {a : Act} {w : World} {l : List Oper} (c f : Nat) (fo : Oper) (ps qs rs : List (Nat × Nat)) (hm : P.follows .mixedOrders = true) (hf : l[f]? = some fo) (hB : floatB l c f ps qs rs = true)
    (h : wpQuiet P l.toArray (fun w' => ∃ p : Regrown, w' = grow (redrawn w p.d) p.os) (fun a' => ∀ w', (∃ p : Regrown, w' = grow (redrawn w p.d) p.os) → wpRestF P l.toArray (Exit.then K (fun _ _ _ => False)) (fun w' => ∃ p : Regrown, w' = grow (redrawn w p.d) p.os) fo (cutOut l rs) (cutOut l qs) a' w') (cutOut l ps) a) : (Code.region id l.toArray true).wp P (Exit.then K Q) a w :=
  Code.wp_mono (fun e _ _ h => by cases e <;> first | exact h | exact h.elim) (wp_float (Q := Exit.then K (fun _ _ _ => False)) c f fo ps qs rs hm hf hB (fun _ _ _ _ _ h => h.elim) h)
end Go.Proofs.YtbakicgdloakgaaGreatDoor
