/- A region that draws its order: first reads and calls in any order, then, behind all of them, the stores in order: walked once. -/
import Derived.Test.YtfciopjcbeccgaaGreatDoorG0
namespace Go.Proofs.YtfciopjcbeccgaaGreatDoor
open Go.ChangeShapes Go.WideShapes Go.ChangeAt Go.RowKit Go.Sort

section
variable {P : Program} {ops : Array Oper} {md : Region.Mode} {C : World → Prop} {L1 : Array Bool} {K : Act → Prop} {m : Nat}

/-- Whatever order comes, till all that reads is done. -/
def wpFront (P : Program) (md : Region.Mode) (ops : Array Oper) (C : World → Prop) (L1 : Array Bool) (K : Act → Prop) : Nat → Array Bool → Act → Prop
  | 0, listed, a => listed = L1 ∧ K a
  | fuel + 1, listed, a => (∃ i, i ∈ Region.ready md ops listed) ∧ ∀ i ∈ Region.ready md ops listed, qOp P ops C i (wpFront P md ops C L1 K fuel (listed.setIfInBounds i true)) a

theorem unready {i j : Nat} {listed : Array Bool} (hi : i ∈ Region.ready md ops listed) (hj : j ∈ Region.ready md ops listed) {oj : Oper} (hoj : ops[j]? = some oj) :
    ∀ e ∈ oj.after, Region.binds md e = true → e.on ≠ i := by
  intro e he hb heq
  obtain ⟨_, o, ho, hall⟩ := mem_ready.1 hj
  rw [hoj] at ho
  cases ho
  have h1 := hall e he hb
  have h0 := (mem_ready.1 hi).1
  rw [heq] at h1
  by_cases h' : i < listed.size
  · simp [h'] at h0 h1; rw [h0] at h1; cases h1
  · simp [Array.getElem?_eq_none (Nat.le_of_not_lt h')] at h1

theorem wpFront_first (hL : ∀ j, j < m → L1.getD j true = true) (hpost : ∀ (j : Nat) (oj : Oper), m ≤ j → ops[j]? = some oj → ∀ i, i < m → ∃ e ∈ oj.after, Region.binds md e = true ∧ e.on = i)
    {i : Nat} {oi : Oper} {v : Value} (hi : ops[i]? = some oi) (him : i < m) (hsel : ∀ (j : Nat) (o : Oper) cs b, ops[j]? = some o → o.op ≠ .select cs b) :
    ∀ (fuel : Nat) (listed : Array Bool) (a : Act),
      (∀ j oj, ops[j]? = some oj → j ≠ i → listed.getD j true = false → (∀ e ∈ oj.after, Region.binds md e = true → e.on ≠ i) → oi.apart ops oj = true) →
      i ∈ Region.ready md ops listed → YieldsIn P ops C oi v a →
      wpFront P md ops C L1 K fuel (listed.setIfInBounds i true) (a.put oi.dst v) → wpFront P md ops C L1 K (fuel + 1) listed a
  | 0, listed, a, _, hr, hy, H => by
    refine ⟨⟨i, hr⟩, fun j hj => ?_⟩
    by_cases hji : j = i
    · subst hji; exact hy.qOp hi H
    · exfalso
      obtain ⟨hju, oj, hoj, _⟩ := mem_ready.1 hj
      by_cases hjm : j < m
      · have h1 := hL j hjm
        rw [← H.1, getD_set_ne true (Ne.symm hji)] at h1
        rw [h1] at hju; cases hju
      · obtain ⟨e, he, hb, hon⟩ := hpost j oj (by omega) hoj i him
        exact unready hr hj hoj e he hb hon
  | fuel + 1, listed, a, hfree, hr, hy, H => by
    refine ⟨⟨i, hr⟩, fun j hj => ?_⟩
    by_cases hji : j = i
    · subst hji; exact hy.qOp hi H
    · have h1 := H.2 j (ready_mono hj hji)
      obtain ⟨hjun, oj, hoj, _⟩ := mem_ready.1 hj
      have h2 := qOp_put hoj (hfree j oj hoj hji hjun (unready hr hj hoj)) (fun cs b => hsel i oi cs b hi) (fun cs b => hsel j oj cs b hoj) hy h1
      refine qOp_mono (fun a' h3 => wpFront_first hL hpost hi him hsel fuel (listed.setIfInBounds j true) a' ?_ (ready_mono hr (Ne.symm hji)) h3.1 ?_) h2
      · intro k ok hk hki hun hno
        refine hfree k ok hk hki ?_ hno
        by_cases hjk : j = k
        · subst hjk; exact hjun
        · rwa [getD_set_ne true hjk] at hun
      · rw [Array.setIfInBounds_comm _ _ hji]
        exact h3.2

def frontFrom (md : Region.Mode) (ops : Array Oper) (L1 : Array Bool) : Nat → Nat → Array Bool → Bool
  | 0, _, listed => listed == L1
  | fuel + 1, k, listed => (Region.ready md ops listed).contains k && Region.free md ops listed k && frontFrom md ops L1 fuel (k + 1) (listed.setIfInBounds k true)

theorem wpFront_lex (hL : ∀ j, j < m → L1.getD j true = true) (hpost : ∀ (j : Nat) (oj : Oper), m ≤ j → ops[j]? = some oj → ∀ i, i < m → ∃ e ∈ oj.after, Region.binds md e = true ∧ e.on = i) (hs : Region.noSelect ops = true) :
    ∀ (l : List Oper) (k : Nat) (listed : Array Bool) (a : Act), k + l.length = m → (∀ j, j < l.length → l[j]? = ops[k + j]?) →
      frontFrom md ops L1 l.length k listed = true → wpQuiet P ops C K l a → wpFront P md ops C L1 K l.length listed a
  | [], _, listed, _, _, _, hB, h => ⟨by simpa [frontFrom] using hB, h⟩
  | o :: l, k, listed, a, hk, hl, hB, h => by
    have h0 : ops[k]? = some o := by simpa using (hl 0 (by simp)).symm
    simp only [List.length_cons, frontFrom, Bool.and_eq_true] at hB
    obtain ⟨⟨hr, hf⟩, hB'⟩ := hB
    have hst : qOp P ops C k (wpQuiet P ops C K l) a := by unfold qOp; simp only [h0]; exact h
    obtain ⟨v, hy, hK⟩ := yieldsIn_of_qOp h0 hst
    rw [List.length_cons] at hk
    exact wpFront_first hL hpost h0 (by omega) (Region.noSelect_spec hs) l.length listed a (Region.free_spec h0 hf) (by simpa using hr) hy
      (wpFront_lex hL hpost hs l (k + 1) _ _ (by omega) (fun j hj => by have := hl (j + 1) (by simp; omega); simpa [Nat.add_assoc, Nat.add_comm 1 j] using this) hB' hK)

theorem wpAny_of_front {Q : Exit → Act → World → Prop} {fuel2 : Nat} (hK : ∀ a w, C w → K a → wpAny P md ops Q fuel2 L1 a w) :
    ∀ (fuel : Nat) (listed : Array Bool) (a : Act) (w : World), C w → wpFront P md ops C L1 K fuel listed a → wpAny P md ops Q (fuel + fuel2) listed a w
  | 0, listed, a, w, hw, h => by
    rw [Nat.zero_add, h.1]
    exact hK a w hw h.2
  | fuel + 1, listed, a, w, hw, h => by
    rw [show fuel + 1 + fuel2 = (fuel + fuel2) + 1 by omega]
    refine ⟨fun h0 => ?_, fun i hi => wpOp_of_qOp hw (fun a' w' hw' h' => wpAny_of_front hK fuel _ a' w' hw' h') (h.2 i hi)⟩
    obtain ⟨i, hi⟩ := h.1
    rw [h0] at hi; cases hi

def backFrom (md : Region.Mode) (ops : Array Oper) : Nat → Nat → Array Bool → Bool
  | 0, _, listed => (Region.ready md ops listed).isEmpty
  | fuel + 1, k, listed => (Region.ready md ops listed) == [k] && backFrom md ops fuel (k + 1) (listed.setIfInBounds k true)

theorem wpAny_of_back {Q : Exit → Act → World → Prop} : ∀ (l : List Oper) (k : Nat) (listed : Array Bool) (a : Act) (w : World), (∀ j, l[j]? = ops[k + j]?) →
    backFrom md ops l.length k listed = true → wpList P ops Q l a w → wpAny P md ops Q l.length listed a w
  | [], _, listed, _, _, _, hB, h => ⟨by simpa [backFrom] using hB, h⟩
  | o :: l, k, listed, a, w, hl, hB, h => by
    have h0 : ops[k]? = some o := by simpa using (hl 0).symm
    simp only [List.length_cons, backFrom, Bool.and_eq_true, beq_iff_eq] at hB
    have go : ∀ a' w', wpList P ops Q l a' w' → wpAny P md ops Q l.length (listed.setIfInBounds k true) a' w' := fun a' w' h' =>
      wpAny_of_back l (k + 1) _ a' w' (fun j => by have := hl (j + 1); simpa [Nat.add_assoc, Nat.add_comm 1 j] using this) hB.2 h'
    refine ⟨fun he => (by rw [hB.1] at he; cases he), fun i hi => ?_⟩
    rw [hB.1] at hi
    obtain rfl : i = k := by simpa using hi
    unfold wpOp
    simp only [h0]
    unfold wpList at h
    by_cases hw : Region.wanted o (yielded ops a.tmps) = true
    · simp only [hw, if_true] at h ⊢
      exact h.imp (Oper.wp_mono go) id
    · simp only [hw] at h ⊢
      exact go _ _ h
end

/-- The first m have come. -/
def listedTo (m n : Nat) : Array Bool := (Array.range n).map (fun i => decide (i < m))
def thenB (l : List Oper) (m : Nat) : Bool :=
  decide (m ≤ l.length) && Region.noSelect l.toArray && frontFrom .any l.toArray (listedTo m l.length) m 0 (Array.replicate l.length false) &&
    (l.drop m).all (fun o => (List.range m).all (fun i => o.after.any (fun e => Region.binds .any e && e.on == i))) && backFrom .any l.toArray (l.length - m) m (listedTo m l.length)

theorem any_then {P : Program} {C : World → Prop} {Q : Exit → Act → World → Prop} {a : Act} {w : World} {l : List Oper} (m : Nat) (hB : thenB l m = true) (hC : C w)
    (h : wpQuiet P l.toArray C (fun a' => ∀ w', C w' → wpList P l.toArray Q (l.drop m) a' w') (l.take m) a) : wpAny P .any l.toArray Q l.toArray.size (Array.replicate l.toArray.size false) a w := by
  simp only [thenB, Bool.and_eq_true, decide_eq_true_eq] at hB
  obtain ⟨⟨⟨⟨hm, hs⟩, hf⟩, hp⟩, hb⟩ := hB
  have hL : ∀ j, j < m → (listedTo m l.length).getD j true = true := fun j hj => by
    have : j < l.length := by omega
    simp [listedTo, this, hj]
  have hpost : ∀ (j : Nat) (oj : Oper), m ≤ j → l.toArray[j]? = some oj → ∀ i, i < m → ∃ e ∈ oj.after, Region.binds .any e = true ∧ e.on = i := fun j oj hj hoj i hi => by
    have h1 : oj ∈ l.drop m := List.mem_of_getElem? (i := j - m) (by rw [List.getElem?_drop, show m + (j - m) = j by omega]; simpa using hoj)
    have h2 := List.all_eq_true.1 (List.all_eq_true.1 hp oj h1) i (List.mem_range.2 hi)
    rw [Array.any_eq_true] at h2
    obtain ⟨k, hk, h3⟩ := h2
    simp only [Bool.and_eq_true, beq_iff_eq] at h3
    exact ⟨_, Array.getElem_mem hk, h3⟩
  have hlt : (l.take m).length = m := by rw [List.length_take]; omega
  have h1 := wpFront_lex (P := P) (C := C) (K := fun a' => ∀ w', C w' → wpList P l.toArray Q (l.drop m) a' w') (md := .any) hL hpost hs (l.take m) 0 (Array.replicate l.length false) a (by omega) (fun j hj => by
    rw [List.getElem?_take_of_lt (by omega)]; simp) (by rw [hlt]; exact hf) h
  have h2 := wpAny_of_front (Q := Q) (fuel2 := (l.drop m).length) (fun a' w' hw' hK => wpAny_of_back (l.drop m) m _ a' w' (fun j => by rw [List.getElem?_drop]; simp) (by rw [List.length_drop]; exact hb) (hK w' hw')) _ _ a w hC h1
  have e : (l.take m).length + (l.drop m).length = l.length := by rw [hlt, List.length_drop]; omega
  rw [e] at h2
  simpa using h2

/-- Reads and calls that lay memory of their own, then stores. -/
theorem wp_then {P : Program} {id : Nat} {Q : Exit → Act → World → Prop} {a : Act} {w : World} {l : List Oper} (m : Nat) (hm : P.follows .mixedOrders = true) (hB : thenB l m = true)
    (h : wpQuiet P l.toArray (fun w' => ∃ p : Regrown, w' = grow (redrawn w p.d) p.os) (fun a' => ∀ w', (∃ p : Regrown, w' = grow (redrawn w p.d) p.os) → wpList P l.toArray Q (l.drop m) a' w') (l.take m) a) : (Code.region id l.toArray true).wp P Q a w :=
  wp_region_any hm (any_then (C := fun w' => ∃ p : Regrown, w' = grow (redrawn w p.d) p.os) m hB ⟨⟨w.drawn + 1, #[]⟩, by rw [grow_empty]; rfl⟩ h)

/-- An operation that looks at no memory. -/
def pureOp (o : Oper) : Bool := match o.op with | .move _ | .assign _ | .pick _ _ _ => true | _ => false
theorem pureOp_run {P : Program} {o : Oper} (h : pureOp o = true) (ρ : Operand → Value) (w w' : World) {C : World → Prop} {v : Value} (hq : Oper.quietUpon P C w v ((execOp ρ o).run P w)) : (execOp ρ o).run P w' = .ok (.value v) w' := by
  obtain ⟨dst, op, type, pos, after, guard⟩ := o
  cases op <;> simp only [pureOp] at h <;> try cases h
  case move x => simp only [execOp] at hq ⊢; obtain ⟨_, h2⟩ := hq; rw [← h2]; rfl
  case assign x => simp only [execOp] at hq ⊢; obtain ⟨_, h2⟩ := hq; rw [← h2]; rfl
  case pick c x y =>
    simp only [execOp] at hq ⊢
    generalize ρ c = u at hq ⊢
    cases u
    case bool b =>
      have e : ∀ w, ((do pure (.value (if ← asBool (.bool b) then ρ x else ρ y)) : Sem Next)).run P w = .ok (.value (if b then ρ x else ρ y)) w := fun w => by simp [asBool]
      rw [e] at hq ⊢
      obtain ⟨_, h2⟩ := hq
      rw [← h2]
    all_goals exact absurd hq (by simp [asBool, Oper.quietUpon])

section
variable {P : Program} {ops : Array Oper} {md : Region.Mode} {C : World → Prop} {L1 : Array Bool} {K : Act → Prop} {m : Nat}

/-- Whatever order comes of those ahead of m; what looks at no memory may come behind a store, too. -/
def wpFore (P : Program) (md : Region.Mode) (ops : Array Oper) (C : World → Prop) (L1 : Array Bool) (m : Nat) (K : Act → Prop) : Nat → Array Bool → Act → Prop
  | 0, listed, a => listed = L1 ∧ K a
  | fuel + 1, listed, a => (∃ i, i < m ∧ i ∈ Region.ready md ops listed) ∧ ∀ i ∈ Region.ready md ops listed, i < m → qOp P ops C i (wpFore P md ops C L1 m K fuel (listed.setIfInBounds i true)) a

theorem wpFore_first (hL : ∀ j, j < m → L1.getD j true = true)
    {i : Nat} {oi : Oper} {v : Value} (hi : ops[i]? = some oi) (him : i < m) (hsel : ∀ (j : Nat) (o : Oper) cs b, ops[j]? = some o → o.op ≠ .select cs b) :
    ∀ (fuel : Nat) (listed : Array Bool) (a : Act),
      (∀ j oj, ops[j]? = some oj → j ≠ i → listed.getD j true = false → (∀ e ∈ oj.after, Region.binds md e = true → e.on ≠ i) → oi.apart ops oj = true) →
      i ∈ Region.ready md ops listed → YieldsIn P ops C oi v a →
      wpFore P md ops C L1 m K fuel (listed.setIfInBounds i true) (a.put oi.dst v) → wpFore P md ops C L1 m K (fuel + 1) listed a
  | 0, listed, a, _, hr, hy, H => by
    refine ⟨⟨i, him, hr⟩, fun j hj hjm => ?_⟩
    by_cases hji : j = i
    · subst hji; exact hy.qOp hi H
    · exfalso
      have hju := (mem_ready.1 hj).1
      have h1 := hL j hjm
      rw [← H.1, getD_set_ne true (Ne.symm hji)] at h1
      rw [h1] at hju; cases hju
  | fuel + 1, listed, a, hfree, hr, hy, H => by
    refine ⟨⟨i, him, hr⟩, fun j hj hjm => ?_⟩
    by_cases hji : j = i
    · subst hji; exact hy.qOp hi H
    · have h1 := H.2 j (ready_mono hj hji) hjm
      obtain ⟨hjun, oj, hoj, _⟩ := mem_ready.1 hj
      have h2 := qOp_put hoj (hfree j oj hoj hji hjun (unready hr hj hoj)) (fun cs b => hsel i oi cs b hi) (fun cs b => hsel j oj cs b hoj) hy h1
      refine qOp_mono (fun a' h3 => wpFore_first hL hi him hsel fuel (listed.setIfInBounds j true) a' ?_ (ready_mono hr (Ne.symm hji)) h3.1 ?_) h2
      · intro k ok hk hki hun hno
        refine hfree k ok hk hki ?_ hno
        by_cases hjk : j = k
        · subst hjk; exact hjun
        · rwa [getD_set_ne true hjk] at hun
      · rw [Array.setIfInBounds_comm _ _ hji]
        exact h3.2

theorem wpFore_lex (hL : ∀ j, j < m → L1.getD j true = true) (hs : Region.noSelect ops = true) :
    ∀ (l : List Oper) (k : Nat) (listed : Array Bool) (a : Act), k + l.length = m → (∀ j, j < l.length → l[j]? = ops[k + j]?) →
      frontFrom md ops L1 l.length k listed = true → wpQuiet P ops C K l a → wpFore P md ops C L1 m K l.length listed a
  | [], _, listed, _, _, _, hB, h => ⟨by simpa [frontFrom] using hB, h⟩
  | o :: l, k, listed, a, hk, hl, hB, h => by
    have h0 : ops[k]? = some o := by simpa using (hl 0 (by simp)).symm
    simp only [List.length_cons, frontFrom, Bool.and_eq_true] at hB
    obtain ⟨⟨hr, hf⟩, hB'⟩ := hB
    have hst : qOp P ops C k (wpQuiet P ops C K l) a := by unfold qOp; simp only [h0]; exact h
    obtain ⟨v, hy, hK⟩ := yieldsIn_of_qOp h0 hst
    rw [List.length_cons] at hk
    exact wpFore_first hL h0 (by omega) (Region.noSelect_spec hs) l.length listed a (Region.free_spec h0 hf) (by simpa using hr) hy
      (wpFore_lex hL hs l (k + 1) _ _ (by omega) (fun j hj => by have := hl (j + 1) (by simp; omega); simpa [Nat.add_assoc, Nat.add_comm 1 j] using this) hB' hK)

/-- One comes behind another one, over others. -/
def behind (md : Region.Mode) (ops : Array Oper) (i : Nat) : Nat → Nat → Bool
  | 0, _ => false
  | fuel + 1, j => match ops[j]? with
    | none => false
    | some oj => oj.after.any (fun e => Region.binds md e && (e.on == i || behind md ops i fuel e.on))
/-- All that a listed one waits for is listed. -/
def Shut (md : Region.Mode) (ops : Array Oper) (listed : Array Bool) : Prop :=
  ∀ (k : Nat) (o : Oper), ops[k]? = some o → listed.getD k false = true → ∀ e ∈ o.after, Region.binds md e = true → listed.getD e.on false = true
theorem Shut.set {listed : Array Bool} {i : Nat} (h : Shut md ops listed) (hr : i ∈ Region.ready md ops listed) : Shut md ops (listed.setIfInBounds i true) := by
  intro k o ho hk e he hb
  by_cases hik : i = k
  · subst hik
    obtain ⟨_, o', ho', hall⟩ := mem_ready.1 hr
    rw [ho] at ho'
    cases ho'
    exact getD_set_true (hall e he hb)
  · rw [getD_set_ne false hik] at hk
    exact getD_set_true (h k o ho hk e he hb)
theorem behind_listed {listed : Array Bool} {i : Nat} (h : Shut md ops listed) : ∀ (fuel j : Nat), behind md ops i fuel j = true → (∀ oj, ops[j]? = some oj → ∀ e ∈ oj.after, Region.binds md e = true → listed.getD e.on false = true) → listed.getD i false = true
  | 0, _, hb, _ => by simp [behind] at hb
  | fuel + 1, j, hb, hj => by
    unfold behind at hb
    cases ho : ops[j]? with
    | none => simp [ho] at hb
    | some oj =>
      simp only [ho] at hb
      rw [Array.any_eq_true] at hb
      obtain ⟨k, hk, h2⟩ := hb
      simp only [Bool.and_eq_true, Bool.or_eq_true, beq_iff_eq] at h2
      have h3 := hj oj ho _ (Array.getElem_mem hk) h2.1
      rcases h2.2 with h4 | h4
      · rw [← h4]; exact h3
      · exact behind_listed h fuel _ h4 (fun o' ho' => h _ o' ho' h3)
theorem not_ready {listed : Array Bool} {i : Nat} (hr : i ∈ Region.ready md ops listed) : ¬ listed.getD i false = true := by
  intro h1
  have h0 := (mem_ready.1 hr).1
  by_cases h' : i < listed.size
  · simp [h'] at h0 h1; rw [h0] at h1; cases h1
  · simp [Array.getElem?_eq_none (Nat.le_of_not_lt h')] at h1

/-- An operation that looks at no memory, and comes before or behind each other one, or is apart from it. -/
def loose (md : Region.Mode) (ops : Array Oper) (i : Nat) : Bool :=
  match ops[i]? with
  | none => false
  | some oi => pureOp oi && (List.range ops.size).all fun j => j == i || match ops[j]? with
      | some oj => oj.after.any (fun e => Region.binds md e && e.on == i) || behind md ops j ops.size i || oi.apart ops oj
      | none => true
theorem loose_free {i : Nat} {oi : Oper} (hi : ops[i]? = some oi) (h : loose md ops i = true) {listed : Array Bool} (hsh : Shut md ops listed) (hr : i ∈ Region.ready md ops listed) (j : Nat) (oj : Oper) (hj : ops[j]? = some oj) (hne : j ≠ i)
    (hun : listed.getD j true = false) (hno : ∀ e ∈ oj.after, Region.binds md e = true → e.on ≠ i) : oi.apart ops oj = true := by
  simp only [loose, hi, Bool.and_eq_true, List.all_eq_true, List.mem_range] at h
  have h1 := h.2 j (Array.getElem?_eq_some_iff.1 hj).1
  simp only [hj, Bool.or_eq_true, beq_iff_eq] at h1
  rcases h1 with h1 | (h1 | h1) | h1
  · exact absurd h1 hne
  · rw [Array.any_eq_true] at h1
    obtain ⟨k, hk, h2⟩ := h1
    simp only [Bool.and_eq_true, beq_iff_eq] at h2
    exact absurd h2.2 (hno _ (Array.getElem_mem hk) h2.1)
  · obtain ⟨_, o, ho, hall⟩ := mem_ready.1 hr
    have h3 := behind_listed hsh _ i h1 (fun o' ho' e he hb => by rw [ho] at ho'; cases ho'; exact hall e he hb)
    by_cases hjs : j < listed.size
    · simp [hjs] at h3 hun; rw [hun] at h3; cases h3
    · simp [Array.getElem?_eq_none (Nat.le_of_not_lt hjs)] at h3
  · exact h1

theorem wpAny_of_fore {Q : Exit → Act → World → Prop} {fuel2 : Nat} (hs : Region.noSelect ops = true) (hQ : ∀ c a d v w, Q (.panic c) (a.put d v) w → Q (.panic c) a w)
    (hpost : ∀ (j : Nat) (oj : Oper), m ≤ j → ops[j]? = some oj → ∀ i, i < m → behind md ops i ops.size j = true ∨ loose md ops i = true)
    (hK : ∀ a w, C w → K a → wpAny P md ops Q fuel2 L1 a w) :
    ∀ (fuel : Nat) (listed : Array Bool) (a : Act) (w : World), Shut md ops listed → C w → wpFore P md ops C L1 m K fuel listed a → wpAny P md ops Q (fuel + fuel2) listed a w
  | 0, listed, a, w, _, hw, h => by
    rw [Nat.zero_add, h.1]
    exact hK a w hw h.2
  | fuel + 1, listed, a, w, hsh, hw, h => by
    rw [show fuel + 1 + fuel2 = (fuel + fuel2) + 1 by omega]
    obtain ⟨i, him, hir⟩ := h.1
    by_cases hb : ∃ j ∈ Region.ready md ops listed, m ≤ j
    · obtain ⟨j, hj, hjm⟩ := hb
      obtain ⟨_, oj, hoj, hall⟩ := mem_ready.1 hj
      have hlo : loose md ops i = true := by
        rcases hpost j oj hjm hoj i him with h1 | h1
        · exact absurd (behind_listed hsh _ j h1 (fun o' ho' e he hb => by rw [hoj] at ho'; cases ho'; exact hall e he hb)) (not_ready hir)
        · exact h1
      obtain ⟨_, oi, hoi, _⟩ := mem_ready.1 hir
      obtain ⟨v, hy, hF⟩ := yieldsIn_of_qOp hoi (h.2 i hir him)
      have hpu : pureOp oi = true := by simp only [loose, hoi, Bool.and_eq_true] at hlo; exact hlo.1
      have hY : Yields P ops oi v a := by
        rcases hy with ⟨h1, h2⟩ | h1
        · exact .inl ⟨h1, fun w' => pureOp_run hpu _ w w' (h2 w hw)⟩
        · exact .inr h1
      exact wpAny_first hoi (Region.noSelect_spec hs) (fun c a w h => hQ c a _ _ w h) _ listed a w (loose_free hoi hlo hsh hir) hir hY (wpAny_of_fore hs hQ hpost hK fuel _ _ w (hsh.set hir) hw hF)
    · refine ⟨fun h0 => (by rw [h0] at hir; cases hir), fun j hj => ?_⟩
      have hjm : j < m := by
        rcases Nat.lt_or_ge j m with h1 | h1
        · exact h1
        · exact absurd ⟨j, hj, h1⟩ hb
      exact wpOp_of_qOp hw (fun a' w' hw' h' => wpAny_of_fore hs hQ hpost hK fuel _ a' w' (hsh.set hj) hw' h') (h.2 j hj hjm)
end

def foreB (l : List Oper) (m : Nat) : Bool :=
  decide (m ≤ l.length) && Region.noSelect l.toArray && frontFrom .any l.toArray (listedTo m l.length) m 0 (Array.replicate l.length false) &&
    (List.range' m (l.length - m)).all (fun o => (List.range m).all (fun i => behind .any l.toArray i l.length o || loose .any l.toArray i)) && backFrom .any l.toArray (l.length - m) m (listedTo m l.length)

theorem any_fore {P : Program} {C : World → Prop} {Q : Exit → Act → World → Prop} {a : Act} {w : World} {l : List Oper} (m : Nat) (hB : foreB l m = true) (hQ : ∀ c a d v w, Q (.panic c) (a.put d v) w → Q (.panic c) a w) (hC : C w)
    (h : wpQuiet P l.toArray C (fun a' => ∀ w', C w' → wpList P l.toArray Q (l.drop m) a' w') (l.take m) a) : wpAny P .any l.toArray Q l.toArray.size (Array.replicate l.toArray.size false) a w := by
  simp only [foreB, Bool.and_eq_true, decide_eq_true_eq] at hB
  obtain ⟨⟨⟨⟨hm, hs⟩, hf⟩, hp⟩, hb⟩ := hB
  have hL : ∀ j, j < m → (listedTo m l.length).getD j true = true := fun j hj => by
    have : j < l.length := by omega
    simp [listedTo, this, hj]
  have hpost : ∀ (j : Nat) (oj : Oper), m ≤ j → l.toArray[j]? = some oj → ∀ i, i < m → behind .any l.toArray i l.toArray.size j = true ∨ loose .any l.toArray i = true := fun j oj hj hoj i hi => by
    have hjl : j < l.length := by have := (Array.getElem?_eq_some_iff.1 hoj).1; simpa using this
    have h2 := List.all_eq_true.1 (List.all_eq_true.1 hp j (List.mem_range'_1.2 ⟨hj, by omega⟩)) i (List.mem_range.2 hi)
    rw [Bool.or_eq_true] at h2
    simpa using h2
  have hlt : (l.take m).length = m := by rw [List.length_take]; omega
  have h1 := wpFore_lex (P := P) (C := C) (K := fun a' => ∀ w', C w' → wpList P l.toArray Q (l.drop m) a' w') (md := .any) hL hs (l.take m) 0 (Array.replicate l.length false) a (by omega) (fun j hj => by
    rw [List.getElem?_take_of_lt (by omega)]; simp) (by rw [hlt]; exact hf) h
  have h2 := wpAny_of_fore (Q := Q) (fuel2 := (l.drop m).length) hs hQ hpost (fun a' w' hw' hK => wpAny_of_back (l.drop m) m _ a' w' (fun j => by rw [List.getElem?_drop]; simp) (by rw [List.length_drop]; exact hb) (hK w' hw')) _ _ a w (fun k o _ hk => by simp [Array.getElem?_replicate] at hk; split at hk <;> simp_all) hC h1
  have e : (l.take m).length + (l.drop m).length = l.length := by rw [hlt, List.length_drop]; omega
  rw [e] at h2
  simpa using h2
/-- Reads, calls that lay memory of their own, and, behind them, stores; what looks at no memory anywhere. -/
theorem wp_fore {P : Program} {id : Nat} {Q : Exit → Act → World → Prop} {a : Act} {w : World} {l : List Oper} (m : Nat) (hm : P.follows .mixedOrders = true) (hB : foreB l m = true) (hQ : ∀ c a d v w, Q (.panic c) (a.put d v) w → Q (.panic c) a w)
    (h : wpQuiet P l.toArray (fun w' => ∃ p : Regrown, w' = grow (redrawn w p.d) p.os) (fun a' => ∀ w', (∃ p : Regrown, w' = grow (redrawn w p.d) p.os) → wpList P l.toArray Q (l.drop m) a' w') (l.take m) a) : (Code.region id l.toArray true).wp P Q a w :=
  wp_region_any hm (any_fore (C := fun w' => ∃ p : Regrown, w' = grow (redrawn w p.d) p.os) m hB hQ ⟨⟨w.drawn + 1, #[]⟩, by rw [grow_empty]; rfl⟩ h)
end Go.Proofs.YtfciopjcbeccgaaGreatDoor
