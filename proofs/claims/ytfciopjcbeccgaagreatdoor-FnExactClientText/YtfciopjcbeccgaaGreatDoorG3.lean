/- A region that draws its order: reads of what stays as it is, then what lays memory, then stores: walked once. In a round: reads, what lays memory, and stores, walked once. -/
import Derived.Test.YtfciopjcbeccgaaGreatDoorG1
import Derived.OrdersHeld
import Derived.Test.YtfciopjcbeccgaaGreatDoorG2
namespace Go.Proofs.YtfciopjcbeccgaaGreatDoor
open Go.ChangeShapes Go.WideShapes Go.ChangeAt Go.RowKit Go.Sort

section
variable {P : Program} {ops : Array Oper} {md : Region.Mode} {Q : Exit → Act → World → Prop} {C : World → Prop} {c : Nat}

/-- Whatever order comes; behind those ahead of c the class is kept. -/
def wpMid (P : Program) (md : Region.Mode) (ops : Array Oper) (Q : Exit → Act → World → Prop) (C : World → Prop) (c : Nat) : Nat → Array Bool → Act → World → Prop
  | 0, listed, a, w => Region.ready md ops listed = [] ∧ Q .normal a w
  | fuel + 1, listed, a, w => (Region.ready md ops listed = [] → Q .normal a w) ∧
      ∀ i ∈ Region.ready md ops listed, wpOp P ops Q i (fun a' w' => (i < c → C w') ∧ wpMid P md ops Q C c fuel (listed.setIfInBounds i true) a' w') a w
theorem wpAny_of_wpMid : ∀ (fuel : Nat) (listed : Array Bool) (a : Act) (w : World), wpMid P md ops Q C c fuel listed a w → wpAny P md ops Q fuel listed a w
  | 0, _, _, _, h => h
  | fuel + 1, _, _, _, h => ⟨h.1, fun i hi => wpOp_mono (fun a' w' h' => wpAny_of_wpMid fuel _ a' w' h'.2) (h.2 i hi)⟩

theorem wpMid_first {i : Nat} {oi : Oper} {v : Value} (hi : ops[i]? = some oi) (hs : Region.noSelect ops = true) (hQ : ∀ c a d v w, Q (.panic c) (a.put d v) w → Q (.panic c) a w)
    (hpost : ∀ j, c ≤ j → j < ops.size → behind md ops i ops.size j = true) (hic : i < c) :
    ∀ (fuel : Nat) (listed : Array Bool) (a : Act) (w : World), Shut md ops listed →
      (∀ j oj, ops[j]? = some oj → j ≠ i → listed.getD j true = false → (∀ e ∈ oj.after, Region.binds md e = true → e.on ≠ i) → oi.apart ops oj = true) →
      i ∈ Region.ready md ops listed → YieldsIf P ops C oi v a → C w →
      wpMid P md ops Q C c fuel (listed.setIfInBounds i true) (a.put oi.dst v) w → wpMid P md ops Q C c (fuel + 1) listed a w
  | 0, listed, a, w, _, _, hr, hy, hC, H => by
    refine ⟨fun h => (by rw [h] at hr; cases hr), fun j hj => ?_⟩
    by_cases hji : j = i
    · subst hji; exact hy.wpOp hi hC ⟨fun _ => hC, H⟩
    · have := ready_mono hj hji
      rw [H.1] at this
      cases this
  | fuel + 1, listed, a, w, hsh, hfree, hr, hy, hC, H => by
    refine ⟨fun h => (by rw [h] at hr; cases hr), fun j hj => ?_⟩
    by_cases hji : j = i
    · subst hji; exact hy.wpOp hi hC ⟨fun _ => hC, H⟩
    · obtain ⟨hjun, oj, hoj, hall⟩ := mem_ready.1 hj
      have hjc : j < c := by
        rcases Nat.lt_or_ge j c with h1 | h1
        · exact h1
        · exact absurd (behind_listed hsh _ j (hpost j h1 (Array.getElem?_eq_some_iff.1 hoj).1) (fun o' ho' e he hb => by rw [hoj] at ho'; cases ho'; exact hall e he hb)) (not_ready hr)
      have h1 := H.2 j (ready_mono hj hji)
      have h2 := wpOp_putIf hoj (hfree j oj hoj hji hjun (unready hr hj hoj)) (fun cs b => Region.noSelect_spec hs i oi cs b hi) (fun cs b => Region.noSelect_spec hs j oj cs b hoj) (fun c a w h => hQ c a _ _ w h) hy h1
      refine wpOp_mono (fun a' w' h3 => ⟨h3.2.1, wpMid_first hi hs hQ hpost hic fuel (listed.setIfInBounds j true) a' w' (hsh.set hj) ?_ (ready_mono hr (Ne.symm hji)) h3.1 (h3.2.1 hjc) ?_⟩) h2
      · intro k ok hk hki hun hno
        refine hfree k ok hk hki ?_ hno
        by_cases hjk : j = k
        · subst hjk; exact hjun
        · rwa [getD_set_ne true hjk] at hun
      · rw [Array.setIfInBounds_comm _ _ hji]
        exact h3.2.2

/-- An operation that only reads. -/
def readOp (o : Oper) : Bool := match o.op with | .move _ | .assign _ | .pick _ _ _ | .load _ _ | .fieldAddr _ _ _ | .nilCheck _ | .indexAddr _ _ _ | .extract _ _ | .unOp _ _ _ | .convert _ _ _ => true | _ => false
/-- What ends well ends with a value. -/
def IsVal (s : Sem Next) : Prop := ∀ (P : Program) (w : World) (x : Next) (w' : World), s.run P w = .ok x w' → ∃ u, x = .value u
theorem IsVal.pure (u : Value) : IsVal (Pure.pure (Next.value u)) := fun P w x w' h => by
  have h1 : (Pure.pure (Next.value u) : Sem Next).run P w = .ok (.value u) w := rfl
  rw [h1] at h
  cases h
  exact ⟨u, rfl⟩
theorem IsVal.bind {α : Type} (s : Sem α) (f : α → Sem Next) (h : ∀ x, IsVal (f x)) : IsVal (s >>= f) := fun P w x w' hr => by
  rw [Sem.run_bind] at hr
  cases hs : s.run P w with
  | ok y w1 => rw [hs] at hr; exact h y P w1 x w' hr
  | halt y w1 => rw [hs] at hr; cases hr
theorem IsVal.ite {p : Prop} [Decidable p] {s t : Sem Next} (h : IsVal s) (k : IsVal t) : IsVal (if p then s else t) := by split <;> assumption
theorem IsVal.run {s : Sem Next} (h : IsVal s) {P : Program} {w : World} {C : World → Prop} {v : Value} (hq : Oper.quietUpon P C w v (s.run P w)) : s.run P w = .ok (.value v) w := by
  cases hr : s.run P w with
  | ok x w' =>
    obtain ⟨u, rfl⟩ := h _ _ _ _ hr
    rw [hr] at hq
    obtain ⟨h1, h2⟩ := hq
    subst h1 h2
    rfl
  | halt x w' => rw [hr] at hq; exact hq.elim
theorem readOp_run {P : Program} {o : Oper} (h : readOp o = true) (ρ : Operand → Value) (w : World) {C : World → Prop} {v : Value} (hq : Oper.quietUpon P C w v ((execOp ρ o).run P w)) : (execOp ρ o).run P w = .ok (.value v) w := by
  obtain ⟨dst, op, type, pos, after, guard⟩ := o
  cases op <;> simp only [readOp] at h <;> try cases h
  case move x => exact pureOp_run (o := ⟨dst, .move x, type, pos, after, guard⟩) rfl ρ w w hq
  case assign x => exact pureOp_run (o := ⟨dst, .assign x, type, pos, after, guard⟩) rfl ρ w w hq
  case pick x y z => exact pureOp_run (o := ⟨dst, .pick x y z, type, pos, after, guard⟩) rfl ρ w w hq
  case nilCheck x =>
    simp only [execOp] at hq ⊢
    split at hq
    · exact hq.elim
    · exact hq.elim
    · exact hq.elim
    · split at hq
      · exact hq.elim
      · exact IsVal.run (IsVal.bind _ _ (fun _ => IsVal.bind _ _ (fun _ => IsVal.ite (IsVal.bind _ _ (fun _ => IsVal.pure _)) (IsVal.pure _)))) hq
      · exact IsVal.run (IsVal.pure _) hq
    · exact IsVal.run (IsVal.pure _) hq
  all_goals exact IsVal.run (IsVal.bind _ _ (fun _ => IsVal.pure _)) hq

/-- Reads first. -/
theorem wpMid_lex {m : Nat} (hs : Region.noSelect ops = true) (hQ : ∀ c a d v w, Q (.panic c) (a.put d v) w → Q (.panic c) a w) (hpost : ∀ i, i < m → ∀ j, c ≤ j → j < ops.size → behind md ops i ops.size j = true) (hmc : m ≤ c)
    {L1 : Array Bool} {b : Nat} {K : Act → Prop} (hK : ∀ a w, C w → K a → wpMid P md ops Q C c b L1 a w) :
    ∀ (l : List Oper) (k : Nat) (listed : Array Bool) (a : Act) (w : World), Shut md ops listed → C w → l.all readOp = true → k + l.length = m → (∀ j, j < l.length → l[j]? = ops[k + j]?) →
      frontFrom md ops L1 l.length k listed = true → wpQuiet P ops C K l a → wpMid P md ops Q C c (l.length + b) listed a w
  | [], _, listed, a, w, _, hw, _, _, _, hB, h => by
    have e : listed = L1 := by simpa [frontFrom] using hB
    rw [e, List.length_nil, Nat.zero_add]
    exact hK a w hw h
  | o :: l, k, listed, a, w, hsh, hw, hp, hk, hl, hB, h => by
    have h0 : ops[k]? = some o := by simpa using (hl 0 (by simp)).symm
    simp only [List.length_cons, frontFrom, Bool.and_eq_true] at hB
    obtain ⟨⟨hr, hf⟩, hB'⟩ := hB
    simp only [List.all_cons, Bool.and_eq_true] at hp
    rw [List.length_cons] at hk
    have hst : qOp P ops C k (wpQuiet P ops C K l) a := by unfold qOp; simp only [h0]; exact h
    obtain ⟨v, hy, hK'⟩ := yieldsIn_of_qOp h0 hst
    have hY : YieldsIf P ops C o v a := by
      rcases hy with ⟨h1, h2⟩ | h1
      · exact .inl ⟨h1, fun w' hw' => readOp_run hp.1 _ w' (h2 w' hw')⟩
      · exact .inr h1
    have hr' : k ∈ Region.ready md ops listed := by simpa using hr
    rw [show (o :: l).length + b = (l.length + b) + 1 by simp; omega]
    exact wpMid_first h0 hs hQ (hpost k (by omega)) (by omega) _ listed a w hsh (Region.free_spec h0 hf) hr' hY hw
      (wpMid_lex hs hQ hpost hmc hK l (k + 1) _ _ w (hsh.set hr') hw hp.2 (by omega) (fun j hj => by have := hl (j + 1) (by simp; omega); simpa [Nat.add_assoc, Nat.add_comm 1 j] using this) hB' hK')

/-- The rest in order; behind the first n the class is kept. -/
def wpRest (P : Program) (ops : Array Oper) (Q : Exit → Act → World → Prop) (C : World → Prop) : Nat → List Oper → Act → World → Prop
  | 0, l, a, w => wpList P ops Q l a w
  | _ + 1, [], a, w => Q .normal a w
  | n + 1, o :: rest, a, w => if Region.wanted o (yielded ops a.tmps) then o.wp P a w (fun a' w' => C w' ∧ wpRest P ops Q C n rest a' w') Q else C w ∧ wpRest P ops Q C n rest (a.put o.dst undef) w
theorem wpRest_step {n : Nat} {o : Oper} {rest : List Oper} {a : Act} {w : World} (h : ∀ K : Act → World → Prop, (∀ a' w', C w' → wpRest P ops Q C n rest a' w' → K a' w') → if Region.wanted o (yielded ops a.tmps) then o.wp P a w K Q else C w ∧ K (a.put o.dst undef) w) :
    wpRest P ops Q C (n + 1) (o :: rest) a w := by
  have h1 := h (fun a' w' => C w' ∧ wpRest P ops Q C n rest a' w') (fun _ _ k1 k2 => ⟨k1, k2⟩)
  unfold wpRest
  split
  · rename_i hw; simpa only [hw, if_true] using h1
  · rename_i hw
    simp only [hw] at h1
    exact h1.2

theorem wpMid_back : ∀ (l : List Oper) (k : Nat) (listed : Array Bool) (a : Act) (w : World), (∀ j, l[j]? = ops[k + j]?) →
    backFrom md ops l.length k listed = true → wpRest P ops Q C (c - k) l a w → wpMid P md ops Q C c l.length listed a w
  | [], k, listed, a, w, _, hB, h => by
    refine ⟨by simpa [backFrom] using hB, ?_⟩
    cases hn : c - k with
    | zero => rw [hn] at h; exact h
    | succ n => rw [hn] at h; exact h
  | o :: l, k, listed, a, w, hl, hB, h => by
    have h0 : ops[k]? = some o := by simpa using (hl 0).symm
    simp only [List.length_cons, backFrom, Bool.and_eq_true, beq_iff_eq] at hB
    have hl' : ∀ j, l[j]? = ops[k + 1 + j]? := fun j => by have := hl (j + 1); simpa [Nat.add_assoc, Nat.add_comm 1 j] using this
    refine ⟨fun he => (by rw [hB.1] at he; cases he), fun i hi => ?_⟩
    rw [hB.1] at hi
    obtain rfl : i = k := by simpa using hi
    unfold wpOp
    simp only [h0]
    cases hn : c - i with
    | zero =>
      rw [hn] at h
      have h' : wpList P ops Q (o :: l) a w := h
      have go : ∀ a' w', wpList P ops Q l a' w' → (i < c → C w') ∧ wpMid P md ops Q C c l.length (listed.setIfInBounds i true) a' w' := fun a' w' h2 =>
        ⟨fun hc => by omega, wpMid_back l (i + 1) _ a' w' hl' hB.2 (by rw [show c - (i + 1) = 0 by omega]; exact h2)⟩
      unfold wpList at h'
      by_cases hw : Region.wanted o (yielded ops a.tmps) = true
      · simp only [hw, if_true] at h' ⊢
        exact h'.imp (Oper.wp_mono go) id
      · simp only [hw] at h' ⊢
        exact go _ _ h'
    | succ n =>
      rw [hn] at h
      have go : ∀ a' w', (C w' ∧ wpRest P ops Q C n l a' w') → (i < c → C w') ∧ wpMid P md ops Q C c l.length (listed.setIfInBounds i true) a' w' := fun a' w' h2 =>
        ⟨fun _ => h2.1, wpMid_back l (i + 1) _ a' w' hl' hB.2 (by rw [show c - (i + 1) = n by omega]; exact h2.2)⟩
      unfold wpRest at h
      by_cases hw : Region.wanted o (yielded ops a.tmps) = true
      · simp only [hw, if_true] at h ⊢
        exact .inl (Oper.wp_mono go h)
      · simp only [hw] at h ⊢
        exact go _ _ h
end

def lineB (l : List Oper) (m n : Nat) : Bool :=
  decide (m + n ≤ l.length) && Region.noSelect l.toArray && frontFrom .any l.toArray (listedTo m l.length) m 0 (Array.replicate l.length false) && (l.take m).all readOp &&
    (List.range' (m + n) (l.length - (m + n))).all (fun j => (List.range m).all (fun i => behind .any l.toArray i l.length j)) && backFrom .any l.toArray (l.length - m) m (listedTo m l.length)

theorem any_line {P : Program} {C : World → Prop} {Q : Exit → Act → World → Prop} {a : Act} {w : World} {l : List Oper} (m n : Nat) (hB : lineB l m n = true) (hQ : ∀ c a d v w, Q (.panic c) (a.put d v) w → Q (.panic c) a w) (hC : C w)
    (h : wpQuiet P l.toArray C (fun a' => ∀ w', C w' → wpRest P l.toArray Q C n (l.drop m) a' w') (l.take m) a) : wpAny P .any l.toArray Q l.toArray.size (Array.replicate l.toArray.size false) a w := by
  simp only [lineB, Bool.and_eq_true, decide_eq_true_eq] at hB
  obtain ⟨⟨⟨⟨⟨hm, hs⟩, hf⟩, hrd⟩, hp⟩, hb⟩ := hB
  have hlt : (l.take m).length = m := by rw [List.length_take]; omega
  have hpost : ∀ i, i < m → ∀ j, m + n ≤ j → j < l.toArray.size → behind .any l.toArray i l.toArray.size j = true := fun i hi j hj hjl => by
    have hjl' : j < l.length := by simpa using hjl
    have h2 := List.all_eq_true.1 (List.all_eq_true.1 hp j (List.mem_range'_1.2 ⟨hj, by omega⟩)) i (List.mem_range.2 hi)
    simpa using h2
  have h1 := wpMid_lex (P := P) (Q := Q) (C := C) (md := .any) (c := m + n) (m := m) (b := (l.drop m).length) hs hQ hpost (by omega) (K := fun a' => ∀ w', C w' → wpRest P l.toArray Q C n (l.drop m) a' w')
    (fun a' w' hw' hK => wpMid_back (l.drop m) m _ a' w' (fun j => by rw [List.getElem?_drop]; simp) (by rw [List.length_drop]; exact hb) (by rw [show m + n - m = n by omega]; exact hK w' hw'))
    (l.take m) 0 (Array.replicate l.length false) a w (fun k o _ hk => by simp [Array.getElem?_replicate] at hk; split at hk <;> simp_all) hC hrd (by omega) (fun j hj => by rw [List.getElem?_take_of_lt (by omega)]; simp) (by rw [hlt]; exact hf) h
  have e : (l.take m).length + (l.drop m).length = l.length := by rw [hlt, List.length_drop]; omega
  rw [e] at h1
  have h2 := wpAny_of_wpMid _ _ _ _ h1
  simpa using h2
theorem wp_line {P : Program} {id : Nat} {Q : Exit → Act → World → Prop} {a : Act} {w : World} {l : List Oper} (m n : Nat) (hm : P.follows .mixedOrders = true) (hB : lineB l m n = true) (hQ : ∀ c a d v w, Q (.panic c) (a.put d v) w → Q (.panic c) a w)
    (h : wpQuiet P l.toArray (fun w' => ∃ p : Regrown, w' = grow (redrawn w p.d) p.os) (fun a' => ∀ w', (∃ p : Regrown, w' = grow (redrawn w p.d) p.os) → wpRest P l.toArray Q (fun w' => ∃ p : Regrown, w' = grow (redrawn w p.d) p.os) n (l.drop m) a' w') (l.take m) a) : (Code.region id l.toArray true).wp P Q a w :=
  wp_region_any hm (any_line (C := fun w' => ∃ p : Regrown, w' = grow (redrawn w p.d) p.os) m n hB hQ ⟨⟨w.drawn + 1, #[]⟩, by rw [grow_empty]; rfl⟩ h)
end Go.Proofs.YtfciopjcbeccgaaGreatDoor
namespace Go.Proofs.YtfciopjcbeccgaaGreatDoor
open Go.ChangeShapes Go.WideShapes Go.ChangeAt Go.RowKit Go.Sort

theorem inR_fore {P : Program} {id : Nat} {Q : Exit → Act → World → Prop} {a : Act} {w : World} {l : List Oper} {r n : Nat} (m : Nat) (hm : P.follows .mixedOrders = true) (hB : foreB l m = true) (hn : l.all noDefer = true) (hQ0 : ¬ LetsOut Q) (hQ : ∀ c a d v w, Q (.panic c) (a.put d v) w → Q (.panic c) a w)
    (h : wpQuiet P l.toArray (fun w' => ∃ p : Regrown, w' = grow (redrawn w p.d) p.os) (fun a' => ∀ w', (∃ p : Regrown, w' = grow (redrawn w p.d) p.os) → wpList P l.toArray Q (l.drop m) a' w') (l.take m) a) : (Code.region id l.toArray true).wpIn (Fence.wide.inRound r) n P Q a w :=
  wpIn_region_any hm (inR_any hQ0 (nd_all hn) _ _ _ _ (any_fore (C := fun w' => ∃ p : Regrown, w' = grow (redrawn w p.d) p.os) m hB hQ ⟨⟨w.drawn + 1, #[]⟩, by rw [grow_empty]; rfl⟩ h))
theorem inR_line {P : Program} {id : Nat} {Q : Exit → Act → World → Prop} {a : Act} {w : World} {l : List Oper} {r n' : Nat} (m n : Nat) (hm : P.follows .mixedOrders = true) (hB : lineB l m n = true) (hn : l.all noDefer = true) (hQ0 : ¬ LetsOut Q) (hQ : ∀ c a d v w, Q (.panic c) (a.put d v) w → Q (.panic c) a w)
    (h : wpQuiet P l.toArray (fun w' => ∃ p : Regrown, w' = grow (redrawn w p.d) p.os) (fun a' => ∀ w', (∃ p : Regrown, w' = grow (redrawn w p.d) p.os) → wpRest P l.toArray Q (fun w' => ∃ p : Regrown, w' = grow (redrawn w p.d) p.os) n (l.drop m) a' w') (l.take m) a) : (Code.region id l.toArray true).wpIn (Fence.wide.inRound r) n' P Q a w :=
  wpIn_region_any hm (inR_any hQ0 (nd_all hn) _ _ _ _ (any_line (C := fun w' => ∃ p : Regrown, w' = grow (redrawn w p.d) p.os) m n hB hQ ⟨⟨w.drawn + 1, #[]⟩, by rw [grow_empty]; rfl⟩ h))
/-- The rest of the region, in a round, is walked plainly. -/
theorem class_of {w w' : World} (h : Below w.heap.size w w') : ∃ p : Regrown, w' = grow (redrawn w p.d) p.os := regrown_of_below h
theorem of_class {w w' : World} (h : ∃ p : Regrown, w' = grow (redrawn w p.d) p.os) : Below w.heap.size w w' := by
  obtain ⟨p, rfl⟩ := h
  exact below_regrown _ _ _
end Go.Proofs.YtfciopjcbeccgaaGreatDoor
