/- A region that draws its order: reads first, then what lays memory in its order, one operation (an allocation) anywhere among them, then the rest. -/
import Derived.Test.YtfciopjcbeccgaaGreatDoorG4
namespace Go.Proofs.YtfciopjcbeccgaaGreatDoor
open Go.ChangeShapes Go.WideShapes Go.ChangeAt Go.RowKit Go.Sort

/-- The operation at f may come at any time ahead of the rest. -/
def floatL (md : Region.Mode) (ops : Array Oper) (c f : Nat) (ts : List Nat) : List Nat → Array Bool → Bool
  | [], listed => backL md ops (f :: ts) listed && ordB c 1 (f :: ts)
  | k :: js, listed => (Region.ready md ops listed == [k, f] || Region.ready md ops listed == [f, k]) && decide (k < c) && floatL md ops c f ts js (listed.setIfInBounds k true) &&
      backL md ops (k :: js ++ ts) (listed.setIfInBounds f true) && ordB c (k :: js).length (k :: js ++ ts)

section
variable {P : Program} {ops : Array Oper} {md : Region.Mode} {Q : Exit → Act → World → Prop} {C : World → Prop} {c : Nat}

def wpRestF (P : Program) (ops : Array Oper) (Q : Exit → Act → World → Prop) (C : World → Prop) (f : Oper) (tl : List Oper) : List Oper → Act → World → Prop
  | [], a, w => wpRest P ops Q C 1 (f :: tl) a w
  | o :: js, a, w => (if Region.wanted o (yielded ops a.tmps) then o.wp P a w (fun a' w' => C w' ∧ wpRestF P ops Q C f tl js a' w') Q else C w ∧ wpRestF P ops Q C f tl js (a.put o.dst undef) w) ∧
      wpRest P ops Q C ((o :: js).length + 1) (f :: (o :: js ++ tl)) a w
theorem wpRestF_nil {f : Oper} {tl : List Oper} {a : Act} {w : World} (h : wpRest P ops Q C 1 (f :: tl) a w) : wpRestF P ops Q C f tl [] a w := h
theorem wpRestF_step {f o : Oper} {tl js : List Oper} {a : Act} {w : World} (h : ∀ K : Act → World → Prop, (∀ a' w', C w' → wpRestF P ops Q C f tl js a' w' → K a' w') → if Region.wanted o (yielded ops a.tmps) then o.wp P a w K Q else C w ∧ K (a.put o.dst undef) w)
    (k : wpRest P ops Q C ((o :: js).length + 1) (f :: (o :: js ++ tl)) a w) : wpRestF P ops Q C f tl (o :: js) a w := by
  refine ⟨?_, k⟩
  have h1 := h (fun a' w' => C w' ∧ wpRestF P ops Q C f tl js a' w') (fun _ _ k1 k2 => ⟨k1, k2⟩)
  split
  · rename_i hw; simpa only [hw, if_true] using h1
  · rename_i hw
    simp only [hw] at h1
    exact h1.2

/-- One operation, the class kept behind it. -/
theorem wpOp_rest {i n : Nat} {o : Oper} {l : List Oper} {js : List Nat} {listed : Array Bool} {a : Act} {w : World} (h0 : ops[i]? = some o) (hl : Lies ops js l) (ho : ordB c n js = true) (hB : backL md ops js (listed.setIfInBounds i true) = true)
    (h : wpRest P ops Q C (n + 1) (o :: l) a w) : wpOp P ops Q i (fun a' w' => (i < c → C w') ∧ wpMid P md ops Q C c l.length (listed.setIfInBounds i true) a' w') a w := by
  unfold wpOp
  simp only [h0]
  have go : ∀ a' w', (C w' ∧ wpRest P ops Q C n l a' w') → (i < c → C w') ∧ wpMid P md ops Q C c l.length (listed.setIfInBounds i true) a' w' := fun a' w' h2 =>
    ⟨fun _ => h2.1, wpMid_backL n js l _ a' w' hl ho hB h2.2⟩
  unfold wpRest at h
  by_cases hw : Region.wanted o (yielded ops a.tmps) = true
  · simp only [hw, if_true] at h ⊢
    exact .inl (Oper.wp_mono go h)
  · simp only [hw] at h ⊢
    exact go _ _ h

theorem wpMid_float {f : Nat} {fo : Oper} {ts : List Nat} {tl : List Oper} (hf : ops[f]? = some fo) (ht : Lies ops ts tl) :
    ∀ (js : List Nat) (l : List Oper) (listed : Array Bool) (a : Act) (w : World), Lies ops js l → floatL md ops c f ts js listed = true → wpRestF P ops Q C fo tl l a w → wpMid P md ops Q C c (l.length + 1 + tl.length) listed a w
  | [], [], listed, a, w, _, hB, h => by
    simp only [floatL, Bool.and_eq_true] at hB
    rw [show ([] : List Oper).length + 1 + tl.length = (fo :: tl).length by simp; omega]
    exact wpMid_backL 1 (f :: ts) (fo :: tl) listed a w ⟨hf, ht⟩ hB.2 hB.1 h
  | k :: js, o :: l, listed, a, w, hl, hB, h => by
    have h0 : ops[k]? = some o := hl.1
    simp only [floatL, Bool.and_eq_true, Bool.or_eq_true, beq_iff_eq, decide_eq_true_eq] at hB
    obtain ⟨⟨⟨⟨hr, hkc⟩, hfl⟩, hb⟩, ho⟩ := hB
    rw [show (o :: l).length + 1 + tl.length = (l.length + 1 + tl.length) + 1 by simp; omega]
    have hmem : ∀ i, i ∈ Region.ready md ops listed → i = k ∨ i = f := fun i hi => by
      rcases hr with hr | hr <;> rw [hr] at hi <;> simp at hi <;> omega
    have hne : Region.ready md ops listed ≠ [] := by rcases hr with hr | hr <;> rw [hr] <;> simp
    refine ⟨fun he => (hne he).elim, fun i hi => ?_⟩
    rcases hmem i hi with rfl | rfl
    · have go : ∀ a' w', (C w' ∧ wpRestF P ops Q C fo tl l a' w') → (i < c → C w') ∧ wpMid P md ops Q C c (l.length + 1 + tl.length) (listed.setIfInBounds i true) a' w' := fun a' w' h2 =>
        ⟨fun _ => h2.1, wpMid_float hf ht js l _ a' w' hl.2 hfl h2.2⟩
      have h1 := h.1
      unfold wpOp
      simp only [h0]
      by_cases hw : Region.wanted o (yielded ops a.tmps) = true
      · simp only [hw, if_true] at h1 ⊢
        exact .inl (Oper.wp_mono go h1)
      · simp only [hw] at h1 ⊢
        exact go _ _ h1
    · have e : l.length + 1 + tl.length = (o :: l ++ tl).length := by simp; omega
      rw [e]
      have elen : (k :: js).length = (o :: l).length := lies_len hl
      rw [elen] at ho
      exact wpOp_rest hf (hl.append ht) ho hb h.2
  | [], _ :: _, _, _, _, h, _, _ => h.elim
  | _ :: _, [], _, _, _, h, _, _ => h.elim
end

def floatB (l : List Oper) (c f : Nat) (ps qs rs : List (Nat × Nat)) : Bool :=
  ps.all (fun p => decide (p.1 + p.2 ≤ l.length)) && qs.all (fun p => decide (p.1 + p.2 ≤ l.length)) && rs.all (fun p => decide (p.1 + p.2 ≤ l.length)) && ((ixs ps).length + ((ixs qs).length + 1 + (ixs rs).length) == l.length) && Region.noSelect l.toArray &&
    frontL .any l.toArray ((ixs ps).foldl (fun b k => b.setIfInBounds k true) (Array.replicate l.length false)) (ixs ps) (Array.replicate l.length false) && (cutOut l ps).all readOp &&
    (ixs ps).all (fun i => decide (i < c) && (List.range' c (l.length - c)).all (fun j => behind .any l.toArray i l.length j)) &&
    floatL .any l.toArray c f (ixs rs) (ixs qs) ((ixs ps).foldl (fun b k => b.setIfInBounds k true) (Array.replicate l.length false))

theorem any_float {P : Program} {C : World → Prop} {Q : Exit → Act → World → Prop} {a : Act} {w : World} {l : List Oper} (c f : Nat) (fo : Oper) (ps qs rs : List (Nat × Nat)) (hf : l[f]? = some fo) (hB : floatB l c f ps qs rs = true) (hQ : ∀ c a d v w, Q (.panic c) (a.put d v) w → Q (.panic c) a w) (hC : C w)
    (h : wpQuiet P l.toArray C (fun a' => ∀ w', C w' → wpRestF P l.toArray Q C fo (cutOut l rs) (cutOut l qs) a' w') (cutOut l ps) a) : wpAny P .any l.toArray Q l.toArray.size (Array.replicate l.toArray.size false) a w := by
  simp only [floatB, Bool.and_eq_true, beq_iff_eq] at hB
  obtain ⟨⟨⟨⟨⟨⟨⟨⟨hp, hq⟩, hr⟩, hlen⟩, hs⟩, hfr⟩, hrd⟩, hpost⟩, hb⟩ := hB
  have hlp := lies_cut l ps hp
  have hlq := lies_cut l qs hq
  have hlr := lies_cut l rs hr
  have hf' : l.toArray[f]? = some fo := by simpa using hf
  have h1 := wpMid_lexL (P := P) (Q := Q) (C := C) (md := .any) (ops := l.toArray) (c := c) (b := (cutOut l qs).length + 1 + (cutOut l rs).length) hs hQ (K := fun a' => ∀ w', C w' → wpRestF P l.toArray Q C fo (cutOut l rs) (cutOut l qs) a' w')
    (fun a' w' hw' hK => wpMid_float hf' hlr (ixs qs) (cutOut l qs) _ a' w' hlq hb (hK w' hw'))
    (ixs ps) (cutOut l ps) (Array.replicate l.length false) a w hlp (fun i hi => by
      have h2 := List.all_eq_true.1 hpost i hi
      simp only [Bool.and_eq_true, decide_eq_true_eq] at h2
      refine ⟨h2.1, fun j hj hjl => ?_⟩
      have hjl' : j < l.length := by simpa using hjl
      have h3 := List.all_eq_true.1 h2.2 j (List.mem_range'_1.2 ⟨hj, by omega⟩)
      simpa using h3)
    (fun k o _ hk => by simp [Array.getElem?_replicate] at hk; split at hk <;> simp_all) hC hrd hfr h
  have e : (cutOut l ps).length + ((cutOut l qs).length + 1 + (cutOut l rs).length) = l.length := by rw [← lies_len hlp, ← lies_len hlq, ← lies_len hlr]; exact hlen
  rw [e] at h1
  have h2 := wpAny_of_wpMid _ _ _ _ h1
  simpa using h2
theorem wp_float {P : Program} {id : Nat} {Q : Exit → Act → World → Prop} {a : Act} {w : World} {l : List Oper} (c f : Nat) (fo : Oper) (ps qs rs : List (Nat × Nat)) (hm : P.follows .mixedOrders = true) (hf : l[f]? = some fo) (hB : floatB l c f ps qs rs = true) (hQ : ∀ c a d v w, Q (.panic c) (a.put d v) w → Q (.panic c) a w)
    (h : wpQuiet P l.toArray (fun w' => ∃ p : Regrown, w' = grow (redrawn w p.d) p.os) (fun a' => ∀ w', (∃ p : Regrown, w' = grow (redrawn w p.d) p.os) → wpRestF P l.toArray Q (fun w' => ∃ p : Regrown, w' = grow (redrawn w p.d) p.os) fo (cutOut l rs) (cutOut l qs) a' w') (cutOut l ps) a) : (Code.region id l.toArray true).wp P Q a w :=
  wp_region_any hm (any_float (C := fun w' => ∃ p : Regrown, w' = grow (redrawn w p.d) p.os) c f fo ps qs rs hf hB hQ ⟨⟨w.drawn + 1, #[]⟩, by rw [grow_empty]; rfl⟩ h)
theorem inR_float {P : Program} {id : Nat} {Q : Exit → Act → World → Prop} {a : Act} {w : World} {l : List Oper} {r n' : Nat} (c f : Nat) (fo : Oper) (ps qs rs : List (Nat × Nat)) (hm : P.follows .mixedOrders = true) (hf : l[f]? = some fo) (hB : floatB l c f ps qs rs = true) (hn : l.all noDefer = true) (hQ0 : ¬ LetsOut Q) (hQ : ∀ c a d v w, Q (.panic c) (a.put d v) w → Q (.panic c) a w)
    (h : wpQuiet P l.toArray (fun w' => ∃ p : Regrown, w' = grow (redrawn w p.d) p.os) (fun a' => ∀ w', (∃ p : Regrown, w' = grow (redrawn w p.d) p.os) → wpRestF P l.toArray Q (fun w' => ∃ p : Regrown, w' = grow (redrawn w p.d) p.os) fo (cutOut l rs) (cutOut l qs) a' w') (cutOut l ps) a) : (Code.region id l.toArray true).wpIn (Fence.wide.inRound r) n' P Q a w :=
  wpIn_region_any hm (inR_any hQ0 (nd_all hn) _ _ _ _ (any_float (C := fun w' => ∃ p : Regrown, w' = grow (redrawn w p.d) p.os) c f fo ps qs rs hf hB hQ ⟨⟨w.drawn + 1, #[]⟩, by rw [grow_empty]; rfl⟩ h))
end Go.Proofs.YtfciopjcbeccgaaGreatDoor
