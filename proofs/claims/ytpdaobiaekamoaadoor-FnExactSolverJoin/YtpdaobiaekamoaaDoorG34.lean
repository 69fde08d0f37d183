/- As Frp: operations that look at no memory are taken ahead of all others, whenever they come. -/
import Derived.Test.YtpdaobiaekamoaaDoorG20
import Derived.Test.YtpdaobiaekamoaaDoorG22
namespace Go.Proofs.YtpdaobiaekamoaaDoor
open Go.ChangeShapes Go.WideShapes Go.ChangeAt Go.RowKit Go.Sort

def pureL (md : Region.Mode) (ops : Array Oper) (L1 : Array Bool) : List Nat → Array Bool → Bool
  | [], listed => listed == L1
  | k :: is, listed => (Region.ready md ops listed).contains k && loose md ops k && pureL md ops L1 is (listed.setIfInBounds k true)

section
variable {P : Program} {ops : Array Oper} {md : Region.Mode} {Q : Exit → Act → World → Prop} {C : World → Prop}

theorem wpAny_pures (hs : Region.noSelect ops = true) (hQ : ∀ c a d v w, Q (.panic c) (a.put d v) w → Q (.panic c) a w) {L1 : Array Bool} {b : Nat} {K : Act → Prop} {w : World} (hC : C w)
    (hK : ∀ a, Shut md ops L1 → K a → wpAny P md ops Q b L1 a w) :
    ∀ (is : List Nat) (l : List Oper) (listed : Array Bool) (a : Act), Lies ops is l → Shut md ops listed → pureL md ops L1 is listed = true → wpQuiet P ops C K l a → wpAny P md ops Q (l.length + b) listed a w
  | [], [], listed, a, _, hsh, hB, h => by
    have e : listed = L1 := by simpa [pureL] using hB
    rw [e] at hsh ⊢
    rw [List.length_nil, Nat.zero_add]
    exact hK a hsh h
  | k :: is, o :: l, listed, a, hl, hsh, hB, h => by
    have h0 : ops[k]? = some o := hl.1
    simp only [pureL, Bool.and_eq_true] at hB
    obtain ⟨⟨hr, hlo⟩, hB'⟩ := hB
    have hr' : k ∈ Region.ready md ops listed := by simpa using hr
    have hpu : pureOp o = true := by simp only [loose, h0, Bool.and_eq_true] at hlo; exact hlo.1
    have hst : qOp P ops C k (wpQuiet P ops C K l) a := by unfold qOp; simp only [h0]; exact h
    obtain ⟨v, hy, hK'⟩ := yieldsIn_of_qOp h0 hst
    have hY : Yields P ops o v a := by
      rcases hy with ⟨h1, h2⟩ | h1
      · exact .inl ⟨h1, fun w' => pureOp_run hpu _ w w' (h2 w hC)⟩
      · exact .inr h1
    rw [show (o :: l).length + b = (l.length + b) + 1 by simp; omega]
    exact wpAny_first h0 (Region.noSelect_spec hs) (fun c a w h => hQ c a _ _ w h) _ listed a w (loose_free h0 hlo hsh hr') hr' hY
      (wpAny_pures hs hQ hC hK is l _ _ hl.2 (hsh.set hr') hB' hK')
  | [], _ :: _, _, _, h, _, _, _ => h.elim
  | _ :: _, [], _, _, h, _, _, _ => h.elim
end

def pureS (l : List Oper) (us : List (Nat × Nat)) : Array Bool := (ixs us).foldl (fun b k => b.setIfInBounds k true) (Array.replicate l.length false)
def pickS (l : List Oper) (us ps : List (Nat × Nat)) : Array Bool := (ixs ps).foldl (fun b k => b.setIfInBounds k true) (pureS l us)
def pickPB (l : List Oper) (c n : Nat) (us ps qs : List (Nat × Nat)) : Bool :=
  us.all (fun p => decide (p.1 + p.2 ≤ l.length)) && ps.all (fun p => decide (p.1 + p.2 ≤ l.length)) && qs.all (fun p => decide (p.1 + p.2 ≤ l.length)) && ((ixs us).length + ((ixs ps).length + (ixs qs).length) == l.length) && Region.noSelect l.toArray &&
    pureL .any l.toArray (pureS l us) (ixs us) (Array.replicate l.length false) &&
    frontL .any l.toArray (pickS l us ps) (ixs ps) (pureS l us) && (cutOut l ps).all readOp &&
    (ixs ps).all (fun i => decide (i < c) && (List.range' c (l.length - c)).all (fun j => behind .any l.toArray i l.length j)) &&
    backL .any l.toArray (ixs qs) (pickS l us ps) && ordB c n (ixs qs)

theorem any_pickP {P : Program} {C : World → Prop} {Q : Exit → Act → World → Prop} {a : Act} {w : World} {l : List Oper} (c n : Nat) (us ps qs : List (Nat × Nat)) (hB : pickPB l c n us ps qs = true) (hQ : ∀ c a d v w, Q (.panic c) (a.put d v) w → Q (.panic c) a w) (hC : C w)
    (h : wpQuiet P l.toArray C (fun a1 => wpQuiet P l.toArray C (fun a' => ∀ w', C w' → wpRest P l.toArray Q C n (cutOut l qs) a' w') (cutOut l ps) a1) (cutOut l us) a) : wpAny P .any l.toArray Q l.toArray.size (Array.replicate l.toArray.size false) a w := by
  simp only [pickPB, Bool.and_eq_true, beq_iff_eq] at hB
  obtain ⟨⟨⟨⟨⟨⟨⟨⟨⟨⟨hu, hp⟩, hq⟩, hlen⟩, hs⟩, hpu⟩, hf⟩, hrd⟩, hpost⟩, hb⟩, ho⟩ := hB
  have hlu := lies_cut l us hu
  have hlp := lies_cut l ps hp
  have hlq := lies_cut l qs hq
  have h1 := wpAny_pures (P := P) (Q := Q) (C := C) (md := .any) (ops := l.toArray) hs hQ (L1 := pureS l us) (b := (cutOut l ps).length + (cutOut l qs).length)
    (K := fun a1 => wpQuiet P l.toArray C (fun a' => ∀ w', C w' → wpRest P l.toArray Q C n (cutOut l qs) a' w') (cutOut l ps) a1) (w := w) hC
    (fun a1 hsh hK => wpAny_of_wpMid (C := C) (c := c) _ _ _ _ (wpMid_lexL (P := P) (Q := Q) (C := C) (md := .any) (ops := l.toArray) (c := c) (b := (cutOut l qs).length) hs hQ (K := fun a' => ∀ w', C w' → wpRest P l.toArray Q C n (cutOut l qs) a' w')
      (fun a' w' hw' hK => wpMid_backL n (ixs qs) (cutOut l qs) _ a' w' hlq ho hb (hK w' hw'))
      (ixs ps) (cutOut l ps) (pureS l us) a1 w hlp (fun i hi => by
        have h2 := List.all_eq_true.1 hpost i hi
        simp only [Bool.and_eq_true, decide_eq_true_eq] at h2
        refine ⟨h2.1, fun j hj hjl => ?_⟩
        have hjl' : j < l.length := by simpa using hjl
        have h3 := List.all_eq_true.1 h2.2 j (List.mem_range'_1.2 ⟨hj, by omega⟩)
        simpa using h3)
      hsh hC hrd hf hK))
    (ixs us) (cutOut l us) (Array.replicate l.length false) a hlu (fun k o _ hk => by simp [Array.getElem?_replicate] at hk; split at hk <;> simp_all) hpu h
  have e : (cutOut l us).length + ((cutOut l ps).length + (cutOut l qs).length) = l.length := by rw [← lies_len hlu, ← lies_len hlp, ← lies_len hlq]; exact hlen
  rw [e] at h1
  simpa using h1
theorem wp_pickP {P : Program} {id : Nat} {Q : Exit → Act → World → Prop} {a : Act} {w : World} {l : List Oper} (c n : Nat) (us ps qs : List (Nat × Nat)) (hm : P.follows .mixedOrders = true) (hB : pickPB l c n us ps qs = true) (hQ : ∀ c a d v w, Q (.panic c) (a.put d v) w → Q (.panic c) a w)
    (h : wpQuiet P l.toArray (fun w' => ∃ p : Regrown, w' = grow (redrawn w p.d) p.os) (fun a1 => wpQuiet P l.toArray (fun w' => ∃ p : Regrown, w' = grow (redrawn w p.d) p.os) (fun a' => ∀ w', (∃ p : Regrown, w' = grow (redrawn w p.d) p.os) → wpRest P l.toArray Q (fun w' => ∃ p : Regrown, w' = grow (redrawn w p.d) p.os) n (cutOut l qs) a' w') (cutOut l ps) a1) (cutOut l us) a) : (Code.region id l.toArray true).wp P Q a w :=
  wp_region_any hm (any_pickP (C := fun w' => ∃ p : Regrown, w' = grow (redrawn w p.d) p.os) c n us ps qs hB hQ ⟨⟨w.drawn + 1, #[]⟩, by rw [grow_empty]; rfl⟩ h)
theorem inR_pickP {P : Program} {id : Nat} {Q : Exit → Act → World → Prop} {a : Act} {w : World} {l : List Oper} {r n' : Nat} (c n : Nat) (us ps qs : List (Nat × Nat)) (hm : P.follows .mixedOrders = true) (hB : pickPB l c n us ps qs = true) (hn : l.all noDefer = true) (hQ0 : ¬ LetsOut Q) (hQ : ∀ c a d v w, Q (.panic c) (a.put d v) w → Q (.panic c) a w)
    (h : wpQuiet P l.toArray (fun w' => ∃ p : Regrown, w' = grow (redrawn w p.d) p.os) (fun a1 => wpQuiet P l.toArray (fun w' => ∃ p : Regrown, w' = grow (redrawn w p.d) p.os) (fun a' => ∀ w', (∃ p : Regrown, w' = grow (redrawn w p.d) p.os) → wpRest P l.toArray Q (fun w' => ∃ p : Regrown, w' = grow (redrawn w p.d) p.os) n (cutOut l qs) a' w') (cutOut l ps) a1) (cutOut l us) a) : (Code.region id l.toArray true).wpIn (Fence.wide.inRound r) n' P Q a w :=
  wpIn_region_any hm (inR_any hQ0 (nd_all hn) _ _ _ _ (any_pickP (C := fun w' => ∃ p : Regrown, w' = grow (redrawn w p.d) p.os) c n us ps qs hB hQ ⟨⟨w.drawn + 1, #[]⟩, by rw [grow_empty]; rfl⟩ h))
/-- Where nothing panics. -/
theorem wp_pickPn {P : Program} {id : Nat} {K : Act → World → Prop} {Q : Exit → Act → World → Prop} {a : Act} {w : World} {l : List Oper} (c n : Nat) (us ps qs : List (Nat × Nat)) (hm : P.follows .mixedOrders = true) (hB : pickPB l c n us ps qs = true)
    (h : wpQuiet P l.toArray (fun w' => ∃ p : Regrown, w' = grow (redrawn w p.d) p.os) (fun a1 => wpQuiet P l.toArray (fun w' => ∃ p : Regrown, w' = grow (redrawn w p.d) p.os) (fun a' => ∀ w', (∃ p : Regrown, w' = grow (redrawn w p.d) p.os) → wpRest P l.toArray (Exit.then K (fun _ _ _ => False)) (fun w' => ∃ p : Regrown, w' = grow (redrawn w p.d) p.os) n (cutOut l qs) a' w') (cutOut l ps) a1) (cutOut l us) a) : (Code.region id l.toArray true).wp P (Exit.then K Q) a w :=
  Code.wp_mono (fun e _ _ h => by cases e <;> first | exact h | exact h.elim) (wp_pickP (Q := Exit.then K (fun _ _ _ => False)) c n us ps qs hm hB (fun _ _ _ _ _ h => h.elim) h)
theorem wp_floatn {P : Program} {id : Nat} {K : Act → World → Prop} {Q : Exit → Act → World → Prop} {a : Act} {w : World} {l : List Oper} (c f : Nat) (fo : Oper) (ps qs rs : List (Nat × Nat)) (hm : P.follows .mixedOrders = true) (hf : l[f]? = some fo) (hB : floatB l c f ps qs rs = true)
    (h : wpQuiet P l.toArray (fun w' => ∃ p : Regrown, w' = grow (redrawn w p.d) p.os) (fun a' => ∀ w', (∃ p : Regrown, w' = grow (redrawn w p.d) p.os) → wpRestF P l.toArray (Exit.then K (fun _ _ _ => False)) (fun w' => ∃ p : Regrown, w' = grow (redrawn w p.d) p.os) fo (cutOut l rs) (cutOut l qs) a' w') (cutOut l ps) a) : (Code.region id l.toArray true).wp P (Exit.then K Q) a w :=
  Code.wp_mono (fun e _ _ h => by cases e <;> first | exact h | exact h.elim) (wp_float (Q := Exit.then K (fun _ _ _ => False)) c f fo ps qs rs hm hf hB (fun _ _ _ _ _ h => h.elim) h)
end Go.Proofs.YtpdaobiaekamoaaDoor
