/- A region that draws its order: reads first, then what lays memory in its order, one operation (an allocation) anywhere among them, then the rest. Facts about rows and noughts, ahead of what the model says of a row. What is left of a row has no first number of those that are known; a row put together with one that has no less a first number keeps its own. The code of an equation of no block, by the program. Arguments that came in, read as data: numbers, texts, structs, slices of whatever. Slices of ints held against each other by the laws. -/
import Derived.Test.YtegldmdcdnnegaaGreatDoorG10
import Derived.Test.YtegldmdcdnnegaaGreatDoorG11
import Derived.Test.YtegldmdcdnnegaaGreatDoorG1
import Derived.Deep.Slices
import Derived.SliceStrings
namespace Go.Proofs.YtegldmdcdnnegaaGreatDoor
open Go.ChangeShapes Go.WideShapes Go.ChangeAt Go.RowKit Go.Sort

/-- The operation at f may come at any time ahead of the rest. -/
def floatL (md : Region.Mode) (ops : Array Oper) (c f : Nat) (ts : List Nat) : List Nat → Array Bool → Bool
  | [], listed => backL md ops (f :: ts) listed && ordB c 1 (f :: ts)
  | k :: js, listed => (Region.ready md ops listed == [k, f] || Region.ready md ops listed == [f, k]) && decide (k < c) && floatL md ops c f ts js (listed.setIfInBounds k true) &&
      backL md ops (k :: js ++ ts) (listed.setIfInBounds f true) && ordB c (k :: js).length (k :: js ++ ts)

section
variable {P : Program} {ops : Array Oper} {md : Region.Mode} {Q : Exit → Act → World → Prop} {C : World → Prop} {c : Nat}

def wpRestF (P : Program) (ops : Array Oper) (Q : Exit → Act → World → Prop) (C : World → Prop) (f : Oper) (tl : List Oper) : List Oper → Act → World → Prop
  | [], a, w => wpRest P ops Q C 1 (f :: tl) a w
  | o :: js, a, w => (if Region.wanted o (yielded ops a.tmps) then o.wp P a w (fun a' w' => C w' ∧ wpRestF P ops Q C f tl js a' w') Q else C w ∧ wpRestF P ops Q C f tl js (a.put o.dst undef) w) ∧
      wpRest P ops Q C ((o :: js).length + 1) (f :: (o :: js ++ tl)) a w
theorem wpRestF_nil {f : Oper} {tl : List Oper} {a : Act} {w : World} (h : wpRest P ops Q C 1 (f :: tl) a w) : wpRestF P ops Q C f tl [] a w := h
theorem wpRestF_step {f o : Oper} {tl js : List Oper} {a : Act} {w : World} (h : ∀ K : Act → World → Prop, (∀ a' w', C w' → wpRestF P ops Q C f tl js a' w' → K a' w') → if Region.wanted o (yielded ops a.tmps) then o.wp P a w K Q else C w ∧ K (a.put o.dst undef) w)
    (k : wpRest P ops Q C ((o :: js).length + 1) (f :: (o :: js ++ tl)) a w) : wpRestF P ops Q C f tl (o :: js) a w := by
  refine ⟨?_, k⟩
  have h1 := h (fun a' w' => C w' ∧ wpRestF P ops Q C f tl js a' w') (fun _ _ k1 k2 => ⟨k1, k2⟩)
  split
  · rename_i hw; simpa only [hw, if_true] using h1
  · rename_i hw
    simp only [hw] at h1
    exact h1.2

/-- One operation, the class kept behind it. -/
theorem wpOp_rest {i n : Nat} {o : Oper} {l : List Oper} {js : List Nat} {listed : Array Bool} {a : Act} {w : World} (h0 : ops[i]? = some o) (hl : Lies ops js l) (ho : ordB c n js = true) (hB : backL md ops js (listed.setIfInBounds i true) = true)
    (h : wpRest P ops Q C (n + 1) (o :: l) a w) : wpOp P ops Q i (fun a' w' => (i < c → C w') ∧ wpMid P md ops Q C c l.length (listed.setIfInBounds i true) a' w') a w := by
  unfold wpOp
  simp only [h0]
  have go : ∀ a' w', (C w' ∧ wpRest P ops Q C n l a' w') → (i < c → C w') ∧ wpMid P md ops Q C c l.length (listed.setIfInBounds i true) a' w' := fun a' w' h2 =>
    ⟨fun _ => h2.1, wpMid_backL n js l _ a' w' hl ho hB h2.2⟩
  unfold wpRest at h
  by_cases hw : Region.wanted o (yielded ops a.tmps) = true
  · simp only [hw, if_true] at h ⊢
    exact .inl (Oper.wp_mono go h)
  · simp only [hw] at h ⊢
    exact go _ _ h

theorem wpMid_float {f : Nat} {fo : Oper} {ts : List Nat} {tl : List Oper} (hf : ops[f]? = some fo) (ht : Lies ops ts tl) :
    ∀ (js : List Nat) (l : List Oper) (listed : Array Bool) (a : Act) (w : World), Lies ops js l → floatL md ops c f ts js listed = true → wpRestF P ops Q C fo tl l a w → wpMid P md ops Q C c (l.length + 1 + tl.length) listed a w
  | [], [], listed, a, w, _, hB, h => by
    simp only [floatL, Bool.and_eq_true] at hB
    rw [show ([] : List Oper).length + 1 + tl.length = (fo :: tl).length by simp; omega]
    exact wpMid_backL 1 (f :: ts) (fo :: tl) listed a w ⟨hf, ht⟩ hB.2 hB.1 h
  | k :: js, o :: l, listed, a, w, hl, hB, h => by
    have h0 : ops[k]? = some o := hl.1
    simp only [floatL, Bool.and_eq_true, Bool.or_eq_true, beq_iff_eq, decide_eq_true_eq] at hB
    obtain ⟨⟨⟨⟨hr, hkc⟩, hfl⟩, hb⟩, ho⟩ := hB
    rw [show (o :: l).length + 1 + tl.length = (l.length + 1 + tl.length) + 1 by simp; omega]
    have hmem : ∀ i, i ∈ Region.ready md ops listed → i = k ∨ i = f := fun i hi => by
      rcases hr with hr | hr <;> rw [hr] at hi <;> simp at hi <;> omega
    have hne : Region.ready md ops listed ≠ [] := by rcases hr with hr | hr <;> rw [hr] <;> simp
    refine ⟨fun he => (hne he).elim, fun i hi => ?_⟩
    rcases hmem i hi with rfl | rfl
    · have go : ∀ a' w', (C w' ∧ wpRestF P ops Q C fo tl l a' w') → (i < c → C w') ∧ wpMid P md ops Q C c (l.length + 1 + tl.length) (listed.setIfInBounds i true) a' w' := fun a' w' h2 =>
        ⟨fun _ => h2.1, wpMid_float hf ht js l _ a' w' hl.2 hfl h2.2⟩
      have h1 := h.1
      unfold wpOp
      simp only [h0]
      by_cases hw : Region.wanted o (yielded ops a.tmps) = true
      · simp only [hw, if_true] at h1 ⊢
        exact .inl (Oper.wp_mono go h1)
      · simp only [hw] at h1 ⊢
        exact go _ _ h1
    · have e : l.length + 1 + tl.length = (o :: l ++ tl).length := by simp; omega
      rw [e]
      have elen : (k :: js).length = (o :: l).length := lies_len hl
      rw [elen] at ho
      exact wpOp_rest hf (hl.append ht) ho hb h.2
  | [], _ :: _, _, _, _, h, _, _ => h.elim
  | _ :: _, [], _, _, _, h, _, _ => h.elim
end

def floatB (l : List Oper) (c f : Nat) (ps qs rs : List (Nat × Nat)) : Bool :=
  ps.all (fun p => decide (p.1 + p.2 ≤ l.length)) && qs.all (fun p => decide (p.1 + p.2 ≤ l.length)) && rs.all (fun p => decide (p.1 + p.2 ≤ l.length)) && ((ixs ps).length + ((ixs qs).length + 1 + (ixs rs).length) == l.length) && Region.noSelect l.toArray &&
    frontL .any l.toArray ((ixs ps).foldl (fun b k => b.setIfInBounds k true) (Array.replicate l.length false)) (ixs ps) (Array.replicate l.length false) && (cutOut l ps).all readOp &&
    (ixs ps).all (fun i => decide (i < c) && (List.range' c (l.length - c)).all (fun j => behind .any l.toArray i l.length j)) &&
    floatL .any l.toArray c f (ixs rs) (ixs qs) ((ixs ps).foldl (fun b k => b.setIfInBounds k true) (Array.replicate l.length false))

theorem any_float {P : Program} {C : World → Prop} {Q : Exit → Act → World → Prop} {a : Act} {w : World} {l : List Oper} (c f : Nat) (fo : Oper) (ps qs rs : List (Nat × Nat)) (hf : l[f]? = some fo) (hB : floatB l c f ps qs rs = true) (hQ : ∀ c a d v w, Q (.panic c) (a.put d v) w → Q (.panic c) a w) (hC : C w)
    (h : wpQuiet P l.toArray C (fun a' => ∀ w', C w' → wpRestF P l.toArray Q C fo (cutOut l rs) (cutOut l qs) a' w') (cutOut l ps) a) : wpAny P .any l.toArray Q l.toArray.size (Array.replicate l.toArray.size false) a w := by
  simp only [floatB, Bool.and_eq_true, beq_iff_eq] at hB
  obtain ⟨⟨⟨⟨⟨⟨⟨⟨hp, hq⟩, hr⟩, hlen⟩, hs⟩, hfr⟩, hrd⟩, hpost⟩, hb⟩ := hB
  have hlp := lies_cut l ps hp
  have hlq := lies_cut l qs hq
  have hlr := lies_cut l rs hr
  have hf' : l.toArray[f]? = some fo := by simpa using hf
  have h1 := wpMid_lexL (P := P) (Q := Q) (C := C) (md := .any) (ops := l.toArray) (c := c) (b := (cutOut l qs).length + 1 + (cutOut l rs).length) hs hQ (K := fun a' => ∀ w', C w' → wpRestF P l.toArray Q C fo (cutOut l rs) (cutOut l qs) a' w')
    (fun a' w' hw' hK => wpMid_float hf' hlr (ixs qs) (cutOut l qs) _ a' w' hlq hb (hK w' hw'))
    (ixs ps) (cutOut l ps) (Array.replicate l.length false) a w hlp (fun i hi => by
      have h2 := List.all_eq_true.1 hpost i hi
      simp only [Bool.and_eq_true, decide_eq_true_eq] at h2
      refine ⟨h2.1, fun j hj hjl => ?_⟩
      have hjl' : j < l.length := by simpa using hjl
      have h3 := List.all_eq_true.1 h2.2 j (List.mem_range'_1.2 ⟨hj, by omega⟩)
      simpa using h3)
    (fun k o _ hk => by simp [Array.getElem?_replicate] at hk; split at hk <;> simp_all) hC hrd hfr h
  have e : (cutOut l ps).length + ((cutOut l qs).length + 1 + (cutOut l rs).length) = l.length := by rw [← lies_len hlp, ← lies_len hlq, ← lies_len hlr]; exact hlen
  rw [e] at h1
  have h2 := wpAny_of_wpMid _ _ _ _ h1
  simpa using h2
theorem wp_float {P : Program} {id : Nat} {Q : Exit → Act → World → Prop} {a : Act} {w : World} {l : List Oper} (c f : Nat) (fo : Oper) (ps qs rs : List (Nat × Nat)) (hm : P.follows .mixedOrders = true) (hf : l[f]? = some fo) (hB : floatB l c f ps qs rs = true) (hQ : ∀ c a d v w, Q (.panic c) (a.put d v) w → Q (.panic c) a w)
    (h : wpQuiet P l.toArray (fun w' => ∃ p : Regrown, w' = grow (redrawn w p.d) p.os) (fun a' => ∀ w', (∃ p : Regrown, w' = grow (redrawn w p.d) p.os) → wpRestF P l.toArray Q (fun w' => ∃ p : Regrown, w' = grow (redrawn w p.d) p.os) fo (cutOut l rs) (cutOut l qs) a' w') (cutOut l ps) a) : (Code.region id l.toArray true).wp P Q a w :=
  wp_region_any hm (any_float (C := fun w' => ∃ p : Regrown, w' = grow (redrawn w p.d) p.os) c f fo ps qs rs hf hB hQ ⟨⟨w.drawn + 1, #[]⟩, by rw [grow_empty]; rfl⟩ h)
theorem inR_float {P : Program} {id : Nat} {Q : Exit → Act → World → Prop} {a : Act} {w : World} {l : List Oper} {r n' : Nat} (c f : Nat) (fo : Oper) (ps qs rs : List (Nat × Nat)) (hm : P.follows .mixedOrders = true) (hf : l[f]? = some fo) (hB : floatB l c f ps qs rs = true) (hn : l.all noDefer = true) (hQ0 : ¬ LetsOut Q) (hQ : ∀ c a d v w, Q (.panic c) (a.put d v) w → Q (.panic c) a w)
    (h : wpQuiet P l.toArray (fun w' => ∃ p : Regrown, w' = grow (redrawn w p.d) p.os) (fun a' => ∀ w', (∃ p : Regrown, w' = grow (redrawn w p.d) p.os) → wpRestF P l.toArray Q (fun w' => ∃ p : Regrown, w' = grow (redrawn w p.d) p.os) fo (cutOut l rs) (cutOut l qs) a' w') (cutOut l ps) a) : (Code.region id l.toArray true).wpIn (Fence.wide.inRound r) n' P Q a w :=
  wpIn_region_any hm (inR_any hQ0 (nd_all hn) _ _ _ _ (any_float (C := fun w' => ∃ p : Regrown, w' = grow (redrawn w p.d) p.os) c f fo ps qs rs hf hB hQ ⟨⟨w.drawn + 1, #[]⟩, by rw [grow_empty]; rfl⟩ h))
end Go.Proofs.YtegldmdcdnnegaaGreatDoor
namespace Go.Proofs.YtegldmdcdnnegaaGreatDoor
open Go.ChangeShapes Go.WideShapes Go.ChangeAt Go.RowKit Go.Sort Go.Shelf

/-- A row that came, as news for an append. -/
theorem row_news {W : World} {ar : Option Addr} {row : List Int} {ad : Addr} (h : IntsAt W ar row) (had : ar = some ad) : ∀ j u, (row.map (Value.int .i64))[j]? = some u → W.cell? (ad.add j) = some u := by
  intro j u hj
  have hjl : j < row.length := by have := (List.getElem?_eq_some_iff.1 hj).1; simpa using this
  obtain ⟨b, o, rfl, hc⟩ := h (by intro e; simp [e] at hjl)
  obtain rfl := Option.some.inj had
  rw [addr_add, hc j hjl, ← hj]
  simp [List.getD, hjl]
theorem none_len {W : World} {ar : Option Addr} {row : List Int} (h : IntsAt W ar row) (hn : ar = none) : row.length = 0 := by
  rcases row with _ | ⟨x, xs⟩
  · rfl
  · obtain ⟨b, o, hb, -⟩ := h (by simp)
    rw [hn] at hb
    cases hb
theorem row_ones {row : List Int} : ∀ u ∈ row.map (Value.int .i64), u.oneCell' = true := by
  intro u hu
  obtain ⟨y, -, rfl⟩ := List.mem_map.1 hu
  rfl
theorem asc_up {lo hi hi' : Int} {xs : List Int} (h : ascB lo hi xs = true) (hh : hi ≤ hi') : ascB lo hi' xs = true := by
  induction xs generalizing lo with
  | nil => rfl
  | cons x r ih =>
    obtain ⟨h1, h2⟩ := asc_cons.1 h
    exact asc_cons.2 ⟨by omega, ih h2⟩
theorem rep_zero (n : Nat) : rep n (strOfNums [0]) = strOfNums (List.replicate n 0) := by
  induction n with
  | zero => rfl
  | succ n ih =>
    rw [rep, ih, List.replicate_succ]
    rfl
theorem zeros_bytes {n : Nat} : BytesL (List.replicate n 0) := fun x hx => by
  obtain rfl := List.eq_of_mem_replicate hx
  omega
theorem okRows {c : Int} {n : Nat} {es : List EqV} (h : solverP c n es) : OkRows es n := fun e he => by
  obtain ⟨i, hi, rfl⟩ := List.getElem_of_mem he
  have h1 := (okE_iff.1 h.2 i hi).1
  exact ⟨asc_up h1.1 h.1.1.2, h1.2.2, by have := h1.2.1; omega⟩
/-- Behind the call: what is left of the row says it. -/
theorem says_post {c : Int} {n : Nat} {es : List EqV} {row : List Int} {s : List Int × List Int} (hp : solverP c n es) (hr : ascB (-1) c row = true) (hs : s = es.foldl stepE (row, List.replicate n 0)) :
    (s.1 = [] → saysT c n es row = strOfNums s.2 ∧ decide (saysP c n es row) = true) ∧ (s.1 ≠ [] → saysT c n es row = ⟨#[]⟩ ∧ decide (saysP c n es row) = false) := by
  have e : saysS es n row = s := by rw [hs]; rfl
  constructor
  · intro h
    have hP : saysP c n es row := ⟨hp, hr, by rw [e]; exact h⟩
    exact ⟨by unfold saysT; rw [if_pos hP, e], decide_eq_true hP⟩
  · intro h
    have hP : ¬ saysP c n es row := fun k => h (by rw [← e]; exact k.2.2)
    exact ⟨by unfold saysT; rw [if_neg hP], decide_eq_false hP⟩
end Go.Proofs.YtegldmdcdnnegaaGreatDoor
namespace Go.Proofs.YtegldmdcdnnegaaGreatDoor
open Go.ChangeShapes Go.WideShapes Go.ChangeAt Go.RowKit Go.Sort Go.Shelf

/-- The code of an equation of no block. -/
def codeK (d : List Int) (n : Nat) : Int := if d = List.replicate n 0 then 1 else 2
theorem mem_xor {xs ys : List Int} (hx : ascB (-1) 24 xs = true) (hy : ascB (-1) 24 ys = true) {x : Int} (h0 : 0 ≤ x) : x ∈ xorM xs ys ↔ ¬ (x ∈ xs ↔ x ∈ ys) := by
  obtain ⟨n, rfl⟩ := Int.eq_ofNat_of_zero_le h0
  rw [← setI_mem (xorM_asc hx hy) n, ← setI_mem hx n, ← setI_mem hy n, setI_xorM hx hy, Nat.testBit_xor]
  cases (setI xs).testBit n <;> cases (setI ys).testBit n <;> simp
theorem hd_least {xs : List Int} {hi : Int} (h : ascB (-1) hi xs = true) {x : Int} (hx : x ∈ xs) : hd xs ≤ x := by
  cases xs with
  | nil => cases hx
  | cons y r =>
    obtain ⟨-, h2⟩ := asc_cons.1 h
    rcases List.mem_cons.1 hx with rfl | h3
    · exact Int.le_refl _
    · have := (asc_mem h2 h3).1
      show y ≤ x
      omega
theorem hd_unique {xs : List Int} {hi : Int} (h : ascB (-1) hi xs = true) {m : Int} (hm : m ∈ xs) (hl : ∀ x ∈ xs, m ≤ x) : hd xs = m := by
  have h1 := hd_least h hm
  have h2 := hl _ (hd_mem (by intro e; rw [e] at hm; cases hm))
  omega
theorem hd_xor {xs ys : List Int} (hx : ascB (-1) 24 xs = true) (hy : ascB (-1) 24 ys = true) (_hy0 : ys ≠ []) (hin : hd ys ∈ xs) (hne : hd ys ≠ hd xs) : xorM xs ys ≠ [] ∧ hd (xorM xs ys) = hd xs := by
  have hlt : hd xs < hd ys := by have := hd_least hx hin; omega
  have hx0 : xs ≠ [] := by intro e; rw [e] at hin; cases hin
  have hmx := hd_mem hx0
  have h0 := (asc_mem hx hmx).1
  have hmem : hd xs ∈ xorM xs ys := (mem_xor hx hy (by omega)).2 (fun h => by
    have := hd_least hy (h.1 hmx)
    omega)
  refine ⟨fun e => (by rw [e] at hmem; cases hmem), hd_unique (xorM_asc hx hy) hmem (fun x hxm => ?_)⟩
  have hx1 := (asc_mem (xorM_asc hx hy) hxm).1
  by_cases hxx : x ∈ xs
  · exact hd_least hx hxx
  · have hxy : x ∈ ys := by
      apply Classical.byContradiction
      intro hny
      exact (mem_xor hx hy (by omega)).1 hxm ⟨fun k => absurd k hxx, fun k => absurd k hny⟩
    have := hd_least hy hxy
    omega
/-- Behind the first k equations, none of their first numbers is left. -/
theorem less_to {c z : Int} {es : List EqV} (hok : okE c z es) (hc : c ≤ 24) {row d : List Int} (hr : ascB (-1) 24 row = true) : ∀ k, k ≤ es.length →
    ascB (-1) 24 ((es.take k).foldl stepE (row, d)).1 = true ∧ ∀ i (hi : i < es.length), i < k → hd es[i].r ∉ ((es.take k).foldl stepE (row, d)).1
  | 0, _ => ⟨hr, fun i _ h => absurd h (by omega)⟩
  | k + 1, hk => by
    obtain ⟨h1, h2⟩ := less_to (z := z) (d := d) hok hc hr k (by omega)
    have hkl : k < es.length := by omega
    have e1 : (es.take (k + 1)).foldl stepE (row, d) = stepE ((es.take k).foldl stepE (row, d)) es[k] := by
      rw [List.take_succ_eq_append_getElem hkl, List.foldl_append]; rfl
    obtain ⟨s, hs⟩ : ∃ s, s = (es.take k).foldl stepE (row, d) := ⟨_, rfl⟩
    rw [e1]
    rw [← hs] at h1 h2 ⊢
    have hkr := (okE_iff.1 hok k hkl).1
    have hka := asc_up hkr.1 hc
    have hp2 := (okE_p.1 hok).2
    refine ⟨stepE_asc h1 hka, fun i hi hik => ?_⟩
    have hir := (okE_iff.1 hok i hi).1
    have hi0 := (asc_mem hir.1 (hd_mem hir.2.2)).1
    unfold stepE
    by_cases hin : hd es[k].r ∈ s.1
    · rw [if_pos hin]
      intro hm
      have hx := (mem_xor h1 hka (by omega)).1 hm
      by_cases hki : k = i
      · subst hki
        exact hx ⟨fun _ => hd_mem hkr.2.2, fun _ => hin⟩
      · exact hx ⟨fun h => absurd h (h2 i hi (by omega)), fun h => absurd h (hp2 i k hi hkl hki)⟩
    · rw [if_neg hin]
      by_cases hki : k = i
      · subst hki; exact hin
      · exact h2 i hi (by omega)
theorem less_free {c z : Int} {es : List EqV} (hok : okE c z es) (hc : c ≤ 24) {row d : List Int} (hr : ascB (-1) 24 row = true) {e : EqV} (he : e ∈ es) : hd e.r ∉ (es.foldl stepE (row, d)).1 := by
  obtain ⟨i, hi, rfl⟩ := List.getElem_of_mem he
  have h := (less_to (z := z) (d := d) hok hc hr es.length (Nat.le_refl _)).2 i hi hi
  rwa [List.take_length] at h
end Go.Proofs.YtegldmdcdnnegaaGreatDoor
namespace Go.Proofs.YtegldmdcdnnegaaGreatDoor
open Go.ChangeShapes Go.WideShapes Go.ChangeAt Go.RowKit Go.Sort Go.Shelf
attribute [local go_sem] Oper.semAt_some

theorem zeros_all {d : List Int} (h : ∀ j, j < d.length → d.getD j 0 = 0) : d = List.replicate d.length 0 := by
  apply List.ext_getElem (by simp)
  intro i h1 h2
  have := h i h1
  rw [getD_eq h1] at this
  simp [this]

set_option maxRecDepth 100000 in
set_option maxHeartbeats 2000000 in
theorem emptyCode_any (q c : Nat) (d : List Int) (w : World) (h : BytsAt w q d) (hx : d.length ≤ 1048576) :
    Calls Tryz.prog 88 #[.slice (some ⟨q, 0, none⟩) d.length c] w fun e w' => e = .returned (.int .i64 (codeK d d.length)) ∧ w' = w := by
  have H := hid h
  clear h
  go_enter Tryz.func88, Tryz.ntmps88
  go_wp2_with fail
  go_loop [7] (fun i => ∃ k : Nat, k ≤ d.length ∧ i = .int .i64 k ∧ ∀ j, j < k → d.getD j 0 = 0) (fun i => d.length - (intOf i).toNat)
  case atStart => exact ⟨0, Nat.zero_le _, rfl, fun j hj => absurd hj (by omega)⟩
  case round =>
    obtain ⟨k, hk, rfl, hz⟩ := hrel
    have HZ := hid hz
    clear hz
    by_cases hlt : k < d.length
    · have c0 := H.out.2 k hlt
      have HG := hid (show ∀ j, j < d.length → d.getD j 0 = d.getD j 0 from fun _ _ => rfl)
      obtain ⟨x, hx0⟩ : ∃ x, x = d.getD k 0 := ⟨_, rfl⟩
      rw [← hx0] at c0
      have HX := hid hx0
      clear hx0 HG
      by_cases h0 : x = 0
      · have HZ2 := hid (show ∀ j, j < k + 1 → d.getD j 0 = 0 from fun j hj => by
          by_cases hjk : j = k
          · rw [hjk, ← HX.out]; exact h0
          · exact HZ.out j (by omega))
        subst h0
        go_wp2_with fail
        go_round
        case rel => exact ⟨k + 1, by omega, by go_num, HZ2.out⟩
        case measure => simp [intOf]; omega
      · have HE := hid (show codeK d d.length = 2 from if_neg (fun e => h0 (by rw [HX.out, e, getD_eq (by simpa using hlt)]; simp)))
        go_wp2_with fail
        go_ret
        exact ⟨ret_int HE.out.symm, rfl⟩
    · obtain rfl : k = d.length := by omega
      have HE := hid (show codeK d d.length = 1 from if_pos (zeros_all HZ.out))
      go_wp2_with fail
      go_ret
      exact ⟨ret_int HE.out.symm, rfl⟩
end Go.Proofs.YtegldmdcdnnegaaGreatDoor
namespace Go.Proofs.YtegldmdcdnnegaaGreatDoor
open Go.ChangeShapes Go.WideShapes Go.ChangeAt Go.RowKit

/-- Cells that can be read as a value of a type. -/
def Reads (W : World) (t : TypeId) (cs : List Value) : Prop :=
  ∃ (H : Type) (enc : TypeId × Value → H) (fuel : Nat) (x : DataW H × List MemPlace), DataW.trod enc Tryz.prog W 0 (fun _ => true) true fuel t cs = some x

theorem Reads.int {W : World} {t : TypeId} {k : IntKind} {cs : List Value} (ht : Tryz.prog.underlying t = some (.int k)) (h : Reads W t cs) : ∃ n, cs = [.int k n] ∧ (Lit.int k n).wf = true := by
  obtain ⟨H, enc, fuel, x, h⟩ := h
  cases fuel with
  | zero => simp [DataW.trod] at h
  | succ n =>
    unfold DataW.trod at h
    rw [ht] at h
    split at h <;> simp_all
theorem Reads.string {W : World} {t : TypeId} {cs : List Value} (ht : Tryz.prog.underlying t = some .string) (h : Reads W t cs) : ∃ s, cs = [.string s] ∧ s.size ≤ maxLen := by
  obtain ⟨H, enc, fuel, x, h⟩ := h
  cases fuel with
  | zero => simp [DataW.trod] at h
  | succ n =>
    unfold DataW.trod at h
    rw [ht] at h
    split at h <;> simp_all
theorem Reads.bool {W : World} {t : TypeId} {cs : List Value} (ht : Tryz.prog.underlying t = some .bool) (h : Reads W t cs) : ∃ b, cs = [.bool b] := by
  obtain ⟨H, enc, fuel, x, h⟩ := h
  cases fuel with
  | zero => simp [DataW.trod] at h
  | succ n =>
    unfold DataW.trod at h
    rw [ht] at h
    split at h <;> simp_all
theorem Reads.struct {W : World} {t : TypeId} {fs : Array Field} {cs : List Value} (ht : Tryz.prog.underlying t = some (.struct fs)) (h : Reads W t cs) :
    cs.length = Tryz.prog.cellsOf t ∧ ∀ (i : Nat) (f : Field), fs[i]? = some f → Reads W f.type ((cs.drop f.offset).take (Tryz.prog.cellsOf f.type)) := by
  obtain ⟨H, enc, fuel, x, h⟩ := h
  obtain ⟨xs, n, _, _, hl, hx, hf⟩ := DataW.trod_struct ht h
  refine ⟨hl, fun i f hi => ?_⟩
  have h1 := hf i f hi
  have : i < fs.size := by
    rcases Nat.lt_or_ge i fs.size with h | h
    · exact h
    · rw [Array.getElem?_eq_none h] at hi; simp at hi
  rw [List.getElem?_eq_getElem (by omega)] at h1
  exact ⟨H, enc, n, _, h1⟩
theorem Reads.slice {W : World} {t e : TypeId} {cs : List Value} (ht : Tryz.prog.underlying t = some (.slice e)) (h : Reads W t cs) :
    cs = [.slice none 0 0] ∨ ∃ (a : Addr) (len cap : Nat), cs = [.slice (some a) len cap] ∧ len ≤ cap ∧ cap ≤ maxLen ∧
      ∀ i, i < cap → ∃ cs', W.cells? 0 (a.add (i * Tryz.prog.cellsOf e)) (Tryz.prog.cellsOf e) = some cs' ∧ Reads W e cs' := by
  obtain ⟨H, enc, fuel, x, h⟩ := h
  rcases Go.Deep.open_slice ht h with ⟨h0, _⟩ | ⟨a, len, cap, m, n, D, Pl, h0, _, hl, hm, hmm, _, hx⟩
  · exact Or.inl h0
  · refine Or.inr ⟨a, len, cap, h0, hl, hm, fun i hi => ?_⟩
    obtain ⟨cs', h1, h2⟩ := hx i (by rw [hmm]; simpa using hi)
    exact ⟨cs', h1, H, enc, n, _, h2⟩
theorem Reads.ints {W : World} {t e : TypeId} {k : IntKind} {cs : List Value} (ht : Tryz.prog.underlying t = some (.slice e)) (he : Tryz.prog.underlying e = some (.int k)) (hc : Tryz.prog.cellsOf e = 1) (h : Reads W t cs) :
    ∃ a len cap zs, cs = [.slice a len cap] ∧ IsRow k W a len cap zs := by
  obtain ⟨H, enc, fuel, x, h⟩ := h
  rcases open_ints ht he hc h with ⟨hcs, _⟩ | ⟨x, l, c, zs, hcs, _, hl, hm, hz, _, hcell, hwz⟩
  · exact ⟨none, 0, 0, [], hcs, .inl ⟨rfl, rfl, rfl, rfl⟩⟩
  · exact ⟨some x, l, c, zs, hcs, .inr ⟨_, rfl, hl, hm, by simpa using hz, hcell, hwz⟩⟩
set_option maxRecDepth 100000 in
/-- The cells of an argument that is a struct. -/
theorem Reads.arg {H : Type} {enc : TypeId × Value → H} {W : World} {t : TypeId} {fs : Array Field} {r : Reach} {b0 : Nat} {v : Value} {d : DataW H} {ps : List MemPlace} (ht : Tryz.prog.underlying t = some (.struct fs))
    (hv : Value.okWide Tryz.prog W r b0 t v) (h : DataW.Trod enc Tryz.prog W 0 (fun _ => true) true t v d ps) : ∃ cs : List Value, v = .agg cs.toArray ∧ Reads W t cs := by
  obtain ⟨cs, rfl, _⟩ := okWide_struct ht hv
  obtain ⟨m, hm⟩ := h
  refine ⟨cs.toList, by simp, H, enc, m, (d, ps), ?_⟩
  simpa [Value.cells] using hm
end Go.Proofs.YtegldmdcdnnegaaGreatDoor
namespace Go.Proofs.YtegldmdcdnnegaaGreatDoor
open Go.ChangeShapes Go.WideShapes Go.ChangeAt Go.RowKit

set_option maxRecDepth 100000 in
set_option maxHeartbeats 1000000 in
theorem eqIntS_any (a b : Option Addr) (ca cb : Nat) (xs ys : List Int) (w : World) (ha : IntsAt w a xs) (hb : IntsAt w b ys) (hx : xs.length ≤ 1152921504606846976) :
    Calls Tryz.prog 59 #[.slice a xs.length ca, .slice b ys.length cb] w fun e w' => e = .returned (.bool (decide (xs = ys))) ∧ ∃ n, w' = w.drewN n := by
  by_cases hl : xs.length = ys.length
  · have hl2 : ((xs.length : Int) != ys.length) = false := by simp [hl]
    have HL : Hid (xs.length = ys.length) := hl
    clear hl
    go_enter Tryz.func59, Tryz.ntmps59
    go_wp2
    go_loopw [5] (fun i wr => ∃ k : Nat, k ≤ xs.length ∧ i = .int .i64 k ∧ xs.take k = ys.take k ∧ ∃ n, wr = w.drewN n) (fun i _ => xs.length - (intOf i).toNat)
    case atStart => exact ⟨0, Nat.zero_le _, rfl, rfl, 0, rfl⟩
    case round =>
      obtain ⟨k, hk, rfl, he, n, rfl⟩ := hrel
      by_cases hlt : k < xs.length
      · have hne : xs ≠ [] := by intro h; simp [h] at hlt
        have hlt2 : k < ys.length := by have := HL.out; omega
        have hne2 : ys ≠ [] := by intro h; simp [h] at hlt2
        obtain ⟨b1, o1, rfl, h1⟩ := ha hne
        obtain ⟨b2, o2, rfl, h2⟩ := hb hne2
        have c1 := h1 k hlt
        have c2 := h2 k (by omega)
        have HE : Hid _ := he
        obtain ⟨X, hX⟩ : ∃ X, X = xs.getD k 0 := ⟨_, rfl⟩
        obtain ⟨Y, hY⟩ : ∃ Y, Y = ys.getD k 0 := ⟨_, rfl⟩
        rw [← hX] at c1
        rw [← hY] at c2
        have HX : Hid _ := hX
        have HY : Hid _ := hY
        clear he h1 h2 hX hY
        by_cases hxy : X = Y
        · have hxy' : (X != Y) = false := by simp [hxy]
          have HXY : Hid _ := hxy
          clear hxy
          go_wp2
          go_quiet (fail)
          go_wp2
          go_roundw
          case rel => exact ⟨k + 1, by omega, by go_num, take_eq HE.out hlt hlt2 (by rw [← HX.out, ← HY.out]; exact HXY.out), n + nq, rfl⟩
          case measure => simp [intOf]; omega
        · have hxy' : (X != Y) = true := by simp [hxy]
          have HXY : Hid _ := hxy
          clear hxy
          go_wp2
          go_quiet (fail)
          go_wp2
          go_ret
          exact ⟨ret_bool (by simpa using take_ne (by rw [← HX.out, ← HY.out]; exact HXY.out)), drewN_two w n nq⟩
      · go_wp2
        go_ret
        refine ⟨ret_bool ?_, n, rfl⟩
        have h1 : xs = ys := by
          have e1 : xs.take k = xs := List.take_of_length_le (by omega)
          have e2 : ys.take k = ys := List.take_of_length_le (by have := HL.out; omega)
          rw [e1, e2] at he; exact he
        simp [h1]
  · have hl2 : ((xs.length : Int) != ys.length) = true := by simp; omega
    have hne : xs ≠ ys := fun h => hl (by rw [h])
    have HN : Hid _ := hne
    clear hl hne
    go_enter Tryz.func59, Tryz.ntmps59
    go_wp2
    go_ret
    exact ⟨ret_bool (by simpa using HN.out), 0, rfl⟩
end Go.Proofs.YtegldmdcdnnegaaGreatDoor
