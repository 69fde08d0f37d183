/- How many of the first blocks are known, and a block that is known, by the program. A block that is known, by the program. What the model knows of equations. -/
import Derived.Test.YtfciopjcbeccgaaGreatDoorG14
import Derived.Laws.BytesArg
import Derived.Test.YtfciopjcbeccgaaGreatDoorG19
namespace Go.Proofs.YtfciopjcbeccgaaGreatDoor
open Go.ChangeShapes Go.WideShapes Go.ChangeAt Go.RowKit Go.Sort Go.Shelf
attribute [local go_sem] Oper.semAt_some

/-- From a number on, how far the rows are that number alone. -/
def pfx : Nat → List (List Int) → Nat
  | n, [] => n
  | n, r :: rs => if r = [(n : Int)] then pfx (n + 1) rs else n
/-- Rows that are their places alone. -/
def Places (rs : List (List Int)) : Prop := ∀ i (h : i < rs.length), rs[i] = [(i : Int)]
theorem pfx_over (p t : List (List Int)) : ∀ n : Nat, (∀ i (h : i < p.length), p[i] = [((n + i : Nat) : Int)]) → pfx n (p ++ t) = pfx (n + p.length) t := by
  induction p with
  | nil => intro n _; rfl
  | cons r p ih =>
    intro n h
    have h0 : r = [(n : Int)] := h 0 (by simp)
    show (if r = [(n : Int)] then pfx (n + 1) (p ++ t) else n) = _
    rw [if_pos h0, ih (n + 1) (fun i hi => by have := h (i + 1) (by simpa using hi); simpa [Nat.add_assoc, Nat.add_comm 1 i] using this), List.length_cons, Nat.add_assoc, Nat.add_comm 1 p.length]
theorem pfx_all {rs : List (List Int)} (h : Places rs) : pfx 0 rs = rs.length := by
  have := pfx_over rs [] 0 (fun i hi => by simpa using h i hi)
  rw [List.append_nil] at this
  rw [this, Nat.zero_add]
  rfl
theorem pfx_stop {p : List (List Int)} {r : List Int} {t : List (List Int)} (h : Places p) (hr : r ≠ [(p.length : Int)]) : pfx 0 (p ++ r :: t) = p.length := by
  rw [pfx_over p (r :: t) 0 (fun i hi => by simpa using h i hi), Nat.zero_add]
  show (if r = [(p.length : Int)] then _ else p.length) = _
  rw [if_neg hr]
theorem Places.snoc {p : List (List Int)} {r : List Int} (h : Places p) (hr : r = [(p.length : Int)]) : Places (p ++ [r]) := fun i hi => by
  by_cases hlt : i < p.length
  · rw [List.getElem_append_left hlt]; exact h i hlt
  · obtain rfl : i = p.length := by simp at hi; omega
    rw [List.getElem_append_right (Nat.le_refl _)]
    simpa using hr
/-- The rows of links. -/
def rowsA {ls : List Lk} (p : List {x : Lk // x ∈ ls}) : List (List Int) := p.map (fun x => x.1.r)
theorem rowsA_len {ls : List Lk} (p : List {x : Lk // x ∈ ls}) : (rowsA p).length = p.length := List.length_map _
theorem rowsA_snoc {ls : List Lk} (p : List {x : Lk // x ∈ ls}) (x : {x : Lk // x ∈ ls}) : rowsA (p ++ [x]) = rowsA p ++ [x.1.r] := by simp [rowsA]
theorem attach_rows (ls : List Lk) : rowsA ls.attach = ls.map Lk.r := by
  unfold rowsA
  have : ls.attach.map (fun x => x.1) = ls := List.attach_map_subtype_val ls
  calc ls.attach.map (fun x => x.1.r) = (ls.attach.map (fun x => x.1)).map Lk.r := by rw [List.map_map]; rfl
    _ = ls.map Lk.r := by rw [this]
end Go.Proofs.YtfciopjcbeccgaaGreatDoor
namespace Go.Proofs.YtfciopjcbeccgaaGreatDoor
open Go.ChangeShapes Go.WideShapes Go.ChangeAt Go.RowKit Go.Sort Go.Shelf
attribute [local go_sem] Oper.semAt_some

theorem str_numsOf (s : ByteArray) : strOfNums (numsOf s) = s := by
  show (⟨((s.data.toList.map (fun b => (b.toNat : Int))).map fun n => UInt8.ofNat n.toNat).toArray⟩ : ByteArray) = s
  rw [List.map_map]
  have : (fun n : Int => UInt8.ofNat n.toNat) ∘ (fun b : UInt8 => (b.toNat : Int)) = id := by
    funext b
    simp
  rw [this, List.map_id, Array.toArray_toList]
/-- The equation of a block alone. -/
def getE (es : List EqV) (at' : Int) : Option EqV := es.find? (fun e => decide (e.r = [at']))
theorem getE_none {es : List EqV} {at' : Int} (h : ∀ r ∈ es.map EqV.r, r ≠ [at']) : getE es at' = none := by
  unfold getE
  rw [List.find?_eq_none]
  intro e he
  have := h e.r (List.mem_map_of_mem he)
  simpa using this
theorem getE_at {es : List EqV} {at' : Int} {k : Nat} (hk : k < es.length) (h1 : es[k].r = [at']) (h0 : ∀ j (hj : j < k), es[j].r ≠ [at']) : getE es at' = some es[k] := by
  unfold getE
  rw [List.find?_eq_some_iff_getElem]
  exact ⟨by simpa using h1, k, hk, rfl, fun j hj => by simpa using h0 j hj⟩
/-- What is said of a block. -/
def gotS (o : Option EqV) : ByteArray := match o with
  | some e => e.d
  | none => ByteArray.empty
end Go.Proofs.YtfciopjcbeccgaaGreatDoor
namespace Go.Proofs.YtfciopjcbeccgaaGreatDoor
open Go.ChangeShapes Go.WideShapes Go.ChangeAt Go.RowKit Go.Sort Go.Shelf
attribute [local go_sem] Oper.semAt_some

theorem getE_take_none {es : List EqV} {at' : Int} (h : ∀ i (hi : i < es.length), es[i].r ≠ [at']) : getE es at' = none := getE_none (fun r hr => by
  obtain ⟨e, he, rfl⟩ := List.mem_map.1 hr
  obtain ⟨i, hi, rfl⟩ := List.getElem_of_mem he
  exact h i hi)
theorem eqsOf_yes {c z : Int} {es : List EqV} (h : solverP c z es) : eqsOf c z es = es := if_pos h
theorem eqsOf_no {c z : Int} {es : List EqV} (h : ¬ solverP c z es) : eqsOf c z es = [] := if_neg h
theorem pfx_spec : ∀ (rs : List (List Int)) (n : Nat), n ≤ pfx n rs ∧ pfx n rs ≤ n + rs.length ∧ (∀ i, n + i < pfx n rs → rs[i]? = some [((n + i : Nat) : Int)]) ∧ rs[pfx n rs - n]? ≠ some [((pfx n rs : Nat) : Int)]
  | [], n => ⟨Nat.le_refl _, Nat.le_refl _, fun i hi => by simp only [pfx] at hi; omega, by simp⟩
  | r :: rs, n => by
    by_cases h : r = [(n : Int)]
    · have e : pfx n (r :: rs) = pfx (n + 1) rs := by show (if r = [(n : Int)] then pfx (n + 1) rs else n) = _; rw [if_pos h]
      obtain ⟨h1, h2, h3, h4⟩ := pfx_spec rs (n + 1)
      rw [e]
      refine ⟨by omega, by rw [List.length_cons]; omega, fun i hi => ?_, ?_⟩
      · cases i with
        | zero => simpa using h
        | succ i =>
          have := h3 i (by omega)
          rw [List.getElem?_cons_succ, this]
          congr 3
          omega
      · rw [show pfx (n + 1) rs - n = (pfx (n + 1) rs - (n + 1)) + 1 by omega, List.getElem?_cons_succ]
        exact h4
    · have e : pfx n (r :: rs) = n := by show (if r = [(n : Int)] then pfx (n + 1) rs else n) = _; rw [if_neg h]
      rw [e]
      refine ⟨Nat.le_refl _, by omega, fun i hi => by omega, ?_⟩
      rw [Nat.sub_self, List.getElem?_cons_zero]
      intro h2
      exact h (Option.some.inj h2)
theorem hd_ge {c z : Int} {es : List EqV} (h : okE c z es) : ∀ (i : Nat) (hi : i < es.length), (i : Int) ≤ hd es[i].r := by
  have h' := okE_iff.1 h
  intro i
  induction i with
  | zero =>
    intro hi
    have := asc_mem (h' 0 hi).1.1 (hd_mem (h' 0 hi).1.2.2)
    omega
  | succ i ih =>
    intro hi
    have h1 := ih (by omega)
    have h2 := ((h' i (by omega)).2 (i + 1) hi (by omega)).1
    omega
theorem prefix_known {c z : Int} {es : List EqV} (h : okE c z es) : (∀ n : Nat, n < pfx 0 (es.map EqV.r) → (getE es n).isSome = true) ∧ getE es (pfx 0 (es.map EqV.r) : Nat) = none := by
  obtain ⟨h1, h2, h3, h4⟩ := pfx_spec (es.map EqV.r) 0
  rw [Nat.sub_zero] at h4
  simp only [Nat.zero_add] at h2 h3
  rw [List.length_map] at h2
  have hr : ∀ n : Nat, n < pfx 0 (es.map EqV.r) → ∃ hn : n < es.length, es[n].r = [(n : Int)] := fun n hn => by
    have hl : n < es.length := by omega
    have := h3 n hn
    rw [List.getElem?_map, List.getElem?_eq_getElem hl, Option.map_some] at this
    exact ⟨hl, Option.some.inj this⟩
  refine ⟨fun n hn => ?_, getE_take_none (fun i hi he => ?_)⟩
  · obtain ⟨hl, he⟩ := hr n hn
    unfold getE
    rw [List.find?_isSome]
    exact ⟨es[n], List.getElem_mem hl, by simpa using he⟩
  · generalize hp : pfx 0 (es.map EqV.r) = p at *
    rcases Nat.lt_trichotomy i p with hlt | heq | hgt
    · obtain ⟨_, h5⟩ := hr i hlt
      rw [h5] at he
      have := List.cons.inj he
      omega
    · subst heq
      rw [List.getElem?_map, List.getElem?_eq_getElem hi, Option.map_some, he] at h4
      exact h4 rfl
    · have h5 := hd_ge h p (by omega)
      have h6 := ((okE_iff.1 h p (by omega)).2 i hi hgt).1
      rw [he] at h6
      have : hd [(p : Int)] = p := rfl
      omega
end Go.Proofs.YtfciopjcbeccgaaGreatDoor
