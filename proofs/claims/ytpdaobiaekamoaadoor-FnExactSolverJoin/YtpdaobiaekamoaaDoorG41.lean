/- What two know together: values alone. -/
import Derived.Test.YtpdaobiaekamoaaDoorG38
import Derived.Test.YtpdaobiaekamoaaDoorG39
namespace Go.Proofs.YtpdaobiaekamoaaDoor
open Go.ChangeShapes Go.WideShapes Go.ChangeAt Go.RowKit Go.Sort Go.Shelf

def eqOf (k : Vl) : EqV := ⟨none, 0, k.1, k.2⟩
theorem valsE_eqOf (ks : List Vl) : valsE (ks.map eqOf) = ks := by
  unfold valsE
  rw [List.map_map]
  exact List.map_id' ks
theorem sam_eqOf {es : List EqV} {ks : List Vl} (h : valsE es = ks) : SamV es (ks.map eqOf) := vals_same.1 (by rw [valsE_eqOf]; exact h)
/-- One equation more: nothing, if it is wrong. -/
def join1 (o : Option (List Vl)) (e : Vl) : Option (List Vl) := match o with
  | none => none
  | some ks => if learnC (ks.map eqOf) e.1 (numsOf e.2) e.2.size = 2 then none else some (learnV (ks.map eqOf) e.1 (numsOf e.2))
def joinV (ks : List Vl) (es : List Vl) : Option (List Vl) := es.foldl join1 (some ks)
theorem join_none : ∀ (es : List Vl), es.foldl join1 none = none
  | [] => rfl
  | _ :: es => join_none es
theorem join1_ok {c z : Int} {ks ks' : List Vl} {e : Vl} (hc : (1 ≤ c ∧ c ≤ 24) ∧ 1 ≤ z ∧ z ≤ 16) (hk : okV c z ks) (h1 : ascB (-1) c e.1 = true) (h2 : (e.2.size : Int) = z) (h : join1 (some ks) e = some ks') : okV c z ks' := by
  unfold join1 at h
  simp only at h
  split at h
  · cases h
  · have h3 := Option.some.inj h
    rw [← h3]
    refine learnV_ok ⟨hc, ok_vals.2 (by rw [valsE_eqOf]; exact hk)⟩ h1 (by rw [numsOf_len]; exact h2)
theorem learn_code (es : List EqV) (row d : List Int) (n : Nat) : learnC es row d n = 0 ∨ learnC es row d n = 1 ∨ learnC es row d n = 2 := by
  unfold learnC codeK
  split
  · split
    · exact .inr (.inl rfl)
    · exact .inr (.inr rfl)
  · exact .inl rfl
/-- Two that are ok, of one count and size. -/
def twoP (c z c' z' : Int) (es fs : List EqV) : Prop := solverP c z es ∧ solverP c' z' fs ∧ c = c' ∧ z = z'
theorem solver_eqOf {c z : Int} {ks : List Vl} (hc : (1 ≤ c ∧ c ≤ 24) ∧ 1 ≤ z ∧ z ≤ 16) (hk : okV c z ks) : solverP c z (ks.map eqOf) := ⟨hc, ok_vals.2 (by rw [valsE_eqOf]; exact hk)⟩
/-- A list that the program holds, as equations. -/
theorem same_eqOf {ls : List Lk} (hb : ∀ l ∈ ls, BytesL l.d) : SameE ls ((valsL ls).map eqOf) := by
  unfold valsL
  rw [List.map_map]
  constructor
  · rw [List.map_map]; rfl
  · rw [List.map_map]
    apply List.map_congr_left
    intro l hl
    show l.d = numsOf (strOfNums l.d)
    exact (nums_str (hb l hl)).symm
end Go.Proofs.YtpdaobiaekamoaaDoor
