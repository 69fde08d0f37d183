/- A region that draws its order: reads in an order of our own, then calls that lay memory, then stores: walked once. -/
import Derived.Test.YtnjjdcalmgjaiaaDoorInrL
namespace Go.Proofs.YtnjjdcalmgjaiaaDoor
open Go.ChangeShapes Go.WideShapes Go.ChangeAt Go.RowKit Go.Sort

def ixs : List (Nat × Nat) → List Nat
  | [] => []
  | (s, n) :: ps => List.range' s n ++ ixs ps
def cutOut (l : List Oper) : List (Nat × Nat) → List Oper
  | [] => []
  | (s, n) :: ps => (l.drop s).take n ++ cutOut l ps
/-- Those places hold those operations. -/
def Lies (ops : Array Oper) : List Nat → List Oper → Prop
  | [], [] => True
  | i :: is, o :: l => ops[i]? = some o ∧ Lies ops is l
  | _, _ => False
theorem Lies.append {ops : Array Oper} : ∀ {is : List Nat} {l : List Oper} {js : List Nat} {m : List Oper}, Lies ops is l → Lies ops js m → Lies ops (is ++ js) (l ++ m)
  | [], [], _, _, _, h => h
  | _ :: _, _ :: _, _, _, h, k => ⟨h.1, h.2.append k⟩
  | [], _ :: _, _, _, h, _ => h.elim
  | _ :: _, [], _, _, h, _ => h.elim
theorem lies_range (l : List Oper) : ∀ (n s : Nat), s + n ≤ l.length → Lies l.toArray (List.range' s n) ((l.drop s).take n)
  | 0, s, _ => by simp [Lies]
  | n + 1, s, h => by
    have hs : s < l.length := by omega
    rw [List.range'_succ, List.drop_eq_getElem_cons hs, List.take_succ_cons]
    exact ⟨by simp [List.getElem?_eq_getElem hs], lies_range l n (s + 1) (by omega)⟩
theorem lies_cut (l : List Oper) : ∀ (ps : List (Nat × Nat)), ps.all (fun p => decide (p.1 + p.2 ≤ l.length)) = true → Lies l.toArray (ixs ps) (cutOut l ps)
  | [], _ => trivial
  | (s, n) :: ps, h => by
    simp only [List.all_cons, Bool.and_eq_true, decide_eq_true_eq] at h
    exact (lies_range l n s h.1).append (lies_cut l ps h.2)
theorem lies_len {ops : Array Oper} : ∀ {is : List Nat} {l : List Oper}, Lies ops is l → is.length = l.length
  | [], [], _ => rfl
  | _ :: _, _ :: _, h => by simp [lies_len h.2]
  | [], _ :: _, h => h.elim
  | _ :: _, [], h => h.elim

def frontL (md : Region.Mode) (ops : Array Oper) (L1 : Array Bool) : List Nat → Array Bool → Bool
  | [], listed => listed == L1
  | k :: is, listed => (Region.ready md ops listed).contains k && Region.free md ops listed k && frontL md ops L1 is (listed.setIfInBounds k true)
section
variable {P : Program} {ops : Array Oper} {md : Region.Mode} {Q : Exit → Act → World → Prop} {C : World → Prop} {c : Nat}

end

end Go.Proofs.YtnjjdcalmgjaiaaDoor
