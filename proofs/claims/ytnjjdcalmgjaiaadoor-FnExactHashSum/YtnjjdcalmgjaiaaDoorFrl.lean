/- A region that draws its order: reads of what stays as it is, then what lays memory, then stores: walked once. -/
import Derived.Test.YtnjjdcalmgjaiaaDoorFrt
import Derived.OrdersHeld
namespace Go.Proofs.YtnjjdcalmgjaiaaDoor
open Go.ChangeShapes Go.WideShapes Go.ChangeAt Go.RowKit Go.Sort

section
variable {P : Program} {ops : Array Oper} {md : Region.Mode} {Q : Exit → Act → World → Prop} {C : World → Prop} {c : Nat}

/-- Whatever order comes; behind those ahead of c the class is kept. -/
def wpMid (P : Program) (md : Region.Mode) (ops : Array Oper) (Q : Exit → Act → World → Prop) (C : World → Prop) (c : Nat) : Nat → Array Bool → Act → World → Prop
  | 0, listed, a, w => Region.ready md ops listed = [] ∧ Q .normal a w
  | fuel + 1, listed, a, w => (Region.ready md ops listed = [] → Q .normal a w) ∧
      ∀ i ∈ Region.ready md ops listed, wpOp P ops Q i (fun a' w' => (i < c → C w') ∧ wpMid P md ops Q C c fuel (listed.setIfInBounds i true) a' w') a w
theorem wpAny_of_wpMid : ∀ (fuel : Nat) (listed : Array Bool) (a : Act) (w : World), wpMid P md ops Q C c fuel listed a w → wpAny P md ops Q fuel listed a w
  | 0, _, _, _, h => h
  | fuel + 1, _, _, _, h => ⟨h.1, fun i hi => wpOp_mono (fun a' w' h' => wpAny_of_wpMid fuel _ a' w' h'.2) (h.2 i hi)⟩

theorem wpMid_first {i : Nat} {oi : Oper} {v : Value} (hi : ops[i]? = some oi) (hs : Region.noSelect ops = true) (hQ : ∀ c a d v w, Q (.panic c) (a.put d v) w → Q (.panic c) a w)
    (hpost : ∀ j, c ≤ j → j < ops.size → behind md ops i ops.size j = true) (hic : i < c) :
    ∀ (fuel : Nat) (listed : Array Bool) (a : Act) (w : World), Shut md ops listed →
      (∀ j oj, ops[j]? = some oj → j ≠ i → listed.getD j true = false → (∀ e ∈ oj.after, Region.binds md e = true → e.on ≠ i) → oi.apart ops oj = true) →
      i ∈ Region.ready md ops listed → YieldsIf P ops C oi v a → C w →
      wpMid P md ops Q C c fuel (listed.setIfInBounds i true) (a.put oi.dst v) w → wpMid P md ops Q C c (fuel + 1) listed a w
  | 0, listed, a, w, _, _, hr, hy, hC, H => by
    refine ⟨fun h => (by rw [h] at hr; cases hr), fun j hj => ?_⟩
    by_cases hji : j = i
    · subst hji; exact hy.wpOp hi hC ⟨fun _ => hC, H⟩
    · have := ready_mono hj hji
      rw [H.1] at this
      cases this
  | fuel + 1, listed, a, w, hsh, hfree, hr, hy, hC, H => by
    refine ⟨fun h => (by rw [h] at hr; cases hr), fun j hj => ?_⟩
    by_cases hji : j = i
    · subst hji; exact hy.wpOp hi hC ⟨fun _ => hC, H⟩
    · obtain ⟨hjun, oj, hoj, hall⟩ := mem_ready.1 hj
      have hjc : j < c := by
        rcases Nat.lt_or_ge j c with h1 | h1
        · exact h1
        · exact absurd (behind_listed hsh _ j (hpost j h1 (Array.getElem?_eq_some_iff.1 hoj).1) (fun o' ho' e he hb => by rw [hoj] at ho'; cases ho'; exact hall e he hb)) (not_ready hr)
      have h1 := H.2 j (ready_mono hj hji)
      have h2 := wpOp_putIf hoj (hfree j oj hoj hji hjun (unready hr hj hoj)) (fun cs b => Region.noSelect_spec hs i oi cs b hi) (fun cs b => Region.noSelect_spec hs j oj cs b hoj) (fun c a w h => hQ c a _ _ w h) hy h1
      refine wpOp_mono (fun a' w' h3 => ⟨h3.2.1, wpMid_first hi hs hQ hpost hic fuel (listed.setIfInBounds j true) a' w' (hsh.set hj) ?_ (ready_mono hr (Ne.symm hji)) h3.1 (h3.2.1 hjc) ?_⟩) h2
      · intro k ok hk hki hun hno
        refine hfree k ok hk hki ?_ hno
        by_cases hjk : j = k
        · subst hjk; exact hjun
        · rwa [getD_set_ne true hjk] at hun
      · rw [Array.setIfInBounds_comm _ _ hji]
        exact h3.2.2

/-- An operation that only reads. -/
def readOp (o : Oper) : Bool := match o.op with | .move _ | .assign _ | .pick _ _ _ | .load _ _ | .fieldAddr _ _ _ | .nilCheck _ | .indexAddr _ _ _ | .extract _ _ | .unOp _ _ _ | .convert _ _ _ => true | _ => false
/-- What ends well ends with a value. -/
def IsVal (s : Sem Next) : Prop := ∀ (P : Program) (w : World) (x : Next) (w' : World), s.run P w = .ok x w' → ∃ u, x = .value u
theorem IsVal.pure (u : Value) : IsVal (Pure.pure (Next.value u)) := fun P w x w' h => by
  have h1 : (Pure.pure (Next.value u) : Sem Next).run P w = .ok (.value u) w := rfl
  rw [h1] at h
  cases h
  exact ⟨u, rfl⟩
theorem IsVal.bind {α : Type} (s : Sem α) (f : α → Sem Next) (h : ∀ x, IsVal (f x)) : IsVal (s >>= f) := fun P w x w' hr => by
  rw [Sem.run_bind] at hr
  cases hs : s.run P w with
  | ok y w1 => rw [hs] at hr; exact h y P w1 x w' hr
  | halt y w1 => rw [hs] at hr; cases hr
theorem IsVal.ite {p : Prop} [Decidable p] {s t : Sem Next} (h : IsVal s) (k : IsVal t) : IsVal (if p then s else t) := by split <;> assumption
theorem IsVal.run {s : Sem Next} (h : IsVal s) {P : Program} {w : World} {C : World → Prop} {v : Value} (hq : Oper.quietUpon P C w v (s.run P w)) : s.run P w = .ok (.value v) w := by
  cases hr : s.run P w with
  | ok x w' =>
    obtain ⟨u, rfl⟩ := h _ _ _ _ hr
    rw [hr] at hq
    obtain ⟨h1, h2⟩ := hq
    subst h1 h2
    rfl
  | halt x w' => rw [hr] at hq; exact hq.elim
theorem readOp_run {P : Program} {o : Oper} (h : readOp o = true) (ρ : Operand → Value) (w : World) {C : World → Prop} {v : Value} (hq : Oper.quietUpon P C w v ((execOp ρ o).run P w)) : (execOp ρ o).run P w = .ok (.value v) w := by
  obtain ⟨dst, op, type, pos, after, guard⟩ := o
  cases op <;> simp only [readOp] at h <;> try cases h
  case move x => exact pureOp_run (o := ⟨dst, .move x, type, pos, after, guard⟩) rfl ρ w w hq
  case assign x => exact pureOp_run (o := ⟨dst, .assign x, type, pos, after, guard⟩) rfl ρ w w hq
  case pick x y z => exact pureOp_run (o := ⟨dst, .pick x y z, type, pos, after, guard⟩) rfl ρ w w hq
  case nilCheck x =>
    simp only [execOp] at hq ⊢
    split at hq
    · exact hq.elim
    · exact hq.elim
    · exact hq.elim
    · split at hq
      · exact hq.elim
      · exact IsVal.run (IsVal.bind _ _ (fun _ => IsVal.bind _ _ (fun _ => IsVal.ite (IsVal.bind _ _ (fun _ => IsVal.pure _)) (IsVal.pure _)))) hq
      · exact IsVal.run (IsVal.pure _) hq
    · exact IsVal.run (IsVal.pure _) hq
  all_goals exact IsVal.run (IsVal.bind _ _ (fun _ => IsVal.pure _)) hq

end

end Go.Proofs.YtnjjdcalmgjaiaaDoor
