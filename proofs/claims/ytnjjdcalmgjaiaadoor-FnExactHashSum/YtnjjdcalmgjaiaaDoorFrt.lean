/- A region that draws its order: first reads and calls in any order, then, behind all of them, the stores in order: walked once. -/
import Derived.Test.YtnjjdcalmgjaiaaDoorQB
namespace Go.Proofs.YtnjjdcalmgjaiaaDoor
open Go.ChangeShapes Go.WideShapes Go.ChangeAt Go.RowKit Go.Sort

section
variable {P : Program} {ops : Array Oper} {md : Region.Mode} {C : World → Prop} {L1 : Array Bool} {K : Act → Prop} {m : Nat}

theorem unready {i j : Nat} {listed : Array Bool} (hi : i ∈ Region.ready md ops listed) (hj : j ∈ Region.ready md ops listed) {oj : Oper} (hoj : ops[j]? = some oj) :
    ∀ e ∈ oj.after, Region.binds md e = true → e.on ≠ i := by
  intro e he hb heq
  obtain ⟨_, o, ho, hall⟩ := mem_ready.1 hj
  rw [hoj] at ho
  cases ho
  have h1 := hall e he hb
  have h0 := (mem_ready.1 hi).1
  rw [heq] at h1
  by_cases h' : i < listed.size
  · simp [h'] at h0 h1; rw [h0] at h1; cases h1
  · simp [Array.getElem?_eq_none (Nat.le_of_not_lt h')] at h1

end

/-- An operation that looks at no memory. -/
def pureOp (o : Oper) : Bool := match o.op with | .move _ | .assign _ | .pick _ _ _ => true | _ => false
theorem pureOp_run {P : Program} {o : Oper} (h : pureOp o = true) (ρ : Operand → Value) (w w' : World) {C : World → Prop} {v : Value} (hq : Oper.quietUpon P C w v ((execOp ρ o).run P w)) : (execOp ρ o).run P w' = .ok (.value v) w' := by
  obtain ⟨dst, op, type, pos, after, guard⟩ := o
  cases op <;> simp only [pureOp] at h <;> try cases h
  case move x => simp only [execOp] at hq ⊢; obtain ⟨_, h2⟩ := hq; rw [← h2]; rfl
  case assign x => simp only [execOp] at hq ⊢; obtain ⟨_, h2⟩ := hq; rw [← h2]; rfl
  case pick c x y =>
    simp only [execOp] at hq ⊢
    generalize ρ c = u at hq ⊢
    cases u
    case bool b =>
      have e : ∀ w, ((do pure (.value (if ← asBool (.bool b) then ρ x else ρ y)) : Sem Next)).run P w = .ok (.value (if b then ρ x else ρ y)) w := fun w => by simp [asBool]
      rw [e] at hq ⊢
      obtain ⟨_, h2⟩ := hq
      rw [← h2]
    all_goals exact absurd hq (by simp [asBool, Oper.quietUpon])

section
variable {P : Program} {ops : Array Oper} {md : Region.Mode} {C : World → Prop} {L1 : Array Bool} {K : Act → Prop} {m : Nat}

/-- One comes behind another one, over others. -/
def behind (md : Region.Mode) (ops : Array Oper) (i : Nat) : Nat → Nat → Bool
  | 0, _ => false
  | fuel + 1, j => match ops[j]? with
    | none => false
    | some oj => oj.after.any (fun e => Region.binds md e && (e.on == i || behind md ops i fuel e.on))
/-- All that a listed one waits for is listed. -/
def Shut (md : Region.Mode) (ops : Array Oper) (listed : Array Bool) : Prop :=
  ∀ (k : Nat) (o : Oper), ops[k]? = some o → listed.getD k false = true → ∀ e ∈ o.after, Region.binds md e = true → listed.getD e.on false = true
theorem Shut.set {listed : Array Bool} {i : Nat} (h : Shut md ops listed) (hr : i ∈ Region.ready md ops listed) : Shut md ops (listed.setIfInBounds i true) := by
  intro k o ho hk e he hb
  by_cases hik : i = k
  · subst hik
    obtain ⟨_, o', ho', hall⟩ := mem_ready.1 hr
    rw [ho] at ho'
    cases ho'
    exact getD_set_true (hall e he hb)
  · rw [getD_set_ne false hik] at hk
    exact getD_set_true (h k o ho hk e he hb)
theorem behind_listed {listed : Array Bool} {i : Nat} (h : Shut md ops listed) : ∀ (fuel j : Nat), behind md ops i fuel j = true → (∀ oj, ops[j]? = some oj → ∀ e ∈ oj.after, Region.binds md e = true → listed.getD e.on false = true) → listed.getD i false = true
  | 0, _, hb, _ => by simp [behind] at hb
  | fuel + 1, j, hb, hj => by
    unfold behind at hb
    cases ho : ops[j]? with
    | none => simp [ho] at hb
    | some oj =>
      simp only [ho] at hb
      rw [Array.any_eq_true] at hb
      obtain ⟨k, hk, h2⟩ := hb
      simp only [Bool.and_eq_true, Bool.or_eq_true, beq_iff_eq] at h2
      have h3 := hj oj ho _ (Array.getElem_mem hk) h2.1
      rcases h2.2 with h4 | h4
      · rw [← h4]; exact h3
      · exact behind_listed h fuel _ h4 (fun o' ho' => h _ o' ho' h3)
theorem not_ready {listed : Array Bool} {i : Nat} (hr : i ∈ Region.ready md ops listed) : ¬ listed.getD i false = true := by
  intro h1
  have h0 := (mem_ready.1 hr).1
  by_cases h' : i < listed.size
  · simp [h'] at h0 h1; rw [h0] at h1; cases h1
  · simp [Array.getElem?_eq_none (Nat.le_of_not_lt h')] at h1

end

end Go.Proofs.YtnjjdcalmgjaiaaDoor
