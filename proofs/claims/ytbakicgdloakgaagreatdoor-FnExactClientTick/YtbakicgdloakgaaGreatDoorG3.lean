/- A region that draws its order: first reads and calls in any order, then, behind all of them, the stores in order: walked once. An append of one thing of several cells. A text that is not empty. Rows: what is one, by the program. Words: what is ok by the program. A client that wants nothing: the same, marked, held, as the laws do it. -/
import Derived.Test.YtbakicgdloakgaaGreatDoorG2
import Derived.Test.YtbakicgdloakgaaGreatDoorG0
import Derived.Test.YtbakicgdloakgaaGreatDoorG1
import Derived.Laws.BitsAllLaws
namespace Go.Proofs.YtbakicgdloakgaaGreatDoor
open Go.ChangeShapes Go.WideShapes Go.ChangeAt Go.RowKit Go.Sort

section
variable {P : Program} {ops : Array Oper} {md : Region.Mode} {C : World → Prop} {L1 : Array Bool} {K : Act → Prop} {m : Nat}

theorem unready {i j : Nat} {listed : Array Bool} (hi : i ∈ Region.ready md ops listed) (hj : j ∈ Region.ready md ops listed) {oj : Oper} (hoj : ops[j]? = some oj) :
    ∀ e ∈ oj.after, Region.binds md e = true → e.on ≠ i := by
  intro e he hb heq
  obtain ⟨_, o, ho, hall⟩ := mem_ready.1 hj
  rw [hoj] at ho
  cases ho
  have h1 := hall e he hb
  have h0 := (mem_ready.1 hi).1
  rw [heq] at h1
  by_cases h' : i < listed.size
  · simp [h'] at h0 h1; rw [h0] at h1; cases h1
  · simp [Array.getElem?_eq_none (Nat.le_of_not_lt h')] at h1

end

/-- An operation that looks at no memory. -/
def pureOp (o : Oper) : Bool := match o.op with | .move _ | .assign _ | .pick _ _ _ => true | _ => false
theorem pureOp_run {P : Program} {o : Oper} (h : pureOp o = true) (ρ : Operand → Value) (w w' : World) {C : World → Prop} {v : Value} (hq : Oper.quietUpon P C w v ((execOp ρ o).run P w)) : (execOp ρ o).run P w' = .ok (.value v) w' := by
  obtain ⟨dst, op, type, pos, after, guard⟩ := o
  cases op <;> simp only [pureOp] at h <;> try cases h
  case move x => simp only [execOp] at hq ⊢; obtain ⟨_, h2⟩ := hq; rw [← h2]; rfl
  case assign x => simp only [execOp] at hq ⊢; obtain ⟨_, h2⟩ := hq; rw [← h2]; rfl
  case pick c x y =>
    simp only [execOp] at hq ⊢
    generalize ρ c = u at hq ⊢
    cases u
    case bool b =>
      have e : ∀ w, ((do pure (.value (if ← asBool (.bool b) then ρ x else ρ y)) : Sem Next)).run P w = .ok (.value (if b then ρ x else ρ y)) w := fun w => by simp [asBool]
      rw [e] at hq ⊢
      obtain ⟨_, h2⟩ := hq
      rw [← h2]
    all_goals exact absurd hq (by simp [asBool, Oper.quietUpon])

section
variable {P : Program} {ops : Array Oper} {md : Region.Mode} {C : World → Prop} {L1 : Array Bool} {K : Act → Prop} {m : Nat}

/-- One comes behind another one, over others. -/
def behind (md : Region.Mode) (ops : Array Oper) (i : Nat) : Nat → Nat → Bool
  | 0, _ => false
  | fuel + 1, j => match ops[j]? with
    | none => false
    | some oj => oj.after.any (fun e => Region.binds md e && (e.on == i || behind md ops i fuel e.on))
/-- All that a listed one waits for is listed. -/
def Shut (md : Region.Mode) (ops : Array Oper) (listed : Array Bool) : Prop :=
  ∀ (k : Nat) (o : Oper), ops[k]? = some o → listed.getD k false = true → ∀ e ∈ o.after, Region.binds md e = true → listed.getD e.on false = true
theorem Shut.set {listed : Array Bool} {i : Nat} (h : Shut md ops listed) (hr : i ∈ Region.ready md ops listed) : Shut md ops (listed.setIfInBounds i true) := by
  intro k o ho hk e he hb
  by_cases hik : i = k
  · subst hik
    obtain ⟨_, o', ho', hall⟩ := mem_ready.1 hr
    rw [ho] at ho'
    cases ho'
    exact getD_set_true (hall e he hb)
  · rw [getD_set_ne false hik] at hk
    exact getD_set_true (h k o ho hk e he hb)
theorem behind_listed {listed : Array Bool} {i : Nat} (h : Shut md ops listed) : ∀ (fuel j : Nat), behind md ops i fuel j = true → (∀ oj, ops[j]? = some oj → ∀ e ∈ oj.after, Region.binds md e = true → listed.getD e.on false = true) → listed.getD i false = true
  | 0, _, hb, _ => by simp [behind] at hb
  | fuel + 1, j, hb, hj => by
    unfold behind at hb
    cases ho : ops[j]? with
    | none => simp [ho] at hb
    | some oj =>
      simp only [ho] at hb
      rw [Array.any_eq_true] at hb
      obtain ⟨k, hk, h2⟩ := hb
      simp only [Bool.and_eq_true, Bool.or_eq_true, beq_iff_eq] at h2
      have h3 := hj oj ho _ (Array.getElem_mem hk) h2.1
      rcases h2.2 with h4 | h4
      · rw [← h4]; exact h3
      · exact behind_listed h fuel _ h4 (fun o' ho' => h _ o' ho' h3)
theorem not_ready {listed : Array Bool} {i : Nat} (hr : i ∈ Region.ready md ops listed) : ¬ listed.getD i false = true := by
  intro h1
  have h0 := (mem_ready.1 hr).1
  by_cases h' : i < listed.size
  · simp [h'] at h0 h1; rw [h0] at h1; cases h1
  · simp [Array.getElem?_eq_none (Nat.le_of_not_lt h')] at h1

end

end Go.Proofs.YtbakicgdloakgaaGreatDoor
namespace Go.Proofs.YtbakicgdloakgaaGreatDoor
open Go.ChangeShapes Go.WideShapes Go.ChangeAt Go.RowKit Go.Sort

/-- Rows of unlike elements lie apart. -/
theorem owns_kinds {w : World} {b1 b2 s1 s2 n1 n2 : Nat} {e1 e2 : TypeId} {v1 v2 : Value} {x1 x2 : List Value} (h1 : w.ownsRow b1 e1 s1 v1 n1 x1) (h2 : w.ownsRow b2 e2 s2 v2 n2 x2) (he : e1 ≠ e2) : ∀ k, v1.ownBlock = some k → v2.ownBlock ≠ some k := by
  intro k k1 k2
  rcases h1.2 with ⟨hv, -⟩ | ⟨g, cap, cur, hv, -, hh, -⟩
  · rw [hv] at k1; cases k1
  · rw [hv] at k1
    cases k1
    rcases h2.2 with ⟨hv2, -⟩ | ⟨g2, cap2, cur2, hv2, -, hh2, -⟩
    · rw [hv2] at k2; cases k2
    · rw [hv2] at k2
      cases k2
      rw [hh] at hh2
      cases hh2
      exact he rfl
end Go.Proofs.YtbakicgdloakgaaGreatDoor
namespace Go.Proofs.YtbakicgdloakgaaGreatDoor
theorem ne_toList {nm : ByteArray} (h : nm ≠ ⟨#[]⟩) : ¬ nm.toList = [] := fun e => h (ByteArray.ext (Array.toList_inj.1 (by rw [← ByteArray.toList_eq, e])))
end Go.Proofs.YtbakicgdloakgaaGreatDoor
namespace Go.Proofs.YtbakicgdloakgaaGreatDoor
open Go.ChangeShapes Go.WideShapes Go.ChangeAt Go.RowKit

theorem or_pow (s n : Nat) (hs : s < 4294967296) (hn : n < 24) : bits .or .u32 (s : Int) (2 ^ n % 4294967296) = ((s ||| 2 ^ n : Nat) : Int) := by
  have h1 : 2 ^ n < 2 ^ 24 := Nat.pow_lt_pow_right (by omega) hn
  have h2 : ((2 : Int) ^ n % 4294967296) = ((2 ^ n : Nat) : Int) := by
    have : ((2 : Int) ^ n) = ((2 ^ n : Nat) : Int) := by simp
    rw [this]
    generalize 2 ^ n = P at h1
    omega
  rw [h2]
  exact u32_or_nat s (2 ^ n) hs (by omega)

set_option maxRecDepth 100000 in
theorem with_any (s n : Nat) (w : World) (hs : s < 4294967296) (hn : n < 24) :
    Calls Tryz.prog 105 #[.int .u32 s, .int .i64 n] w fun e w' => e = .returned (.int .u32 ((s ||| 2 ^ n : Nat) : Int)) ∧ w' = w := by
  go_enter Tryz.func105, Tryz.ntmps105
  go_wp2
  go_ret
  exact ⟨ret_int (or_pow s n hs hn), rfl⟩

/-- All above 'lo', ascending, below 'hi'. -/
def ascB (lo hi : Int) : List Int → Bool
  | [] => true
  | x :: r => decide (lo < x ∧ x < hi) && ascB x hi r
/-- The number ahead of a place. -/
def prevI (xs : List Int) (k : Nat) : Int := if k = 0 then -1 else xs.getD (k - 1) 0
/-- The numbers as bits. -/
def setI (xs : List Int) : Nat := xs.foldl (fun s x => s ||| 2 ^ x.toNat) 0

/-- The bits of a row, nothing of what is none. -/
def rowBits (xs : List Int) (c : Int) : Nat := if ascB (-1) c xs then setI xs else 0
theorem rowBits_no {xs : List Int} {c : Int} (h : ascB (-1) c xs = false) : rowBits xs c = 0 := by simp [rowBits, h]
theorem rowBits_yes {xs : List Int} {c : Int} (h : ascB (-1) c xs = true) : rowBits xs c = setI xs := by simp [rowBits, h]
theorem prevI_succ (xs : List Int) (k : Nat) : prevI xs (k + 1) = xs.getD k 0 := by simp [prevI]
theorem asc_step (xs : List Int) (k : Nat) (hi : Int) (h : k < xs.length) :
    ascB (prevI xs k) hi (xs.drop k) = (decide (prevI xs k < xs.getD k 0 ∧ xs.getD k 0 < hi) && ascB (prevI xs (k + 1)) hi (xs.drop (k + 1))) := by
  rw [List.drop_eq_getElem_cons h, ascB, prevI_succ, getD_eq h]
theorem setI_snoc (xs : List Int) (k : Nat) (h : k < xs.length) : setI (xs.take (k + 1)) = setI (xs.take k) ||| 2 ^ (xs.getD k 0).toNat := by
  unfold setI
  rw [List.take_succ_eq_append_getElem h, List.foldl_append, getD_eq h]
  rfl
theorem setI_lt (s : Nat) (n : Nat) (hs : s < 16777216) (hn : n < 24) : s ||| 2 ^ n < 16777216 := by
  have h1 : 2 ^ n < 2 ^ 24 := Nat.pow_lt_pow_right (by omega) hn
  exact Nat.or_lt_two_pow (n := 24) (by omega) h1

set_option maxRecDepth 100000 in
set_option maxHeartbeats 1000000 in
theorem rowSetOf_in (a : Option Addr) (cap : Nat) (xs : List Int) (c : Int) (w : World) (ha : IntsAt w a xs) (hx : xs.length ≤ 1152921504606846976) (c1 : 0 ≤ c) (c2 : c ≤ 24) :
    Calls Tryz.prog 96 #[.slice a xs.length cap, .int .i64 c] w fun e w' => e = .returned (.tuple #[.int .u32 (rowBits xs c : Nat), .bool (ascB (-1) c xs)]) ∧ w' = w := by
  have c2' : decide (24 < c) = false := by simp; omega
  go_enter Tryz.func96, Tryz.ntmps96
  go_wp2
  go_loop [6, 7, 18] (fun s l i => ∃ k : Nat, k ≤ xs.length ∧ i = .int .i64 k ∧ l = .int .i64 (prevI xs k) ∧ s = .int .u32 (setI (xs.take k) : Nat) ∧ setI (xs.take k) < 16777216 ∧ -1 ≤ prevI xs k ∧ ascB (-1) c xs = ascB (prevI xs k) c (xs.drop k)) (fun _ _ i => xs.length - (intOf i).toNat)
  case atStart => exact ⟨0, Nat.zero_le _, rfl, rfl, rfl, by simp [setI], by simp [prevI], rfl⟩
  case round =>
    obtain ⟨k, hk, rfl, rfl, rfl, hs, hp, he⟩ := hrel
    by_cases hlt : k < xs.length
    · obtain ⟨b, off, rfl, hc⟩ := ha (by intro h; simp [h] at hlt)
      have hck := hc k hlt
      have e1 := asc_step xs k c hlt
      have e2 := setI_snoc xs k hlt
      have e3 := prevI_succ xs k
      obtain ⟨X, hX⟩ : ∃ X, X = xs.getD k 0 := ⟨_, rfl⟩
      obtain ⟨L, hL⟩ : ∃ L, L = prevI xs k := ⟨_, rfl⟩
      obtain ⟨S, hS⟩ : ∃ S, S = setI (xs.take k) := ⟨_, rfl⟩
      rw [← hX] at hck e1 e2 e3
      rw [← hL] at e1 hp he ⊢
      rw [← hS] at e2 hs ⊢
      have H1 : Hid _ := e1
      have H2 : Hid _ := e2
      have H3 : Hid _ := e3
      have HE : Hid _ := he
      clear e1 e2 e3 he hX hL hS hc
      by_cases h1 : X ≤ L
      · go_wp2
        go_ret2
        have : ascB (-1) c xs = false := by rw [HE.out, H1.out]; simp; omega
        rw [rowBits_no this, this]
        exact ⟨rfl, rfl⟩
      · by_cases h2 : c ≤ X
        · have h1' : decide (X ≤ L) = false := by simp; omega
          go_wp2
          go_ret2
          have : ascB (-1) c xs = false := by rw [HE.out, H1.out]; simp; omega
          rw [rowBits_no this, this]
          exact ⟨rfl, rfl⟩
        · have h1' : decide (X ≤ L) = false := by simp; omega
          have h2' : decide (c ≤ X) = false := by simp; omega
          obtain ⟨x, rfl⟩ := Int.eq_ofNat_of_zero_le (show 0 ≤ X by omega)
          go_wp2_with (go_at_call 105; refine (with_any S x _ (by omega) (by omega)).mono ?_; rintro e w' ⟨rfl, rfl⟩)
          go_round
          case rel =>
            refine ⟨k + 1, by omega, by go_num, by rw [H3.out], by rw [H2.out]; simp, by rw [H2.out]; exact setI_lt S _ hs (by omega), by rw [H3.out]; omega, ?_⟩
            rw [HE.out, H1.out]
            simp; omega
          case measure => simp [intOf]; omega
    · obtain rfl : k = xs.length := by omega
      have h1 : ascB (-1) c xs = true := by rw [he, List.drop_length]; rfl
      have H1 : Hid _ := h1
      clear h1 he
      go_wp2
      go_ret2
      rw [rowBits_yes H1.out, H1.out]
      exact ⟨rfl, rfl⟩
end Go.Proofs.YtbakicgdloakgaaGreatDoor
namespace Go.Proofs.YtbakicgdloakgaaGreatDoor
open Go.ChangeShapes Go.WideShapes Go.ChangeAt Go.RowKit Go.Sort

theorem below_allocW (w : World) (o : Obj) : Below w.heap.size w (w.alloc o) := (Below.refl _ _).alloc (Nat.le_refl _) o
theorem below_catW {a b c : World} (h : Below a.heap.size a b) (k : Below b.heap.size b c) : Below a.heap.size a c := h.trans (k.mono h.size)
end Go.Proofs.YtbakicgdloakgaaGreatDoor
namespace Go.Proofs.YtbakicgdloakgaaGreatDoor
open Go.ChangeShapes Go.WideShapes Go.ChangeAt Go.RowKit

end Go.Proofs.YtbakicgdloakgaaGreatDoor
