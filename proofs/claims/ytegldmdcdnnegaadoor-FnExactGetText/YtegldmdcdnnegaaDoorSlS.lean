/- Solvers that are ok, by the model. -/
import Derived.Test.YtegldmdcdnnegaaDoorSlC
import Derived.Test.YtegldmdcdnnegaaDoorRow
namespace Go.Proofs.YtegldmdcdnnegaaDoor
open Go.ChangeShapes Go.WideShapes Go.ChangeAt Go.RowKit Go.Sort Go.Shelf
attribute [local go_sem] Oper.semAt_some

set_option maxHeartbeats 1000000 in
theorem l3Has_any (a : Option Addr) (cap : Nat) (xs : List Int) (n : Int) (w : World) (ha : IntsAt w a xs) (hx : xs.length ≤ 1048576) :
    Calls Tryd.prog 49 #[.slice a xs.length cap, .int .i64 n] w fun e w' => e = .returned (.bool (decide (n ∈ xs))) ∧ w' = w := by
  go_enter Tryd.func49, Tryd.ntmps49
  go_wp2
  go_loop [5] (fun i => ∃ k : Nat, k ≤ xs.length ∧ i = .int .i64 k ∧ n ∉ xs.take k) (fun i => xs.length - (intOf i).toNat)
  case atStart => exact ⟨0, by omega, rfl, by simp⟩
  case round =>
    obtain ⟨k, hk, rfl, hno⟩ := hrel
    have HN := hid hno
    clear hno
    by_cases hlt : k < xs.length
    · obtain ⟨b, off, rfl, hc⟩ := ha (by intro h; simp [h] at hlt)
      have hck := hc k hlt
      have HX := hid (show xs.take (k + 1) = xs.take k ++ [xs.getD k 0] by rw [List.take_succ_eq_append_getElem hlt, getD_eq hlt])
      have HM := hid (show xs.getD k 0 ∈ xs by rw [getD_eq hlt]; exact List.getElem_mem hlt)
      obtain ⟨X, hX⟩ : ∃ X, X = xs.getD k 0 := ⟨_, rfl⟩
      rw [← hX] at hck HX HM
      clear hX hc
      by_cases he : X = n
      · have he1 : (X == n) = true := by simpa using he
        have HD := hid (show decide (n ∈ xs) = true from decide_eq_true (by rw [← he]; exact HM.out))
        clear he
        go_wp2
        go_ret
        exact ⟨ret_bool HD.out.symm, rfl⟩
      · have he1 : (X == n) = false := by simpa using he
        have HE := hid he
        clear he
        go_wp2
        go_round
        case rel => exact ⟨k + 1, by omega, by go_num, by rw [HX.out]; intro h; rcases List.mem_append.1 h with h | h; exact HN.out h; simp only [List.mem_singleton] at h; exact HE.out h.symm⟩
        case measure => simp [intOf]; omega
    · have HD := hid (show decide (n ∈ xs) = false from decide_eq_false (fun h => HN.out (by rw [List.take_of_length_le (by omega)]; exact h)))
      go_wp2
      go_ret
      exact ⟨ret_bool HD.out.symm, rfl⟩

/-- Equations that are ok, pair by pair. -/
theorem okE_iff {c z : Int} : ∀ {es : List EqV}, okE c z es ↔ ∀ i (hi : i < es.length), (ascB (-1) c es[i].r = true ∧ (es[i].d.size : Int) = z ∧ es[i].r ≠ []) ∧ ∀ j (hj : j < es.length), i < j → fit1 es[i].r es[j].r
  | [] => ⟨fun _ i hi => by simp at hi, fun _ => trivial⟩
  | e :: es => by
    constructor
    · rintro ⟨⟨h1, h2, h3⟩, h4⟩ i hi
      have ih := okE_iff.1 h4
      cases i with
      | zero => exact ⟨⟨h1, h2, h3.1⟩, fun j hj hlt => by
          cases j with
          | zero => omega
          | succ j => exact h3.2 _ (List.mem_map_of_mem (List.getElem_mem (by simpa using hj)))⟩
      | succ i =>
        have := ih i (by simpa using hi)
        exact ⟨this.1, fun j hj hlt => by
          cases j with
          | zero => omega
          | succ j => exact this.2 j (by simpa using hj) (by omega)⟩
    · intro h
      refine ⟨⟨(h 0 (by simp)).1.1, (h 0 (by simp)).1.2.1, (h 0 (by simp)).1.2.2, fun r hr => ?_⟩, okE_iff.2 fun i hi => ⟨(h (i + 1) (by simpa using hi)).1, fun j hj hlt => (h (i + 1) (by simpa using hi)).2 (j + 1) (by simpa using hj) (by omega)⟩⟩
      obtain ⟨f, hf, rfl⟩ := List.mem_map.1 hr
      obtain ⟨j, hj, rfl⟩ := List.getElem_of_mem hf
      exact (h 0 (by simp)).2 (j + 1) (by simpa using hj) (by omega)
/-- What the model looks at first. -/
def p1At (c z : Int) (es : List EqV) (i : Nat) : Prop := ∃ hi : i < es.length, (ascB (-1) c es[i].r = true ∧ es[i].r ≠ [] ∧ (es[i].d.size : Int) = z) ∧ (0 < i → ∃ hj : i - 1 < es.length, hd es[i - 1].r < hd es[i].r)
/-- .. and then. -/
def p2At (es : List EqV) (i k : Nat) : Prop := ∀ (hi : i < es.length) (hk : k < es.length), k ≠ i → hd es[i].r ∉ es[k].r
theorem p1_asc {c z : Int} {es : List EqV} (h : ∀ i, i < es.length → p1At c z es i) : ∀ (d i : Nat) (hi : i < es.length) (hj : i + d + 1 < es.length), hd es[i].r < hd es[i + d + 1].r := by
  intro d
  induction d with
  | zero =>
    intro i hi hj
    obtain ⟨_, _, h2⟩ := h (i + 1) hj
    obtain ⟨_, h3⟩ := h2 (by omega)
    exact h3
  | succ d ih =>
    intro i hi hj
    have h1 := ih i hi (by omega)
    obtain ⟨_, _, h2⟩ := h (i + (d + 1) + 1) hj
    obtain ⟨_, h3⟩ := h2 (by omega)
    have e : hd (es[i + (d + 1) + 1 - 1]'(by omega)).r = hd (es[i + d + 1]'(by omega)).r := rfl
    omega
theorem okE_p {c z : Int} {es : List EqV} : okE c z es ↔ (∀ i, i < es.length → p1At c z es i) ∧ ∀ i k, p2At es i k := by
  constructor
  · intro h
    have h' := okE_iff.1 h
    refine ⟨fun i hi => ⟨hi, ⟨(h' i hi).1.1, (h' i hi).1.2.2, (h' i hi).1.2.1⟩, fun h0 => ⟨by omega, ((h' (i - 1) (by omega)).2 i hi (by omega)).1⟩⟩, fun i k hi hk hne => ?_⟩
    rcases Nat.lt_or_ge k i with hlt | hge
    · exact ((h' k hk).2 i hi hlt).2
    · have := ((h' i hi).2 k hk (by omega)).1
      intro hm
      have := hd_le (h' k hk).1.1 hm
      omega
  · rintro ⟨h1, h2⟩
    refine okE_iff.2 fun i hi => ?_
    obtain ⟨_, ⟨a1, a2, a3⟩, _⟩ := h1 i hi
    refine ⟨⟨a1, a3, a2⟩, fun j hj hlt => ⟨?_, h2 j i hj hi (by omega)⟩⟩
    obtain ⟨d, rfl⟩ : ∃ d, j = i + d + 1 := ⟨j - i - 1, by omega⟩
    exact p1_asc h1 d i hi hj
end Go.Proofs.YtegldmdcdnnegaaDoor
