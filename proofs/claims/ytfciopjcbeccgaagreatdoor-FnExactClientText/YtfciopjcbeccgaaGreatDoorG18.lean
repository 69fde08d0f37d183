/- Equations that are ok, pair by pair. Rows: what is one, by the model. Solvers that are ok, by the model. -/
import Derived.Test.YtfciopjcbeccgaaGreatDoorG13
import Derived.Test.YtfciopjcbeccgaaGreatDoorG8
namespace Go.Proofs.YtfciopjcbeccgaaGreatDoor
open Go.ChangeShapes Go.WideShapes Go.ChangeAt Go.RowKit Go.Sort Go.Shelf
attribute [local go_sem] Oper.semAt_some

/-- Equations that are ok, pair by pair. -/
theorem okE_iff {c z : Int} : ∀ {es : List EqV}, okE c z es ↔ ∀ i (hi : i < es.length), (ascB (-1) c es[i].r = true ∧ (es[i].d.size : Int) = z ∧ es[i].r ≠ []) ∧ ∀ j (hj : j < es.length), i < j → fit1 es[i].r es[j].r
  | [] => ⟨fun _ i hi => by simp at hi, fun _ => trivial⟩
  | e :: es => by
    constructor
    · rintro ⟨⟨h1, h2, h3⟩, h4⟩ i hi
      have ih := okE_iff.1 h4
      cases i with
      | zero => exact ⟨⟨h1, h2, h3.1⟩, fun j hj hlt => by
          cases j with
          | zero => omega
          | succ j => exact h3.2 _ (List.mem_map_of_mem (List.getElem_mem (by simpa using hj)))⟩
      | succ i =>
        have := ih i (by simpa using hi)
        exact ⟨this.1, fun j hj hlt => by
          cases j with
          | zero => omega
          | succ j => exact this.2 j (by simpa using hj) (by omega)⟩
    · intro h
      refine ⟨⟨(h 0 (by simp)).1.1, (h 0 (by simp)).1.2.1, (h 0 (by simp)).1.2.2, fun r hr => ?_⟩, okE_iff.2 fun i hi => ⟨(h (i + 1) (by simpa using hi)).1, fun j hj hlt => (h (i + 1) (by simpa using hi)).2 (j + 1) (by simpa using hj) (by omega)⟩⟩
      obtain ⟨f, hf, rfl⟩ := List.mem_map.1 hr
      obtain ⟨j, hj, rfl⟩ := List.getElem_of_mem hf
      exact (h 0 (by simp)).2 (j + 1) (by simpa using hj) (by omega)
/-- What the model looks at first. -/
def p1At (c z : Int) (es : List EqV) (i : Nat) : Prop := ∃ hi : i < es.length, (ascB (-1) c es[i].r = true ∧ es[i].r ≠ [] ∧ (es[i].d.size : Int) = z) ∧ (0 < i → ∃ hj : i - 1 < es.length, hd es[i - 1].r < hd es[i].r)
/-- .. and then. -/
def p2At (es : List EqV) (i k : Nat) : Prop := ∀ (hi : i < es.length) (hk : k < es.length), k ≠ i → hd es[i].r ∉ es[k].r
theorem p1_asc {c z : Int} {es : List EqV} (h : ∀ i, i < es.length → p1At c z es i) : ∀ (d i : Nat) (hi : i < es.length) (hj : i + d + 1 < es.length), hd es[i].r < hd es[i + d + 1].r := by
  intro d
  induction d with
  | zero =>
    intro i hi hj
    obtain ⟨_, _, h2⟩ := h (i + 1) hj
    obtain ⟨_, h3⟩ := h2 (by omega)
    exact h3
  | succ d ih =>
    intro i hi hj
    have h1 := ih i hi (by omega)
    obtain ⟨_, _, h2⟩ := h (i + (d + 1) + 1) hj
    obtain ⟨_, h3⟩ := h2 (by omega)
    have e : hd (es[i + (d + 1) + 1 - 1]'(by omega)).r = hd (es[i + d + 1]'(by omega)).r := rfl
    omega
theorem okE_p {c z : Int} {es : List EqV} : okE c z es ↔ (∀ i, i < es.length → p1At c z es i) ∧ ∀ i k, p2At es i k := by
  constructor
  · intro h
    have h' := okE_iff.1 h
    refine ⟨fun i hi => ⟨hi, ⟨(h' i hi).1.1, (h' i hi).1.2.2, (h' i hi).1.2.1⟩, fun h0 => ⟨by omega, ((h' (i - 1) (by omega)).2 i hi (by omega)).1⟩⟩, fun i k hi hk hne => ?_⟩
    rcases Nat.lt_or_ge k i with hlt | hge
    · exact ((h' k hk).2 i hi hlt).2
    · have := ((h' i hi).2 k hk (by omega)).1
      intro hm
      have := hd_le (h' k hk).1.1 hm
      omega
  · rintro ⟨h1, h2⟩
    refine okE_iff.2 fun i hi => ?_
    obtain ⟨_, ⟨a1, a2, a3⟩, _⟩ := h1 i hi
    refine ⟨⟨a1, a3, a2⟩, fun j hj hlt => ⟨?_, h2 j i hj hi (by omega)⟩⟩
    obtain ⟨d, rfl⟩ : ∃ d, j = i + d + 1 := ⟨j - i - 1, by omega⟩
    exact p1_asc h1 d i hi hj
end Go.Proofs.YtfciopjcbeccgaaGreatDoor
namespace Go.Proofs.YtfciopjcbeccgaaGreatDoor
open Go.ChangeShapes Go.WideShapes Go.ChangeAt Go.RowKit

set_option maxRecDepth 100000 in
set_option maxHeartbeats 1000000 in
theorem specRowOk_in (a : Option Addr) (cap : Nat) (xs : List Int) (c : Int) (w : World) (ha : IntsAt w a xs) (hx : xs.length ≤ 1152921504606846976) (c1 : 0 ≤ c) (c2 : c ≤ 24) :
    Calls Tryz.prog 58 #[.slice a xs.length cap, .int .i64 c] w fun e w' => e = .returned (.bool (ascB (-1) c xs)) ∧ Dr w w' := by
  go_enter Tryz.func58, Tryz.ntmps58
  go_wp2
  go_loopw [5] (fun i wr => ∃ k : Nat, k ≤ xs.length ∧ i = .int .i64 k ∧ -1 ≤ prevI xs k ∧ ascB (-1) c xs = ascB (prevI xs k) c (xs.drop k) ∧ Dr w wr) (fun i _ => xs.length - (intOf i).toNat)
  case atStart => exact ⟨0, Nat.zero_le _, rfl, by simp [prevI], rfl, Dr.refl _⟩
  case round =>
    obtain ⟨k, hk, rfl, hp, he, hdr⟩ := hrel
    by_cases hlt : k < xs.length
    · obtain ⟨b, off, rfl, hc⟩ := ha (by intro h; simp [h] at hlt)
      have hck := (hdr.cell _).trans (hc k hlt)
      have e1 := asc_step xs k c hlt
      have e3 := prevI_succ xs k
      have e4 : 0 < k → prevI xs k = xs.getD (k - 1) 0 := fun h => by unfold prevI; rw [if_neg (by omega)]
      have hcp : 0 < k → wr.cell? ⟨b, off + (k - 1), none⟩ = some (.int .i64 (prevI xs k)) := fun h => by rw [e4 h, hdr.cell]; exact hc (k - 1) (by omega)
      have e5 : k = 0 → prevI xs k = -1 := fun h => by simp [prevI, h]
      obtain ⟨X, hX⟩ : ∃ X, X = xs.getD k 0 := ⟨_, rfl⟩
      obtain ⟨L, hL⟩ : ∃ L, L = prevI xs k := ⟨_, rfl⟩
      rw [← hX] at hck e1 e3
      rw [← hL] at e1 hp he hcp e5
      have H1 : Hid _ := e1
      have H3 : Hid _ := e3
      have HE : Hid _ := he
      clear e1 e3 he hX hL hc e4
      by_cases h1 : 0 ≤ X ∧ X ≤ c - 1
      · rcases Nat.eq_zero_or_pos k with h0 | h0
        · have hL := e5 h0
          subst h0
          subst hL
          rw [Nat.add_zero] at hck
          clear hcp e5
          go_wp2
          go_quiet ((go_at_call 18; exact Calls.quiet_of_same (l1In_yes _ _ _ _ (by omega))))
          go_wp2
          go_roundw
          case rel => exact ⟨1, by omega, by go_num, by rw [H3.out]; omega, by rw [HE.out, H1.out, H3.out, decide_eq_true (by omega)]; rfl, hdr.step nq⟩
          case measure => simp [intOf]; omega
        · have hcp' := hcp h0
          clear hcp e5
          by_cases hle : X ≤ L
          · have hle' : decide (X ≤ L) = true := by simp; omega
            go_wp2
            go_quiet ((go_at_call 18; exact Calls.quiet_of_same (l1In_yes _ _ _ _ (by omega))))
            go_wp2
            go_ret
            exact ⟨ret_bool (by rw [HE.out, H1.out, decide_eq_false (by omega)]; rfl), hdr.step nq⟩
          · have hle' : decide (X ≤ L) = false := by simp; omega
            go_wp2
            go_quiet ((go_at_call 18; exact Calls.quiet_of_same (l1In_yes _ _ _ _ (by omega))))
            go_wp2
            go_roundw
            case rel => exact ⟨k + 1, by omega, by go_num, by rw [H3.out]; omega, by rw [HE.out, H1.out, H3.out, decide_eq_true (by omega)]; rfl, hdr.step nq⟩
            case measure => simp [intOf]; omega
      · clear hcp e5
        go_wp2
        go_quiet ((go_at_call 18; exact Calls.quiet_of_same (l1In_no _ _ _ _ (by omega))))
        go_wp2
        go_ret
        exact ⟨ret_bool (by rw [HE.out, H1.out, decide_eq_false (by omega)]; rfl), hdr.step nq⟩
    · obtain rfl : k = xs.length := by omega
      have h1 : ascB (-1) c xs = true := by rw [he, List.drop_length]; rfl
      have H1 : Hid _ := h1
      clear h1 he
      go_wp2_with (go_at_call 18; refine (l1In_yes _ _ _ _ (by omega)).mono ?_; rintro e w' ⟨rfl, rfl⟩)
      go_ret
      exact ⟨ret_bool H1.out.symm, hdr⟩

set_option maxRecDepth 100000 in
set_option maxHeartbeats 1000000 in
theorem specRowOk_out (a : Option Addr) (cap : Nat) (xs : List Int) (c : Int) (w : World) (ha : IntsAt w a xs) (hx : xs.length ≤ 1152921504606846976) (hw1 : -9223372036854775808 ≤ c) (hw2 : c ≤ 9223372036854775807) (hc : c < 0 ∨ 24 < c) :
    Calls Tryz.prog 58 #[.slice a xs.length cap, .int .i64 c] w fun e w' => e = .returned (.bool false) ∧ Dr w w' := by
  have hC2 : -9223372036854775807 ≤ c ∨ c = -9223372036854775808 := by omega
  go_enter Tryz.func58, Tryz.ntmps58
  go_wp2
  go_loopw [5] (fun i wr => ∃ k : Nat, k ≤ xs.length ∧ i = .int .i64 k ∧ Dr w wr) (fun i _ => xs.length - (intOf i).toNat)
  case atStart => exact ⟨0, Nat.zero_le _, rfl, Dr.refl _⟩
  case round =>
    obtain ⟨k, hk, rfl, hdr⟩ := hrel
    by_cases hlt : k < xs.length
    · obtain ⟨b, off, rfl, hc⟩ := ha (by intro h; simp [h] at hlt)
      have hck := (hdr.cell _).trans (hc k hlt)
      have hcp : 0 < k → wr.cell? ⟨b, off + (k - 1), none⟩ = some (.int .i64 (xs.getD (k - 1) 0)) := fun h => by rw [hdr.cell]; exact hc (k - 1) (by omega)
      obtain ⟨X, hX⟩ : ∃ X, X = xs.getD k 0 := ⟨_, rfl⟩
      obtain ⟨L, hL⟩ : ∃ L, L = xs.getD (k - 1) 0 := ⟨_, rfl⟩
      rw [← hX] at hck
      rw [← hL] at hcp
      clear hX hL hc
      rcases hC2 with hC2 | hC2
      · by_cases h1 : 0 ≤ X ∧ X ≤ c - 1
        · rcases Nat.eq_zero_or_pos k with h0 | h0
          · subst h0
            rw [Nat.add_zero] at hck
            clear hcp
            go_wp2
            go_quiet ((go_at_call 18; exact Calls.quiet_of_same (l1In_yes _ _ _ _ (by omega))))
            go_wp2
            go_roundw
            case rel => exact ⟨1, by omega, by go_num, hdr.step nq⟩
            case measure => simp [intOf]; omega
          · have hcp' := hcp h0
            clear hcp
            by_cases hle : X ≤ L
            · have hle' : decide (X ≤ L) = true := by simp; omega
              go_wp2
              go_quiet ((go_at_call 18; exact Calls.quiet_of_same (l1In_yes _ _ _ _ (by omega))))
              go_wp2
              go_ret
              exact ⟨rfl, hdr.step nq⟩
            · have hle' : decide (X ≤ L) = false := by simp; omega
              go_wp2
              go_quiet ((go_at_call 18; exact Calls.quiet_of_same (l1In_yes _ _ _ _ (by omega))))
              go_wp2
              go_roundw
              case rel => exact ⟨k + 1, by omega, by go_num, hdr.step nq⟩
              case measure => simp [intOf]; omega
        · clear hcp
          go_wp2
          go_quiet ((go_at_call 18; exact Calls.quiet_of_same (l1In_no _ _ _ _ (by omega))))
          go_wp2
          go_ret
          exact ⟨rfl, hdr.step nq⟩
      · have hc0 : c < 0 := by omega
        obtain ⟨C, hC⟩ : ∃ C, wrap64 (c - 1) = C := ⟨_, rfl⟩
        clear hC2 hw1 hw2
        by_cases h1 : 0 ≤ X ∧ X ≤ C
        · rcases Nat.eq_zero_or_pos k with h0 | h0
          · subst h0
            rw [Nat.add_zero] at hck
            clear hcp
            go_wp2
            go_quiet ((go_at_call 18; exact Calls.quiet_of_same (l1In_yes _ _ _ _ (by omega))))
            go_wp2
            go_roundw
            case rel => exact ⟨1, by omega, by go_num, hdr.step nq⟩
            case measure => simp [intOf]; omega
          · have hcp' := hcp h0
            clear hcp
            by_cases hle : X ≤ L
            · have hle' : decide (X ≤ L) = true := by simp; omega
              go_wp2
              go_quiet ((go_at_call 18; exact Calls.quiet_of_same (l1In_yes _ _ _ _ (by omega))))
              go_wp2
              go_ret
              exact ⟨rfl, hdr.step nq⟩
            · have hle' : decide (X ≤ L) = false := by simp; omega
              go_wp2
              go_quiet ((go_at_call 18; exact Calls.quiet_of_same (l1In_yes _ _ _ _ (by omega))))
              go_wp2
              go_roundw
              case rel => exact ⟨k + 1, by omega, by go_num, hdr.step nq⟩
              case measure => simp [intOf]; omega
        · clear hcp
          go_wp2
          go_quiet ((go_at_call 18; exact Calls.quiet_of_same (l1In_no _ _ _ _ (by omega))))
          go_wp2
          go_ret
          exact ⟨rfl, hdr.step nq⟩
    · obtain rfl : k = xs.length := by omega
      go_wp2_with (go_at_call 18; refine (l1In_no _ _ _ _ (by omega)).mono ?_; rintro e w' ⟨rfl, rfl⟩)
      go_ret
      exact ⟨rfl, hdr⟩

theorem specRowOk_any (a : Option Addr) (cap : Nat) (xs : List Int) (c : Int) (w : World) (ha : IntsAt w a xs) (hx : xs.length ≤ 1152921504606846976) (hw1 : -9223372036854775808 ≤ c) (hw2 : c ≤ 9223372036854775807) :
    Calls Tryz.prog 58 #[.slice a xs.length cap, .int .i64 c] w fun e w' => e = .returned (.bool (rowOkB xs c)) ∧ Dr w w' := by
  by_cases h : 0 ≤ c ∧ c ≤ 24
  · have e : rowOkB xs c = ascB (-1) c xs := by simp [rowOkB, h]
    rw [e]
    exact specRowOk_in a cap xs c w ha hx h.1 h.2
  · have e : rowOkB xs c = false := by simp only [rowOkB, decide_eq_false h, Bool.false_and]
    rw [e]
    exact specRowOk_out a cap xs c w ha hx hw1 hw2 (by omega)
end Go.Proofs.YtfciopjcbeccgaaGreatDoor
namespace Go.Proofs.YtfciopjcbeccgaaGreatDoor
open Go.ChangeShapes Go.WideShapes Go.ChangeAt Go.RowKit Go.Sort Go.Shelf
attribute [local go_sem] Oper.semAt_some

set_option maxRecDepth 100000 in
set_option maxHeartbeats 1000000 in
theorem l3Has_any (a : Option Addr) (cap : Nat) (xs : List Int) (n : Int) (w : World) (ha : IntsAt w a xs) (hx : xs.length ≤ 1048576) :
    Calls Tryz.prog 59 #[.slice a xs.length cap, .int .i64 n] w fun e w' => e = .returned (.bool (decide (n ∈ xs))) ∧ w' = w := by
  go_enter Tryz.func59, Tryz.ntmps59
  go_wp2
  go_loop [5] (fun i => ∃ k : Nat, k ≤ xs.length ∧ i = .int .i64 k ∧ n ∉ xs.take k) (fun i => xs.length - (intOf i).toNat)
  case atStart => exact ⟨0, by omega, rfl, by simp⟩
  case round =>
    obtain ⟨k, hk, rfl, hno⟩ := hrel
    have HN := hid hno
    clear hno
    by_cases hlt : k < xs.length
    · obtain ⟨b, off, rfl, hc⟩ := ha (by intro h; simp [h] at hlt)
      have hck := hc k hlt
      have HX := hid (show xs.take (k + 1) = xs.take k ++ [xs.getD k 0] by rw [List.take_succ_eq_append_getElem hlt, getD_eq hlt])
      have HM := hid (show xs.getD k 0 ∈ xs by rw [getD_eq hlt]; exact List.getElem_mem hlt)
      obtain ⟨X, hX⟩ : ∃ X, X = xs.getD k 0 := ⟨_, rfl⟩
      rw [← hX] at hck HX HM
      clear hX hc
      by_cases he : X = n
      · have he1 : (X == n) = true := by simpa using he
        have HD := hid (show decide (n ∈ xs) = true from decide_eq_true (by rw [← he]; exact HM.out))
        clear he
        go_wp2
        go_ret
        exact ⟨ret_bool HD.out.symm, rfl⟩
      · have he1 : (X == n) = false := by simpa using he
        have HE := hid he
        clear he
        go_wp2
        go_round
        case rel => exact ⟨k + 1, by omega, by go_num, by rw [HX.out]; intro h; rcases List.mem_append.1 h with h | h; exact HN.out h; simp only [List.mem_singleton] at h; exact HE.out h.symm⟩
        case measure => simp [intOf]; omega
    · have HD := hid (show decide (n ∈ xs) = false from decide_eq_false (fun h => HN.out (by rw [List.take_of_length_le (by omega)]; exact h)))
      go_wp2
      go_ret
      exact ⟨ret_bool HD.out.symm, rfl⟩
end Go.Proofs.YtfciopjcbeccgaaGreatDoor
