/- Rows of ints in the laws: held against each other, marked, held again. -/
import Derived.Test.YtckhajaceofjjaaDoorIntsH
namespace Go.Proofs.YtckhajaceofjjaaDoor
open Go.ChangeShapes Go.WideShapes Go.ChangeAt Go.RowKit

set_option maxHeartbeats 1000000 in
theorem eqIntS_any (a b : Option Addr) (ca cb : Nat) (xs ys : List Int) (w : World) (ha : IntsAt w a xs) (hb : IntsAt w b ys) (hx : xs.length ≤ 1152921504606846976) :
    Calls Tryd.prog 9 #[.slice a xs.length ca, .slice b ys.length cb] w fun e w' => e = .returned (.bool (decide (xs = ys))) ∧ ∃ n, w' = w.drewN n := by
  by_cases hl : xs.length = ys.length
  · have hl2 : ((xs.length : Int) != ys.length) = false := by simp [hl]
    have HL : Hid (xs.length = ys.length) := hl
    clear hl
    go_enter Tryd.func9, Tryd.ntmps9
    go_wp2
    go_loopw [5] (fun i wr => ∃ k : Nat, k ≤ xs.length ∧ i = .int .i64 k ∧ xs.take k = ys.take k ∧ ∃ n, wr = w.drewN n) (fun i _ => xs.length - (intOf i).toNat)
    case atStart => exact ⟨0, Nat.zero_le _, rfl, rfl, 0, rfl⟩
    case round =>
      obtain ⟨k, hk, rfl, he, n, rfl⟩ := hrel
      by_cases hlt : k < xs.length
      · have hne : xs ≠ [] := by intro h; simp [h] at hlt
        have hlt2 : k < ys.length := by have := HL.out; omega
        have hne2 : ys ≠ [] := by intro h; simp [h] at hlt2
        obtain ⟨b1, o1, rfl, h1⟩ := ha hne
        obtain ⟨b2, o2, rfl, h2⟩ := hb hne2
        have c1 := h1 k hlt
        have c2 := h2 k (by omega)
        have HE : Hid _ := he
        obtain ⟨X, hX⟩ : ∃ X, X = xs.getD k 0 := ⟨_, rfl⟩
        obtain ⟨Y, hY⟩ : ∃ Y, Y = ys.getD k 0 := ⟨_, rfl⟩
        rw [← hX] at c1
        rw [← hY] at c2
        have HX : Hid _ := hX
        have HY : Hid _ := hY
        clear he h1 h2 hX hY
        by_cases hxy : X = Y
        · have hxy' : (X != Y) = false := by simp [hxy]
          have HXY : Hid _ := hxy
          clear hxy
          go_wp2
          go_quiet (fail)
          go_wp2
          go_roundw
          case rel => exact ⟨k + 1, by omega, by go_num, take_eq HE.out hlt hlt2 (by rw [← HX.out, ← HY.out]; exact HXY.out), n + nq, rfl⟩
          case measure => simp [intOf]; omega
        · have hxy' : (X != Y) = true := by simp [hxy]
          have HXY : Hid _ := hxy
          clear hxy
          go_wp2
          go_quiet (fail)
          go_wp2
          go_ret
          exact ⟨ret_bool (by simpa using take_ne (by rw [← HX.out, ← HY.out]; exact HXY.out)), drewN_two w n nq⟩
      · go_wp2
        go_ret
        refine ⟨ret_bool ?_, n, rfl⟩
        have h1 : xs = ys := by
          have e1 : xs.take k = xs := List.take_of_length_le (by omega)
          have e2 : ys.take k = ys := List.take_of_length_le (by have := HL.out; omega)
          rw [e1, e2] at he; exact he
        simp [h1]
  · have hl2 : ((xs.length : Int) != ys.length) = true := by simp; omega
    have hne : xs ≠ ys := fun h => hl (by rw [h])
    have HN : Hid _ := hne
    clear hl hne
    go_enter Tryd.func9, Tryd.ntmps9
    go_wp2
    go_ret
    exact ⟨ret_bool (by simpa using HN.out), 0, rfl⟩

/-- Numbers from k on. -/
def marks (k : Int) (n : Nat) : List Int := (List.range n).map fun (i : Nat) => k + (i : Int)
theorem marks_len (k : Int) (n : Nat) : (marks k n).length = n := by simp [marks]
theorem marks_at (k : Int) (n i : Nat) (h : i < n) : (marks k n).getD i 0 = k + i := by simp [marks, List.getD, h]
theorem marks_set (k : Int) (i : Nat) (xs : List Int) (h : i < xs.length) : (marks k i ++ xs.drop i).set i (k + i) = marks k (i + 1) ++ xs.drop (i + 1) := by
  rw [List.set_append_right _ _ (by rw [marks_len]; exact Nat.le_refl _), marks_len, Nat.sub_self, List.drop_eq_getElem_cons h, List.set_cons_zero]
  simp [marks, List.range_succ]

set_option maxHeartbeats 1000000 in
theorem markIntS_any (base : Nat) (v : Value) (n : Nat) (xs : List Int) (k : Int) (w : World) (hown : w.ownsRow base 3 1 v n (xs.map (Value.int .i64))) (hn : n ≤ 1152921504606846976) (hk0 : 0 ≤ k) (hk : k ≤ 1152921504606846976) :
    Calls Tryd.prog 12 #[v, .int .i64 k] w fun e w' => e = .returned (.int .i64 (k + n)) ∧ w'.ownsRow base 3 1 v n ((marks k n).map (Value.int .i64)) ∧ w.grownBy w' v.ownBlock := by
  have hl : xs.length = n := by simpa using hown.1
  rcases Nat.eq_zero_or_pos n with h0 | h0
  · subst h0
    obtain ⟨a, cap, rfl⟩ := owns_slice hown
    have hx : xs = [] := List.eq_nil_of_length_eq_zero hl
    subst hx
    have HO : Hid (w.ownsRow base 3 1 (.slice a 0 cap) 0 ((marks k 0).map (Value.int .i64))) := hown
    clear hown hl
    go_enter Tryd.func12, Tryd.ntmps12
    go_wp2
    refine wp_loop_rounds 1 ?_
    rw [rounds_succ]
    go_wp2
    go_ret
    exact ⟨ret_int (by simp), HO.out, ⟨rfl, rfl, rfl, Nat.le_refl _, fun _ _ _ => rfl⟩⟩
  · obtain ⟨g, cap, rfl, hg⟩ := owns_shape hown (by intro e; simp at e; rw [e] at hl; simp at hl; omega)
    have HL : Hid _ := hl
    have HO : Hid _ := hown
    clear hown hl
    go_enter Tryd.func12, Tryd.ntmps12
    go_wp2
    go_loopw [1, 5] (fun q i wr => ∃ j : Nat, j ≤ n ∧ i = .int .i64 j ∧ q = .int .i64 (k + j) ∧ wr.ownsRow base 3 1 (.slice (some ⟨g, 0, none⟩) n cap) n ((marks k j ++ xs.drop j).map (Value.int .i64)) ∧ w.grownBy wr (some g)) (fun _ i _ => n - (intOf i).toNat)
    case atStart => exact ⟨0, Nat.zero_le _, rfl, by go_num, HO.out, ⟨rfl, rfl, rfl, Nat.le_refl _, fun _ _ _ => rfl⟩⟩
    case round =>
      obtain ⟨j, hj, rfl, rfl, hown, hgr⟩ := hrel
      by_cases hlt : j < n
      · have hc := hown.cellAt j (by omega)
        have hf := hown.frozenAt j
        obtain ⟨u, hu⟩ : ∃ u, wr.cell? ⟨g, j, none⟩ = some u := by
          rw [hc]; exact ⟨_, List.getElem?_eq_getElem (by simp [marks_len, HL.out]; omega)⟩
        have hst := hown.stored j (.int .i64 (k + j))
        have HST : Hid _ := hst
        clear hst hc hown
        go_wp2
        go_roundw
        case rel =>
          refine ⟨j + 1, by omega, by go_num, by go_num, ?_, ?_⟩
          · have h1 := HST.out.1
            have e := marks_set k j xs (by rw [HL.out]; exact hlt)
            rw [← e, List.map_set]
            exact h1
          · have h2 := HST.out.2
            exact ⟨h2.os.trans hgr.os, h2.tape.trans hgr.tape, h2.output.trans hgr.output, Nat.le_trans hgr.size h2.size, fun i hi hr => (h2.block i (Nat.lt_of_lt_of_le hi hgr.size) hr).trans (hgr.block i hi hr)⟩
        case measure => simp [intOf]; omega
      · obtain rfl : j = n := by omega
        have HW : Hid _ := hown
        clear hown
        go_wp2
        go_ret
        refine ⟨rfl, ?_, hgr⟩
        have := HW.out
        rw [List.drop_of_length_le (by rw [HL.out]; exact Nat.le_refl _), List.append_nil] at this
        exact this

set_option maxHeartbeats 1000000 in
theorem heldIntS_any (a : Option Addr) (cap n : Nat) (k : Int) (w : World) (ha : IntsAt w a (marks k n)) (hn : n ≤ 1152921504606846976) (hk0 : 0 ≤ k) (hk : k ≤ 1152921504606846976) :
    Calls Tryd.prog 13 #[.slice a n cap, .int .i64 k] w fun e w' => e = .returned (.int .i64 (k + n)) ∧ w' = w := by
  go_enter Tryd.func13, Tryd.ntmps13
  go_wp2
  go_loop [1, 5] (fun q i => ∃ j : Nat, j ≤ n ∧ i = .int .i64 j ∧ q = .int .i64 (k + j)) (fun _ i => n - (intOf i).toNat)
  case atStart => exact ⟨0, Nat.zero_le _, rfl, by go_num⟩
  case round =>
    obtain ⟨j, hj, rfl, rfl⟩ := hrel
    by_cases hlt : j < n
    · obtain ⟨b1, o1, rfl, h1⟩ := ha (by intro h; have := marks_len k n; rw [h] at this; simp at this; omega)
      have c1 := h1 j (by rw [marks_len]; exact hlt)
      rw [marks_at k n j hlt] at c1
      clear h1
      go_wp2
      go_round
      case rel => exact ⟨j + 1, by omega, by go_num, by go_num⟩
      case measure => simp [intOf]; omega
    · obtain rfl : j = n := by omega
      go_wp2
      go_ret
      exact ⟨rfl, rfl⟩
end Go.Proofs.YtckhajaceofjjaaDoor
