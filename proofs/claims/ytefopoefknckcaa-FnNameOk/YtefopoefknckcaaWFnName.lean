/- The walk of the promise on names. -/
import Derived.Test.YtefopoefknckcaaDrawO
import Derived.Test.YtefopoefknckcaaWhIn
import Derived.Test.YtefopoefknckcaaName
import Derived.WalkSpells
namespace Go.Proofs.Ytefopoefknckcaa
open Go.ChangeShapes Go.WideShapes Go.ChangeAt Go.RowKit

/-- Each letter of a name is one. -/
theorem name_letter (s : ByteArray) (k : Nat) (h : nameB s = true) (hk : k < s.size) : nameB (s.extract k (k + 1)) = true := by
  simp only [nameB, Bool.and_eq_true, List.all_eq_true, decide_eq_true_eq] at h ⊢
  have hz : (s.extract k (k + 1)).size = 1 := by rw [ByteArray.size_extract]; omega
  refine ⟨fun x hx => h.1 x ?_, by omega, by omega⟩
  rw [ByteArray.data_extract, Array.toList_extract, List.extract_eq_take_drop] at hx
  exact List.mem_of_mem_drop (List.mem_of_mem_take hx)

set_option maxHeartbeats 1000000 in
theorem walk_FnNameOk (a0 : Option Addr) (len0 cap0 : Nat) (z0 : List Int) (w : World) (w0 : IsRow .u8 w a0 len0 cap0 z0) :
    Calls Try.prog 4 #[.slice a0 len0 cap0] w fun e w' => e = .returned (.bool true) ∧ Below w.heap.size w w' := by
  by_cases h : len0 ≤ 1048576
  · have h' : ¬ (1048576 : Int) < (len0 : Int) := by omega
    have W0 := hid w0
    clear w0
    go_enter Try.func4, Try.ntmps4
    go_wp2_with fail
    refine (drawNameOk a0 len0 cap0 z0 _ W0.out).mono ?_
    rintro e w1 ⟨s, rfl, hs, b1⟩
    go_wp2_with fail
    refine (implNameOk s _ (by unfold maxLen; omega)).mono ?_
    rintro e w2 ⟨rfl, rfl⟩
    cases hn : nameB s with
    | false =>
      have HN := hid hn
      clear hn
      go_wp2_with fail
      refine (specNameOk s _ (by unfold maxLen; omega)).mono ?_
      rintro e w3 ⟨rfl, rfl⟩
      rw [HN.out]
      go_wp2_with fail
      refine wp_loop_rounds 1 ?_
      rw [rounds_succ]
      by_cases hz : 0 < s.size
      · have hz' : (0 : Int) < (s.size : Int) := by omega
        go_wp2_with fail
        go_ret
        exact ⟨rfl, b1⟩
      · have hz' : ¬ (0 : Int) < (s.size : Int) := by omega
        go_wp2_with fail
        go_ret
        exact ⟨rfl, b1⟩
    | true =>
      have HN := hid hn
      clear hn
      go_wp2_with fail
      refine (specNameOk s _ (by unfold maxLen; omega)).mono ?_
      rintro e w3 ⟨rfl, rfl⟩
      rw [HN.out]
      go_wp2_with fail
      go_loop [5] (fun i => ∃ k : Nat, k ≤ s.size ∧ i = .int .i64 k) (fun i => s.size - (intOf i).toNat)
      case atStart => exact ⟨0, Nat.zero_le _, rfl⟩
      case round =>
        obtain ⟨k, hk, rfl⟩ := hrel
        by_cases hlt : k < s.size
        · have hk1 : (k : Int) + 1 ≤ (s.size : Int) := by omega
          have hk2 : (0 : Int) ≤ (k : Int) := by omega
          have HL := hid (name_letter s k HN.out hlt)
          go_wp2_with fail
          refine (implNameOk (s.extract k (k + 1)) _ (by rw [ByteArray.size_extract]; unfold maxLen; omega)).mono ?_
          rintro e w4 ⟨rfl, hw4⟩
          rw [HL.out]
          subst hw4
          go_wp2_with fail
          go_round
          case rel => exact ⟨k + 1, by omega, by go_num⟩
          case measure => simp [intOf]; omega
        · have HZ := HN.out
          simp only [nameB, Bool.and_eq_true, decide_eq_true_eq] at HZ
          obtain ⟨_, z1, z2⟩ := HZ
          go_wp2_with fail
          refine (whIn_yes _ _ _ _ (by omega) (by omega)).mono ?_
          rintro e w4 ⟨rfl, hw4⟩
          subst hw4
          go_wp2_with fail
          go_ret
          exact ⟨rfl, b1⟩
  · have h' : (1048576 : Int) < (len0 : Int) := by omega
    clear w0
    go_enter Try.func4, Try.ntmps4
    go_wp2
    go_ret
    exact ⟨rfl, Below.refl _ _⟩
end Go.Proofs.Ytefopoefknckcaa
