/- Whether a number is in a list, as the promises ask. -/
import Derived.Test.YtndgjgknkgmhfaaDoorIntsR
namespace Go.Proofs.YtndgjgknkgmhfaaDoor
open Go.ChangeShapes Go.WideShapes Go.ChangeAt Go.RowKit

set_option maxHeartbeats 1000000 in
theorem whHas_any (a : Option Addr) (cap : Nat) (xs : List Int) (n : Int) (w : World) (ha : IntsAt w a xs) (hx : xs.length ≤ 1048576) :
    Calls Tryd.prog 11 #[.slice a xs.length cap, .int .i64 n] w fun e w' => e = .returned (.bool (decide (n ∈ xs))) ∧ w' = w := by
  go_enter Tryd.func11, Tryd.ntmps11
  go_wp2
  go_loop [5] (fun i => ∃ k : Nat, k ≤ xs.length ∧ i = .int .i64 k ∧ n ∉ xs.take k) (fun i => xs.length - (intOf i).toNat)
  case atStart => exact ⟨0, Nat.zero_le _, rfl, by simp⟩
  case round =>
    obtain ⟨k, hk, rfl, hp⟩ := hrel
    have HP := hid hp
    clear hp
    by_cases hlt : k < xs.length
    · obtain ⟨b, off, rfl, hc⟩ := ha (by intro h; simp [h] at hlt)
      have hck := hc k hlt
      have hg := getD_eq hlt
      obtain ⟨X, hX⟩ : ∃ X, X = xs.getD k 0 := ⟨_, rfl⟩
      rw [← hX] at hck hg
      have HX := hid hg
      clear hX hc hg
      by_cases h : X = n
      · have hz : (X == n) = true := by rw [beq_iff_eq]; exact h
        have H := hid (show decide (n ∈ xs) = true from decide_eq_true (by rw [← h, HX.out]; exact List.getElem_mem hlt))
        clear h
        go_wp2
        go_ret
        exact ⟨ret_bool H.out.symm, rfl⟩
      · have hz : (X == n) = false := by rw [beq_eq_false_iff_ne]; exact h
        have H := hid (show n ∉ xs.take (k + 1) by
          rw [List.take_succ_eq_append_getElem hlt, List.mem_append]
          rintro (h' | h')
          · exact HP.out h'
          · rw [List.mem_singleton, ← HX.out] at h'; exact h h'.symm)
        clear h
        go_wp2
        go_round
        case rel => exact ⟨k + 1, by omega, by go_num, H.out⟩
        case measure => simp [intOf]; omega
    · obtain rfl : k = xs.length := by omega
      have H := hid (show decide (n ∈ xs) = false from decide_eq_false (by have := HP.out; rwa [List.take_length] at this))
      go_wp2
      go_ret
      exact ⟨ret_bool H.out.symm, rfl⟩
end Go.Proofs.YtndgjgknkgmhfaaDoor
