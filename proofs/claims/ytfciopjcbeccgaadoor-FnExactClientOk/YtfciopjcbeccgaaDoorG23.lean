/- Solvers that are ok, by the model. -/
import Derived.Test.YtfciopjcbeccgaaDoorG22
namespace Go.Proofs.YtfciopjcbeccgaaDoor
open Go.ChangeShapes Go.WideShapes Go.ChangeAt Go.RowKit Go.Sort Go.Shelf
attribute [local go_sem] Oper.semAt_some

set_option maxRecDepth 100000 in
set_option maxHeartbeats 1000000 in
theorem l3Has_any (a : Option Addr) (cap : Nat) (xs : List Int) (n : Int) (w : World) (ha : IntsAt w a xs) (hx : xs.length ≤ 1048576) :
    Calls Tryd.prog 35 #[.slice a xs.length cap, .int .i64 n] w fun e w' => e = .returned (.bool (decide (n ∈ xs))) ∧ w' = w := by
  go_enter Tryd.func35, Tryd.ntmps35
  go_wp2
  go_loop [5] (fun i => ∃ k : Nat, k ≤ xs.length ∧ i = .int .i64 k ∧ n ∉ xs.take k) (fun i => xs.length - (intOf i).toNat)
  case atStart => exact ⟨0, by omega, rfl, by simp⟩
  case round =>
    obtain ⟨k, hk, rfl, hno⟩ := hrel
    have HN := hid hno
    clear hno
    by_cases hlt : k < xs.length
    · obtain ⟨b, off, rfl, hc⟩ := ha (by intro h; simp [h] at hlt)
      have hck := hc k hlt
      have HX := hid (show xs.take (k + 1) = xs.take k ++ [xs.getD k 0] by rw [List.take_succ_eq_append_getElem hlt, getD_eq hlt])
      have HM := hid (show xs.getD k 0 ∈ xs by rw [getD_eq hlt]; exact List.getElem_mem hlt)
      obtain ⟨X, hX⟩ : ∃ X, X = xs.getD k 0 := ⟨_, rfl⟩
      rw [← hX] at hck HX HM
      clear hX hc
      by_cases he : X = n
      · have he1 : (X == n) = true := by simpa using he
        have HD := hid (show decide (n ∈ xs) = true from decide_eq_true (by rw [← he]; exact HM.out))
        clear he
        go_wp2
        go_ret
        exact ⟨ret_bool HD.out.symm, rfl⟩
      · have he1 : (X == n) = false := by simpa using he
        have HE := hid he
        clear he
        go_wp2
        go_round
        case rel => exact ⟨k + 1, by omega, by go_num, by rw [HX.out]; intro h; rcases List.mem_append.1 h with h | h; exact HN.out h; simp only [List.mem_singleton] at h; exact HE.out h.symm⟩
        case measure => simp [intOf]; omega
    · have HD := hid (show decide (n ∈ xs) = false from decide_eq_false (fun h => HN.out (by rw [List.take_of_length_le (by omega)]; exact h)))
      go_wp2
      go_ret
      exact ⟨ret_bool HD.out.symm, rfl⟩
end Go.Proofs.YtfciopjcbeccgaaDoor
