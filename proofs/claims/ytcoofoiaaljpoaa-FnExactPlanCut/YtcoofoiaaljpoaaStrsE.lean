/- Rows of texts in the laws: copied, held against each other, measured. -/
import Derived.Test.YtcoofoiaaljpoaaStrsH
import Derived.SliceStrings
namespace Go.Proofs.Ytcoofoiaaljpoaa
open Go.ChangeShapes Go.WideShapes Go.ChangeAt Go.RowKit

theorem takeS_eq {xs ys : List ByteArray} {k : Nat} (h : xs.take k = ys.take k) (hk : k < xs.length) (hk2 : k < ys.length) (he : xs.getD k ByteArray.empty = ys.getD k ByteArray.empty) : xs.take (k + 1) = ys.take (k + 1) := by
  rw [List.take_succ_eq_append_getElem hk, List.take_succ_eq_append_getElem hk2, h]
  have : xs[k] = ys[k] := by simpa [List.getD, hk, hk2] using he
  rw [this]
set_option maxHeartbeats 1000000 in
theorem eqStringS_same (a b : Option Addr) (ca cb : Nat) (ss : List ByteArray) (w : World) (ha : StrsAt w a ss) (hb : StrsAt w b ss) (hx : ss.length ≤ 1152921504606846976) :
    Calls Try.prog 8 #[.slice a ss.length ca, .slice b ss.length cb] w fun e w' => e = .returned (.bool true) ∧ Dr w w' := by
  go_enter Try.func8, Try.ntmps8
  go_wp2
  go_loopw [5] (fun i wr => ∃ k : Nat, k ≤ ss.length ∧ i = .int .i64 k ∧ Dr w wr) (fun i _ => ss.length - (intOf i).toNat)
  case atStart => exact ⟨0, Nat.zero_le _, rfl, Dr.refl _⟩
  case round =>
    obtain ⟨k, hk, rfl, hdr⟩ := hrel
    by_cases hlt : k < ss.length
    · have hne : ss ≠ [] := by intro h; simp [h] at hlt
      obtain ⟨b1, o1, rfl, h1⟩ := ha hne
      obtain ⟨b2, o2, rfl, h2⟩ := hb hne
      have c1 := (hdr.cell _).trans (h1 k hlt)
      have c2 := (hdr.cell _).trans (h2 k hlt)
      obtain ⟨X, hX⟩ : ∃ X, X = ss.getD k ByteArray.empty := ⟨_, rfl⟩
      rw [← hX] at c1 c2
      clear h1 h2 hX
      go_wp2
      go_quiet (fail)
      go_wp2
      go_roundw
      case rel => exact ⟨k + 1, by omega, by go_num, hdr.step nq⟩
      case measure => simp [intOf]; omega
    · go_wp2
      go_ret
      exact ⟨rfl, hdr⟩
end Go.Proofs.Ytcoofoiaaljpoaa
