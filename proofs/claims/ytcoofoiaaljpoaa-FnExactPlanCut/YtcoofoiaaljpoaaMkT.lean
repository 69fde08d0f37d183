/- Equations marked and held, as the laws do it. -/
import Derived.Test.YtcoofoiaaljpoaaDecN
import Derived.Test.YtcoofoiaaljpoaaCmn
import Derived.Test.YtcoofoiaaljpoaaIntsH
namespace Go.Proofs.Ytcoofoiaaljpoaa
open Go.ChangeShapes Go.WideShapes Go.ChangeAt Go.RowKit Go.Sort

/-- A mark that is a text. -/
def mtext (k : Nat) : ByteArray := ⟨#[109]⟩ ++ decS k
theorem decS_pos (n : Nat) (o : ByteArray) (j : Nat) (hj : 0 < j) (h : decS n = decS j ++ o) : (j / 10 = 0 → strOfNums [48 + (j : Int) % 10] ++ o = decS n) ∧ (0 < j / 10 → decS n = decS (j / 10) ++ (strOfNums [48 + (j : Int) % 10] ++ o)) := by
  by_cases h10 : j < 10
  · refine ⟨fun _ => ?_, fun h1 => by omega⟩
    rw [h, decS_one h10, show (j : Int) % 10 = j by omega]
  · refine ⟨fun h1 => by omega, fun _ => ?_⟩
    rw [h, decS_more h10, ByteArray.append_assoc]
set_option maxHeartbeats 2000000 in
set_option maxRecDepth 100000 in
theorem markText_any (n : Nat) (w : World) (h0 : 0 < n) (hn : n ≤ 1152921504606846976) :
    Calls Try.prog 22 #[.int .i64 n] w fun e w' => e = .returned (.string (mtext n)) ∧ Below w.heap.size w w' := by
  have hsz := decS_size n (by omega)
  have HZ := hid hsz
  clear hsz
  go_enter Try.func22, Try.ntmps22
  go_wp2_with fail
  go_loopw [0, 3] (fun kk out wr => ∃ (j : Nat) (o : ByteArray), j ≤ n ∧ kk = .int .i64 j ∧ out = .string o ∧ (j = 0 → o = decS n) ∧ (0 < j → decS n = decS j ++ o) ∧ Below w.heap.size w wr) (fun kk _ _ => (intOf kk).toNat)
  case atStart => exact ⟨n, ByteArray.empty, Nat.le_refl _, rfl, rfl, fun h => by omega, fun _ => by rw [ByteArray.append_empty], Below.refl _ _⟩
  case round =>
    obtain ⟨j, o, hj, rfl, rfl, hz, hp, B⟩ := hrel
    rcases Nat.eq_zero_or_pos j with h | h
    · subst h
      have HO := hid (hz rfl)
      have ho : o.size ≤ 21 := by rw [HO.out]; exact HZ.out
      clear hz hp
      go_wp2_with fail
      go_ret
      exact ⟨by rw [HO.out]; rfl, B⟩
    · have HP := hid (decS_pos n o j h (hp h))
      have ho : o.size ≤ 21 := by
        have h1 := HZ.out
        rw [hp h, ByteArray.size_append] at h1
        omega
      have h1 := cv_new (48 + (j : Int) % 10)
      have hs1 : (strOfNums [48 + (j : Int) % 10]).size = 1 := rfl
      have q1 : (j : Int).tdiv 10 = ((j : Int) / 10) := by rw [Int.tdiv_eq_ediv_of_nonneg (by omega)]
      have q2 : (j : Int).tmod 10 = (j : Int) % 10 := Int.tmod_eq_emod_of_nonneg (by omega)
      have q6 : IntKind.u8.wrap (48 + (j : Int) % 10) = 48 + (j : Int) % 10 := by simp [IntKind.wrap, IntKind.bits, IntKind.signed]; omega
      have HB := hid B
      clear hz hp B
      go_wp2_with fail
      go_roundw
      case rel => exact ⟨j / 10, _, by omega, by go_num, rfl, fun hz => (HP.out.1 hz), fun hp => HP.out.2 hp, u_cat HB.out (u_b1 _ _)⟩
      case measure => simp [intOf]; omega
end Go.Proofs.Ytcoofoiaaljpoaa
