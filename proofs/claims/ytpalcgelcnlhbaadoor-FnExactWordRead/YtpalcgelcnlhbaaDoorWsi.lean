/- The sum of a word's text, in seven figures, by the program. -/
import Derived.Test.YtpalcgelcnlhbaaDoorWsm
namespace Go.Proofs.YtpalcgelcnlhbaaDoor
open Go.ChangeShapes Go.WideShapes Go.ChangeAt Go.RowKit

theorem repeat0 (c : Nat) (w : World) (h : c ≤ 7) : Calls Tryd.prog 37 #[.string ⟨#[48]⟩, .int .i64 c] w fun e w' => e = .returned (.string ⟨(Lib.repeatL [48] c).toArray⟩) ∧ Below w.heap.size w w' :=
  Tryd.strings_Repeat ⟨#[48]⟩ c w (by omega) (by show 1 * c ≤ _; omega)
theorem repeat7 (D : ByteArray) (w : World) (h : D.size ≤ 7) : Calls Tryd.prog 37 #[.string ⟨#[48]⟩, .int .i64 (7 - (D.size : Int))] w fun e w' => e = .returned (.string ⟨(Lib.repeatL [48] (7 - D.size)).toArray⟩) ∧ Below w.heap.size w w' := by
  have := repeat0 (7 - D.size) w (by omega)
  rw [Int.ofNat_sub h] at this
  exact this

set_option maxHeartbeats 1000000 in
theorem wordSum_any (s : ByteArray) (w : World) (hs : s.size ≤ maxLen) (ht : Pow w) :
    Calls Tryd.prog 25 #[.string s] w fun r w' => r = .returned (.string (sevenS s.data.toList)) ∧ Below w.heap.size w w' := by
  unfold maxLen at hs
  have hd0 := sumS_bd s.data.toList
  obtain ⟨n, hn⟩ : ∃ n : Nat, sumS s.data.toList = n := ⟨(sumS s.data.toList).toNat, by omega⟩
  have hn1 : n < 1000003 := by omega
  unfold sevenS
  rw [hn]
  simp only [Int.toNat_natCast]
  have HN := hid hn
  have h7 := decS_len7 (n := n) (by omega)
  have HD := hid (itoa_any n w (by omega) ht)
  have HZ := hid (padK_app (7 - (decS n).size) (decS n))
  have HR := hid (fun w => repeat7 (decS n) w h7)
  have hz : (⟨(Lib.repeatL [48] (7 - (decS n).size)).toArray⟩ : ByteArray).size = 7 - (decS n).size := by
    show (Lib.repeatL [48] (7 - (decS n).size)).toArray.size = _
    simp [Lib.repeatL_length]
  obtain ⟨Z, hZ⟩ : ∃ Z, Z = (⟨(Lib.repeatL [48] (7 - (decS n).size)).toArray⟩ : ByteArray) := ⟨_, rfl⟩
  obtain ⟨D, hD⟩ : ∃ D, D = decS n := ⟨_, rfl⟩
  rw [← hZ] at hz HZ HR
  rw [← hD] at h7 HD HZ HR hz ⊢
  rw [← HZ.out]
  have HZZ := hid hz
  have hz7 : Z.size ≤ 7 := by omega
  clear hD hn hd0 hZ hz HZ HZZ ht
  go_enter Tryd.func25, Tryd.ntmps25
  go_wp2_with fail
  go_loop [3, 8] (fun n i => ∃ k : Nat, k ≤ s.size ∧ i = .int .i64 k ∧ n = .int .i64 (sumS (s.data.toList.take k))) (fun _ i => s.size - (intOf i).toNat)
  case atStart => exact ⟨0, Nat.zero_le _, rfl, rfl⟩
  case round =>
    obtain ⟨k, hk, rfl, rfl⟩ := hrel
    have hd := sumS_bd (s.data.toList.take k)
    by_cases hlt : k < s.size
    · have HS := hid (sumS_take s k hlt)
      obtain ⟨x, hx⟩ : ∃ x, x = sumS (s.data.toList.take k) := ⟨_, rfl⟩
      rw [← hx] at hd HS ⊢
      obtain ⟨d1, d2⟩ := hd
      have hc : s[k].toNat < 256 := UInt8.toNat_lt _
      clear hx
      go_wp2_with fail
      go_round
      case rel => exact ⟨k + 1, by omega, by go_num, by rw [HS.out]⟩
      case measure => simp [intOf]; omega
    · obtain rfl : k = s.size := by omega
      rw [sumS_all, HN.out]
      clear hd hk hlt
      go_wp2_with (first
        | (go_at_call 23; refine HD.out.mono ?_; rintro e w1 ⟨rfl, hb1⟩; have HB := hid hb1; clear hb1)
        | (go_at_call 37; refine (HR.out _).mono ?_; rintro e w2 ⟨rfl, hb2⟩; have HB2 := hid hb2; clear hb2))
      go_ret
      exact ⟨rfl, below_catD HB.out HB2.out⟩
end Go.Proofs.YtpalcgelcnlhbaaDoor
