/- The sum of a word's text, in seven figures: by the model and by the program. -/
import Derived.Test.YtpalcgelcnlhbaaDoorDec
import Derived.Test.YtpalcgelcnlhbaaDoorItoa
import Derived.Deep.LoopGhost
import Derived.Lib.Repeat
namespace Go.Proofs.YtpalcgelcnlhbaaDoor
open Go.ChangeShapes Go.WideShapes Go.ChangeAt Go.RowKit

def stepS (n : Int) (c : UInt8) : Int := (n * 31 + (c.toNat : Int) + 7) % 1000003
def sumS (l : List UInt8) : Int := l.foldl stepS 1
theorem sumS_snoc (l : List UInt8) (c : UInt8) : sumS (l ++ [c]) = stepS (sumS l) c := by simp [sumS]
theorem sumS_bd (l : List UInt8) : 0 ≤ sumS l ∧ sumS l < 1000003 := by
  rcases l.eq_nil_or_concat with rfl | ⟨r, c, rfl⟩
  · decide
  · rw [List.concat_eq_append, sumS_snoc, stepS]
    omega
theorem take_snocS (s : ByteArray) (k : Nat) (h : k < s.size) : s.data.toList.take (k + 1) = s.data.toList.take k ++ [s[k]] := by
  rw [List.take_succ_eq_append_getElem (by simpa using h)]; rfl
theorem sumS_take (s : ByteArray) (k : Nat) (h : k < s.size) : sumS (s.data.toList.take (k + 1)) = (sumS (s.data.toList.take k) * 31 + (s[k].toNat : Int) + 7) % 1000003 := by
  rw [take_snocS s k h, sumS_snoc, stepS]
theorem sumS_all (s : ByteArray) : sumS (s.data.toList.take s.size) = sumS s.data.toList := by rw [List.take_of_length_le (by simp)]

/-- Noughts ahead of figures. -/
def padK (j : Nat) (D : ByteArray) : ByteArray := ⟨(List.replicate j 48 ++ D.data.toList).toArray⟩
theorem padK_size (j : Nat) (D : ByteArray) : (padK j D).size = j + D.size := by
  show (List.replicate j 48 ++ D.data.toList).toArray.size = _
  simp
theorem padK_zero (D : ByteArray) : padK 0 D = D := by simp [padK]
theorem padK_succ (j : Nat) (D : ByteArray) : (⟨#[48]⟩ : ByteArray) ++ padK j D = padK (j + 1) D := by
  apply ByteArray.ext
  apply Array.toList_inj.1
  simp [padK, List.replicate_succ]
theorem padK_app (j : Nat) (D : ByteArray) : (⟨(Lib.repeatL [48] j).toArray⟩ : ByteArray) ++ D = padK j D := by
  apply ByteArray.ext
  apply Array.toList_inj.1
  have := Lib.repeatL_replicate 48 1 j
  simp only [List.replicate_one, Nat.mul_one] at this
  simp [padK, this]
/-- The sum of a text, in seven figures. -/
def sevenS (l : List UInt8) : ByteArray := padK (7 - (decS (sumS l).toNat).size) (decS (sumS l).toNat)
theorem decS_len7 {n : Nat} (h : n < 1000003) : (decS n).size ≤ 7 := by
  have e : (decS n).size = Lib.nDigits n := by
    rw [← Lib.decDigits_length]
    simp [decS, ByteArray.size]
  have : Lib.nDigits n ≤ 7 := by
    rw [Lib.nDigits]; split; · omega
    rw [Lib.nDigits]; split; · omega
    rw [Lib.nDigits]; split; · omega
    rw [Lib.nDigits]; split; · omega
    rw [Lib.nDigits]; split; · omega
    rw [Lib.nDigits]; split; · omega
    rw [Lib.nDigits, dif_pos (by omega)]
    omega
  omega

set_option maxHeartbeats 1000000 in
theorem l7Sum_any (s : ByteArray) (w : World) (hs : s.size ≤ maxLen) :
    Calls Tryd.prog 17 #[.string s] w fun r w' => r = .returned (.string (sevenS s.data.toList)) ∧ Below w.heap.size w w' := by
  unfold maxLen at hs
  have hd0 := sumS_bd s.data.toList
  obtain ⟨n, hn⟩ : ∃ n : Nat, sumS s.data.toList = n := ⟨(sumS s.data.toList).toNat, by omega⟩
  have hn1 : n < 1000003 := by omega
  unfold sevenS
  rw [hn]
  simp only [Int.toNat_natCast]
  have HN := hid hn
  have h7 := decS_len7 (n := n) (by omega)
  have HD := hid (fun w => l1Dec_any n n w (Nat.le_refl _) (by omega))
  have HZ := hid (padK_zero (decS n))
  obtain ⟨D, hD⟩ : ∃ D, D = decS n := ⟨_, rfl⟩
  rw [← hD] at h7 HD HZ ⊢
  obtain ⟨J, hJ⟩ : ∃ J, J = 7 - D.size := ⟨_, rfl⟩
  rw [← hJ]
  have HJ := hid hJ
  clear hD hn hd0 hJ
  go_enter Tryd.func17, Tryd.ntmps17
  go_wp2_with fail
  go_loop [3, 4] (fun n i => ∃ k : Nat, k ≤ s.size ∧ i = .int .i64 k ∧ n = .int .i64 (sumS (s.data.toList.take k))) (fun _ i => s.size - (intOf i).toNat)
  case atStart => exact ⟨0, Nat.zero_le _, rfl, rfl⟩
  case round =>
    obtain ⟨k, hk, rfl, rfl⟩ := hrel
    have hd := sumS_bd (s.data.toList.take k)
    by_cases hlt : k < s.size
    · have HS := hid (sumS_take s k hlt)
      obtain ⟨x, hx⟩ : ∃ x, x = sumS (s.data.toList.take k) := ⟨_, rfl⟩
      rw [← hx] at hd HS ⊢
      obtain ⟨d1, d2⟩ := hd
      have hc : s[k].toNat < 256 := UInt8.toNat_lt _
      clear hx
      go_wp2_with fail
      go_round
      case rel => exact ⟨k + 1, by omega, by go_num, by rw [HS.out]⟩
      case measure => simp [intOf]; omega
    · obtain rfl : k = s.size := by omega
      rw [sumS_all, HN.out]
      clear hd hk hlt
      go_wp2_with (go_at_call 27; refine (HD.out _).mono ?_; rintro e w1 ⟨rfl, hb1⟩)
      have HB := hid hb1
      clear hb1
      go_loopg [5] 8 (fun k v wr => ∃ j : Nat, j + D.size ≤ 7 ∧ k = 8 - j ∧ v = .string (padK j D) ∧ wr = w1)
      case atStart => exact ⟨0, by omega, by omega, by rw [HZ.out], rfl⟩
      case round =>
        obtain ⟨j, hj, rfl, rfl, rfl⟩ := hrel
        have hz := padK_size j D
        by_cases hl : j + D.size < 7
        · have HK := hid (padK_succ j D)
          go_wp2_with fail
          go_roundg (8 - (j + 1))
          case measure => omega
          case rel => exact ⟨j + 1, by omega, rfl, by rw [← HK.out], rfl⟩
        · have e := hid (show J = j by have := HJ.out; omega)
          go_wp2_with fail
          go_ret
          rw [e.out]
          exact ⟨rfl, HB.out⟩
end Go.Proofs.YtpalcgelcnlhbaaDoor
