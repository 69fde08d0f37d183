/- A text many times. -/
import Derived.Test.YtcoofoiaaljpoaaBase
namespace Go.Proofs.Ytcoofoiaaljpoaa
open Go.ChangeShapes Go.WideShapes Go.ChangeAt Go.RowKit

/-- A text n times. -/
def rep : Nat → ByteArray → ByteArray
  | 0, _ => ⟨#[]⟩
  | n + 1, s => s ++ rep n s
theorem ba_ext {a b : ByteArray} (h : a.data = b.data) : a = b := by cases a; cases b; simp_all
theorem ba_nil (s : ByteArray) : (⟨#[]⟩ : ByteArray) ++ s = s := by apply ba_ext; simp [ByteArray.data_append]
theorem ba_nil' (s : ByteArray) : s ++ (⟨#[]⟩ : ByteArray) = s := by apply ba_ext; simp [ByteArray.data_append]
theorem ba_assoc (a b c : ByteArray) : a ++ b ++ c = a ++ (b ++ c) := by apply ba_ext; simp [ByteArray.data_append, Array.append_assoc]
theorem rep_add (n m : Nat) (s : ByteArray) : rep (n + m) s = rep n s ++ rep m s := by
  induction n with
  | zero => rw [Nat.zero_add, rep, ba_nil]
  | succ n ih => rw [Nat.succ_add, rep, rep, ih, ba_assoc]
theorem rep_two (n : Nat) (s : ByteArray) : rep n (s ++ s) = rep (2 * n) s := by
  induction n with
  | zero => rfl
  | succ n ih => rw [rep, ih, show 2 * (n + 1) = (2 * n + 1) + 1 by omega, rep, rep, ba_assoc]
theorem rep_size (n : Nat) (s : ByteArray) : (rep n s).size = n * s.size := by
  induction n with
  | zero => rw [Nat.zero_mul]; rfl
  | succ n ih => rw [rep, ByteArray.size_append, ih, Nat.succ_mul]; omega

set_option maxRecDepth 100000 in
set_option maxHeartbeats 1000000 in
theorem l1Many_any (s : ByteArray) (n : Nat) (w : World) (hn : n ≤ 1048576) (hs : s.size ≤ 1048576) :
    Calls Try.prog 32 #[.string s, .int .i64 n] w fun e w' => e = .returned (.string (rep n s)) ∧ w' = w := by
  go_enter Try.func32, Try.ntmps32
  go_wp2
  go_loop [0, 1, 5] (fun x q o => ∃ (t out : ByteArray) (m : Nat), x = .string t ∧ q = .int .i64 m ∧ o = .string out ∧ m ≤ n ∧ m * t.size ≤ n * s.size ∧ out.size ≤ n * s.size ∧ out ++ rep m t = rep n s) (fun _ q _ => (intOf q).toNat)
  case atStart => exact ⟨s, ⟨#[]⟩, n, rfl, rfl, rfl, Nat.le_refl _, Nat.le_refl _, Nat.zero_le _, ba_nil _⟩
  case round =>
    obtain ⟨t, out, m, rfl, rfl, rfl, hm, h1, h2, he⟩ := hrel
    have hp : n * s.size ≤ 1099511627776 := Nat.le_trans (Nat.mul_le_mul hn hs) (by omega)
    by_cases h0 : 0 < m
    · have ht : t.size ≤ 1099511627776 := Nat.le_trans (Nat.le_trans (Nat.le_mul_of_pos_left _ h0) h1) hp
      have ho : out.size ≤ 1099511627776 := Nat.le_trans h2 hp
      obtain ⟨q, hq⟩ : ∃ q, m = 2 * q ∨ m = 2 * q + 1 := ⟨m / 2, by omega⟩
      have HE := hid he
      have H1 := hid h1
      have H2 := hid h2
      have HP := hid hp
      clear he h1 h2 hp
      rcases hq with rfl | rfl
      · have e1 : (((2 * q : Nat) : Int) % 2 == 1) = false := by simp
        go_wp2
        go_round
        case rel =>
          refine ⟨t ++ t, out, q, rfl, by go_num, rfl, by omega, ?_, H2.out, ?_⟩
          · have := H1.out
            rw [ByteArray.size_append, ← Nat.two_mul, ← Nat.mul_assoc, Nat.mul_comm q 2]; exact this
          · rw [rep_two]; exact HE.out
        case measure => simp [intOf]; omega
      · have e1 : (((2 * q + 1 : Nat) : Int) % 2 == 1) = true := by simp
        have hsum : (out ++ rep (2 * q + 1) t).size = (rep n s).size := by rw [HE.out]
        rw [ByteArray.size_append, rep_size, rep_size, Nat.succ_mul] at hsum
        have HS := hid hsum
        clear hsum
        go_wp2
        go_round
        case rel =>
          refine ⟨t ++ t, out ++ t, q, rfl, by go_num, rfl, by omega, ?_, ?_, ?_⟩
          · have := H1.out
            rw [Nat.succ_mul] at this
            rw [ByteArray.size_append, ← Nat.two_mul, ← Nat.mul_assoc, Nat.mul_comm q 2]; omega
          · have := HS.out
            rw [ByteArray.size_append]; omega
          · rw [rep_two, ba_assoc, ← HE.out, rep]
        case measure => simp [intOf]; omega
    · obtain rfl : m = 0 := by omega
      have HE := hid he
      clear he
      go_wp2
      go_ret
      rw [← HE.out, rep, ba_nil']
      exact ⟨rfl, rfl⟩
end Go.Proofs.Ytcoofoiaaljpoaa
