/- Numbers read from texts, by the model. -/
import Derived.Test.YtpalcgelcnlhbaaDoorWrP
import Derived.Test.YtpalcgelcnlhbaaDoorIn
namespace Go.Proofs.YtpalcgelcnlhbaaDoor
open Go.ChangeShapes Go.WideShapes Go.ChangeAt Go.RowKit

theorem dec_head (n : Nat) (h : 1 ≤ n) : ∃ (k : Nat) (r : List UInt8), 1 ≤ k ∧ k < 10 ∧ Lib.decDigits n = UInt8.ofNat (48 + k) :: r := by
  induction n using Nat.strongRecOn with
  | _ n ih =>
    by_cases h10 : n < 10
    · exact ⟨n, [], h, h10, by rw [Lib.decDigits_one h10]⟩
    · obtain ⟨k, r, hk, hk2, e⟩ := ih (n / 10) (by omega) (by omega)
      exact ⟨k, r ++ [UInt8.ofNat (48 + n % 10)], hk, hk2, by rw [Lib.decDigits, dif_neg h10, e]; rfl⟩
theorem decS_pos (n : Nat) : 1 ≤ (decS n).size := by
  obtain ⟨k, r, _, e⟩ := dec_cons n
  have : (decS n).size = (Lib.decDigits n).length := by show (Lib.decDigits n).toArray.size = _; simp
  rw [this, e]
  simp
/-- What the model reads. -/
def numF (s : ByteArray) : Int :=
  if (1 ≤ s.size ∧ s.size ≤ 6) ∧ ¬ (1 < s.size ∧ s.data.toList[0]? = some 48) then
    match Lib.decFrom 0 s.data.toList with
    | some m => m
    | none => -1
  else -1
theorem byte_at (s : ByteArray) (k : Nat) (h : k < s.size) : s.data.toList[k]? = some s[k] := by
  rw [List.getElem?_eq_getElem (by simpa using h)]
  rfl
theorem numF_size {s : ByteArray} (h : ¬ (1 ≤ s.size ∧ s.size ≤ 6)) : numF s = -1 := if_neg fun c => h c.1
theorem numF_zero {s : ByteArray} (h : 1 < s.size) (h0 : s[0].toNat = 48) : numF s = -1 := if_neg fun c => c.2 ⟨h, by
  rw [byte_at s 0 (by omega)]
  congr 1
  exact UInt8.toNat_inj.1 h0⟩
theorem numF_byte {s : ByteArray} {k : Nat} (hk : k < s.size) (h : s[k].toNat < 48 ∨ 57 < s[k].toNat) : numF s = -1 := by
  unfold numF
  split
  · cases hd : Lib.decFrom 0 s.data.toList with
    | none => rfl
    | some m =>
      obtain ⟨d, hd'⟩ := Lib.digit_of_decFrom _ _ _ hd k s[k] (byte_at s k hk)
      rw [Lib.digitVal, if_neg (by omega)] at hd'
      cases hd'
  · rfl
theorem numF_all {s : ByteArray} {m : Nat} (h1 : 1 ≤ s.size ∧ s.size ≤ 6) (h2 : ¬ (1 < s.size ∧ s.data.toList[0]? = some 48)) (h : Lib.decFrom 0 s.data.toList = some m) : numF s = m := by
  rw [numF, if_pos ⟨h1, h2⟩, h]
theorem numF_dec (n : Nat) (hn : n ≤ 999999) : numF (decS n) = n := by
  refine numF_all ⟨decS_pos n, decS_len6 hn⟩ ?_ (by rw [decS_toList]; exact decFrom_dec n)
  rintro ⟨h, h0⟩
  rcases Nat.lt_or_ge n 1 with hn | hn
  · obtain rfl : n = 0 := by omega
    have : (decS 0).size = 1 := by rw [decS, Lib.decDigits_one (by omega)]; rfl
    omega
  · obtain ⟨k, r, hk1, hk2, e⟩ := dec_head n hn
    rw [decS_toList, e] at h0
    have := congrArg UInt8.toNat (Option.some.inj h0)
    rw [UInt8.toNat_ofNat'] at this
    simp at this
    omega
theorem dec_step (s : ByteArray) (k m : Nat) (hk : k < s.size) (h : Lib.decFrom 0 (s.data.toList.take k) = some m) (h1 : 48 ≤ s[k].toNat) (h2 : s[k].toNat ≤ 57) :
    Lib.decFrom 0 (s.data.toList.take (k + 1)) = some (m * 10 + (s[k].toNat - 48)) := by
  refine Lib.decFrom_take s.data.toList k 0 m s[k] (s[k].toNat - 48) h ?_ ?_
  · rw [List.getElem?_eq_getElem (by simpa using hk)]
    rfl
  · rw [Lib.digitVal, if_pos ⟨h1, h2⟩]

set_option maxHeartbeats 2000000 in
theorem l5Num_fn (s : ByteArray) (w : World) (hs : s.size ≤ 1048576) :
    Calls Tryd.prog 9 #[.string s] w fun r w' => r = .returned (.int .i64 (numF s)) ∧ w' = w := by
  by_cases h1 : 1 ≤ s.size ∧ s.size ≤ 6
  · have h0 : 0 < s.size := by omega
    have K : (decide ((1 : Int) < (s.size : Int)) = true ∧ s[0].toNat = 48 ∧ ((s[0].toNat : Int) == 48) = true) ∨ ((decide ((1 : Int) < (s.size : Int)) = true ∧ ((s[0].toNat : Int) == 48) = false) ∧ Hid (¬ (1 < s.size ∧ s.data.toList[0]? = some 48))) ∨ (decide ((1 : Int) < (s.size : Int)) = false ∧ Hid (¬ (1 < s.size ∧ s.data.toList[0]? = some 48))) := by
      by_cases h2 : 1 < s.size
      · by_cases h3 : s[0].toNat = 48
        · exact .inl ⟨decide_eq_true (by omega), h3, by rw [beq_iff_eq]; omega⟩
        · exact .inr (.inl ⟨⟨decide_eq_true (by omega), by rw [beq_eq_false_iff_ne]; omega⟩, hid (fun c => h3 (by
            have := c.2
            rw [byte_at s 0 (by omega)] at this
            rw [Option.some.inj this]
            rfl))⟩)
      · exact .inr (.inr ⟨decide_eq_false (by omega), hid (fun c => h2 c.1)⟩)
    obtain ⟨g1, g2⟩ := h1
    rcases K with ⟨k1, k2, k3⟩ | ⟨⟨k1, k2⟩, KK⟩ | ⟨k1, KK⟩
    · have H := hid (numF_zero (by have := of_decide_eq_true k1; omega) k2)
      clear k2
      go_enter Tryd.func9, Tryd.ntmps9
      go_wp2_with (go_at_call 14; refine (l1In_yes _ _ _ _ (by omega)).mono ?_; rintro e w2 ⟨rfl, hw⟩; subst hw)
      go_ret
      rw [H.out]
      exact ⟨rfl, rfl⟩
    all_goals
      go_enter Tryd.func9, Tryd.ntmps9
      go_wp2_with (go_at_call 14; refine (l1In_yes _ _ _ _ (by omega)).mono ?_; rintro e w2 ⟨rfl, hw⟩; subst hw)
      go_loop [3, 4] (fun n i => ∃ k m : Nat, k ≤ s.size ∧ i = .int .i64 k ∧ n = .int .i64 m ∧ m < 10 ^ k ∧ Lib.decFrom 0 (s.data.toList.take k) = some m) (fun _ i => s.size - (intOf i).toNat)
      case atStart => exact ⟨0, 0, Nat.zero_le _, rfl, rfl, by decide, rfl⟩
      case round =>
        obtain ⟨k, m, hk, rfl, rfl, hm, hd⟩ := hrel
        by_cases hlt : k < s.size
        · have hc : s[k].toNat < 256 := UInt8.toNat_lt _
          by_cases c1 : s[k].toNat < 48
          · have H := hid (numF_byte hlt (.inl c1))
            have c1' : decide ((s[k].toNat : Int) < 48) = true := decide_eq_true (by omega)
            clear hd hm
            go_wp2_with fail
            go_ret
            rw [H.out]
            exact ⟨rfl, rfl⟩
          · have c1' : decide ((s[k].toNat : Int) < 48) = false := decide_eq_false (by omega)
            by_cases c2 : 57 < s[k].toNat
            · have H := hid (numF_byte hlt (.inr c2))
              clear hd hm
              go_wp2_with fail
              go_ret
              rw [H.out]
              exact ⟨rfl, rfl⟩
            · have D := hid (dec_step s k m hlt hd (by omega) (by omega))
              have hp : 10 ^ k ≤ 10 ^ 5 := Nat.pow_le_pow_right (by decide) (by omega)
              have hm5 : m < 100000 := by omega
              have hq : 10 ^ (k + 1) = 10 ^ k * 10 := Nat.pow_succ 10 k
              have HM := hid (show m * 10 + (s[k].toNat - 48) < 10 ^ (k + 1) by omega)
              have c2' : decide (57 < (s[k].toNat : Int)) = false := decide_eq_false (by omega)
              have e1 : IntKind.u8.wrap ((s[k].toNat : Int) - 48) = (s[k].toNat : Int) - 48 := by simp [IntKind.wrap, IntKind.bits, IntKind.signed]; omega
              clear hd hm hp hq
              go_wp2_with fail
              go_round
              case rel => exact ⟨k + 1, m * 10 + (s[k].toNat - 48), by omega, by go_num, by congr 1; omega, HM.out, D.out⟩
              case measure => simp [intOf]; omega
        · obtain rfl : k = s.size := by omega
          rw [List.take_of_length_le (by simp)] at hd
          have H := hid (numF_all ⟨g1, g2⟩ KK.out hd)
          clear hd hm
          go_wp2_with fail
          go_ret
          rw [H.out]
          exact ⟨rfl, rfl⟩
  · have H := hid (numF_size h1)
    go_enter Tryd.func9, Tryd.ntmps9
    go_wp2_with (go_at_call 14; refine (l1In_no _ _ _ _ (by omega)).mono ?_; rintro e w2 ⟨rfl, hw⟩; subst hw)
    go_ret
    rw [H.out]
    exact ⟨rfl, rfl⟩
end Go.Proofs.YtpalcgelcnlhbaaDoor
