/- Rows: what is one, by the program. What is a row, the program's own test. -/
import Derived.Test.YtcoofoiaaljpoaaDoorG7
import Derived.Laws.BitsAllLaws
namespace Go.Proofs.YtcoofoiaaljpoaaDoor
open Go.ChangeShapes Go.WideShapes Go.ChangeAt Go.RowKit

theorem or_pow (s n : Nat) (hs : s < 4294967296) (hn : n < 24) : bits .or .u32 (s : Int) (2 ^ n % 4294967296) = ((s ||| 2 ^ n : Nat) : Int) := by
  have h1 : 2 ^ n < 2 ^ 24 := Nat.pow_lt_pow_right (by omega) hn
  have h2 : ((2 : Int) ^ n % 4294967296) = ((2 ^ n : Nat) : Int) := by
    have : ((2 : Int) ^ n) = ((2 ^ n : Nat) : Int) := by simp
    rw [this]
    generalize 2 ^ n = P at h1
    omega
  rw [h2]
  exact u32_or_nat s (2 ^ n) hs (by omega)

set_option maxRecDepth 100000 in
theorem with_any (s n : Nat) (w : World) (hs : s < 4294967296) (hn : n < 24) :
    Calls Tryd.prog 51 #[.int .u32 s, .int .i64 n] w fun e w' => e = .returned (.int .u32 ((s ||| 2 ^ n : Nat) : Int)) ∧ w' = w := by
  go_enter Tryd.func51, Tryd.ntmps51
  go_wp2
  go_ret
  exact ⟨ret_int (or_pow s n hs hn), rfl⟩

/-- All above 'lo', ascending, below 'hi'. -/
def ascB (lo hi : Int) : List Int → Bool
  | [] => true
  | x :: r => decide (lo < x ∧ x < hi) && ascB x hi r
/-- What is a row of so many. -/
def rowOkB (xs : List Int) (count : Int) : Bool := decide (0 ≤ count ∧ count ≤ 24) && ascB (-1) count xs
/-- The number ahead of a place. -/
def prevI (xs : List Int) (k : Nat) : Int := if k = 0 then -1 else xs.getD (k - 1) 0
/-- The numbers as bits. -/
def setI (xs : List Int) : Nat := xs.foldl (fun s x => s ||| 2 ^ x.toNat) 0

/-- The bits of a row, nothing of what is none. -/
def rowBits (xs : List Int) (c : Int) : Nat := if ascB (-1) c xs then setI xs else 0
theorem rowBits_no {xs : List Int} {c : Int} (h : ascB (-1) c xs = false) : rowBits xs c = 0 := by simp [rowBits, h]
theorem rowBits_yes {xs : List Int} {c : Int} (h : ascB (-1) c xs = true) : rowBits xs c = setI xs := by simp [rowBits, h]
theorem prevI_succ (xs : List Int) (k : Nat) : prevI xs (k + 1) = xs.getD k 0 := by simp [prevI]
theorem asc_step (xs : List Int) (k : Nat) (hi : Int) (h : k < xs.length) :
    ascB (prevI xs k) hi (xs.drop k) = (decide (prevI xs k < xs.getD k 0 ∧ xs.getD k 0 < hi) && ascB (prevI xs (k + 1)) hi (xs.drop (k + 1))) := by
  rw [List.drop_eq_getElem_cons h, ascB, prevI_succ, getD_eq h]
theorem setI_snoc (xs : List Int) (k : Nat) (h : k < xs.length) : setI (xs.take (k + 1)) = setI (xs.take k) ||| 2 ^ (xs.getD k 0).toNat := by
  unfold setI
  rw [List.take_succ_eq_append_getElem h, List.foldl_append, getD_eq h]
  rfl
theorem setI_lt (s : Nat) (n : Nat) (hs : s < 16777216) (hn : n < 24) : s ||| 2 ^ n < 16777216 := by
  have h1 : 2 ^ n < 2 ^ 24 := Nat.pow_lt_pow_right (by omega) hn
  exact Nat.or_lt_two_pow (n := 24) (by omega) h1

set_option maxRecDepth 100000 in
theorem rowSetOf_out (a : Option Addr) (n cap : Nat) (c : Int) (w : World) (hc : c < 0 ∨ 24 < c) :
    Calls Tryd.prog 38 #[.slice a n cap, .int .i64 c] w fun e w' => e = .returned (.tuple #[.int .u32 0, .bool false]) ∧ w' = w := by
  rcases hc with h | h
  · go_enter Tryd.func38, Tryd.ntmps38
    go_wp2
    go_ret2
    exact ⟨rfl, rfl⟩
  · have h' : ¬ c < 0 := by omega
    go_enter Tryd.func38, Tryd.ntmps38
    go_wp2
    go_ret2
    exact ⟨rfl, rfl⟩

set_option maxRecDepth 100000 in
set_option maxHeartbeats 1000000 in
theorem rowSetOf_in (a : Option Addr) (cap : Nat) (xs : List Int) (c : Int) (w : World) (ha : IntsAt w a xs) (hx : xs.length ≤ 1152921504606846976) (c1 : 0 ≤ c) (c2 : c ≤ 24) :
    Calls Tryd.prog 38 #[.slice a xs.length cap, .int .i64 c] w fun e w' => e = .returned (.tuple #[.int .u32 (rowBits xs c : Nat), .bool (ascB (-1) c xs)]) ∧ w' = w := by
  have c2' : decide (24 < c) = false := by simp; omega
  go_enter Tryd.func38, Tryd.ntmps38
  go_wp2
  go_loop [6, 7, 18] (fun s l i => ∃ k : Nat, k ≤ xs.length ∧ i = .int .i64 k ∧ l = .int .i64 (prevI xs k) ∧ s = .int .u32 (setI (xs.take k) : Nat) ∧ setI (xs.take k) < 16777216 ∧ -1 ≤ prevI xs k ∧ ascB (-1) c xs = ascB (prevI xs k) c (xs.drop k)) (fun _ _ i => xs.length - (intOf i).toNat)
  case atStart => exact ⟨0, Nat.zero_le _, rfl, rfl, rfl, by simp [setI], by simp [prevI], rfl⟩
  case round =>
    obtain ⟨k, hk, rfl, rfl, rfl, hs, hp, he⟩ := hrel
    by_cases hlt : k < xs.length
    · obtain ⟨b, off, rfl, hc⟩ := ha (by intro h; simp [h] at hlt)
      have hck := hc k hlt
      have e1 := asc_step xs k c hlt
      have e2 := setI_snoc xs k hlt
      have e3 := prevI_succ xs k
      obtain ⟨X, hX⟩ : ∃ X, X = xs.getD k 0 := ⟨_, rfl⟩
      obtain ⟨L, hL⟩ : ∃ L, L = prevI xs k := ⟨_, rfl⟩
      obtain ⟨S, hS⟩ : ∃ S, S = setI (xs.take k) := ⟨_, rfl⟩
      rw [← hX] at hck e1 e2 e3
      rw [← hL] at e1 hp he ⊢
      rw [← hS] at e2 hs ⊢
      have H1 : Hid _ := e1
      have H2 : Hid _ := e2
      have H3 : Hid _ := e3
      have HE : Hid _ := he
      clear e1 e2 e3 he hX hL hS hc
      by_cases h1 : X ≤ L
      · go_wp2
        go_ret2
        have : ascB (-1) c xs = false := by rw [HE.out, H1.out]; simp; omega
        rw [rowBits_no this, this]
        exact ⟨rfl, rfl⟩
      · by_cases h2 : c ≤ X
        · have h1' : decide (X ≤ L) = false := by simp; omega
          go_wp2
          go_ret2
          have : ascB (-1) c xs = false := by rw [HE.out, H1.out]; simp; omega
          rw [rowBits_no this, this]
          exact ⟨rfl, rfl⟩
        · have h1' : decide (X ≤ L) = false := by simp; omega
          have h2' : decide (c ≤ X) = false := by simp; omega
          obtain ⟨x, rfl⟩ := Int.eq_ofNat_of_zero_le (show 0 ≤ X by omega)
          go_wp2_with (go_at_call 51; refine (with_any S x _ (by omega) (by omega)).mono ?_; rintro e w' ⟨rfl, rfl⟩)
          go_round
          case rel =>
            refine ⟨k + 1, by omega, by go_num, by rw [H3.out], by rw [H2.out]; simp, by rw [H2.out]; exact setI_lt S _ hs (by omega), by rw [H3.out]; omega, ?_⟩
            rw [HE.out, H1.out]
            simp; omega
          case measure => simp [intOf]; omega
    · obtain rfl : k = xs.length := by omega
      have h1 : ascB (-1) c xs = true := by rw [he, List.drop_length]; rfl
      have H1 : Hid _ := h1
      clear h1 he
      go_wp2
      go_ret2
      rw [rowBits_yes H1.out, H1.out]
      exact ⟨rfl, rfl⟩
end Go.Proofs.YtcoofoiaaljpoaaDoor
namespace Go.Proofs.YtcoofoiaaljpoaaDoor
open Go.ChangeShapes Go.WideShapes Go.ChangeAt Go.RowKit

theorem implRowOk_in (a : Option Addr) (cap : Nat) (xs : List Int) (c : Int) (w : World) (ha : IntsAt w a xs) (hx : xs.length ≤ 1152921504606846976) :
    Calls Tryd.prog 27 #[.slice a xs.length cap, .int .i64 c] w fun e w' => e = .returned (.bool (rowOkB xs c)) ∧ w' = w := by
  by_cases h : 0 ≤ c ∧ c ≤ 24
  · have e : rowOkB xs c = ascB (-1) c xs := by simp [rowOkB, h]
    rw [e]
    obtain ⟨h1, h2⟩ := h
    clear e
    go_enter Tryd.func27, Tryd.ntmps27
    go_wp2_with (go_at_call 38; refine (rowSetOf_in a cap xs c _ ha hx h1 h2).mono ?_; rintro e w' ⟨rfl, rfl⟩)
    go_ret
    exact ⟨rfl, rfl⟩
  · have e : rowOkB xs c = false := by simp only [rowOkB, decide_eq_false h, Bool.false_and]
    rw [e]
    clear e
    go_enter Tryd.func27, Tryd.ntmps27
    go_wp2_with (go_at_call 38; refine (rowSetOf_out a xs.length cap c _ (by omega)).mono ?_; rintro e w' ⟨rfl, rfl⟩)
    go_ret
    exact ⟨rfl, rfl⟩
end Go.Proofs.YtcoofoiaaljpoaaDoor
