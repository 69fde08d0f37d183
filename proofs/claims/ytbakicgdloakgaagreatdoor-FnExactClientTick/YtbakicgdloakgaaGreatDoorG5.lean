/- Sets of numbers as bits: the least one, and all of them in order. How many numbers are in a set. Sets of numbers as bits: the least one, and all of them in order. Rows by their first numbers, and what the program asks of its sets of bits. What is in just one of two rows: the model's and the program's. -/
import Derived.Test.YtbakicgdloakgaaGreatDoorG4
namespace Go.Proofs.YtbakicgdloakgaaGreatDoor
open Go.ChangeShapes Go.WideShapes Go.ChangeAt Go.RowKit

theorem low_and (t : Nat) : ∀ (n m : Nat), 2 ^ t * (2 * m + 1) < 2 ^ n → (2 ^ t * (2 * m + 1)) &&& (2 ^ n - 2 ^ t * (2 * m + 1)) = 2 ^ t := by
  induction t with
  | zero =>
    intro n m h
    simp only [Nat.pow_zero, Nat.one_mul] at h ⊢
    apply Nat.eq_of_testBit_eq
    intro i
    rw [Nat.testBit_and, Nat.testBit_two_pow_sub_succ (by omega)]
    cases i with
    | zero =>
      have hn : 0 < n := by
        rcases Nat.eq_zero_or_pos n with e | e
        · subst e; simp at h
        · exact e
      simp [Nat.testBit_zero, hn]
    | succ i =>
      rw [Nat.testBit_succ, Nat.testBit_succ, Nat.testBit_succ]
      rw [show (2 * m + 1) / 2 = m by omega, show (2 * m) / 2 = m by omega]
      cases m.testBit i <;> simp
  | succ t ih =>
    intro n m h
    cases n with
    | zero =>
      have : 0 < 2 ^ (t + 1) * (2 * m + 1) := Nat.mul_pos (Nat.pow_pos (by omega)) (by omega)
      simp at h
      omega
    | succ n =>
      have e : 2 ^ (t + 1) * (2 * m + 1) = 2 * (2 ^ t * (2 * m + 1)) := by rw [Nat.pow_succ, Nat.mul_comm (2 ^ t) 2, Nat.mul_assoc]
      have e2 : 2 ^ (n + 1) = 2 * 2 ^ n := by rw [Nat.pow_succ, Nat.mul_comm]
      rw [e, e2] at h ⊢
      have ih' := ih n m (by omega)
      generalize 2 ^ t * (2 * m + 1) = X at h ih' ⊢
      rw [← Nat.mul_sub, Nat.pow_succ, Nat.mul_comm (2 ^ t) 2, ← ih']
      generalize 2 ^ n - X = Y
      apply Nat.eq_of_testBit_eq
      intro i
      rw [Nat.testBit_and]
      cases i with
      | zero => simp
      | succ i => rw [Nat.testBit_succ, Nat.testBit_succ, Nat.testBit_succ, Nat.mul_div_cancel_left _ (by omega), Nat.mul_div_cancel_left _ (by omega), Nat.mul_div_cancel_left _ (by omega), Nat.testBit_and]
/-- The table by which the place of a bit is found. -/
def tabL : List Int := [0, 1, 28, 2, 29, 14, 24, 3, 30, 22, 20, 15, 25, 17, 4, 8, 31, 27, 13, 23, 21, 19, 16, 7, 26, 12, 18, 6, 11, 5, 10, 9]
def Tab (w : World) : Prop := ∀ i, i < 32 → w.cell? ⟨0, i, none⟩ = some (.int .u8 (tabL.getD i 0))
theorem Tab.below {w w' : World} (h : Tab w) (hb : Below w.heap.size w w') : Tab w' := fun i hi => by
  rw [hb.cell (p := ⟨0, i, none⟩) (block_lt_of_cell (h i hi))]; exact h i hi
theorem tab_at : ∀ t : Nat, t < 24 → (2 ^ t * 125613361 % 4294967296 / 134217728) < 32 ∧ tabL.getD (2 ^ t * 125613361 % 4294967296 / 134217728) 0 = (t : Int) := by decide
theorem low_ex (n : Nat) : ∀ x : Nat, x ≤ n → 0 < x → ∃ t m, x = 2 ^ t * (2 * m + 1) := by
  induction n with
  | zero => intro x h1 h2; omega
  | succ n ih =>
    intro x h1 h2
    rcases (show x % 2 = 1 ∨ x % 2 = 0 from by omega) with h | h
    · exact ⟨0, x / 2, by rw [Nat.pow_zero, Nat.one_mul]; omega⟩
    · obtain ⟨t, m, e⟩ := ih (x / 2) (by omega) (by omega)
      refine ⟨t + 1, m, ?_⟩
      rw [Nat.pow_succ, Nat.mul_comm (2 ^ t) 2, Nat.mul_assoc, ← e]
      omega
theorem low_lt {t m : Nat} (h : 2 ^ t * (2 * m + 1) < 16777216) : t < 24 := by
  rcases Nat.lt_or_ge t 24 with h' | h'
  · exact h'
  · have h1 : 2 ^ 24 ≤ 2 ^ t := Nat.pow_le_pow_right (by omega) h'
    have h2 : 2 ^ t * 1 ≤ 2 ^ t * (2 * m + 1) := Nat.mul_le_mul_left _ (by omega)
    omega
theorem low_bits (t m i : Nat) : (2 ^ t * (2 * m + 1)).testBit i = (decide (t ≤ i) && (2 * m + 1).testBit (i - t)) := by
  rw [Nat.mul_comm, Nat.testBit_mul_two_pow]
theorem low_at (t m : Nat) : (2 ^ t * (2 * m + 1)).testBit t = true := by rw [low_bits]; simp
theorem low_under {t m i : Nat} (h : i < t) : (2 ^ t * (2 * m + 1)).testBit i = false := by
  rw [low_bits, decide_eq_false (by omega), Bool.false_and]
theorem idx_eq (t m : Nat) (h : 2 ^ t * (2 * m + 1) < 16777216) :
    (bits .and .u32 ((2 ^ t * (2 * m + 1) : Nat) : Int) (-((2 ^ t * (2 * m + 1) : Nat) : Int) % 4294967296) * 125613361 % 4294967296 / 134217728).toNat = 2 ^ t * 125613361 % 4294967296 / 134217728 := by
  have hl := low_and t 32 m (by omega)
  have hp : 0 < 2 ^ t * (2 * m + 1) := Nat.mul_pos (Nat.pow_pos (by omega)) (by omega)
  generalize 2 ^ t * (2 * m + 1) = x at h hl hp ⊢
  have e : (-(x : Int) % 4294967296) = ((2 ^ 32 - x : Nat) : Int) := by omega
  rw [e, u32_and_nat x (2 ^ 32 - x) (by omega) (by omega), hl]
  generalize 2 ^ t = P
  have e3 : ((P : Int) * 125613361 % 4294967296 / 134217728) = ((P * 125613361 % 4294967296 / 134217728 : Nat) : Int) := by simp
  rw [e3, Int.toNat_natCast]
set_option maxRecDepth 100000 in
theorem tz_any (t m : Nat) (w : World) (hT : Tab w) (hx : 2 ^ t * (2 * m + 1) < 16777216) :
    Calls Tryz.prog 111 #[.int .u32 ((2 ^ t * (2 * m + 1) : Nat) : Int)] w fun e w' => e = .returned (.int .i64 t) ∧ w' = w := by
  have h24 := low_lt hx
  have hi := idx_eq t m hx
  have ht := tab_at t h24
  have hc := hT _ ht.1
  rw [ht.2, ← hi] at hc
  have hp : 0 < 2 ^ t * (2 * m + 1) := Nat.mul_pos (Nat.pow_pos (by omega)) (by omega)
  clear hi ht hT
  generalize 2 ^ t * (2 * m + 1) = x at hx hc hp ⊢
  have hne : ((x : Int) == 0) = false := by simp; omega
  go_enter Tryz.func111, Tryz.ntmps111
  go_wp2
  go_ret
  exact ⟨rfl, rfl⟩
set_option maxRecDepth 100000 in
theorem first_any (t m : Nat) (w : World) (hT : Tab w) (hx : 2 ^ t * (2 * m + 1) < 16777216) :
    Calls Tryz.prog 107 #[.int .u32 ((2 ^ t * (2 * m + 1) : Nat) : Int)] w fun e w' => e = .returned (.int .i64 t) ∧ w' = w := by
  go_enter Tryz.func107, Tryz.ntmps107
  go_wp2_with (go_at_call 111; refine (tz_any t m _ hT hx).mono ?_; rintro e w' ⟨rfl, hq⟩; replace hq := hq.symm; subst hq)
  go_ret
  exact ⟨rfl, rfl⟩
end Go.Proofs.YtbakicgdloakgaaGreatDoor
namespace Go.Proofs.YtbakicgdloakgaaGreatDoor
open Go.ChangeShapes Go.WideShapes Go.ChangeAt Go.RowKit

/-- How many bits a byte has. -/
def pc8 (i : Nat) : Nat := ((List.range 8).filter fun j => i.testBit j).length
def popL : List Nat := (List.range 256).map pc8
theorem pop_at (T : ByteArray) (i : Nat) (h : i < T.size) (hT : T.data.toList.map (fun c => c.toNat) = popL) : (T[i]'h).toNat = pc8 i := by
  have hs : i < T.data.toList.length := by rw [Array.length_toList]; exact h
  have h1 : (T.data.toList.map (fun c => c.toNat))[i]? = some ((T[i]'h).toNat) := by
    rw [List.getElem?_map, List.getElem?_eq_getElem hs]
    rfl
  have hl : i < 256 := by
    have := congrArg List.length hT
    rw [List.length_map] at this
    have e : popL.length = 256 := by unfold popL; rw [List.length_map, List.length_range]
    omega
  rw [hT] at h1
  unfold popL at h1
  rw [List.getElem?_map, List.getElem?_range hl] at h1
  exact (Option.some.inj h1).symm
theorem pc8_le (i : Nat) : pc8 i ≤ 8 := Nat.le_trans (List.length_filter_le _ _) (by rw [List.length_range]; exact Nat.le_refl _)
theorem filter_shift (x n k : Nat) : ((List.range' k n).filter fun j => x.testBit j).length = ((List.range n).filter fun j => (x / 2 ^ k).testBit j).length := by
  rw [List.range'_eq_map_range, List.filter_map, List.length_map]
  congr 1
  apply List.filter_congr
  intro j _
  simp only [Function.comp]
  rw [Nat.testBit_div_two_pow, Nat.add_comm]
theorem pc8_mod (x : Nat) : pc8 (x % 256) = pc8 x := by
  unfold pc8
  congr 1
  apply List.filter_congr
  intro j hj
  rw [show 256 = 2 ^ 8 from rfl, Nat.testBit_mod_two_pow, decide_eq_true (List.mem_range.1 hj), Bool.true_and]
theorem bits_len (x : Nat) : (bitsOf x).length = pc8 x + pc8 (x / 256) + pc8 (x / 65536) := by
  unfold bitsOf
  rw [List.length_map, show List.range 24 = List.range' 0 8 ++ List.range' 8 8 ++ List.range' 16 8 from by decide, List.filter_append, List.filter_append, List.length_append, List.length_append, filter_shift, filter_shift, filter_shift, Nat.pow_zero, Nat.div_one]
  rfl

set_option maxRecDepth 100000 in
set_option maxHeartbeats 1000000 in
theorem ones_any (x : Nat) (w : World) (hx : x < 16777216) :
    Calls Tryz.prog 138 #[.int .u32 x] w fun e w' => e = .returned (.int .i64 ((bitsOf x).length : Int)) ∧ Dr w w' := by
  have z1 : (x : Int) / 16777216 = 0 := by omega
  have am : ∀ y : Nat, y < 4294967296 → bits .and .u32 (y : Int) 255 = ((y % 256 : Nat) : Int) := fun y hy => by
    have := u32_and_nat y 255 hy (by omega)
    rw [show y &&& 255 = y % 2 ^ 8 from Nat.and_two_pow_sub_one_eq_mod y 8] at this
    exact this
  obtain ⟨i1, e1⟩ : ∃ i, i = x / 65536 % 256 := ⟨_, rfl⟩
  obtain ⟨i2, e2⟩ : ∃ i, i = x / 256 % 256 := ⟨_, rfl⟩
  obtain ⟨i3, e3⟩ : ∃ i, i = x % 256 := ⟨_, rfl⟩
  have a1 : bits .and .u32 ((x : Int) / 65536) 255 = (i1 : Int) := by rw [e1, ← am _ (by omega)]; rfl
  have a2 : bits .and .u32 ((x : Int) / 256) 255 = (i2 : Int) := by rw [e2, ← am _ (by omega)]; rfl
  have a3 : bits .and .u32 (x : Int) 255 = (i3 : Int) := by rw [e3, ← am _ (by omega)]
  have h1 : (i1 : Int) < 256 := by omega
  have h2 : (i2 : Int) < 256 := by omega
  have h3 : (i3 : Int) < 256 := by omega
  have hfin : (bitsOf x).length = pc8 0 + pc8 i1 + pc8 i2 + pc8 i3 := by
    rw [bits_len, e1, e2, e3, pc8_mod, pc8_mod, pc8_mod, show pc8 0 = 0 from by decide]; omega
  have hb0 := pc8_le 0
  have hb1 := pc8_le i1
  have hb2 := pc8_le i2
  have hb3 := pc8_le i3
  have HF := hid hfin
  have HB := hid (And.intro hb0 (And.intro hb1 (And.intro hb2 hb3)))
  clear e1 e2 e3 am hfin hb0 hb1 hb2 hb3
  go_enter Tryz.func138, Tryz.ntmps138
  go_wp2
  refine wp_region_quiet_lit (by kernel_rfl) (by kernel_rfl) ?_
  repeat (first | go_big_quiet_step (fail) | quiet_step (fail))
  refine wpQuiet_nil ?_
  intro _ hw'
  obtain ⟨nq, hw''⟩ := hw'
  subst hw''
  go_wp2
  go_ret
  refine ⟨ret_int ?_, ⟨nq, rfl⟩⟩
  rw [pop_at _ 0, pop_at _ i1, pop_at _ i2, pop_at _ i3]
  · have e1 := HF.out
    have e2 := HB.out
    omega
  all_goals kernel_rfl
end Go.Proofs.YtbakicgdloakgaaGreatDoor
namespace Go.Proofs.YtbakicgdloakgaaGreatDoor
open Go.ChangeShapes Go.WideShapes Go.ChangeAt Go.RowKit

end Go.Proofs.YtbakicgdloakgaaGreatDoor
namespace Go.Proofs.YtbakicgdloakgaaGreatDoor
open Go.ChangeShapes Go.WideShapes Go.ChangeAt Go.RowKit

/-- The first number of a row. -/
def hd (xs : List Int) : Int := xs.headD 0
theorem hd_mem {xs : List Int} (h : xs ≠ []) : hd xs ∈ xs := by
  cases xs with
  | nil => exact absurd rfl h
  | cons x r => exact List.mem_cons_self ..
theorem hd_le {lo hi : Int} {xs : List Int} (h : ascB lo hi xs = true) {z : Int} (hz : z ∈ xs) : hd xs ≤ z := by
  cases xs with
  | nil => simp at hz
  | cons x r =>
    obtain ⟨_, h2⟩ := asc_cons.1 h
    rcases List.mem_cons.1 hz with rfl | hz
    · exact Int.le_refl _
    · have := asc_mem h2 hz
      show x ≤ z
      omega
theorem setS_small {xs : List Int} (h : ascB (-1) 24 xs = true) : setI xs < 16777216 := by
  refine Nat.lt_pow_two_of_testBit (n := 24) _ (fun i hi => ?_)
  cases hb : (setI xs).testBit i with
  | false => rfl
  | true =>
    have := asc_mem h ((setI_mem h i).1 hb)
    omega
theorem asc_24 {c : Int} {xs : List Int} (h : ascB (-1) c xs = true) (hc : c ≤ 24) : ascB (-1) 24 xs = true := by
  have : ∀ lo, ascB lo c xs = true → ascB lo 24 xs = true := by
    clear h
    induction xs with
    | nil => intro lo _; rfl
    | cons x r ih =>
      intro lo h
      obtain ⟨h1, h2⟩ := asc_cons.1 h
      exact asc_cons.2 ⟨by omega, ih x h2⟩
  exact this _ h
theorem set_zero {xs : List Int} (h : ascB (-1) 24 xs = true) : setI xs = 0 ↔ xs = [] := by
  constructor
  · intro h0
    cases xs with
    | nil => rfl
    | cons x r =>
      have hx := asc_mem h (List.mem_cons_self ..)
      obtain ⟨i, rfl⟩ := Int.eq_ofNat_of_zero_le (show 0 ≤ x by omega)
      have := (setI_mem h i).2 (List.mem_cons_self ..)
      rw [h0] at this
      simp at this
  · rintro rfl; rfl
/-- The lowest bit of a row is its first number. -/
theorem low_of {xs : List Int} (h : ascB (-1) 24 xs = true) (hne : xs ≠ []) : ∃ t m : Nat, setI xs = 2 ^ t * (2 * m + 1) ∧ hd xs = t := by
  have h0 : 0 < setI xs := Nat.pos_of_ne_zero (fun e => hne ((set_zero h).1 e))
  obtain ⟨t, m, e⟩ := low_ex _ _ (Nat.le_refl _) h0
  refine ⟨t, m, e, ?_⟩
  have h1 : (t : Int) ∈ xs := (setI_mem h t).1 (by rw [e]; exact low_at t m)
  have h2 := hd_mem hne
  have h3 := hd_le h h1
  have h4 := asc_mem h h2
  obtain ⟨i, hi⟩ := Int.eq_ofNat_of_zero_le (show 0 ≤ hd xs by omega)
  rw [hi] at h2 h3
  have h5 := (setI_mem h i).2 h2
  by_cases hlt : i < t
  · rw [e, low_under hlt] at h5; simp at h5
  · omega

theorem firstS {xs : List Int} (h : ascB (-1) 24 xs = true) (hne : xs ≠ []) (w : World) (hT : Tab w) :
    Calls Tryz.prog 107 #[.int .u32 (setI xs : Nat)] w fun e w' => e = .returned (.int .i64 (hd xs)) ∧ w' = w := by
  obtain ⟨t, m, e, ht⟩ := low_of h hne
  rw [e, ht]
  exact first_any t m w hT (by rw [← e]; exact setS_small h)
set_option maxRecDepth 100000 in
theorem emptyS {xs : List Int} (h : ascB (-1) 24 xs = true) (w : World) :
    Calls Tryz.prog 106 #[.int .u32 (setI xs : Nat)] w fun e w' => e = .returned (.bool (decide (xs = []))) ∧ w' = w := by
  have hq : (((setI xs : Nat) : Int) == 0) = decide (xs = []) := by
    rw [Bool.eq_iff_iff]
    simp only [beq_iff_eq, decide_eq_true_eq, ← set_zero h]
    omega
  generalize setI xs = s at hq
  go_enter Tryz.func106, Tryz.ntmps106
  go_wp2
  go_ret
  exact ⟨rfl, rfl⟩
theorem shr_and (s n : Nat) : s >>> n &&& 1 = if s.testBit n then 1 else 0 := by
  rw [Nat.testBit, Nat.and_comm]
  have := Nat.and_one_is_mod (s >>> n)
  rw [Nat.and_comm] at this
  rw [this]
  have h2 : s >>> n % 2 = 0 ∨ s >>> n % 2 = 1 := by omega
  rcases h2 with h2 | h2 <;> simp [h2]
end Go.Proofs.YtbakicgdloakgaaGreatDoor
namespace Go.Proofs.YtbakicgdloakgaaGreatDoor
open Go.ChangeShapes Go.WideShapes Go.ChangeAt Go.RowKit

end Go.Proofs.YtbakicgdloakgaaGreatDoor
