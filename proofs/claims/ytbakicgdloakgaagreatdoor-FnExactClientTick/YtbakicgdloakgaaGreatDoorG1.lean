/- Rows of ints that came in. Sizes that may be, by the program. Slices of ints held against each other by the laws. Names: what is one, by the model and by the program. A text many times. Degrees, the program's own: parts are taken by a closure. -/
import Derived.Test.YtbakicgdloakgaaGreatDoorG0
namespace Go.Proofs.YtbakicgdloakgaaGreatDoor
open Go.ChangeShapes Go.WideShapes Go.ChangeAt Go.RowKit

theorem isRow_len {k : IntKind} {w : World} {a : Option Addr} {len cap : Nat} {zs : List Int} (h : IsRow k w a len cap zs) : (zs.take len).length = len := by
  rcases h with ⟨_, rfl, _, rfl⟩ | ⟨x, _, h1, h2, h3, _⟩
  · rfl
  · rw [List.length_take]; omega

theorem isRow_ints {w : World} {a : Option Addr} {len cap : Nat} {zs : List Int} (h : IsRow .i64 w a len cap zs) : IntsAt w a (zs.take len) := by
  intro hne
  rcases h with ⟨_, rfl, _, rfl⟩ | ⟨x, rfl, h1, h2, h3, h4, _⟩
  · simp at hne
  · have hpos : 0 < len := by
      rcases Nat.eq_zero_or_pos len with h | h
      · subst h; simp at hne
      · exact h
    obtain ⟨b, off, spot⟩ := x
    have hc := h4 0 (by omega)
    have hspot : spot = none := by simpa [Addr.add] using World.cell?_spot hc
    subst hspot
    refine ⟨b, off, rfl, fun i hi => ?_⟩
    have hi' : i < len := by rw [List.length_take] at hi; omega
    have e : (zs.take len).getD i 0 = zs.getD i 0 := by simp [List.getD, hi']
    rw [e, ← addr_add]
    exact h4 i (by omega)

theorem getD_eq {xs : List Int} {k : Nat} (h : k < xs.length) : xs.getD k 0 = xs[k] := by simp [List.getD, h]
theorem copy_set (xs : List Int) (k : Nat) (h : k < xs.length) : (xs.take k ++ List.replicate (xs.length - k) (0 : Int)).set k (xs.getD k 0) = xs.take (k + 1) ++ List.replicate (xs.length - (k + 1)) 0 := by
  have hl : (xs.take k).length = k := by rw [List.length_take]; omega
  rw [List.set_append_right _ _ (by omega), hl, Nat.sub_self, List.take_succ_eq_append_getElem h, getD_eq h]
  obtain ⟨m, hm⟩ : ∃ m, xs.length - k = m + 1 := ⟨xs.length - k - 1, by omega⟩
  rw [hm, List.replicate_succ, List.set_cons_zero, show xs.length - (k + 1) = m by omega, List.append_assoc, List.singleton_append]
theorem made_ints (n : Nat) : (madeCells (Value.int .i64 0).cells (n * 1)).toList = (List.replicate n (0 : Int)).map (Value.int .i64) := by
  apply List.ext_getElem
  · simp [madeCells]
  · intro i h1 h2
    simp [madeCells, Value.cells, Nat.mod_one]
end Go.Proofs.YtbakicgdloakgaaGreatDoor
namespace Go.Proofs.YtbakicgdloakgaaGreatDoor
open Go.ChangeShapes Go.WideShapes Go.ChangeAt Go.RowKit

set_option maxRecDepth 100000 in
theorem sizesOk_yes (c s : Int) (w : World) (h1 : 1 ≤ c ∧ c ≤ 24) (h2 : 1 ≤ s ∧ s ≤ 16) :
    Calls Tryz.prog 95 #[.int .i64 c, .int .i64 s] w fun e w' => e = .returned (.bool true) ∧ w' = w := by
  obtain ⟨h3, h4⟩ := h1
  obtain ⟨h5, h6⟩ := h2
  go_enter Tryz.func95, Tryz.ntmps95
  go_wp2
  go_ret
  exact ⟨rfl, rfl⟩

set_option maxRecDepth 100000 in
theorem sizesOk_no (c s : Int) (w : World) (h : ¬ ((1 ≤ c ∧ c ≤ 24) ∧ 1 ≤ s ∧ s ≤ 16)) :
    Calls Tryz.prog 95 #[.int .i64 c, .int .i64 s] w fun e w' => e = .returned (.bool false) ∧ w' = w := by
  by_cases h1 : 1 ≤ c
  · by_cases h2 : c ≤ 24
    · by_cases h3 : 1 ≤ s
      · have h4 : decide (s ≤ 16) = false := by simp; omega
        clear h
        go_enter Tryz.func95, Tryz.ntmps95
        go_wp2
        go_ret
        exact ⟨rfl, rfl⟩
      · have h4 : decide (1 ≤ s) = false := by simp; omega
        clear h h3
        go_enter Tryz.func95, Tryz.ntmps95
        go_wp2
        go_ret
        exact ⟨rfl, rfl⟩
    · have h4 : decide (c ≤ 24) = false := by simp; omega
      clear h h2
      go_enter Tryz.func95, Tryz.ntmps95
      go_wp2
      go_ret
      exact ⟨rfl, rfl⟩
  · have h4 : decide (1 ≤ c) = false := by simp; omega
    clear h h1
    go_enter Tryz.func95, Tryz.ntmps95
    go_wp2
    go_ret
    exact ⟨rfl, rfl⟩
end Go.Proofs.YtbakicgdloakgaaGreatDoor
namespace Go.Proofs.YtbakicgdloakgaaGreatDoor
open Go.ChangeShapes Go.WideShapes Go.ChangeAt Go.RowKit

set_option maxRecDepth 100000 in
set_option maxHeartbeats 1000000 in
theorem eqIntS_any (a b : Option Addr) (ca cb : Nat) (xs ys : List Int) (w : World) (ha : IntsAt w a xs) (hb : IntsAt w b ys) (hx : xs.length ≤ 1152921504606846976) :
    Calls Tryz.prog 79 #[.slice a xs.length ca, .slice b ys.length cb] w fun e w' => e = .returned (.bool (decide (xs = ys))) ∧ ∃ n, w' = w.drewN n := by
  by_cases hl : xs.length = ys.length
  · have hl2 : ((xs.length : Int) != ys.length) = false := by simp [hl]
    have HL : Hid (xs.length = ys.length) := hl
    clear hl
    go_enter Tryz.func79, Tryz.ntmps79
    go_wp2
    go_loopw [5] (fun i wr => ∃ k : Nat, k ≤ xs.length ∧ i = .int .i64 k ∧ xs.take k = ys.take k ∧ ∃ n, wr = w.drewN n) (fun i _ => xs.length - (intOf i).toNat)
    case atStart => exact ⟨0, Nat.zero_le _, rfl, rfl, 0, rfl⟩
    case round =>
      obtain ⟨k, hk, rfl, he, n, rfl⟩ := hrel
      by_cases hlt : k < xs.length
      · have hne : xs ≠ [] := by intro h; simp [h] at hlt
        have hlt2 : k < ys.length := by have := HL.out; omega
        have hne2 : ys ≠ [] := by intro h; simp [h] at hlt2
        obtain ⟨b1, o1, rfl, h1⟩ := ha hne
        obtain ⟨b2, o2, rfl, h2⟩ := hb hne2
        have c1 := h1 k hlt
        have c2 := h2 k (by omega)
        have HE : Hid _ := he
        obtain ⟨X, hX⟩ : ∃ X, X = xs.getD k 0 := ⟨_, rfl⟩
        obtain ⟨Y, hY⟩ : ∃ Y, Y = ys.getD k 0 := ⟨_, rfl⟩
        rw [← hX] at c1
        rw [← hY] at c2
        have HX : Hid _ := hX
        have HY : Hid _ := hY
        clear he h1 h2 hX hY
        by_cases hxy : X = Y
        · have hxy' : (X != Y) = false := by simp [hxy]
          have HXY : Hid _ := hxy
          clear hxy
          go_wp2
          go_quiet (fail)
          go_wp2
          go_roundw
          case rel => exact ⟨k + 1, by omega, by go_num, take_eq HE.out hlt hlt2 (by rw [← HX.out, ← HY.out]; exact HXY.out), n + nq, rfl⟩
          case measure => simp [intOf]; omega
        · have hxy' : (X != Y) = true := by simp [hxy]
          have HXY : Hid _ := hxy
          clear hxy
          go_wp2
          go_quiet (fail)
          go_wp2
          go_ret
          exact ⟨ret_bool (by simpa using take_ne (by rw [← HX.out, ← HY.out]; exact HXY.out)), drewN_two w n nq⟩
      · go_wp2
        go_ret
        refine ⟨ret_bool ?_, n, rfl⟩
        have h1 : xs = ys := by
          have e1 : xs.take k = xs := List.take_of_length_le (by omega)
          have e2 : ys.take k = ys := List.take_of_length_le (by have := HL.out; omega)
          rw [e1, e2] at he; exact he
        simp [h1]
  · have hl2 : ((xs.length : Int) != ys.length) = true := by simp; omega
    have hne : xs ≠ ys := fun h => hl (by rw [h])
    have HN : Hid _ := hne
    clear hl hne
    go_enter Tryz.func79, Tryz.ntmps79
    go_wp2
    go_ret
    exact ⟨ret_bool (by simpa using HN.out), 0, rfl⟩
end Go.Proofs.YtbakicgdloakgaaGreatDoor
namespace Go.Proofs.YtbakicgdloakgaaGreatDoor
open Go.ChangeShapes Go.WideShapes Go.ChangeAt Go.RowKit

/-- A letter. -/
def ltr (c : UInt8) : Bool := decide (97 ≤ c.toNat ∧ c.toNat ≤ 122)
/-- A name. -/
def nameB (a : ByteArray) : Bool := a.data.toList.all ltr && decide (1 ≤ a.size ∧ a.size ≤ 6)

theorem all_step (a : ByteArray) (k : Nat) (h : k < a.size) (hp : (a.data.toList.take k).all ltr = true) (hc : ltr a[k] = true) : (a.data.toList.take (k + 1)).all ltr = true := by
  rw [List.take_succ_eq_append_getElem (by simpa using h), List.all_append, hp]
  simp only [List.all_cons, List.all_nil, Bool.and_true, Bool.true_and]
  exact hc
theorem all_no (a : ByteArray) (k : Nat) (h : k < a.size) (hc : ltr a[k] = false) : nameB a = false := by
  have h2 : a.data.toList.all ltr = false := by
    rw [List.all_eq_false]
    exact ⟨a[k], List.getElem_mem (by simpa using h), by rw [hc]; decide⟩
  simp only [nameB, h2, Bool.false_and]
theorem all_yes (a : ByteArray) (hp : (a.data.toList.take a.size).all ltr = true) : nameB a = decide (1 ≤ a.size ∧ a.size ≤ 6) := by
  rw [List.take_of_length_le (by simp)] at hp
  simp only [nameB, hp, Bool.true_and]

set_option maxHeartbeats 1000000 in
theorem specNameOk (a : ByteArray) (w : World) (hs : a.size ≤ maxLen) :
    Calls Tryz.prog 25 #[.string a] w fun e w' => e = .returned (.bool (nameB a)) ∧ w' = w := by
  unfold maxLen at hs
  go_enter Tryz.func25, Tryz.ntmps25
  go_wp2
  go_loop [3] (fun i => ∃ k : Nat, k ≤ a.size ∧ i = .int .i64 k ∧ (a.data.toList.take k).all ltr = true) (fun i => a.size - (intOf i).toNat)
  case atStart => exact ⟨0, Nat.zero_le _, rfl, by simp⟩
  case round =>
    obtain ⟨k, hk, rfl, hp⟩ := hrel
    have HP : Hid _ := hp
    clear hp
    by_cases hlt : k < a.size
    · by_cases h1 : (a[k].toNat : Int) < 97
      · have H := hid (all_no a k hlt (by simp only [ltr, decide_eq_false_iff_not]; omega))
        have h1' : decide ((a[k].toNat : Int) < 97) = true := by simpa using h1
        go_wp2
        go_ret
        exact ⟨ret_bool H.out.symm, rfl⟩
      · have h1' : decide ((a[k].toNat : Int) < 97) = false := by simpa using h1
        by_cases h2 : 122 < (a[k].toNat : Int)
        · have H := hid (all_no a k hlt (by simp only [ltr, decide_eq_false_iff_not]; omega))
          go_wp2
          go_ret
          exact ⟨ret_bool H.out.symm, rfl⟩
        · have h2' : decide (122 < (a[k].toNat : Int)) = false := by simpa using h2
          have H := hid (all_step a k hlt HP.out (by simp only [ltr, decide_eq_true_eq]; omega))
          go_wp2
          go_round
          case rel => exact ⟨k + 1, by omega, by go_num, H.out⟩
          case measure => simp [intOf]; omega
    · obtain rfl : k = a.size := by omega
      have H := hid (all_yes a HP.out)
      clear HP
      by_cases h3 : 1 ≤ a.size ∧ a.size ≤ 6
      · go_wp2_with (go_at_call 46; refine (l1In_yes _ _ _ _ (by omega)).mono ?_; rintro e w' ⟨rfl, rfl⟩)
        go_ret
        exact ⟨ret_bool (by rw [H.out, decide_eq_true h3]), rfl⟩
      · go_wp2_with (go_at_call 46; refine (l1In_no _ _ _ _ (by omega)).mono ?_; rintro e w' ⟨rfl, rfl⟩)
        go_ret
        exact ⟨ret_bool (by rw [H.out, decide_eq_false h3]), rfl⟩

set_option maxHeartbeats 1000000 in
theorem implNameOk (a : ByteArray) (w : World) (hs : a.size ≤ maxLen) :
    Calls Tryz.prog 30 #[.string a] w fun e w' => e = .returned (.bool (nameB a)) ∧ w' = w := by
  unfold maxLen at hs
  go_enter Tryz.func30, Tryz.ntmps30
  go_wp2
  go_loop [6] (fun i => ∃ k : Nat, k ≤ a.size ∧ i = .int .i64 k ∧ (a.data.toList.take k).all ltr = true) (fun i => a.size - (intOf i).toNat)
  case atStart => exact ⟨0, Nat.zero_le _, rfl, by simp⟩
  case round =>
    obtain ⟨k, hk, rfl, hp⟩ := hrel
    have HP : Hid _ := hp
    clear hp
    by_cases hlt : k < a.size
    · by_cases h1 : (a[k].toNat : Int) < 97
      · have H := hid (all_no a k hlt (by simp only [ltr, decide_eq_false_iff_not]; omega))
        have h1' : decide ((a[k].toNat : Int) < 97) = true := by simpa using h1
        go_wp2
        go_ret
        exact ⟨ret_bool H.out.symm, rfl⟩
      · have h1' : decide ((a[k].toNat : Int) < 97) = false := by simpa using h1
        by_cases h2 : 122 < (a[k].toNat : Int)
        · have H := hid (all_no a k hlt (by simp only [ltr, decide_eq_false_iff_not]; omega))
          go_wp2
          go_ret
          exact ⟨ret_bool H.out.symm, rfl⟩
        · have h2' : decide (122 < (a[k].toNat : Int)) = false := by simpa using h2
          have H := hid (all_step a k hlt HP.out (by simp only [ltr, decide_eq_true_eq]; omega))
          go_wp2
          go_round
          case rel => exact ⟨k + 1, by omega, by go_num, H.out⟩
          case measure => simp [intOf]; omega
    · obtain rfl : k = a.size := by omega
      have H := hid (all_yes a HP.out)
      clear HP
      by_cases h3 : 1 ≤ a.size
      · by_cases h4 : a.size ≤ 6
        · have h4' : decide ((a.size : Int) ≤ 6) = true := by simp; omega
          go_wp2
          go_ret
          exact ⟨ret_bool (by rw [H.out, decide_eq_true ⟨h3, h4⟩]), rfl⟩
        · have h4' : decide ((a.size : Int) ≤ 6) = false := by simp; omega
          go_wp2
          go_ret
          exact ⟨ret_bool (by rw [H.out, decide_eq_false (by omega)]), rfl⟩
      · have h3' : decide (1 ≤ (a.size : Int)) = false := by simp; omega
        go_wp2
        go_ret
        exact ⟨ret_bool (by rw [H.out, decide_eq_false (by omega)]), rfl⟩
end Go.Proofs.YtbakicgdloakgaaGreatDoor
namespace Go.Proofs.YtbakicgdloakgaaGreatDoor
open Go.ChangeShapes Go.WideShapes Go.ChangeAt Go.RowKit

end Go.Proofs.YtbakicgdloakgaaGreatDoor
namespace Go.Proofs.YtbakicgdloakgaaGreatDoor
open Go.ChangeShapes Go.WideShapes Go.ChangeAt Go.RowKit

end Go.Proofs.YtbakicgdloakgaaGreatDoor
