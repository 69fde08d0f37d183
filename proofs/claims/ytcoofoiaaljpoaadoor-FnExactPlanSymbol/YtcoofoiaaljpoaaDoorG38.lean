/- Slices of ints held against each other by the laws. A copy of ints, as the laws make it. -/
import Derived.Test.YtcoofoiaaljpoaaDoorG6
import Derived.Test.YtcoofoiaaljpoaaDoorG7
namespace Go.Proofs.YtcoofoiaaljpoaaDoor
open Go.ChangeShapes Go.WideShapes Go.ChangeAt Go.RowKit

set_option maxRecDepth 100000 in
set_option maxHeartbeats 1000000 in
theorem eqIntS_any (a b : Option Addr) (ca cb : Nat) (xs ys : List Int) (w : World) (ha : IntsAt w a xs) (hb : IntsAt w b ys) (hx : xs.length ≤ 1152921504606846976) :
    Calls Tryd.prog 20 #[.slice a xs.length ca, .slice b ys.length cb] w fun e w' => e = .returned (.bool (decide (xs = ys))) ∧ ∃ n, w' = w.drewN n := by
  by_cases hl : xs.length = ys.length
  · have hl2 : ((xs.length : Int) != ys.length) = false := by simp [hl]
    have HL : Hid (xs.length = ys.length) := hl
    clear hl
    go_enter Tryd.func20, Tryd.ntmps20
    go_wp2
    go_loopw [5] (fun i wr => ∃ k : Nat, k ≤ xs.length ∧ i = .int .i64 k ∧ xs.take k = ys.take k ∧ ∃ n, wr = w.drewN n) (fun i _ => xs.length - (intOf i).toNat)
    case atStart => exact ⟨0, Nat.zero_le _, rfl, rfl, 0, rfl⟩
    case round =>
      obtain ⟨k, hk, rfl, he, n, rfl⟩ := hrel
      by_cases hlt : k < xs.length
      · have hne : xs ≠ [] := by intro h; simp [h] at hlt
        have hlt2 : k < ys.length := by have := HL.out; omega
        have hne2 : ys ≠ [] := by intro h; simp [h] at hlt2
        obtain ⟨b1, o1, rfl, h1⟩ := ha hne
        obtain ⟨b2, o2, rfl, h2⟩ := hb hne2
        have c1 := h1 k hlt
        have c2 := h2 k (by omega)
        have HE : Hid _ := he
        obtain ⟨X, hX⟩ : ∃ X, X = xs.getD k 0 := ⟨_, rfl⟩
        obtain ⟨Y, hY⟩ : ∃ Y, Y = ys.getD k 0 := ⟨_, rfl⟩
        rw [← hX] at c1
        rw [← hY] at c2
        have HX : Hid _ := hX
        have HY : Hid _ := hY
        clear he h1 h2 hX hY
        by_cases hxy : X = Y
        · have hxy' : (X != Y) = false := by simp [hxy]
          have HXY : Hid _ := hxy
          clear hxy
          go_wp2
          go_quiet (fail)
          go_wp2
          go_roundw
          case rel => exact ⟨k + 1, by omega, by go_num, take_eq HE.out hlt hlt2 (by rw [← HX.out, ← HY.out]; exact HXY.out), n + nq, rfl⟩
          case measure => simp [intOf]; omega
        · have hxy' : (X != Y) = true := by simp [hxy]
          have HXY : Hid _ := hxy
          clear hxy
          go_wp2
          go_quiet (fail)
          go_wp2
          go_ret
          exact ⟨ret_bool (by simpa using take_ne (by rw [← HX.out, ← HY.out]; exact HXY.out)), drewN_two w n nq⟩
      · go_wp2
        go_ret
        refine ⟨ret_bool ?_, n, rfl⟩
        have h1 : xs = ys := by
          have e1 : xs.take k = xs := List.take_of_length_le (by omega)
          have e2 : ys.take k = ys := List.take_of_length_le (by have := HL.out; omega)
          rw [e1, e2] at he; exact he
        simp [h1]
  · have hl2 : ((xs.length : Int) != ys.length) = true := by simp; omega
    have hne : xs ≠ ys := fun h => hl (by rw [h])
    have HN : Hid _ := hne
    clear hl hne
    go_enter Tryd.func20, Tryd.ntmps20
    go_wp2
    go_ret
    exact ⟨ret_bool (by simpa using HN.out), 0, rfl⟩
end Go.Proofs.YtcoofoiaaljpoaaDoor
namespace Go.Proofs.YtcoofoiaaljpoaaDoor
open Go.ChangeShapes Go.WideShapes Go.ChangeAt Go.RowKit

set_option maxRecDepth 100000 in
set_option maxHeartbeats 1000000 in
theorem toIntS_any (a : Option Addr) (cap : Nat) (xs : List Int) (w : World) (ha : IntsAt w a xs) (hx : xs.length ≤ 1048576) :
    Calls Tryd.prog 15 #[.slice a xs.length cap] w fun e w' => ∃ v, e = .returned v ∧ w'.ownsRow w.heap.size 3 1 v xs.length (xs.map (Value.int .i64)) ∧ Below w.heap.size w w' := by
  obtain ⟨i0, hi, hz0, hz1, hz2⟩ := info_parts Tryd.info3
  go_enter Tryd.func15, Tryd.ntmps15
  go_wp2_with (at_make; refine wpList_make_full _ rfl _ _ 22 rfl w.heap.size 3 i0 (.int .i64 0) 1 Tryd.underlying22 hi hz0 hz1 _ _ _ _ xs.length rfl rfl rfl rfl (by rw [hz2]; omega) (by unfold maxLen; omega) (Nat.le_refl _) ?_; intro w1 hown1 hgr1)
  have hb1 : Below w.heap.size w w1 := (Below.refl _ _).grown hgr1 (Nat.le_refl _) (fun k hk => by simp at hk)
  rw [made_ints] at hown1
  have HO : Hid _ := hown1
  clear hown1 hgr1
  go_loopw [4] (fun i wr => ∃ k : Nat, k ≤ xs.length ∧ i = .int .i64 k ∧ wr.ownsRow w.heap.size 3 1 (.slice (some ⟨w.heap.size, 0, none⟩) xs.length xs.length) xs.length ((xs.take k ++ List.replicate (xs.length - k) (0 : Int)).map (Value.int .i64)) ∧ Below w.heap.size w wr) (fun i _ => xs.length - (intOf i).toNat)
  case atStart => exact ⟨0, Nat.zero_le _, rfl, HO.out, hb1⟩
  case round =>
    obtain ⟨k, hk, rfl, hown, hnx⟩ := hrel
    by_cases hlt : k < xs.length
    · obtain ⟨b, off, rfl, hc⟩ := ha (by intro h; simp [h] at hlt)
      have hck := hc k hlt
      have hck' := (hnx.cell (p := ⟨b, off + k, none⟩) (block_lt_of_cell hck)).trans hck
      have hcell := hown.cellAt k (by omega)
      have hf := hown.frozenAt k
      obtain ⟨u, hu⟩ : ∃ u, wr.cell? ⟨w.heap.size, k, none⟩ = some u := by
        rw [hcell]; exact ⟨_, List.getElem?_eq_getElem (by simp; omega)⟩
      have HST : Hid _ := hown.stored k (.int .i64 (xs.getD k 0))
      obtain ⟨X, hX⟩ : ∃ X, X = xs.getD k 0 := ⟨_, rfl⟩
      rw [← hX] at hck'
      have HX : Hid _ := hX
      clear hcell hown hck hc hX
      go_wp2
      go_roundw
      case rel =>
        refine ⟨k + 1, by omega, by go_num, ?_, hnx.setCell (Nat.le_refl _) _⟩
        have h1 := HST.out.1
        rw [← copy_set xs k hlt, List.map_set]
        rw [← HX.out] at h1 ⊢
        exact h1
      case measure => simp [intOf]; omega
    · obtain rfl : k = xs.length := by omega
      have HW : Hid _ := hown
      clear hown
      go_wp2
      go_ret
      refine ⟨_, rfl, ?_, hnx⟩
      have := HW.out
      rw [List.take_length, Nat.sub_self, List.replicate_zero, List.append_nil] at this
      exact this
end Go.Proofs.YtcoofoiaaljpoaaDoor
