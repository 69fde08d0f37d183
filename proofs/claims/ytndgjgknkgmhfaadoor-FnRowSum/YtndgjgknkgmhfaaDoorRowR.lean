/- A row that is drawn. -/
import Derived.Test.YtndgjgknkgmhfaaDoorDrawL
namespace Go.Proofs.YtndgjgknkgmhfaaDoor
open Go.ChangeShapes Go.WideShapes Go.ChangeAt Go.RowKit

theorem owns_some {w : World} {base : Nat} {e : TypeId} {v : Value} {n : Nat} {xs : List Value} (h : w.ownsRow base e 1 v n xs) (hn : 0 < n) : v ≠ .slice none 0 0 := by
  rcases h.2 with ⟨rfl, h0⟩ | ⟨g, cap, cur, rfl, _⟩
  · omega
  · intro e; cases e

set_option maxHeartbeats 1000000 in
theorem l15Row_any (g p n : Nat) (w : World) (hr : Rd w g p) (hp : p ≤ 1000000) (hn : n ≤ 100) :
    Calls Tryd.prog 29 #[.pointer (some ⟨g, 0, none⟩), .int .i64 n] w fun e w' => ∃ v, ∃ xs : List Int, e = .returned v ∧ v ≠ .slice none 0 0 ∧ w'.ownsRow w.heap.size 3 1 v xs.length (xs.map (Value.int .i64)) ∧ xs.length ≤ n ∧ (∀ x ∈ xs, 0 ≤ x ∧ x < n) ∧ Rd w' g (p + n) ∧ w.grownBy w' (some g) := by
  obtain ⟨i0, hi, hz0, hz1, hz2⟩ := info_parts Tryd.info3
  have hglt := hr.lt
  go_enter Tryd.func29, Tryd.ntmps29
  go_wp2
  go_loopw [5, 6] (fun v i wr => ∃ k : Nat, ∃ xs : List Int, k ≤ n ∧ i = .int .i64 k ∧ v ≠ .slice none 0 0 ∧ wr.ownsRow w.heap.size 3 1 v xs.length (xs.map (Value.int .i64)) ∧ xs.length ≤ k ∧ (∀ x ∈ xs, 0 ≤ x ∧ x < k) ∧ Rd wr g (p + k) ∧ w.grownBy wr (some g)) (fun _ i _ => n - (intOf i).toNat)
  case atStart =>
    exact ⟨0, [], by omega, rfl, (by intro e; cases e), World.ownsRow_lit w #[] 0 (Nat.le_refl _) (Nat.zero_le _) rfl, by simp, by simp, hr.kept ((Below.refl _ _).alloc (Nat.le_refl _) _), below_grown ((Below.refl _ _).alloc (Nat.le_refl _) _) _⟩
  case round =>
    obtain ⟨k, xs, hk, rfl, hnn, hown, hxl, hxm, hr1, hgr⟩ := hrel
    have HX := hid hxm
    have HN := hid hnn
    clear hxm hnn
    by_cases hlt : k < n
    · go_wp2_with fail
      refine (pick_any g (p + k) 3 _ hr1 (by omega) (by omega) (by omega)).mono ?_
      rintro e w2 ⟨r1, rfl, r1a, r1b, hr2, ht2⟩
      have hown2 := ht2.owns hown hglt
      have hgr2 := grown_trans hgr ht2.grown
      have hsz2 := hgr2.size
      clear ht2 hown hgr
      by_cases hz : r1 = 0
      · go_wp2_with (at_builtin; refine append_one 23 3 i0 _ 8 Tryd.underlying23 hi hz0 hz1 hz2 rfl _ _ rfl rfl rfl rfl rfl rfl hown2 hsz2 (by omega) (by omega) ?_; intro v' w4 hown4 hb4)
        go_roundw
        case rel =>
          refine ⟨k + 1, xs ++ [(k : Int)], by omega, by go_num, owns_some hown4 (by omega), ?_, by simp; omega, ?_, hr2.keptB hb4 hglt, grown_then hgr2 hb4⟩
          · rw [List.map_append, List.length_append]; exact hown4
          · intro x hx
            rcases List.mem_append.1 hx with h | h
            · have := HX.out x h; omega
            · have := List.mem_singleton.1 h; omega
        case measure => simp [intOf]; omega
      · have hz' : (r1 == 0) = false := by rw [beq_eq_false_iff_ne]; exact hz
        go_wp2_with fail
        go_roundw
        case rel => exact ⟨k + 1, xs, by omega, by go_num, HN.out, hown2, by omega, fun x hx => by have := HX.out x hx; omega, hr2, hgr2⟩
        case measure => simp [intOf]; omega
    · obtain rfl : k = n := by omega
      go_wp2
      go_ret
      exact ⟨_, xs, rfl, HN.out, hown, hxl, HX.out, hr1, hgr⟩
end Go.Proofs.YtndgjgknkgmhfaaDoor
