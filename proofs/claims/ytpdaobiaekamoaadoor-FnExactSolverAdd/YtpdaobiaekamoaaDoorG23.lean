/- What is in just one of two rows: the model's and the program's. Texts and their bytes. -/
import Derived.Test.YtpdaobiaekamoaaDoorG2
import Derived.Test.YtpdaobiaekamoaaDoorG16
import Derived.Laws.BitsAllLaws
namespace Go.Proofs.YtpdaobiaekamoaaDoor
open Go.ChangeShapes Go.WideShapes Go.ChangeAt Go.RowKit

theorem drop_cons {xs : List Int} {k : Nat} (h : k < xs.length) : xs.drop k = xs.getD k 0 :: xs.drop (k + 1) := by rw [List.drop_eq_getElem_cons h, getD_eq h]
theorem setI_small {xs : List Int} (h : ascB (-1) 24 xs = true) : setI xs < 16777216 := by
  have : ∀ k, k ≤ xs.length → setI (xs.take k) < 16777216 := by
    intro k
    induction k with
    | zero => intro _; simp [setI]
    | succ k ih =>
      intro hk
      rw [setI_snoc xs k hk]
      have := asc_mem h (x := xs.getD k 0) (by rw [getD_eq hk]; exact List.getElem_mem hk)
      exact setI_lt _ _ (ih (by omega)) (by omega)
  have h2 := this xs.length (Nat.le_refl _)
  rwa [List.take_length] at h2

theorem xorM_left (a : List Int) : xorM [] a = a := by simp [xorM]

set_option maxHeartbeats 4000000 in
set_option maxRecDepth 100000 in
theorem l2Xor_any (a b : Option Addr) (ca cb : Nat) (xs ys : List Int) (w : World) (ha : IntsAt w a xs) (hb : IntsAt w b ys) (hx : xs.length ≤ 1048576) (hy : ys.length ≤ 1048576) :
    Calls Tryd.prog 59 #[.slice a xs.length ca, .slice b ys.length cb] w fun e w' => ∃ v, e = .returned v ∧ w'.ownsRow w.heap.size 3 1 v (xorM xs ys).length ((xorM xs ys).map (Value.int .i64)) ∧ Below w.heap.size w w' := by
  obtain ⟨i0, hi, hz0, hz1, hz2⟩ := info_parts Tryd.info3
  go_enter Tryd.func59, Tryd.ntmps59
  go_wp2
  go_loopw [5, 6, 7] (fun v i j wr => ∃ (k l : Nat) (out : List Int), i = .int .i64 k ∧ j = .int .i64 l ∧ k ≤ xs.length ∧ l ≤ ys.length ∧ out.length ≤ k + l ∧ out ++ xorM (xs.drop k) (ys.drop l) = xorM xs ys ∧ wr.ownsRow w.heap.size 3 1 v out.length (out.map (Value.int .i64)) ∧ Below w.heap.size w wr) (fun _ i j _ => xs.length - (intOf i).toNat + (ys.length - (intOf j).toNat))
  case atStart => exact ⟨0, 0, [], rfl, rfl, Nat.zero_le _, Nat.zero_le _, Nat.zero_le _, rfl, World.ownsRow_lit w #[] 0 (Nat.le_refl _) (Nat.zero_le _) rfl, (Below.refl _ _).alloc (Nat.le_refl _) _⟩
  case round =>
    obtain ⟨k, l, out, rfl, rfl, hk, hl, hol, he, hown, hnx⟩ := hrel
    have hsz := hnx.size
    have HE := hid he
    clear he
    by_cases hkx : k < xs.length
    · obtain ⟨b1, o1, rfl, i1⟩ := ha (by intro h; simp [h] at hkx)
      have c1 := (hnx.cell (p := ⟨b1, o1 + k, none⟩) (block_lt_of_cell (i1 k hkx))).trans (i1 k hkx)
      have d1 := drop_cons hkx
      obtain ⟨X, hX⟩ : ∃ X, X = xs.getD k 0 := ⟨_, rfl⟩
      rw [← hX] at c1 d1
      have D1 := hid d1
      clear d1 hX i1
      by_cases hly : l < ys.length
      · obtain ⟨b2, o2, rfl, i2⟩ := hb (by intro h; simp [h] at hly)
        have c2 := (hnx.cell (p := ⟨b2, o2 + l, none⟩) (block_lt_of_cell (i2 l hly))).trans (i2 l hly)
        have d2 := drop_cons hly
        obtain ⟨Y, hY⟩ : ∃ Y, Y = ys.getD l 0 := ⟨_, rfl⟩
        rw [← hY] at c2 d2
        have D2 := hid d2
        clear d2 hY i2
        have g1 : decide ((ys.length : Int) ≤ (l : Int)) = false := by simp; omega
        have g2 : decide ((xs.length : Int) ≤ (k : Int)) = false := by simp; omega
        rcases Int.lt_trichotomy X Y with h | h | h
        · have t1 : decide (X < Y) = true := by simp; omega
          go_wp2
          go_quiet (fail)
          go_wp2_with (at_builtin; refine append_one 33 3 i0 _ 8 Tryd.underlying33 hi hz0 hz1 hz2 rfl _ _ rfl rfl rfl rfl rfl rfl (owns_below hown (below_drewN (Below.refl _ _) _)) hsz (by omega) (by omega) ?_; intro v' w1 hown1 hb1)
          go_roundw
          case rel =>
            refine ⟨k + 1, l, out ++ [X], by go_num, by go_num, by omega, by omega, by rw [List.length_append]; simp; omega, ?_, by rw [List.length_append, List.map_append]; exact hown1, (below_drewN hnx _).trans hb1⟩
            rw [← HE.out, D1.out, D2.out, xorM_lt h, List.append_assoc]
            rfl
          case measure => simp [intOf]; omega
        · subst h
          have t1 : decide (X < X) = false := by simp
          go_wp2
          go_quiet (fail)
          go_wp2
          go_quiet (fail)
          go_wp2
          go_roundw
          case rel =>
            refine ⟨k + 1, l + 1, out, by go_num, by go_num, by omega, by omega, by omega, ?_, owns_below hown (below_drewN (Below.refl _ _) _), below_drewN hnx _⟩
            rw [← HE.out, D1.out, D2.out, xorM_eq]
          case measure => simp [intOf]; omega
        · have t1 : decide (X < Y) = false := by simp; omega
          have t2 : decide (Y < X) = true := by simp; omega
          go_wp2
          go_quiet (fail)
          go_wp2
          go_quiet (fail)
          go_wp2_with (at_builtin; refine append_one 33 3 i0 _ 8 Tryd.underlying33 hi hz0 hz1 hz2 rfl _ _ rfl rfl rfl rfl rfl rfl (owns_below hown (below_drewN (Below.refl _ _) _)) hsz (by omega) (by omega) ?_; intro v' w1 hown1 hb1)
          go_roundw
          case rel =>
            refine ⟨k, l + 1, out ++ [Y], by go_num, by go_num, by omega, by omega, by rw [List.length_append]; simp; omega, ?_, by rw [List.length_append, List.map_append]; exact hown1, (below_drewN hnx _).trans hb1⟩
            rw [← HE.out, D1.out, D2.out, xorM_gt h, List.append_assoc]
            rfl
          case measure => simp [intOf]; omega
      · have hn : ys.drop l = [] := List.drop_eq_nil_of_le (by omega)
        have g1 : (ys.length : Int) ≤ (l : Int) := by omega
        have g1' : decide (ys.length ≤ l) = true := by simp; omega
        have DN := hid hn
        clear hn
        go_wp2
        go_quiet (fail)
        go_wp2_with (at_builtin; refine append_one 33 3 i0 _ 8 Tryd.underlying33 hi hz0 hz1 hz2 rfl _ _ rfl rfl rfl rfl rfl rfl (owns_below hown (below_drewN (Below.refl _ _) _)) hsz (by omega) (by omega) ?_; intro v' w1 hown1 hb1)
        go_roundw
        case rel =>
          refine ⟨k + 1, l, out ++ [X], by go_num, by go_num, by omega, by omega, by rw [List.length_append]; simp; omega, ?_, by rw [List.length_append, List.map_append]; exact hown1, (below_drewN hnx _).trans hb1⟩
          rw [← HE.out, D1.out, DN.out, xorM_nil, xorM_nil, List.append_assoc]
          rfl
        case measure => simp [intOf]; omega
    · have hk2 : xs.drop k = [] := List.drop_eq_nil_of_le (by omega)
      have g2 : (xs.length : Int) ≤ (k : Int) := by omega
      have g2' : decide (xs.length ≤ k) = true := by simp; omega
      have DK := hid hk2
      clear hk2
      by_cases hly : l < ys.length
      · obtain ⟨b2, o2, rfl, i2⟩ := hb (by intro h; simp [h] at hly)
        have c2 := (hnx.cell (p := ⟨b2, o2 + l, none⟩) (block_lt_of_cell (i2 l hly))).trans (i2 l hly)
        have d2 := drop_cons hly
        obtain ⟨Y, hY⟩ : ∃ Y, Y = ys.getD l 0 := ⟨_, rfl⟩
        rw [← hY] at c2 d2
        have D2 := hid d2
        clear d2 hY i2
        have g1 : decide (ys.length ≤ l) = false := by simp; omega
        have g3 : decide (k < xs.length) = false := by simp; omega
        go_wp2
        go_quiet (fail)
        go_wp2
        go_quiet (fail)
        go_wp2_with (at_builtin; refine append_one 33 3 i0 _ 8 Tryd.underlying33 hi hz0 hz1 hz2 rfl _ _ rfl rfl rfl rfl rfl rfl (owns_below hown (below_drewN (Below.refl _ _) _)) hsz (by omega) (by omega) ?_; intro v' w1 hown1 hb1)
        go_roundw
        case rel =>
          refine ⟨k, l + 1, out ++ [Y], by go_num, by go_num, by omega, by omega, by rw [List.length_append]; simp; omega, ?_, by rw [List.length_append, List.map_append]; exact hown1, (below_drewN hnx _).trans hb1⟩
          rw [← HE.out, DK.out, D2.out, xorM_left, xorM_left, List.append_assoc]
          rfl
        case measure => simp [intOf]; omega
      · have hl2 : ys.drop l = [] := List.drop_eq_nil_of_le (by omega)
        have DL := hid hl2
        have HW := hid hown
        clear hl2 hown
        go_wp2
        go_ret
        refine ⟨_, rfl, ?_, hnx⟩
        have e : xorM xs ys = out := by rw [← HE.out, DK.out, DL.out, xorM_nil, List.append_nil]
        rw [e]
        exact HW.out
end Go.Proofs.YtpdaobiaekamoaaDoor
namespace Go.Proofs.YtpdaobiaekamoaaDoor
open Go.ChangeShapes Go.WideShapes Go.ChangeAt Go.RowKit

theorem xor_bd (x y : Int) : 0 ≤ bits .xor .u8 x y ∧ bits .xor .u8 x y ≤ 255 := by
  have h : bits .xor .u8 x y = IntKind.u8.wrap ((BitVec.ofInt 8 x ^^^ BitVec.ofInt 8 y).toNat : Int) := rfl
  rw [h, IntKind.wrap_u8']
  omega
def BytesL (xs : List Int) : Prop := ∀ x ∈ xs, 0 ≤ x ∧ x ≤ 255
theorem xorL_bytes (xs ys : List Int) : BytesL (xorL xs ys) := by
  intro x hx
  unfold xorL at hx
  rw [List.zipWith_eq_zipWith_take_min] at hx
  obtain ⟨i, hi, rfl⟩ := List.getElem_of_mem hx
  rw [List.getElem_zipWith]
  exact xor_bd _ _
theorem nums_str {xs : List Int} (h : BytesL xs) : nums (strOfNums xs) = xs := by
  unfold nums
  rw [strOfNums_data, List.map_map]
  conv => rhs; rw [← List.map_id xs]
  apply List.map_congr_left
  intro x hx
  have := h x hx
  simp
  omega
theorem str_size (xs : List Int) : (strOfNums xs).size = xs.length := strOfNums_size xs
theorem nums_bytes (s : ByteArray) : BytesL (nums s) := by
  intro x hx
  unfold nums at hx
  obtain ⟨c, -, rfl⟩ := List.mem_map.1 hx
  have := c.toNat_lt
  omega
end Go.Proofs.YtpdaobiaekamoaaDoor
