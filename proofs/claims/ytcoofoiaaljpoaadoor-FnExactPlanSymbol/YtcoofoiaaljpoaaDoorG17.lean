/- Blocks put together, as numbers. -/
import Derived.Test.YtcoofoiaaljpoaaDoorG16
import Derived.Laws.BitsAllLaws
namespace Go.Proofs.YtcoofoiaaljpoaaDoor
open Go.ChangeShapes Go.WideShapes Go.ChangeAt Go.RowKit

theorem xor_back (x y : Int) (hx : 0 ≤ x ∧ x ≤ 255) (hy : 0 ≤ y ∧ y ≤ 255) : bits .xor .u8 (bits .xor .u8 x y) y = x := by
  obtain ⟨X, rfl⟩ := Int.eq_ofNat_of_zero_le hx.1
  obtain ⟨Y, rfl⟩ := Int.eq_ofNat_of_zero_le hy.1
  rw [u8_xor_nat X Y (by omega) (by omega), u8_xor_nat (X ^^^ Y) Y (Nat.xor_lt_two_pow (n := 8) (by omega) (by omega)) (by omega), Nat.xor_assoc, Nat.xor_self, Nat.xor_zero]
theorem xor_swap (x y : Int) (hx : 0 ≤ x ∧ x ≤ 255) (hy : 0 ≤ y ∧ y ≤ 255) : bits .xor .u8 x y = bits .xor .u8 y x := by
  obtain ⟨X, rfl⟩ := Int.eq_ofNat_of_zero_le hx.1
  obtain ⟨Y, rfl⟩ := Int.eq_ofNat_of_zero_le hy.1
  rw [u8_xor_nat X Y (by omega) (by omega), u8_xor_nat Y X (by omega) (by omega), Nat.xor_comm]
theorem xorL_back : ∀ (xs ys : List Int), BytesL xs → BytesL ys → xs.length = ys.length → xorL (xorL xs ys) ys = xs
  | [], _, _, _, _ => by simp [xorL]
  | x :: xs, [], _, _, h => by simp at h
  | x :: xs, y :: ys, hx, hy, h => by
    have ih := xorL_back xs ys (fun z hz => hx z (List.mem_cons_of_mem _ hz)) (fun z hz => hy z (List.mem_cons_of_mem _ hz)) (by simpa using h)
    have hb := xor_back x y (hx x List.mem_cons_self) (hy y List.mem_cons_self)
    simp only [xorL, List.zipWith_cons_cons] at ih ⊢
    rw [ih, hb]
theorem xorL_swap : ∀ (xs ys : List Int), BytesL xs → BytesL ys → xorL xs ys = xorL ys xs
  | [], ys, _, _ => by simp [xorL]
  | x :: xs, [], _, _ => by simp [xorL]
  | x :: xs, y :: ys, hx, hy => by
    have ih := xorL_swap xs ys (fun z hz => hx z (List.mem_cons_of_mem _ hz)) (fun z hz => hy z (List.mem_cons_of_mem _ hz))
    have hb := xor_swap x y (hx x List.mem_cons_self) (hy y List.mem_cons_self)
    simp only [xorL, List.zipWith_cons_cons] at ih ⊢
    rw [ih, hb]
theorem str_nums (s : ByteArray) : strOfNums (nums s) = s := by
  have h : (strOfNums (nums s)).data.toList = s.data.toList := by
    rw [strOfNums_data]
    unfold nums
    rw [List.map_map]
    conv => rhs; rw [← List.map_id s.data.toList]
    apply List.map_congr_left
    intro x _
    simp
  exact ByteArray.ext (Array.toList_inj.1 h)
theorem block_size {a b : ByteArray} (h : a.size = b.size ∧ a.size ≤ 16) : (blockOf a b).size = a.size := by
  rw [(block_yes h).1, str_size, xorL_len _ _ (by rw [nums_len, nums_len]; exact h.1), nums_len]
theorem block_back {a b : ByteArray} (h : a.size = b.size ∧ a.size ≤ 16) : blockOf (blockOf a b) b = a ∧ blockOkB (blockOf a b) b = true := by
  have h2 : (blockOf a b).size = b.size ∧ (blockOf a b).size ≤ 16 := by rw [block_size h]; exact h
  refine ⟨?_, (block_yes h2).2⟩
  rw [(block_yes h2).1, (block_yes h).1, nums_str (xorL_bytes _ _), xorL_back _ _ (nums_bytes a) (nums_bytes b) (by rw [nums_len, nums_len]; exact h.1), str_nums]
theorem block_swap {a b : ByteArray} (h : a.size = b.size ∧ a.size ≤ 16) : blockOf b a = blockOf a b ∧ blockOkB b a = true := by
  have h2 : b.size = a.size ∧ b.size ≤ 16 := by omega
  refine ⟨?_, (block_yes h2).2⟩
  rw [(block_yes h2).1, (block_yes h).1, xorL_swap _ _ (nums_bytes b) (nums_bytes a)]
end Go.Proofs.YtcoofoiaaljpoaaDoor
