/- Blocks put together, the program's own. -/
import Derived.Test.YtndgjgknkgmhfaaDoorBlk
namespace Go.Proofs.YtndgjgknkgmhfaaDoor
open Go.ChangeShapes Go.WideShapes Go.ChangeAt Go.RowKit

theorem made_bytes (n : Nat) : (madeCells (Value.int .u8 0).cells (n * 1)).toList = (List.replicate n (0 : Int)).map (Value.int .u8) := by
  apply List.ext_getElem
  · simp [madeCells]
  · intro i h1 h2
    simp [madeCells, Value.cells, Nat.mod_one]
theorem fill_set (xs : List Int) (n k : Nat) (x : Int) (h : k < n) (hl : xs.length = n) (hx : xs.take (k + 1) = xs.take k ++ [x]) :
    (xs.take k ++ List.replicate (n - k) (0 : Int)).set k x = xs.take (k + 1) ++ List.replicate (n - (k + 1)) 0 := by
  have hk : (xs.take k).length = k := by rw [List.length_take]; omega
  rw [List.set_append_right _ _ (by omega), hk, Nat.sub_self, hx]
  obtain ⟨m, hm⟩ : ∃ m, n - k = m + 1 := ⟨n - k - 1, by omega⟩
  rw [hm, List.replicate_succ, List.set_cons_zero, show n - (k + 1) = m by omega, List.append_assoc, List.singleton_append]

set_option maxHeartbeats 1000000 in
theorem blockMix_texts (a b : ByteArray) (w : World) (h : a.size = b.size) (hl : a.size ≤ 1048576) :
    Calls Tryd.prog 28 #[.string a, .string b] w fun e w' => ∃ v, e = .returned v ∧ w'.ownsRow w.heap.size 5 1 v a.size ((xorL (nums a) (nums b)).map (Value.int .u8)) ∧ Below w.heap.size w w' := by
  obtain ⟨i0, hi, hz0, hz1, hz2⟩ := info_parts Tryd.info5
  have HH : Hid _ := h
  clear h
  go_enter Tryd.func28, Tryd.ntmps28
  go_wp2_with (at_make; refine wpList_make_full _ rfl _ _ 22 rfl w.heap.size 5 i0 (.int .u8 0) 1 Tryd.underlying22 hi hz0 hz1 _ _ _ _ a.size rfl rfl rfl rfl (by rw [hz2]; omega) (by unfold maxLen; omega) (Nat.le_refl _) ?_; intro w1 hown1 hgr1)
  have hb1 : Below w.heap.size w w1 := (Below.refl _ _).grown hgr1 (Nat.le_refl _) (fun k hk => by simp at hk)
  rw [made_bytes] at hown1
  have HO : Hid _ := hown1
  clear hown1 hgr1
  go_loopw [12] (fun i wr => ∃ k : Nat, k ≤ a.size ∧ i = .int .i64 k ∧ wr.ownsRow w.heap.size 5 1 (.slice (some ⟨w.heap.size, 0, none⟩) a.size a.size) a.size (((xorL (nums a) (nums b)).take k ++ List.replicate (a.size - k) (0 : Int)).map (Value.int .u8)) ∧ Below w.heap.size w wr) (fun i _ => a.size - (intOf i).toNat)
  case atStart => exact ⟨0, Nat.zero_le _, rfl, HO.out, hb1⟩
  case round =>
    obtain ⟨k, hk, rfl, hown, hnx⟩ := hrel
    have hxl : (xorL (nums a) (nums b)).length = a.size := by rw [xorL_len _ _ (by rw [nums_len, nums_len]; exact HH.out), nums_len]
    by_cases hlt : k < a.size
    · have hlt2 : k < b.size := by have := HH.out; omega
      have hcell := hown.cellAt k (by omega)
      have hf := hown.frozenAt k
      obtain ⟨u, hu⟩ : ∃ u, wr.cell? ⟨w.heap.size, k, none⟩ = some u := by
        rw [hcell]; exact ⟨_, List.getElem?_eq_getElem (by rw [List.length_map, List.length_append, List.length_take, List.length_replicate]; omega)⟩
      have hx := xorL_take (nums a) (nums b) k (by rw [nums_len]; exact hlt) (by rw [nums_len]; exact hlt2)
      rw [nums_at a k hlt, nums_at b k hlt2] at hx
      have HST : Hid _ := hown.stored k (.int .u8 (bits .xor .u8 ((a[k]'hlt).toNat : Int) ((b[k]'hlt2).toNat : Int)))
      have HX : Hid _ := hx
      have HXL : Hid _ := hxl
      clear hcell hown hx hxl
      go_wp2
      go_region
      all_goals
        go_wp2
        go_roundw
        case rel =>
          refine ⟨k + 1, by omega, by go_num, ?_, (hnx.setCell (Nat.le_refl _) _).drew⟩
          rw [← fill_set _ a.size k _ hlt HXL.out HX.out, List.map_set]
          exact HST.out.1.drew
        case measure => simp [intOf]; omega
    · obtain rfl : k = a.size := by omega
      have HW : Hid _ := hown
      have HXL : Hid _ := hxl
      clear hown hxl
      go_wp2
      go_ret
      refine ⟨_, rfl, ?_, hnx⟩
      have := HW.out
      rw [List.take_of_length_le (by rw [HXL.out]; exact Nat.le_refl _), Nat.sub_self, List.replicate_zero, List.append_nil] at this
      exact this

/-- What two blocks together are, if they go together. -/
def blockOkB (a b : ByteArray) : Bool := decide (a.size = b.size ∧ a.size ≤ 16)
def blockOf (a b : ByteArray) : ByteArray := if a.size = b.size ∧ a.size ≤ 16 then strOfNums (xorL (nums a) (nums b)) else ⟨#[]⟩
theorem block_yes {a b : ByteArray} (h : a.size = b.size ∧ a.size ≤ 16) : blockOf a b = strOfNums (xorL (nums a) (nums b)) ∧ blockOkB a b = true := ⟨if_pos h, decide_eq_true h⟩
theorem block_no {a b : ByteArray} (h : ¬ (a.size = b.size ∧ a.size ≤ 16)) : blockOf a b = ⟨#[]⟩ ∧ blockOkB a b = false := ⟨if_neg h, decide_eq_false h⟩

theorem implBlockXor_any (a b : ByteArray) (w : World) (h1 : a.size ≤ maxLen) :
    Calls Tryd.prog 15 #[.string a, .string b] w fun e w' => e = .returned (.tuple #[.string (blockOf a b), .bool (blockOkB a b)]) ∧ Below w.heap.size w w' := by
  unfold maxLen at h1
  by_cases h : a.size = b.size ∧ a.size ≤ 16
  · rw [(block_yes h).1, (block_yes h).2]
    obtain ⟨h3, h4⟩ := h
    have e1 : ((a.size : Int) != b.size) = false := by simp [h3]
    have HH : Hid _ := h3
    clear h3
    go_enter Tryd.func15, Tryd.ntmps15
    go_wp2_with (go_at_call 28; refine (blockMix_texts a b _ HH.out (by omega)).mono ?_; rintro e w1 ⟨v, rfl, hown, hb⟩; have hcv := owns_text (P := Tryd.prog) (src := 22) (dst := 9) hown Tryd.underlying22 Tryd.underlying5 Tryd.underlying9)
    go_ret2
    exact ⟨rfl, hb⟩
  · rw [(block_no h).1, (block_no h).2]
    by_cases h3 : a.size = b.size
    · have e1 : ((a.size : Int) != b.size) = false := by simp [h3]
      have h4 : 16 < (a.size : Int) := by omega
      clear h h3
      go_enter Tryd.func15, Tryd.ntmps15
      go_wp2
      go_ret2
      exact ⟨rfl, Below.refl _ _⟩
    · have e1 : ((a.size : Int) != b.size) = true := by simp; omega
      clear h h3
      go_enter Tryd.func15, Tryd.ntmps15
      go_wp2
      go_ret2
      exact ⟨rfl, Below.refl _ _⟩
end Go.Proofs.YtndgjgknkgmhfaaDoor
