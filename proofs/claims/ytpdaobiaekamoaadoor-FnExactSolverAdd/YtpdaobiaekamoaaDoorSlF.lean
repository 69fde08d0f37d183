/- Sets of bits put together, bytes put together, an equation without the first numbers of those that are known: the program's. -/
import Derived.Test.YtpdaobiaekamoaaDoorG15
import Derived.Test.YtpdaobiaekamoaaDoorG16
namespace Go.Proofs.YtpdaobiaekamoaaDoor
open Go.ChangeShapes Go.WideShapes Go.ChangeAt Go.RowKit Go.Sort Go.Shelf
attribute [local go_sem] Oper.semAt_some

theorem setI_bitsOf {r : Nat} (hr : r < 16777216) : setI (bitsOf r) = r := by
  apply Nat.eq_of_testBit_eq
  intro i
  rw [Bool.eq_iff_iff, setI_mem (bitsOf_asc r) i, bitsOf_mem]
  constructor
  · rintro ⟨j, hj, _, hb⟩
    obtain rfl : i = j := by omega
    exact hb
  · intro hb
    refine ⟨i, rfl, ?_, hb⟩
    rcases Nat.lt_or_ge i 24 with h | h
    · exact h
    · rw [Nat.testBit_lt_two_pow (Nat.lt_of_lt_of_le hr (Nat.pow_le_pow_right (by omega) h : 2 ^ 24 ≤ 2 ^ i))] at hb
      cases hb
theorem setI_xorM {xs ys : List Int} (hx : ascB (-1) 24 xs = true) (hy : ascB (-1) 24 ys = true) : setI (xorM xs ys) = setI xs ^^^ setI ys := by
  rw [xorM_bits hx hy, setI_bitsOf (Nat.xor_lt_two_pow (n := 24) (setS_small hx) (setS_small hy))]
theorem xorM_asc {xs ys : List Int} (hx : ascB (-1) 24 xs = true) (hy : ascB (-1) 24 ys = true) : ascB (-1) 24 (xorM xs ys) = true := by
  rw [xorM_bits hx hy]; exact bitsOf_asc _
theorem xorS {xs ys : List Int} (hx : ascB (-1) 24 xs = true) (hy : ascB (-1) 24 ys = true) (w : World) :
    Calls Tryd.prog 66 #[.int .u32 (setI xs : Nat), .int .u32 (setI ys : Nat)] w fun e w' => e = .returned (.int .u32 (setI (xorM xs ys) : Nat)) ∧ w' = w := by
  have hb := u32_xor_nat (setI xs) (setI ys) (by have := setS_small hx; omega) (by have := setS_small hy; omega)
  have HE := hid (show bits .xor .u32 (setI xs : Nat) (setI ys : Nat) = ((setI (xorM xs ys) : Nat) : Int) by rw [hb, setI_xorM hx hy])
  clear hb
  go_enter Tryd.func66, Tryd.ntmps66
  go_wp2
  go_ret
  exact ⟨ret_int HE.out, rfl⟩

theorem made_byts (n : Nat) : (madeCells (Value.int .u8 0).cells (n * 1)).toList = (List.replicate n (0 : Int)).map (Value.int .u8) := by
  apply List.ext_getElem
  · simp [madeCells]
  · intro i h1 h2
    simp [madeCells, Value.cells, Nat.mod_one]
theorem fill_byts (xs : List Int) (n k : Nat) (x : Int) (h : k < n) (hl : xs.length = n) (hx : xs.take (k + 1) = xs.take k ++ [x]) :
    (xs.take k ++ List.replicate (n - k) (0 : Int)).set k x = xs.take (k + 1) ++ List.replicate (n - (k + 1)) 0 := by
  have hk : (xs.take k).length = k := by rw [List.length_take]; omega
  rw [List.set_append_right _ _ (by omega), hk, Nat.sub_self, hx]
  obtain ⟨m, hm⟩ : ∃ m, n - k = m + 1 := ⟨n - k - 1, by omega⟩
  rw [hm, List.replicate_succ, List.set_cons_zero, show n - (k + 1) = m by omega, List.append_assoc, List.singleton_append]
theorem byts_own {w : World} {base g n cap : Nat} {d : List Int} (h : w.ownsRow base 5 1 (.slice (some ⟨g, 0, none⟩) n cap) n (d.map (Value.int .u8))) (hd : d.length = n) : BytsAt w g d :=
  ⟨(h.lt g rfl).2, fun i hi => by rw [h.cellAt i (by omega), List.getElem?_map]; simp [List.getD, hi]⟩

set_option maxHeartbeats 2000000 in
theorem bmix_any (q1 q2 c1 c2 : Nat) (xs ys : List Int) (w : World) (h1 : BytsAt w q1 xs) (h2 : BytsAt w q2 ys) (hl : ys.length = xs.length) (hx : xs.length ≤ 1048576) :
    Calls Tryd.prog 67 #[.slice (some ⟨q1, 0, none⟩) xs.length c1, .slice (some ⟨q2, 0, none⟩) ys.length c2] w fun e w' => ∃ q c, e = .returned (.slice (some ⟨q, 0, none⟩) xs.length c) ∧ w.heap.size ≤ q ∧ BytsAt w' q (xorL xs ys) ∧ Below w.heap.size w w' := by
  obtain ⟨i0, hi, hz0, hz1, hz2⟩ := info_parts Tryd.info5
  have HH := hid hl
  have Q1 := hid h1
  have Q2 := hid h2
  rw [hl]
  clear hl h1 h2
  go_enter Tryd.func67, Tryd.ntmps67
  go_wp2_with (at_make; refine wpList_make_full _ rfl _ _ 69 rfl w.heap.size 5 i0 (.int .u8 0) 1 Tryd.underlying69 hi hz0 hz1 _ _ _ _ xs.length rfl rfl rfl rfl (by rw [hz2]; omega) (by unfold maxLen; omega) (Nat.le_refl _) ?_; intro w1 hown1 hgr1)
  have hb1 : Below w.heap.size w w1 := (Below.refl _ _).grown hgr1 (Nat.le_refl _) (fun k hk => by simp at hk)
  rw [made_byts] at hown1
  have HO := hid hown1
  clear hown1 hgr1
  go_loopw [12] (fun i wr => ∃ k : Nat, k ≤ xs.length ∧ i = .int .i64 k ∧ wr.ownsRow w.heap.size 5 1 (.slice (some ⟨w.heap.size, 0, none⟩) xs.length xs.length) xs.length (((xorL xs ys).take k ++ List.replicate (xs.length - k) (0 : Int)).map (Value.int .u8)) ∧ Below w.heap.size w wr) (fun i _ => xs.length - (intOf i).toNat)
  case atStart => exact ⟨0, Nat.zero_le _, rfl, HO.out, hb1⟩
  case round =>
    obtain ⟨k, hk, rfl, hown, hnx⟩ := hrel
    have hxl : (xorL xs ys).length = xs.length := xorL_len _ _ HH.out.symm
    by_cases hlt : k < xs.length
    · have hlt2 : k < ys.length := by have := HH.out; omega
      have hcell := hown.cellAt k (by omega)
      have hf := hown.frozenAt k
      obtain ⟨u, hu⟩ : ∃ u, wr.cell? ⟨w.heap.size, k, none⟩ = some u := by
        rw [hcell]; exact ⟨_, List.getElem?_eq_getElem (by rw [List.length_map, List.length_append, List.length_take, List.length_replicate]; omega)⟩
      have hx := xorL_take xs ys k hlt hlt2
      have e1 := (Q1.out.below hnx).2 k hlt
      have e2 := (Q2.out.below hnx).2 k hlt2
      obtain ⟨x, hx0⟩ : ∃ x, x = xs.getD k 0 := ⟨_, rfl⟩
      obtain ⟨y, hy0⟩ : ∃ y, y = ys.getD k 0 := ⟨_, rfl⟩
      rw [← hx0] at e1 hx
      rw [← hy0] at e2 hx
      have HST : Hid _ := hown.stored k (.int .u8 (bits .xor .u8 x y))
      have HX : Hid _ := hx
      have HXL : Hid _ := hxl
      clear hcell hown hx hxl hx0 hy0 hlt2
      go_wp2
      go_region
      all_goals
        go_wp2
        go_roundw
        case rel =>
          refine ⟨k + 1, by omega, by go_num, ?_, (hnx.setCell (Nat.le_refl _) _).drew⟩
          rw [← fill_byts _ xs.length k _ hlt HXL.out HX.out, List.map_set]
          exact HST.out.1.drew
        case measure => simp [intOf]; omega
    · obtain rfl : k = xs.length := by omega
      have HW : Hid _ := hown
      have HXL : Hid _ := hxl
      clear hown hxl
      go_wp2
      go_ret
      refine ⟨w.heap.size, _, rfl, Nat.le_refl _, ?_, hnx⟩
      have := HW.out
      rw [List.take_of_length_le (by rw [HXL.out]; exact Nat.le_refl _), Nat.sub_self, List.replicate_zero, List.append_nil] at this
      exact byts_own this HXL.out
end Go.Proofs.YtpdaobiaekamoaaDoor
