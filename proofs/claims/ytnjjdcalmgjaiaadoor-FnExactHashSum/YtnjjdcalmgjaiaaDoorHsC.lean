/- A text as whole blocks, by the model and by the program. -/
import Derived.Test.YtnjjdcalmgjaiaaDoorHsB
namespace Go.Proofs.YtnjjdcalmgjaiaaDoor
open Go.ChangeShapes Go.WideShapes Go.ChangeAt Go.RowKit

abbrev u8s (xs : List Int) : List Value := xs.map (Value.int .u8)
theorem pad_len (s : ByteArray) : (padH (nums s)).length = s.size + 9 + noughts s.size := by rw [padH_len, nums_len]
theorem lenS (n i : Nat) (_h : i < 8) : lenH n (i + 1) = lenH n i ++ [((n : Int) * 8) / (2 : Int) ^ (8 * (7 - i)) % 256] := rfl
theorem u8snoc (xs : List Int) (x : Int) : u8s (xs ++ [x]) = u8s xs ++ [.int .u8 x] := by simp
set_option maxHeartbeats 4000000 in
set_option maxRecDepth 100000 in
theorem l1Padded_any (s : ByteArray) (w : World) (hs : s.size ≤ 4294967296) :
    Calls Tryd.prog 47 #[.string s] w fun e w' => ∃ v, e = .returned v ∧ OwnM w' w.heap.size 5 v (padH (nums s)).length (u8s (padH (nums s))) ∧ Below w.heap.size w w' := by
  obtain ⟨i0, hi, hz0, hz1, hz2⟩ := info_parts Tryd.info5
  have hcv : ∀ W : World, (convert 9 22 (.string s)).run Tryd.prog W = .ok (.slice (some ⟨W.heap.size, 0, none⟩) s.size (grownCap W s.size 0 5)) (Go.Lib.bytesWorld W 5 s) := fun W => Go.Lib.run_convert_string_bytes W 9 22 5 s Tryd.underlying9 Tryd.underlying22 Tryd.underlying5
  have h0 := bytesM w 5 s (by omega)
  have hb0 := bytesM_below w 5 s
  have hsz0 := Nat.le_of_lt (Nat.lt_of_lt_of_eq (Nat.lt_succ_self w.heap.size) (Go.Lib.bytesWorld_size w 5 s).symm)
  have hle := noughts_le s.size
  go_enter Tryd.func47, Tryd.ntmps47
  go_wp2_with (at_builtin; refine append_oneM 22 5 i0 _ 1 Tryd.underlying22 hi hz0 hz1 hz2 rfl _ _ rfl rfl rfl rfl rfl rfl h0 hsz0 (by omega) (by omega) ?_; intro v0 w1 hown hb1)
  have hn : hb0 = hb0 := rfl
  have B := hid (hb0.trans hb1)
  clear hb0 hn h0 hsz0 hb1 hcv
  go_loopw [3] (fun v wr => ∃ j : Nat, j ≤ noughts s.size ∧ OwnM wr w.heap.size 5 v (s.size + 1 + j) (u8s (nums s ++ 128 :: List.replicate j 0)) ∧ Below w.heap.size w wr) (fun v _ => match v with | .slice _ n _ => 1000 + s.size - n | _ => 0)
  case atStart => exact ⟨0, Nat.zero_le _, by simpa using hown, B.out⟩
  case round =>
    obtain ⟨j, hj, ho, hb⟩ := hrel
    obtain ⟨g, cap, rfl, hg, hnc, hcm, hcell⟩ := ho.cell
    have HO := hid ho
    have HB := hid hb
    have hbs := hb.size
    clear hcell ho hb
    obtain ⟨N, hN⟩ : ∃ N, N = s.size + 1 + j := ⟨_, rfl⟩
    rw [← hN] at HO ⊢
    have hNb : N ≤ 4294967296 + 100 := by omega
    have HN := hid hN
    by_cases hlt : j < noughts s.size
    · have hne := noughts_at s.size j hlt
      have hne2 : ((N : Int) % 64 != 56) = true := by rw [bne_iff_ne]; omega
      clear hN hne
      go_wp2_with (at_builtin; refine append_oneM 22 5 i0 _ 1 Tryd.underlying22 hi hz0 hz1 hz2 rfl _ _ rfl rfl rfl rfl rfl rfl HO.out hbs (by omega) (by omega) ?_; intro v0 w1 hown hb1)
      have hc := hown.cell
      obtain ⟨g', cap', rfl, -⟩ := hc
      go_roundw
      case rel =>
        refine ⟨j + 1, by omega, ?_, HB.out.trans hb1⟩
        have e : u8s (nums s ++ 128 :: List.replicate (j + 1) 0) = u8s (nums s ++ 128 :: List.replicate j 0) ++ [.int .u8 0] := by
          rw [List.replicate_succ']; simp
        rw [e, show s.size + 1 + (j + 1) = N + 1 by have := HN.out; omega]
        exact hown
      case measure => simp only []; have := HN.out; omega
    · obtain rfl : j = noughts s.size := by omega
      have hne := noughts_end s.size
      have hne2 : ((N : Int) % 64 != 56) = false := by rw [bne_eq_false_iff_eq]; omega
      clear hN hne
      go_wp2_with fail
      have HO' := hid (show OwnM wr w.heap.size 5 (.slice (some ⟨g, 0, none⟩) N cap) (N + 0) (u8s (nums s ++ 128 :: List.replicate (noughts s.size) 0 ++ lenH s.size 0)) by simpa [lenH] using HO.out)
      have hw8 : (s.size : Int) * 8 ≤ 34359738368 := by omega
      go_loopw [3, 5] (fun v q wr => ∃ i : Nat, i ≤ 8 ∧ q = .int .i64 (7 - (i : Int)) ∧ OwnM wr w.heap.size 5 v (N + i) (u8s (nums s ++ 128 :: List.replicate (noughts s.size) 0 ++ lenH s.size i)) ∧ Below w.heap.size w wr) (fun _ q _ => (intOf q + 1).toNat)
      case atStart => exact ⟨0, by omega, rfl, HO'.out, HB.out⟩
      case round =>
        obtain ⟨i, hi8, rfl, ho, hb⟩ := hrel
        obtain ⟨g, cap, rfl, -⟩ := ho.cell
        have HO2 := hid ho
        have HB2 := hid hb
        have hbs2 := hb.size
        clear ho hb HO HO' HB
        by_cases hlt : i < 8
        · have e8 : ((8 : Int) * (7 - (i : Int))).toNat = 8 * (7 - i) := by omega
          go_wp2_with (at_builtin; refine append_oneM 22 5 i0 _ 1 Tryd.underlying22 hi hz0 hz1 hz2 rfl _ _ rfl rfl rfl rfl rfl rfl HO2.out hbs2 (by omega) (by omega) ?_; intro v0 w1 hown hb1)
          go_roundw
          case rel =>
            refine ⟨i + 1, by omega, by go_num, ?_, HB2.out.trans hb1⟩
            rw [lenS _ _ hlt, ← List.append_assoc, u8snoc]
            exact hown
          case measure => simp [intOf]; omega
        · obtain rfl : i = 8 := by omega
          go_wp2_with fail
          go_ret
          refine ⟨_, rfl, ?_, HB2.out⟩
          rw [pad_len]
          have e : N + 8 = s.size + 9 + noughts s.size := by have := HN.out; omega
          rw [← e]
          have := HO2.out
          rw [show padH (nums s) = nums s ++ 128 :: List.replicate (noughts s.size) 0 ++ lenH s.size 8 by unfold padH; rw [nums_len]]
          exact this
set_option maxHeartbeats 4000000 in
set_option maxRecDepth 100000 in
theorem hashPad_any (s : ByteArray) (w : World) (hs : s.size ≤ 4294967296) :
    Calls Tryd.prog 28 #[.string s] w fun e w' => ∃ v, e = .returned v ∧ OwnM w' w.heap.size 5 v (padH (nums s)).length (u8s (padH (nums s))) ∧ Below w.heap.size w w' := by
  obtain ⟨i0, hi, hz0, hz1, hz2⟩ := info_parts Tryd.info5
  have hcv : ∀ W : World, (convert 9 22 (.string s)).run Tryd.prog W = .ok (.slice (some ⟨W.heap.size, 0, none⟩) s.size (grownCap W s.size 0 5)) (Go.Lib.bytesWorld W 5 s) := fun W => Go.Lib.run_convert_string_bytes W 9 22 5 s Tryd.underlying9 Tryd.underlying22 Tryd.underlying5
  have h0 := bytesM w 5 s (by omega)
  have hb0 := bytesM_below w 5 s
  have hsz0 := Nat.le_of_lt (Nat.lt_of_lt_of_eq (Nat.lt_succ_self w.heap.size) (Go.Lib.bytesWorld_size w 5 s).symm)
  have hle := noughts_le s.size
  go_enter Tryd.func28, Tryd.ntmps28
  go_wp2_with (at_builtin; refine append_oneM 22 5 i0 _ 1 Tryd.underlying22 hi hz0 hz1 hz2 rfl _ _ rfl rfl rfl rfl rfl rfl h0 hsz0 (by omega) (by omega) ?_; intro v0 w1 hown hb1)
  have hn : hb0 = hb0 := rfl
  have B := hid (hb0.trans hb1)
  clear hb0 hn h0 hsz0 hb1 hcv
  go_loopw [3] (fun v wr => ∃ j : Nat, j ≤ noughts s.size ∧ OwnM wr w.heap.size 5 v (s.size + 1 + j) (u8s (nums s ++ 128 :: List.replicate j 0)) ∧ Below w.heap.size w wr) (fun v _ => match v with | .slice _ n _ => 1000 + s.size - n | _ => 0)
  case atStart => exact ⟨0, Nat.zero_le _, by simpa using hown, B.out⟩
  case round =>
    obtain ⟨j, hj, ho, hb⟩ := hrel
    obtain ⟨g, cap, rfl, hg, hnc, hcm, hcell⟩ := ho.cell
    have HO := hid ho
    have HB := hid hb
    have hbs := hb.size
    clear hcell ho hb
    obtain ⟨N, hN⟩ : ∃ N, N = s.size + 1 + j := ⟨_, rfl⟩
    rw [← hN] at HO ⊢
    have hNb : N ≤ 4294967296 + 100 := by omega
    have HN := hid hN
    by_cases hlt : j < noughts s.size
    · have hne := noughts_at s.size j hlt
      have hne2 : ((N : Int) % 64 != 56) = true := by rw [bne_iff_ne]; omega
      clear hN hne
      go_wp2_with (at_builtin; refine append_oneM 22 5 i0 _ 1 Tryd.underlying22 hi hz0 hz1 hz2 rfl _ _ rfl rfl rfl rfl rfl rfl HO.out hbs (by omega) (by omega) ?_; intro v0 w1 hown hb1)
      have hc := hown.cell
      obtain ⟨g', cap', rfl, -⟩ := hc
      go_roundw
      case rel =>
        refine ⟨j + 1, by omega, ?_, HB.out.trans hb1⟩
        have e : u8s (nums s ++ 128 :: List.replicate (j + 1) 0) = u8s (nums s ++ 128 :: List.replicate j 0) ++ [.int .u8 0] := by
          rw [List.replicate_succ']; simp
        rw [e, show s.size + 1 + (j + 1) = N + 1 by have := HN.out; omega]
        exact hown
      case measure => simp only []; have := HN.out; omega
    · obtain rfl : j = noughts s.size := by omega
      have hne := noughts_end s.size
      have hne2 : ((N : Int) % 64 != 56) = false := by rw [bne_eq_false_iff_eq]; omega
      clear hN hne
      go_wp2_with fail
      have HO' := hid (show OwnM wr w.heap.size 5 (.slice (some ⟨g, 0, none⟩) N cap) (N + 0) (u8s (nums s ++ 128 :: List.replicate (noughts s.size) 0 ++ lenH s.size 0)) by simpa [lenH] using HO.out)
      have hw8 : (s.size : Int) * 8 ≤ 34359738368 := by omega
      go_loopw [3, 5] (fun v q wr => ∃ i : Nat, i ≤ 8 ∧ q = .int .i64 (56 - 8 * (i : Int)) ∧ OwnM wr w.heap.size 5 v (N + i) (u8s (nums s ++ 128 :: List.replicate (noughts s.size) 0 ++ lenH s.size i)) ∧ Below w.heap.size w wr) (fun _ q _ => (intOf q + 8).toNat)
      case atStart => exact ⟨0, by omega, rfl, HO'.out, HB.out⟩
      case round =>
        obtain ⟨i, hi8, rfl, ho, hb⟩ := hrel
        obtain ⟨g, cap, rfl, -⟩ := ho.cell
        have HO2 := hid ho
        have HB2 := hid hb
        have hbs2 := hb.size
        clear ho hb HO HO' HB
        by_cases hlt : i < 8
        · have e8 : ((56 : Int) - 8 * (i : Int)).toNat = 8 * (7 - i) := by omega
          go_wp2_with (at_builtin; refine append_oneM 22 5 i0 _ 1 Tryd.underlying22 hi hz0 hz1 hz2 rfl _ _ rfl rfl rfl rfl rfl rfl HO2.out hbs2 (by omega) (by omega) ?_; intro v0 w1 hown hb1)
          go_roundw
          case rel =>
            refine ⟨i + 1, by omega, by go_num, ?_, HB2.out.trans hb1⟩
            rw [lenS _ _ hlt, ← List.append_assoc, u8snoc]
            exact hown
          case measure => simp [intOf]; omega
        · obtain rfl : i = 8 := by omega
          go_wp2_with fail
          go_ret
          refine ⟨_, rfl, ?_, HB2.out⟩
          rw [pad_len]
          have e : N + 8 = s.size + 9 + noughts s.size := by have := HN.out; omega
          rw [← e]
          have := HO2.out
          rw [show padH (nums s) = nums s ++ 128 :: List.replicate (noughts s.size) 0 ++ lenH s.size 8 by unfold padH; rw [nums_len]]
          exact this
end Go.Proofs.YtnjjdcalmgjaiaaDoor
