/- All blocks of a row together. -/
import Derived.Test.YtcoofoiaaljpoaaDoorG5
import Derived.Test.YtcoofoiaaljpoaaDoorG14
import Derived.Test.YtcoofoiaaljpoaaDoorG15
import Derived.Test.YtcoofoiaaljpoaaDoorG17
namespace Go.Proofs.YtcoofoiaaljpoaaDoor
open Go.ChangeShapes Go.WideShapes Go.ChangeAt Go.RowKit

/-- The cells of a slice of bytes that is read. -/
def BytesAt (w : World) (a : Option Addr) (xs : List Int) : Prop :=
  xs ≠ [] → ∃ b off, a = some ⟨b, off, none⟩ ∧ ∀ i, i < xs.length → w.cell? ⟨b, off + i, none⟩ = some (.int .u8 (xs.getD i 0))
theorem owns_bytes {w : World} {base : Nat} {e : TypeId} {v : Value} {n : Nat} {xs : List Int} (h : w.ownsRow base e 1 v n (xs.map (Value.int .u8))) :
    ∃ a cap, v = .slice a xs.length cap ∧ n = xs.length ∧ BytesAt w a xs := by
  have hl : xs.length = n := by simpa using h.1
  obtain ⟨a, cap, rfl⟩ := owns_slice h
  refine ⟨a, cap, by rw [hl], hl.symm, fun hne => ?_⟩
  obtain ⟨g, cap', hv, _⟩ := owns_shape h (by simpa using hne)
  simp only [Value.slice.injEq] at hv
  obtain ⟨rfl, _, rfl⟩ := hv
  refine ⟨g, 0, rfl, fun k hk => ?_⟩
  rw [Nat.zero_add, h.cellAt k (by omega)]
  simp [hk, List.getD]

set_option maxHeartbeats 1000000 in
theorem blockMix_bytes (a : Option Addr) (cap : Nat) (xs : List Int) (b : ByteArray) (w : World) (ha : BytesAt w a xs) (h : xs.length = b.size) (hl : xs.length ≤ 1048576) :
    Calls Tryd.prog 29 #[.slice a xs.length cap, .string b] w fun e w' => ∃ v, e = .returned v ∧ w'.ownsRow w.heap.size 5 1 v xs.length ((xorL xs (nums b)).map (Value.int .u8)) ∧ Below w.heap.size w w' := by
  obtain ⟨i0, hi, hz0, hz1, hz2⟩ := info_parts Tryd.info5
  have HH := hid h
  clear h
  go_enter Tryd.func29, Tryd.ntmps29
  go_wp2_with (at_make; refine wpList_make_full _ rfl _ _ 45 rfl w.heap.size 5 i0 (.int .u8 0) 1 Tryd.underlying45 hi hz0 hz1 _ _ _ _ xs.length rfl rfl rfl rfl (by rw [hz2]; omega) (by unfold maxLen; omega) (Nat.le_refl _) ?_; intro w1 hown1 hgr1)
  have hb1 : Below w.heap.size w w1 := (Below.refl _ _).grown hgr1 (Nat.le_refl _) (fun k hk => by simp at hk)
  rw [made_bytes] at hown1
  have HO := hid hown1
  clear hown1 hgr1
  go_loopw [12] (fun i wr => ∃ k : Nat, k ≤ xs.length ∧ i = .int .i64 k ∧ wr.ownsRow w.heap.size 5 1 (.slice (some ⟨w.heap.size, 0, none⟩) xs.length xs.length) xs.length (((xorL xs (nums b)).take k ++ List.replicate (xs.length - k) (0 : Int)).map (Value.int .u8)) ∧ Below w.heap.size w wr) (fun i _ => xs.length - (intOf i).toNat)
  case atStart => exact ⟨0, Nat.zero_le _, rfl, HO.out, hb1⟩
  case round =>
    obtain ⟨k, hk, rfl, hown, hnx⟩ := hrel
    have hxl : (xorL xs (nums b)).length = xs.length := xorL_len _ _ (by rw [nums_len]; exact HH.out)
    by_cases hlt : k < xs.length
    · have hlt2 : k < b.size := by have := HH.out; omega
      obtain ⟨bb, off, rfl, hc⟩ := ha (by intro h; simp [h] at hlt)
      have hck := hc k hlt
      have hck' := (hnx.cell (p := ⟨bb, off + k, none⟩) (block_lt_of_cell hck)).trans hck
      have hlb := block_lt_of_cell hck
      have hcell := hown.cellAt k (by omega)
      have hf := hown.frozenAt k
      obtain ⟨u, hu⟩ : ∃ u, wr.cell? ⟨w.heap.size, k, none⟩ = some u := by
        rw [hcell]; exact ⟨_, List.getElem?_eq_getElem (by rw [List.length_map, List.length_append, List.length_take, List.length_replicate]; omega)⟩
      have hx := xorL_take xs (nums b) k hlt (by rw [nums_len]; exact hlt2)
      rw [nums_at b k hlt2] at hx
      obtain ⟨X, hX⟩ : ∃ X, X = xs.getD k 0 := ⟨_, rfl⟩
      rw [← hX] at hx hck'
      have HST := hid (hown.stored k (.int .u8 (bits .xor .u8 X ((b[k]'hlt2).toNat : Int))))
      have HX := hid hx
      have HXL := hid hxl
      have hne : ¬ bb = w.heap.size := by have : bb < w.heap.size := hlb; omega
      clear hcell hown hx hxl hc hck hX hlb
      go_wp2
      go_region
      all_goals
        go_wp2
        go_roundw
        case rel =>
          refine ⟨k + 1, by omega, by go_num, ?_, (hnx.setCell (Nat.le_refl _) _).drew⟩
          rw [← fill_set _ xs.length k _ hlt HXL.out HX.out, List.map_set]
          exact HST.out.1.drew
        case measure => simp [intOf]; omega
    · obtain rfl : k = xs.length := by omega
      have HW := hid hown
      have HXL := hid hxl
      clear hown hxl
      go_wp2
      go_ret
      refine ⟨_, rfl, ?_, hnx⟩
      have := HW.out
      rw [List.take_of_length_le (by rw [HXL.out]; exact Nat.le_refl _), Nat.sub_self, List.replicate_zero, List.append_nil] at this
      exact this

/-- Blocks of one size. -/
def sizesB (ss : List ByteArray) (n : Nat) : Bool := ss.all fun s => s.size == n
def blocksB (ss : List ByteArray) : Bool := !ss.isEmpty && decide ((ss.getD 0 ByteArray.empty).size ≤ 16) && sizesB ss (ss.getD 0 ByteArray.empty).size
/-- All blocks of a row together. -/
def sumL (ss : List ByteArray) (xs : List Int) (acc : List Int) : List Int := xs.foldl (fun s x => xorL s (nums (ss.getD x.toNat ByteArray.empty))) acc

theorem sizes_step (ss : List ByteArray) (n k : Nat) (h : k < ss.length) : sizesB (ss.drop k) n = ((ss.getD k ByteArray.empty).size == n && sizesB (ss.drop (k + 1)) n) := by
  unfold sizesB
  rw [List.drop_eq_getElem_cons h, List.all_cons, getS_eq h]
theorem blocksB_nil : blocksB [] = false := rfl
theorem blocksB_cons {ss : List ByteArray} (h : ss ≠ []) : blocksB ss = (decide ((ss.getD 0 ByteArray.empty).size ≤ 16) && sizesB ss (ss.getD 0 ByteArray.empty).size) := by
  cases ss with
  | nil => exact absurd rfl h
  | cons => simp [blocksB]

set_option maxHeartbeats 1000000 in
theorem blocksOk_any (a : Option Addr) (cap : Nat) (ss : List ByteArray) (w : World) (ha : StrsAt w a ss) (hx : ss.length ≤ 1048576) (hsz : ∀ k, (ss.getD k ByteArray.empty).size ≤ 9223372036854775807) :
    Calls Tryd.prog 28 #[.slice a ss.length cap] w fun e w' => e = .returned (.bool (blocksB ss)) ∧ w' = w := by
  rcases Nat.eq_zero_or_pos ss.length with h0 | h0
  · obtain rfl : ss = [] := List.eq_nil_of_length_eq_zero h0
    rw [blocksB_nil]
    clear hsz
    go_enter Tryd.func28, Tryd.ntmps28
    go_wp2
    go_ret
    exact ⟨rfl, rfl⟩
  · have hne : ss ≠ [] := by intro h; simp [h] at h0
    obtain ⟨b, off, rfl, hc⟩ := ha hne
    have c0 := hc 0 h0
    rw [Nat.add_zero] at c0
    have hs0 := hsz 0
    have hB := blocksB_cons hne
    have HC := hid hc
    have HSZ := hid hsz
    obtain ⟨S0, hS0⟩ : ∃ S, S = ss.getD 0 ByteArray.empty := ⟨_, rfl⟩
    rw [← hS0] at c0 hs0 hB
    have hl0 : ((ss.length : Int) == 0) = false := by simp; omega
    clear hc hsz ha
    by_cases h16 : S0.size ≤ 16
    · have h16' : decide (16 < (S0.size : Int)) = false := by simp; omega
      rw [decide_eq_true h16, Bool.true_and] at hB
      rw [hB]
      clear hB hS0
      go_enter Tryd.func28, Tryd.ntmps28
      go_wp2
      go_loop [17] (fun i => ∃ k : Nat, k ≤ ss.length ∧ i = .int .i64 k ∧ sizesB ss S0.size = sizesB (ss.drop k) S0.size) (fun i => ss.length - (intOf i).toNat)
      case atStart => exact ⟨0, Nat.zero_le _, rfl, rfl⟩
      case round =>
        obtain ⟨k, hk, rfl, he⟩ := hrel
        by_cases hlt : k < ss.length
        · have ck := HC.out k hlt
          have e1 := sizes_step ss S0.size k hlt
          have hsk := HSZ.out k
          obtain ⟨X, hX⟩ : ∃ X, X = ss.getD k ByteArray.empty := ⟨_, rfl⟩
          rw [← hX] at ck e1 hsk
          have HE := hid he
          have H1 := hid e1
          clear he e1 hX
          by_cases hsx : X.size = S0.size
          · have hsx' : ((X.size : Int) != (S0.size : Int)) = false := by simp; omega
            have HS := hid hsx
            clear hsx
            go_wp2
            go_round
            case rel => exact ⟨k + 1, by omega, by go_num, by rw [HE.out, H1.out, HS.out, beq_self_eq_true, Bool.true_and]⟩
            case measure => simp [intOf]; omega
          · have hsx' : ((X.size : Int) != (S0.size : Int)) = true := by simp; omega
            have HS := hid hsx
            clear hsx
            go_wp2
            go_ret
            refine ⟨ret_bool ?_, rfl⟩
            rw [HE.out, H1.out, beq_eq_false_iff_ne.2 HS.out, Bool.false_and]
        · obtain rfl : k = ss.length := by omega
          have HE := hid he
          clear he
          go_wp2
          go_ret
          refine ⟨ret_bool ?_, rfl⟩
          rw [HE.out, List.drop_length]
          rfl
    · have h16' : (16 : Int) < (S0.size : Int) := by omega
      rw [decide_eq_false h16, Bool.false_and] at hB
      rw [hB]
      clear hB hS0
      go_enter Tryd.func28, Tryd.ntmps28
      go_wp2
      go_ret
      exact ⟨rfl, rfl⟩

theorem sumL_snoc (ss : List ByteArray) (xs acc : List Int) (k : Nat) (h : k < xs.length) : sumL ss (xs.take (k + 1)) acc = xorL (sumL ss (xs.take k) acc) (nums (ss.getD (xs.getD k 0).toNat ByteArray.empty)) := by
  unfold sumL
  rw [List.take_succ_eq_append_getElem h, List.foldl_append, getD_eq h]
  rfl
theorem rep_zero (n : Nat) : rep n (strOfNums [0]) = strOfNums (List.replicate n 0) := by
  induction n with
  | zero => rfl
  | succ n ih =>
    rw [rep, ih, List.replicate_succ]
    apply ba_ext
    rw [ByteArray.data_append]
    apply Array.ext'
    rw [Array.toList_append, strOfNums_data, strOfNums_data, strOfNums_data]
    rfl
end Go.Proofs.YtcoofoiaaljpoaaDoor
