/- Rows of texts marked and held, as the laws do it. -/
import Derived.Test.YtcoofoiaaljpoaaMkT
import Derived.Test.YtcoofoiaaljpoaaStrsH
import Derived.Test.YtcoofoiaaljpoaaIntsH
import Derived.Test.YtcoofoiaaljpoaaQB
import Derived.Test.YtcoofoiaaljpoaaInrL
import Derived.Lib.QuietBelow
namespace Go.Proofs.Ytcoofoiaaljpoaa
open Go.ChangeShapes Go.WideShapes Go.ChangeAt Go.RowKit Go.Sort

def mstrs (k n : Nat) : List ByteArray := (List.range n).map fun i => mtext (k + i)
theorem mstrs_len (k n : Nat) : (mstrs k n).length = n := by simp [mstrs]
theorem mstrs_at (k n i : Nat) (h : i < n) : (mstrs k n).getD i ByteArray.empty = mtext (k + i) := by simp [mstrs, List.getD, h]
theorem mstrs_set (k i : Nat) (xs : List ByteArray) (h : i < xs.length) : (mstrs k i ++ xs.drop i).set i (mtext (k + i)) = mstrs k (i + 1) ++ xs.drop (i + 1) := by
  rw [List.set_append_right _ _ (by rw [mstrs_len]; exact Nat.le_refl _), mstrs_len, Nat.sub_self, List.drop_eq_getElem_cons h, List.set_cons_zero]
  simp [mstrs, List.range_succ]

set_option maxRecDepth 100000 in
set_option maxHeartbeats 2000000 in
theorem markStringS_any (base : Nat) (a : Option Addr) (n cap : Nat) (xs : List ByteArray) (k : Nat) (w : World) (hown : w.ownsRow base 9 1 (.slice a n cap) n (xs.map Value.string)) (hb : base ≤ w.heap.size) (hn : n ≤ 1048576) (k0 : 0 < k) (k1 : k ≤ 1048576) :
    Calls Try.prog 11 #[.slice a n cap, .int .i64 k] w fun e w' => e = .returned (.int .i64 ((k + n : Nat) : Int)) ∧ w'.ownsRow base 9 1 (.slice a n cap) n ((mstrs k n).map Value.string) ∧ Below base w w' ∧ (∀ g, g < w.heap.size → (.slice a n cap : Value).ownBlock ≠ some g → w'.heap[g]? = w.heap[g]?) := by
  have hl : xs.length = n := by simpa using hown.1
  rcases Nat.eq_zero_or_pos n with h0 | h0
  · subst h0
    have hx : xs = [] := List.eq_nil_of_length_eq_zero hl
    subst hx
    have HO : Hid (w.ownsRow base 9 1 (.slice a 0 cap) 0 ((mstrs k 0).map Value.string)) := hown
    clear hown hl
    go_enter Try.func11, Try.ntmps11
    go_wp2_with fail
    refine wp_loop_rounds 1 ?_
    rw [rounds_succ]
    go_wp2_with fail
    go_ret
    exact ⟨by simp, HO.out, Below.refl _ _, fun _ _ _ => rfl⟩
  · obtain ⟨g, cap', hgv, hg⟩ := owns_shape hown (by intro e; simp at e; rw [e] at hl; simp at hl; omega)
    simp only [Value.slice.injEq] at hgv
    obtain ⟨rfl, -, rfl⟩ := hgv
    have HL := hid hl
    have HO := hid hown
    clear hown hl
    go_enter Try.func11, Try.ntmps11
    go_wp2_with fail
    go_loopw [1, 5] (fun q i wr => ∃ j : Nat, j ≤ n ∧ i = .int .i64 j ∧ q = .int .i64 ((k + j : Nat) : Int) ∧ wr.ownsRow base 9 1 (.slice (some ⟨g, 0, none⟩) n cap) n ((mstrs k j ++ xs.drop j).map Value.string) ∧ Below base w wr ∧ (∀ i, i < w.heap.size → i ≠ g → wr.heap[i]? = w.heap[i]?)) (fun _ i _ => n - (intOf i).toNat)
    case atStart => exact ⟨0, Nat.zero_le _, rfl, by simp, HO.out, Below.refl _ _, fun _ _ _ => rfl⟩
    case round =>
      obtain ⟨j, hj, rfl, rfl, hown, hbl, hkp⟩ := hrel
      have HW := hid hown
      have HB := hid hbl
      have HK := hid hkp
      have hws := hbl.size
      clear hown hbl hkp
      by_cases hlt : j < n
      · have KT := hid (fun W => markText_any (k + j) W (by omega) (by omega))
        go_wp2_with fail
        refine (KT.out wr).mono ?_
        rintro e w2 ⟨rfl, b2⟩
        have O2 := owns_below HW.out b2
        have hc := O2.cellAt j (by omega)
        have hf := O2.frozenAt j
        obtain ⟨u, hu⟩ : ∃ u, w2.cell? ⟨g, j, none⟩ = some u := by
          rw [hc]; exact ⟨_, List.getElem?_eq_getElem (by simp [mstrs_len, HL.out]; omega)⟩
        have HST := hid (O2.stored j (.string (mtext (k + j))))
        have hgl := (O2.lt g rfl)
        have HB2 := hid (HB.out.trans (b2.mono (Nat.le_trans hb hws)))
        have HK2 := hid (show ∀ i, i < w.heap.size → i ≠ g → w2.heap[i]? = w.heap[i]? from fun i hi hn => (b2.block i (Nat.lt_of_lt_of_le hi hws)).trans (HK.out i hi hn))
        clear hc O2 b2 KT
        go_wp2_with fail
        go_roundw
        case rel =>
          refine ⟨j + 1, by omega, by go_num, by go_num, ?_, HB2.out.setCell (p := ⟨g, j, none⟩) hgl.1 _, fun i hi hn => set_other (HK2.out i hi hn) hn _ _⟩
          have h1 := HST.out.1
          have e := mstrs_set k j xs (by rw [HL.out]; exact hlt)
          rw [← e, List.map_set]
          exact h1
        case measure => simp [intOf]; omega
      · obtain rfl : j = n := by omega
        go_wp2_with fail
        go_ret
        refine ⟨by simp, ?_, HB.out, fun i hi hn => HK.out i hi (fun e => hn (by rw [e]; rfl))⟩
        have := HW.out
        rw [List.drop_of_length_le (by rw [HL.out]; exact Nat.le_refl _), List.append_nil] at this
        exact this

set_option maxRecDepth 100000 in
set_option maxHeartbeats 2000000 in
theorem heldStringS_any (a : Option Addr) (n cap : Nat) (k : Nat) (w : World) (ha : StrsAt w a (mstrs k n)) (hn : n ≤ 1048576) (k0 : 0 < k) (k1 : k ≤ 1048576) :
    Calls Try.prog 12 #[.slice a n cap, .int .i64 k] w fun e w' => e = .returned (.int .i64 ((k + n : Nat) : Int)) ∧ Below w.heap.size w w' := by
  have HA := hid ha
  clear ha
  go_enter Try.func12, Try.ntmps12
  go_wp2_with fail
  go_loopw [1, 5] (fun q i wr => ∃ j : Nat, j ≤ n ∧ i = .int .i64 j ∧ q = .int .i64 ((k + j : Nat) : Int) ∧ Below w.heap.size w wr) (fun _ i _ => n - (intOf i).toNat)
  case atStart => exact ⟨0, Nat.zero_le _, rfl, by simp, Below.refl _ _⟩
  case round =>
    obtain ⟨j, hj, rfl, rfl, hbl⟩ := hrel
    have HB := hid hbl
    by_cases hlt : j < n
    · obtain ⟨b1, o1, rfl, h1⟩ := HA.out (by intro h; have := mstrs_len k n; rw [h] at this; simp at this; omega)
      have c0 := h1 j (by rw [mstrs_len]; exact hlt)
      rw [mstrs_at k n j hlt] at c0
      have c1 := cell_regrown ((hbl.cell (p := ⟨b1, o1 + j, none⟩) (block_lt_of_cell c0)).trans c0)
      have KT := hid (rg (w := wr) (fun w' _ => markText_any (k + j) w' (by omega) (by omega)))
      clear h1 c0 hbl
      obtain ⟨M, hM⟩ : ∃ M, M = mtext (k + j) := ⟨_, rfl⟩
      rw [← hM] at c1 KT
      clear hM
      have hmm : (M.toList == M.toList) = true := by simp
      go_wp2_with fail
      refine wp_region_quiet_below (by kernel_rfl) (by kernel_rfl) ?_
      iterate 5 (first | go_big_quiet_step ((go_at_call 22; with_reducible exact KT.out _ _)) | quiet_step ((go_at_call 22; with_reducible exact KT.out _ _)))
      quiet_step ((go_at_call 22; exact KT.out _ _))
      quiet_step (fail)
      refine wpQuiet_nil ?_
      intro V2 hw'
      have hbq := of_class hw'
      have HB2 := hid (u_cat HB.out hbq)
      clear hw' hbq c1 KT
      go_wp2_with fail
      go_roundw
      case rel => exact ⟨j + 1, by omega, by go_num, by go_num, HB2.out⟩
      case measure => simp [intOf]; omega
    · obtain rfl : j = n := by omega
      go_wp2_with fail
      go_ret
      exact ⟨by simp, HB.out⟩
end Go.Proofs.Ytcoofoiaaljpoaa
