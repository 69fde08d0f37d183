/- Rows of texts in the laws: copied, held against each other, measured. -/
import Derived.Test.YtbkhdiodadjgjaaToInts
import Derived.SliceStrings
namespace Go.Proofs.Ytbkhdiodadjgjaa
open Go.ChangeShapes Go.WideShapes Go.ChangeAt Go.RowKit

theorem Try.info9 : (Try.prog.info? 9).map (fun i => (i.zero, i.size, i.bytes)) = some (some (.string ByteArray.empty), 1, 16) := by kernel_rfl

/-- The cells of a slice of texts that is read. -/
def StrsAt (w : World) (a : Option Addr) (ss : List ByteArray) : Prop :=
  ss ≠ [] → ∃ b off, a = some ⟨b, off, none⟩ ∧ ∀ i, i < ss.length → w.cell? ⟨b, off + i, none⟩ = some (.string (ss.getD i ByteArray.empty))

theorem owns_strs {w : World} {base : Nat} {e : TypeId} {v : Value} {n : Nat} {ss : List ByteArray} (h : w.ownsRow base e 1 v n (ss.map Value.string)) :
    ∃ a cap, v = .slice a ss.length cap ∧ n = ss.length ∧ StrsAt w a ss := by
  have hl : ss.length = n := by simpa using h.1
  obtain ⟨a, cap, rfl⟩ := owns_slice h
  refine ⟨a, cap, by rw [hl], hl.symm, fun hne => ?_⟩
  obtain ⟨g, cap', hv, _⟩ := owns_shape h (by simpa using hne)
  simp only [Value.slice.injEq] at hv
  obtain ⟨rfl, _, rfl⟩ := hv
  refine ⟨g, 0, rfl, fun k hk => ?_⟩
  rw [Nat.zero_add, h.cellAt k (by omega)]
  simp [hk, List.getD]
theorem StrsAt.below {w w' : World} {a : Option Addr} {ss : List ByteArray} (h : StrsAt w a ss) (hb : Below w.heap.size w w') : StrsAt w' a ss := fun hne => by
  obtain ⟨b, off, ha, hc⟩ := h hne
  refine ⟨b, off, ha, fun i hi => ?_⟩
  rw [hb.cell (p := ⟨b, off + i, none⟩) (block_lt_of_cell (hc i hi))]
  exact hc i hi
theorem getS_eq {ss : List ByteArray} {k : Nat} (h : k < ss.length) : ss.getD k ByteArray.empty = ss[k] := by simp [List.getD, h]
theorem copyS_set (ss : List ByteArray) (k : Nat) (h : k < ss.length) : (ss.take k ++ List.replicate (ss.length - k) ByteArray.empty).set k (ss.getD k ByteArray.empty) = ss.take (k + 1) ++ List.replicate (ss.length - (k + 1)) ByteArray.empty := by
  have hl : (ss.take k).length = k := by rw [List.length_take]; omega
  rw [List.set_append_right _ _ (by omega), hl, Nat.sub_self, List.take_succ_eq_append_getElem h, getS_eq h]
  obtain ⟨m, hm⟩ : ∃ m, ss.length - k = m + 1 := ⟨ss.length - k - 1, by omega⟩
  rw [hm, List.replicate_succ, List.set_cons_zero, show ss.length - (k + 1) = m by omega, List.append_assoc, List.singleton_append]
theorem made_strs (n : Nat) : (madeCells (Value.string ByteArray.empty).cells (n * 1)).toList = (List.replicate n ByteArray.empty).map Value.string := by
  apply List.ext_getElem
  · simp [madeCells]
  · intro i h1 h2
    simp [madeCells, Value.cells, Nat.mod_one]

set_option maxHeartbeats 1000000 in
theorem toStringS_any (a : Option Addr) (cap : Nat) (ss : List ByteArray) (w : World) (ha : StrsAt w a ss) (hx : ss.length ≤ 1048576) :
    Calls Try.prog 19 #[.slice a ss.length cap] w fun e w' => ∃ v, e = .returned v ∧ w'.ownsRow w.heap.size 9 1 v ss.length (ss.map Value.string) ∧ Below w.heap.size w w' := by
  obtain ⟨i0, hi, hz0, hz1, hz2⟩ := info_parts Try.info9
  go_enter Try.func19, Try.ntmps19
  go_wp2_with (at_make; refine wpList_make_full _ rfl _ _ 29 rfl w.heap.size 9 i0 (.string ByteArray.empty) 1 Try.underlying29 hi hz0 hz1 _ _ _ _ ss.length rfl rfl rfl rfl (by rw [hz2]; omega) (by unfold maxLen; omega) (Nat.le_refl _) ?_; intro w1 hown1 hgr1)
  have hb1 : Below w.heap.size w w1 := (Below.refl _ _).grown hgr1 (Nat.le_refl _) (fun k hk => by simp at hk)
  rw [made_strs] at hown1
  have HO := hid hown1
  clear hown1 hgr1
  go_loopw [4] (fun i wr => ∃ k : Nat, k ≤ ss.length ∧ i = .int .i64 k ∧ wr.ownsRow w.heap.size 9 1 (.slice (some ⟨w.heap.size, 0, none⟩) ss.length ss.length) ss.length ((ss.take k ++ List.replicate (ss.length - k) ByteArray.empty).map Value.string) ∧ Below w.heap.size w wr) (fun i _ => ss.length - (intOf i).toNat)
  case atStart => exact ⟨0, Nat.zero_le _, rfl, HO.out, hb1⟩
  case round =>
    obtain ⟨k, hk, rfl, hown, hnx⟩ := hrel
    by_cases hlt : k < ss.length
    · obtain ⟨b, off, rfl, hc⟩ := ha (by intro h; simp [h] at hlt)
      have hck := hc k hlt
      have hck' := (hnx.cell (p := ⟨b, off + k, none⟩) (block_lt_of_cell hck)).trans hck
      have hcell := hown.cellAt k (by omega)
      have hf := hown.frozenAt k
      obtain ⟨u, hu⟩ : ∃ u, wr.cell? ⟨w.heap.size, k, none⟩ = some u := by
        rw [hcell]; exact ⟨_, List.getElem?_eq_getElem (by simp; omega)⟩
      have HST := hid (hown.stored k (.string (ss.getD k ByteArray.empty)))
      obtain ⟨X, hX⟩ : ∃ X, X = ss.getD k ByteArray.empty := ⟨_, rfl⟩
      rw [← hX] at hck'
      have HX := hid hX
      clear hcell hown hck hc hX
      go_wp2
      go_roundw
      case rel =>
        refine ⟨k + 1, by omega, by go_num, ?_, hnx.setCell (Nat.le_refl _) _⟩
        have h1 := HST.out.1
        rw [← copyS_set ss k hlt, List.map_set]
        rw [← HX.out] at h1 ⊢
        exact h1
      case measure => simp [intOf]; omega
    · obtain rfl : k = ss.length := by omega
      have HW := hid hown
      clear hown
      go_wp2
      go_ret
      refine ⟨_, rfl, ?_, hnx⟩
      have := HW.out
      rw [List.take_length, Nat.sub_self, List.replicate_zero, List.append_nil] at this
      exact this

theorem takeS_eq {xs ys : List ByteArray} {k : Nat} (h : xs.take k = ys.take k) (hk : k < xs.length) (hk2 : k < ys.length) (he : xs.getD k ByteArray.empty = ys.getD k ByteArray.empty) : xs.take (k + 1) = ys.take (k + 1) := by
  rw [List.take_succ_eq_append_getElem hk, List.take_succ_eq_append_getElem hk2, h]
  have : xs[k] = ys[k] := by simpa [List.getD, hk, hk2] using he
  rw [this]

set_option maxHeartbeats 1000000 in
theorem eqStringS_same (a b : Option Addr) (ca cb : Nat) (ss : List ByteArray) (w : World) (ha : StrsAt w a ss) (hb : StrsAt w b ss) (hx : ss.length ≤ 1152921504606846976) :
    Calls Try.prog 21 #[.slice a ss.length ca, .slice b ss.length cb] w fun e w' => e = .returned (.bool true) ∧ Dr w w' := by
  go_enter Try.func21, Try.ntmps21
  go_wp2
  go_loopw [5] (fun i wr => ∃ k : Nat, k ≤ ss.length ∧ i = .int .i64 k ∧ Dr w wr) (fun i _ => ss.length - (intOf i).toNat)
  case atStart => exact ⟨0, Nat.zero_le _, rfl, Dr.refl _⟩
  case round =>
    obtain ⟨k, hk, rfl, hdr⟩ := hrel
    by_cases hlt : k < ss.length
    · have hne : ss ≠ [] := by intro h; simp [h] at hlt
      obtain ⟨b1, o1, rfl, h1⟩ := ha hne
      obtain ⟨b2, o2, rfl, h2⟩ := hb hne
      have c1 := (hdr.cell _).trans (h1 k hlt)
      have c2 := (hdr.cell _).trans (h2 k hlt)
      obtain ⟨X, hX⟩ : ∃ X, X = ss.getD k ByteArray.empty := ⟨_, rfl⟩
      rw [← hX] at c1 c2
      clear h1 h2 hX
      go_wp2
      go_quiet (fail)
      go_wp2
      go_roundw
      case rel => exact ⟨k + 1, by omega, by go_num, hdr.step nq⟩
      case measure => simp [intOf]; omega
    · go_wp2
      go_ret
      exact ⟨rfl, hdr⟩

set_option maxHeartbeats 1000000 in
theorem szStringS_any (a : Option Addr) (cap : Nat) (ss : List ByteArray) (left : Nat) (w : World) (ha : StrsAt w a ss) (hx : ss.length ≤ 9223372036854775807) (hs : ∀ k, (ss.getD k ByteArray.empty).size ≤ 9223372036854775807) (hl : left ≤ 1048576) :
    Calls Try.prog 17 #[.slice a ss.length cap, .int .i64 left] w fun e w' => ∃ L : Int, e = .returned (.int .i64 L) ∧ (L < 0 ∨ ss.length ≤ left ∧ ∀ k, k < ss.length → (ss.getD k ByteArray.empty).size ≤ left) ∧ w' = w := by
  by_cases h0 : (left : Int) - ss.length < 0
  · go_enter Try.func17, Try.ntmps17
    go_wp2
    go_ret
    exact ⟨_, rfl, Or.inl (by omega), rfl⟩
  · go_enter Try.func17, Try.ntmps17
    go_wp2
    go_loop [1, 5] (fun q i => ∃ k : Nat, k ≤ ss.length ∧ i = .int .i64 k ∧ ∃ L : Nat, q = .int .i64 L ∧ L ≤ left ∧ ∀ j, j < k → (ss.getD j ByteArray.empty).size ≤ left) (fun _ i => ss.length - (intOf i).toNat)
    case atStart => exact ⟨0, Nat.zero_le _, rfl, left - ss.length, by go_num, by omega, fun j hj => by omega⟩
    case round =>
      obtain ⟨k, hk, rfl, L, rfl, hL, hall⟩ := hrel
      by_cases hlt : k < ss.length
      · obtain ⟨b1, o1, rfl, h1⟩ := ha (by intro h; simp [h] at hlt)
        have c1 := h1 k hlt
        have hk1 := hs k
        obtain ⟨X, hX⟩ : ∃ X, X = ss.getD k ByteArray.empty := ⟨_, rfl⟩
        rw [← hX] at c1 hk1
        have HX := hid hX
        have HA := hid hall
        have HS := hid hs
        clear h1 hX hall hs
        by_cases hn : (L : Int) - X.size < 0
        · go_wp2
          go_ret
          exact ⟨_, rfl, Or.inl (by omega), rfl⟩
        · go_wp2
          go_round
          case rel => exact ⟨k + 1, by omega, by go_num, L - X.size, by go_num, by omega, fun j hj => by
            rcases Nat.lt_succ_iff_lt_or_eq.1 hj with h | h
            · exact HA.out j h
            · subst h; rw [← HX.out]; omega⟩
          case measure => simp [intOf]; omega
      · obtain rfl : k = ss.length := by omega
        have HA := hid hall
        clear hall hs
        go_wp2
        go_ret
        exact ⟨_, rfl, Or.inr ⟨by omega, HA.out⟩, rfl⟩
end Go.Proofs.Ytbkhdiodadjgjaa
