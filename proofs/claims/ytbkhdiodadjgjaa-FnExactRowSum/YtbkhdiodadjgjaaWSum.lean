/- The walk of the law on sums of rows. -/
import Derived.Test.YtbkhdiodadjgjaaSumB
namespace Go.Proofs.Ytbkhdiodadjgjaa
open Go.ChangeShapes Go.WideShapes Go.ChangeAt Go.RowKit

/-- A slice of texts that came in: nil, or a row of 'cap' cells, the first 'len' its elements. -/
def IsStrs (w : World) (a : Option Addr) (len cap : Nat) (zs : List ByteArray) : Prop :=
  (a = none ∧ len = 0 ∧ cap = 0 ∧ zs = []) ∨
  ∃ x, a = some x ∧ len ≤ cap ∧ cap ≤ maxLen ∧ zs.length = cap ∧ (∀ i, i < zs.length → w.cell? (x.add i) = some (.string (zs.getD i ByteArray.empty))) ∧ ∀ s ∈ zs, s.size ≤ maxLen
theorem isStrs_len {w : World} {a : Option Addr} {len cap : Nat} {zs : List ByteArray} (h : IsStrs w a len cap zs) : (zs.take len).length = len ∧ len ≤ 9223372036854775807 := by
  rcases h with ⟨_, rfl, _, rfl⟩ | ⟨x, _, h1, h2, h3, _⟩
  · exact ⟨rfl, by omega⟩
  · unfold maxLen at h2
    rw [List.length_take]; omega
theorem isStrs_at {w : World} {a : Option Addr} {len cap : Nat} {zs : List ByteArray} (h : IsStrs w a len cap zs) : StrsAt w a (zs.take len) := by
  intro hne
  rcases h with ⟨_, rfl, _, rfl⟩ | ⟨x, rfl, h1, h2, h3, h4, _⟩
  · simp at hne
  · have hpos : 0 < len := by
      rcases Nat.eq_zero_or_pos len with h | h
      · subst h; simp at hne
      · exact h
    obtain ⟨b, off, spot⟩ := x
    have hc := h4 0 (by omega)
    have hspot : spot = none := by simpa [Addr.add] using World.cell?_spot hc
    subst hspot
    refine ⟨b, off, rfl, fun i hi => ?_⟩
    have hi' : i < len := by rw [List.length_take] at hi; omega
    have e : (zs.take len).getD i ByteArray.empty = zs.getD i ByteArray.empty := by simp [List.getD, hi']
    rw [e, ← addr_add]
    exact h4 i (by omega)
theorem isStrs_size {w : World} {a : Option Addr} {len cap : Nat} {zs : List ByteArray} (h : IsStrs w a len cap zs) (k : Nat) : ((zs.take len).getD k ByteArray.empty).size ≤ 9223372036854775807 := by
  by_cases hk : k < (zs.take len).length
  · rcases h with ⟨_, rfl, _, rfl⟩ | ⟨x, rfl, h1, h2, h3, h4, h5⟩
    · simp at hk
    · rw [getS_eq hk]
      exact h5 _ (List.mem_of_mem_take (List.getElem_mem hk))
  · have : (zs.take len).getD k ByteArray.empty = ByteArray.empty := by simp only [List.getD, List.getElem?_eq_none (Nat.le_of_not_lt hk), Option.getD_none]
    rw [this]
    exact Nat.zero_le _

set_option maxHeartbeats 1000000 in
theorem rowSum_law (a0 : Option Addr) (cap0 : Nat) (ss : List ByteArray) (a1 : Option Addr) (cap1 : Nat) (xs : List Int) (w : World) (i0 : StrsAt w a0 ss) (i1 : IntsAt w a1 xs) (hx : xs.length ≤ 1048576) (hs1 : ss.length ≤ 9223372036854775807) (hsz : ∀ k, (ss.getD k ByteArray.empty).size ≤ 9223372036854775807) :
    Calls Try.prog 5 #[.slice a0 ss.length cap0, .slice a1 xs.length cap1] w fun e w' => e = .returned (.bool true) ∧ Below w.heap.size w w' := by
  have hx2 : ¬ (1048576 : Int) < (xs.length : Int) := by omega
  have HSZ := hid hsz
  clear hsz
  go_enter Try.func5, Try.ntmps5
  go_wp2_with fail
  refine (szStringS_any a0 cap0 ss 1048576 w i0 hs1 HSZ.out (by omega)).mono ?_
  rintro e w' ⟨L, rfl, hL, hq⟩
  replace hq := hq.symm
  subst hq
  by_cases hneg : L < 0
  · clear hL
    go_wp2_with fail
    go_ret
    exact ⟨rfl, Below.refl _ _⟩
  have hss : ss.length ≤ 1048576 := by
    rcases hL with h | h
    · exact absurd h hneg
    · exact h.1
  clear hL
  go_wp2_with fail
  refine (toStringS_any a0 cap0 ss w i0 hss).mono ?_
  rintro e w1 ⟨v1, rfl, o1, b1⟩
  obtain ⟨p1, c1, rfl, -, j1⟩ := owns_strs o1
  go_wp2_with fail
  refine (toIntS_any a1 cap1 xs w1 (i1.below b1) hx).mono ?_
  rintro e w2 ⟨v2, rfl, o2, b2⟩
  obtain ⟨p2, c2, rfl, -, j2⟩ := owns_ints o2
  have B2 := below_cat' b1 b2
  go_wp2_with fail
  refine (specRowSum_any p1 p2 c1 c2 ss xs w2 (j1.below b2) j2 hss hx HSZ.out).mono ?_
  rintro e w3 ⟨rfl, b3⟩
  have B3 := below_cat' B2 b3
  go_wp2_with fail
  refine (toStringS_any a0 cap0 ss w3 (i0.below B3) hss).mono ?_
  rintro e w4 ⟨v4, rfl, o4, b4⟩
  obtain ⟨p4, c4, rfl, -, j4⟩ := owns_strs o4
  have B4 := below_cat' B3 b4
  go_wp2_with fail
  refine (toIntS_any a1 cap1 xs w4 (i1.below B4) hx).mono ?_
  rintro e w5 ⟨v5, rfl, o5, b5⟩
  obtain ⟨p5, c5, rfl, -, j5⟩ := owns_ints o5
  have B5 := below_cat' B4 b5
  have j4' := j4.below b5
  go_wp2_with fail
  refine (implRowSum_any p4 p5 c4 c5 ss xs w5 j4' j5 hss hx HSZ.out).mono ?_
  rintro e w6 ⟨rfl, b6⟩
  have B6 := below_cat' B5 b6
  go_wp2_with fail
  refine (toStringS_any a0 cap0 ss w6 (i0.below B6) hss).mono ?_
  rintro e w7 ⟨v7, rfl, o7, b7⟩
  obtain ⟨p7, c7, rfl, -, j7⟩ := owns_strs o7
  have B7 := below_cat' B6 b7
  go_wp2_with fail
  refine (eqStringS_same p4 p7 c4 c7 ss w7 ((j4'.below b6).below b7) j7 (by omega)).mono ?_
  rintro e w8 ⟨rfl, d8⟩
  have b8 := d8.below w7.heap.size
  have B8 := below_cat' B7 b8
  go_wp2_with fail
  refine (toIntS_any a1 cap1 xs w8 (i1.below B8) hx).mono ?_
  rintro e w9 ⟨v9, rfl, o9, b9⟩
  obtain ⟨p9, c9, rfl, -, j9⟩ := owns_ints o9
  have B9 := below_cat' B8 b9
  go_wp2_with fail
  refine (eqIntS_any p5 p9 c5 c9 xs xs w9 ((((j5.below b6).below b7).below b8).below b9) j9 (by omega)).mono ?_
  rintro e w10 ⟨rfl, n, rfl⟩
  go_wp2_with fail
  go_ret
  exact ⟨rfl, below_drewN B9 n⟩

theorem walk_FnExactRowSum (a0 : Option Addr) (len0 cap0 : Nat) (z0 : List ByteArray) (a1 : Option Addr) (len1 cap1 : Nat) (z1 : List Int) (w : World) (w0 : IsStrs w a0 len0 cap0 z0) (w1 : IsRow .i64 w a1 len1 cap1 z1) :
    Calls Try.prog 5 #[.slice a0 len0 cap0, .slice a1 len1 cap1] w fun e w' => e = .returned (.bool true) ∧ Below w.heap.size w w' := by
  by_cases h : len1 ≤ 1048576
  · have hl := isRow_len w1
    have hs := isStrs_len w0
    have := rowSum_law a0 cap0 (z0.take len0) a1 cap1 (z1.take len1) w (isStrs_at w0) (isRow_ints w1) (by omega) (by omega) (isStrs_size w0)
    rw [hl, hs.1] at this
    exact this
  · have h' : (1048576 : Int) < (len1 : Int) := by omega
    clear w0 w1
    go_enter Try.func5, Try.ntmps5
    go_wp2
    go_ret
    exact ⟨rfl, Below.refl _ _⟩
end Go.Proofs.Ytbkhdiodadjgjaa
