/- Pools that are marked, and looked at for their marks, as the laws do it. -/
import Derived.Test.YtnfjplmpaeiagaaFrmL
namespace Go.Proofs.Ytnfjplmpaeiagaa
open Go.ChangeShapes Go.WideShapes Go.ChangeAt Go.RowKit Go.Sort

/-- The marks of a frame. -/
def mkF (k : Int) (j : Nat) : Fr := ⟨k + 5 * j, k + 5 * j + 1, k + 5 * j + 1 + 1, k + 5 * j + 1 + 1 + 1, (k + 5 * j + 1 + 1 + 1 + 1) % 3 == 0⟩
def marksF (k : Int) (n : Nat) : List Fr := (List.range n).map (mkF k)
theorem marksF_len (k : Int) (n : Nat) : (marksF k n).length = n := by simp [marksF]
theorem marksF_at (k : Int) (n j : Nat) (h : j < n) : (marksF k n)[j]? = some (mkF k j) := by simp [marksF, h]
theorem marksF_set (k : Int) (j : Nat) (fs : List Fr) (h : j < fs.length) : (marksF k j ++ fs.drop j).set j (mkF k j) = marksF k (j + 1) ++ fs.drop (j + 1) := by
  have hl := marksF_len k j
  rw [List.set_append_right _ _ (by omega), hl, Nat.sub_self, List.drop_eq_getElem_cons h, List.set_cons_zero]
  simp [marksF, List.range_succ]

set_option maxHeartbeats 2000000 in
theorem markFrameS_any (base : Nat) (v : Value) (n : Nat) (fs : List Fr) (k : Int) (w : World) (hown : w.ownsRow base 45 5 v n (frCells fs)) (hn : n ≤ 1048576) (hk0 : 0 ≤ k) (hk : k ≤ 1048576) :
    Calls Try.prog 35 #[v, .int .i64 k] w fun e w' => e = .returned (.int .i64 (k + 5 * n)) ∧ w'.ownsRow base 45 5 v n (frCells (marksF k n)) ∧ w.grownBy w' v.ownBlock := by
  have hl : fs.length = n := by have := hown.1; rw [frCells_len] at this; omega
  rcases Nat.eq_zero_or_pos n with h0 | h0
  · subst h0
    obtain ⟨a, cap, rfl⟩ := owns_slice hown
    have hx : fs = [] := List.eq_nil_of_length_eq_zero hl
    subst hx
    have HO := hid hown
    clear hown hl
    go_enter Try.func35, Try.ntmps35
    go_wp2
    refine wp_loop_rounds 1 ?_
    rw [rounds_succ]
    go_wp2
    go_ret
    exact ⟨ret_int (by simp), HO.out, ⟨rfl, rfl, rfl, Nat.le_refl _, fun _ _ _ => rfl⟩⟩
  · obtain ⟨g, cap, rfl, hg⟩ := owns_shape hown (by intro e; have := frCells_len fs; rw [e] at this; simp at this; omega)
    have HL := hid hl
    have HO := hid hown
    clear hown hl
    go_enter Try.func35, Try.ntmps35
    go_wp2
    go_loopw [1, 5] (fun q i wr => ∃ j : Nat, j ≤ n ∧ i = .int .i64 j ∧ q = .int .i64 (k + 5 * j) ∧ wr.ownsRow base 45 5 (.slice (some ⟨g, 0, none⟩) n cap) n (frCells (marksF k j ++ fs.drop j)) ∧ w.grownBy wr (some g)) (fun _ i _ => n - (intOf i).toNat)
    case atStart => exact ⟨0, Nat.zero_le _, rfl, by go_num, HO.out, ⟨rfl, rfl, rfl, Nat.le_refl _, fun _ _ _ => rfl⟩⟩
    case round =>
      obtain ⟨j, hj, rfl, rfl, hown, hgr⟩ := hrel
      by_cases hlt : j < n
      · obtain ⟨f2, -, d0, d1, d2, d3, d4⟩ := frs_cells hown j hlt
        have hfz := hown.frozenAt
        have HOW := hid hown
        have HGR := hid hgr
        clear hown hgr
        go_wp2
        go_roundw
        case rel =>
          refine ⟨j + 1, by omega, by go_num, by go_num, ?_, ?_⟩
          · have h1 := frs_store HOW.out j hlt (mkF k j)
            rw [marksF_set k j fs (by rw [HL.out]; exact hlt)] at h1
            exact h1
          · have b5 := below_set5 (Below.refl 0 wr) (g := g) (Nat.zero_le _) (j * 5) (mkF k j)
            refine ⟨b5.os.trans HGR.out.os, b5.tape.trans HGR.out.tape, b5.output.trans HGR.out.output, Nat.le_trans HGR.out.size b5.size, fun i hi hr => ?_⟩
            have hig : i ≠ g := fun h => hr (by rw [h])
            rw [Below.heap_setCell _ _ _ _ (by exact hig), Below.heap_setCell _ _ _ _ (by exact hig), Below.heap_setCell _ _ _ _ (by exact hig), Below.heap_setCell _ _ _ _ (by exact hig), Below.heap_setCell _ _ _ _ (by exact hig)]
            exact HGR.out.block i hi hr
        case measure => simp [intOf]; omega
      · obtain rfl : j = n := by omega
        have HOW := hid hown
        have HGR := hid hgr
        clear hown hgr
        go_wp2
        go_ret
        refine ⟨rfl, ?_, HGR.out⟩
        have := HOW.out
        rw [List.drop_eq_nil_of_le (by rw [HL.out]; exact Nat.le_refl _), List.append_nil] at this
        exact this

set_option maxHeartbeats 2000000 in
theorem heldFrameS_any (a : Option Addr) (cap n : Nat) (k : Int) (w : World) (ha : FrsAt w a (marksF k n)) (hn : n ≤ 1048576) (hk0 : 0 ≤ k) (hk : k ≤ 1048576) :
    Calls Try.prog 36 #[.slice a n cap, .int .i64 k] w fun e w' => e = .returned (.int .i64 (k + 5 * n)) ∧ w' = w := by
  have HA := hid ha
  clear ha
  go_enter Try.func36, Try.ntmps36
  go_wp2
  go_loop [1, 5] (fun q i => ∃ j : Nat, j ≤ n ∧ i = .int .i64 j ∧ q = .int .i64 (k + 5 * j)) (fun _ i => n - (intOf i).toNat)
  case atStart => exact ⟨0, Nat.zero_le _, rfl, by go_num⟩
  case round =>
    obtain ⟨j, hj, rfl, rfl⟩ := hrel
    by_cases hlt : j < n
    · obtain ⟨b1, o1, rfl, h1⟩ := HA.out (by intro h; have := marksF_len k n; rw [h] at this; simp at this; omega)
      obtain ⟨c0, c1, c2, c3, c4⟩ := h1 j _ (marksF_at k n j hlt)
      simp only [mkF] at c0 c1 c2 c3 c4
      clear h1
      go_wp2
      go_round
      case rel => exact ⟨j + 1, by omega, by go_num, by go_num⟩
      case measure => simp [intOf]; omega
    · obtain rfl : j = n := by omega
      go_wp2
      go_ret
      exact ⟨rfl, rfl⟩

set_option maxHeartbeats 1000000 in
theorem markPool_any (base : Nat) (a : Option Addr) (c : Nat) (fs : List Fr) (hand k : Int) (w : World) (o : w.ownsRow base 45 5 (.slice a fs.length c) fs.length (frCells fs)) (hb : base ≤ w.heap.size) (hx : fs.length ≤ 1048576) (k0 : 0 ≤ k) (k1 : k ≤ 1048576) :
    Calls Try.prog 15 #[.agg #[.slice a fs.length c, .int .i64 hand], .int .i64 k] w fun e w' => e = .returned (.int .i64 (k + 5 * fs.length)) ∧
      w'.ownsRow base 45 5 (.slice a fs.length c) fs.length (frCells (marksF k fs.length)) ∧ Below base w w' ∧ ∀ g, g < w.heap.size → (.slice a fs.length c : Value).ownBlock ≠ some g → w'.heap[g]? = w.heap[g]? := by
  have O1 := hid (owns_below o (u_b1 w (.cells #[.slice a fs.length c, .int .i64 hand] 29)))
  have OL := hid o.lt
  clear o
  go_enter Try.func15, Try.ntmps15
  go_wp2_with fail
  refine (markFrameS_any base _ fs.length fs k _ O1.out hx k0 k1).mono ?_
  rintro e w1 ⟨rfl, m1, g1⟩
  have M1 := hid m1
  have G1 := hid g1
  clear m1 g1
  go_wp2_with fail
  go_ret
  have b1 : Below base (w.alloc (.cells #[.slice a fs.length c, .int .i64 hand] 29)) w1 := (Below.refl _ _).grown G1.out (by simp; omega) (fun k hk => (OL.out k hk).1)
  refine ⟨rfl, M1.out, ((Below.refl base w).alloc hb _).trans b1, fun g hg hn1 => ?_⟩
  rw [G1.out.block g (by simp; omega) (fun h => hn1 h.symm)]
  exact (u_b1 w _).block g hg
set_option maxHeartbeats 1000000 in
theorem heldPool_any (a : Option Addr) (c n : Nat) (hand k : Int) (w : World) (ha : FrsAt w a (marksF k n)) (hx : n ≤ 1048576) (k0 : 0 ≤ k) (k1 : k ≤ 1048576) :
    Calls Try.prog 16 #[.agg #[.slice a n c, .int .i64 hand], .int .i64 k] w fun e w' => e = .returned (.int .i64 (k + 5 * n)) ∧ Below w.heap.size w w' := by
  have HA := hid ha
  clear ha
  go_enter Try.func16, Try.ntmps16
  go_wp2_with (go_at_call 36; refine (heldFrameS_any a c n k _ (HA.out.below (u_b1 _ _)) hx k0 k1).mono ?_; rintro e w2 ⟨rfl, hw⟩; subst hw)
  go_ret
  exact ⟨rfl, u_b1 _ _⟩
end Go.Proofs.Ytnfjplmpaeiagaa
