/- All blocks of two rows together are those of what is in just one of both. -/
import Derived.Test.YtndgjgknkgmhfaaDoorSumB
import Derived.Test.YtndgjgknkgmhfaaDoorXorC
namespace Go.Proofs.YtndgjgknkgmhfaaDoor
open Go.ChangeShapes Go.WideShapes Go.ChangeAt Go.RowKit

theorem bits_assoc (x y z : Int) (hx : 0 ≤ x ∧ x ≤ 255) (hy : 0 ≤ y ∧ y ≤ 255) (hz : 0 ≤ z ∧ z ≤ 255) : bits .xor .u8 (bits .xor .u8 x y) z = bits .xor .u8 x (bits .xor .u8 y z) := by
  obtain ⟨X, rfl⟩ := Int.eq_ofNat_of_zero_le hx.1
  obtain ⟨Y, rfl⟩ := Int.eq_ofNat_of_zero_le hy.1
  obtain ⟨Z, rfl⟩ := Int.eq_ofNat_of_zero_le hz.1
  have h1 : X ^^^ Y < 2 ^ 8 := Nat.xor_lt_two_pow (by omega) (by omega)
  have h2 : Y ^^^ Z < 2 ^ 8 := Nat.xor_lt_two_pow (by omega) (by omega)
  rw [u8_xor_nat X Y (by omega) (by omega), u8_xor_nat Y Z (by omega) (by omega), u8_xor_nat _ _ (by omega) (by omega), u8_xor_nat _ _ (by omega) (by omega), Nat.xor_assoc]
/-- Bytes of a size. -/
def LN (n : Nat) (l : List Int) : Prop := l.length = n ∧ BytesL l
theorem LN.tail {n : Nat} {x : Int} {l : List Int} (h : LN (n + 1) (x :: l)) : LN n l ∧ 0 ≤ x ∧ x ≤ 255 :=
  ⟨⟨by have := h.1; simpa using this, fun z hz => h.2 z (List.mem_cons_of_mem _ hz)⟩, h.2 x List.mem_cons_self⟩
theorem LN.xor {n : Nat} {a b : List Int} (ha : LN n a) (hb : LN n b) : LN n (xorL a b) := ⟨by rw [xorL_len _ _ (by rw [ha.1, hb.1])]; exact ha.1, xorL_bytes a b⟩
theorem LN.zero (n : Nat) : LN n (List.replicate n 0) := ⟨by simp, zeros_bytes n⟩
theorem xorL_assoc : ∀ (n : Nat) (a b c : List Int), LN n a → LN n b → LN n c → xorL (xorL a b) c = xorL a (xorL b c)
  | 0, [], [], [], _, _, _ => rfl
  | n + 1, x :: a, y :: b, z :: c, ha, hb, hc => by
    have ih := xorL_assoc n a b c ha.tail.1 hb.tail.1 hc.tail.1
    have hh := bits_assoc x y z ha.tail.2 hb.tail.2 hc.tail.2
    simp only [xorL, List.zipWith_cons_cons] at ih ⊢
    rw [ih, hh]
  | n + 1, [], _, _, ha, _, _ => by have := ha.1; simp at this
  | n + 1, _, [], _, _, hb, _ => by have := hb.1; simp at this
  | n + 1, _, _, [], _, _, hc => by have := hc.1; simp at this
  | 0, _ :: _, _, _, ha, _, _ => by have := ha.1; simp at this
  | 0, _, _ :: _, _, _, hb, _ => by have := hb.1; simp at this
  | 0, _, _, _ :: _, _, _, hc => by have := hc.1; simp at this
theorem bits_zero (x : Int) (hx : 0 ≤ x ∧ x ≤ 255) : bits .xor .u8 0 x = x := by
  obtain ⟨X, rfl⟩ := Int.eq_ofNat_of_zero_le hx.1
  have := u8_xor_nat 0 X (by omega) (by omega)
  rw [Nat.zero_xor] at this
  exact this
theorem xorL_zero : ∀ (n : Nat) (a : List Int), LN n a → xorL (List.replicate n 0) a = a
  | 0, [], _ => rfl
  | n + 1, x :: a, ha => by
    have ih := xorL_zero n a ha.tail.1
    rw [List.replicate_succ]
    simp only [xorL, List.zipWith_cons_cons] at ih ⊢
    rw [ih, bits_zero x ha.tail.2]
  | n + 1, [], ha => by have := ha.1; simp at this
  | 0, _ :: _, ha => by have := ha.1; simp at this
theorem xorL_comm {n : Nat} {a b : List Int} (ha : LN n a) (hb : LN n b) : xorL a b = xorL b a := xorL_swap a b ha.2 hb.2
theorem xorL_zeroR {n : Nat} {a : List Int} (ha : LN n a) : xorL a (List.replicate n 0) = a := by rw [xorL_comm ha (LN.zero n), xorL_zero n a ha]
/-- The block of a number. -/
def blkN (ss : List ByteArray) (x : Int) : List Int := nums (ss.getD x.toNat ByteArray.empty)
theorem sum_ln {ss : List ByteArray} {n : Nat} : ∀ (xs acc : List Int), (∀ x ∈ xs, LN n (blkN ss x)) → LN n acc → LN n (sumL ss xs acc)
  | [], _, _, ha => ha
  | x :: xs, acc, h, ha => sum_ln xs (xorL acc (blkN ss x)) (fun z hz => h z (List.mem_cons_of_mem _ hz)) (ha.xor (h x List.mem_cons_self))
theorem sum_acc {ss : List ByteArray} {n : Nat} : ∀ (xs acc b : List Int), (∀ x ∈ xs, LN n (blkN ss x)) → LN n acc → LN n b → sumL ss xs (xorL acc b) = xorL b (sumL ss xs acc)
  | [], acc, b, _, ha, hb => xorL_comm ha hb
  | x :: xs, acc, b, h, ha, hb => by
    have hx := h x List.mem_cons_self
    have ht : ∀ z ∈ xs, LN n (blkN ss z) := fun z hz => h z (List.mem_cons_of_mem _ hz)
    show sumL ss xs (xorL (xorL acc b) (blkN ss x)) = xorL b (sumL ss xs (xorL acc (blkN ss x)))
    rw [xorL_assoc n acc b _ ha hb hx, xorL_comm hb hx, ← xorL_assoc n acc _ b ha hx hb]
    exact sum_acc xs (xorL acc (blkN ss x)) b ht (ha.xor hx) hb
theorem sum_cons {ss : List ByteArray} {n : Nat} (x : Int) (xs : List Int) (h : ∀ z ∈ x :: xs, LN n (blkN ss z)) : sumL ss (x :: xs) (List.replicate n 0) = xorL (blkN ss x) (sumL ss xs (List.replicate n 0)) :=
  sum_acc xs (List.replicate n 0) (blkN ss x) (fun z hz => h z (List.mem_cons_of_mem _ hz)) (LN.zero n) (h x List.mem_cons_self)
theorem sum_xor {ss : List ByteArray} {n : Nat} (m : Nat) : ∀ (a b : List Int), a.length + b.length ≤ m → (∀ z ∈ a, LN n (blkN ss z)) → (∀ z ∈ b, LN n (blkN ss z)) →
    sumL ss (xorM a b) (List.replicate n 0) = xorL (sumL ss a (List.replicate n 0)) (sumL ss b (List.replicate n 0)) ∧ ∀ z ∈ xorM a b, LN n (blkN ss z) := by
  have hZ := LN.zero n
  induction m with
  | zero =>
    intro a b hm _ _
    have h1 : a = [] := List.eq_nil_of_length_eq_zero (by omega)
    have h2 : b = [] := List.eq_nil_of_length_eq_zero (by omega)
    subst h1 h2
    rw [xorM_left]
    refine ⟨?_, by simp⟩
    show List.replicate n 0 = xorL (List.replicate n 0) (List.replicate n 0)
    rw [xorL_zero n _ hZ]
  | succ m ih =>
    intro a b hm ha hb
    cases a with
    | nil =>
      rw [xorM_left]
      refine ⟨?_, hb⟩
      show _ = xorL (List.replicate n 0) (sumL ss b (List.replicate n 0))
      rw [xorL_zero n _ (sum_ln b _ hb hZ)]
    | cons x a =>
      cases b with
      | nil =>
        rw [xorM_nil]
        refine ⟨?_, ha⟩
        show _ = xorL (sumL ss (x :: a) (List.replicate n 0)) (List.replicate n 0)
        rw [xorL_zeroR (sum_ln (x :: a) _ ha hZ)]
      | cons y b =>
        have ha' : ∀ z ∈ a, LN n (blkN ss z) := fun z hz => ha z (List.mem_cons_of_mem _ hz)
        have hb' : ∀ z ∈ b, LN n (blkN ss z) := fun z hz => hb z (List.mem_cons_of_mem _ hz)
        have hx := ha x List.mem_cons_self
        have hy := hb y List.mem_cons_self
        have sA := sum_ln a _ ha' hZ
        have sB := sum_ln b _ hb' hZ
        have eA := sum_cons (ss := ss) x a ha
        have eB := sum_cons (ss := ss) y b hb
        rcases Int.lt_trichotomy x y with h | h | h
        · obtain ⟨i1, i2⟩ := ih a (y :: b) (by simp at hm ⊢; omega) ha' hb
          rw [xorM_lt h]
          have hall : ∀ z ∈ x :: xorM a (y :: b), LN n (blkN ss z) := fun z hz => by
            rcases List.mem_cons.1 hz with h' | h'
            · rw [h']; exact hx
            · exact i2 z h'
          refine ⟨?_, hall⟩
          rw [sum_cons x _ hall, i1, eA, xorL_assoc n _ _ _ hx sA (sum_ln (y :: b) _ hb hZ)]
        · subst h
          obtain ⟨i1, i2⟩ := ih a b (by simp at hm; omega) ha' hb'
          rw [xorM_eq]
          refine ⟨?_, i2⟩
          rw [i1, eA, eB, xorL_comm hx sA, xorL_assoc n _ _ _ sA hx (hx.xor sB), ← xorL_assoc n _ _ _ hx hx sB]
          have : xorL (blkN ss x) (blkN ss x) = List.replicate n 0 := by
            have h1 := xorL_back (List.replicate n 0) (blkN ss x) hZ.2 hx.2 (by rw [hZ.1, hx.1])
            rwa [xorL_zero n _ hx] at h1
          rw [this, xorL_zero n _ sB]
        · obtain ⟨i1, i2⟩ := ih (x :: a) b (by simp at hm ⊢; omega) ha hb'
          rw [xorM_gt h]
          have hall : ∀ z ∈ y :: xorM (x :: a) b, LN n (blkN ss z) := fun z hz => by
            rcases List.mem_cons.1 hz with h' | h'
            · rw [h']; exact hy
            · exact i2 z h'
          refine ⟨?_, hall⟩
          have sXA := sum_ln (x :: a) _ ha hZ
          rw [sum_cons y _ hall, i1, eB, ← xorL_assoc n _ _ _ hy sXA sB, xorL_comm hy sXA, xorL_assoc n _ _ _ sXA hy sB]
theorem asc_hi {lo hi hi' : Int} {xs : List Int} (h : ascB lo hi xs = true) (hl : hi ≤ hi') : ascB lo hi' xs = true := by
  induction xs generalizing lo with
  | nil => rfl
  | cons x r ih =>
    rw [asc_cons] at h ⊢
    exact ⟨⟨h.1.1, by omega⟩, ih h.2⟩
/-- The sums of two rows put together are the sum of what is in just one of both. -/
theorem sum_law {ss : List ByteArray} {xs ys : List Int} (h1 : sumOkB ss xs = true) (h2 : sumOkB ss ys = true) :
    sumOkB ss (xorR xs ys) = true ∧ blockOkB (sumOf ss xs) (sumOf ss ys) = true ∧ sumOf ss (xorR xs ys) = blockOf (sumOf ss xs) (sumOf ss ys) := by
  have e1 := sum_yes h1
  have e2 := sum_yes h2
  simp only [sumOkB, rowOkB, Bool.and_eq_true, decide_eq_true_eq] at h1 h2
  obtain ⟨⟨hc, a1⟩, hb⟩ := h1
  obtain ⟨⟨_, a2⟩, _⟩ := h2
  have hne : ss ≠ [] := by intro h; rw [h, blocksB_nil] at hb; simp at hb
  have hb' := hb
  rw [blocksB_cons hne, Bool.and_eq_true, decide_eq_true_eq] at hb
  obtain ⟨b1, b2⟩ := hb
  obtain ⟨n, hn⟩ : ∃ n, n = (ss.getD 0 ByteArray.empty).size := ⟨_, rfl⟩
  rw [← hn] at b1 b2 e1 e2
  have blk : ∀ (zs : List Int), ascB (-1) ss.length zs = true → ∀ z ∈ zs, LN n (blkN ss z) := fun zs hz z hm => by
    have := asc_in hz z hm
    exact ⟨by unfold blkN; rw [nums_len]; exact sizes_at b2 z.toNat (by omega), nums_bytes _⟩
  have t1 := asc_hi a1 hc.2
  have t2 := asc_hi a2 hc.2
  have hX := xorR_yes t1 t2
  obtain ⟨x1, _⟩ := xorM_both _ (Nat.le_refl _) a1 a2
  have hok : sumOkB ss (xorR xs ys) = true := by
    simp only [sumOkB, rowOkB, Bool.and_eq_true, decide_eq_true_eq]
    rw [hX]
    exact ⟨⟨hc, x1⟩, hb'⟩
  have s1 := sum_ln xs _ (blk xs a1) (LN.zero n)
  have s2 := sum_ln ys _ (blk ys a2) (LN.zero n)
  have hs : (sumOf ss xs).size = (sumOf ss ys).size ∧ (sumOf ss xs).size ≤ 16 := by
    rw [e1, e2, str_size, str_size, s1.1, s2.1]; omega
  refine ⟨hok, (block_yes hs).2, ?_⟩
  rw [(block_yes hs).1, sum_yes hok, ← hn, hX, (sum_xor _ xs ys (Nat.le_refl _) (blk xs a1) (blk ys a2)).1, e1, e2, nums_str s1.2, nums_str s2.2]
end Go.Proofs.YtndgjgknkgmhfaaDoor
