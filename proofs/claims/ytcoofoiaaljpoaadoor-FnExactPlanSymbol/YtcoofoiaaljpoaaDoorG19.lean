/- All blocks of a row together: the model's and the program's. -/
import Derived.Test.YtcoofoiaaljpoaaDoorG15
import Derived.Test.YtcoofoiaaljpoaaDoorG18
namespace Go.Proofs.YtcoofoiaaljpoaaDoor
open Go.ChangeShapes Go.WideShapes Go.ChangeAt Go.RowKit

/-- Of a row that is ok each number is a place. -/
theorem asc_in {lo hi : Int} {xs : List Int} (h : ascB lo hi xs = true) : ∀ x ∈ xs, lo < x ∧ x < hi := by
  induction xs generalizing lo with
  | nil => intro x hx; simp at hx
  | cons y r ih =>
    rw [ascB, Bool.and_eq_true, decide_eq_true_eq] at h
    intro x hx
    rcases List.mem_cons.1 hx with rfl | hx
    · exact h.1
    · have := ih h.2 x hx
      omega
theorem asc_at {hi : Int} {xs : List Int} (h : ascB (-1) hi xs = true) (k : Nat) (hk : k < xs.length) : 0 ≤ xs.getD k 0 ∧ xs.getD k 0 < hi := by
  have := asc_in h (xs.getD k 0) (by rw [getD_eq hk]; exact List.getElem_mem hk)
  omega
theorem sizes_at {ss : List ByteArray} {n : Nat} (h : sizesB ss n = true) (k : Nat) (hk : k < ss.length) : (ss.getD k ByteArray.empty).size = n := by
  unfold sizesB at h
  rw [List.all_eq_true] at h
  have := h (ss.getD k ByteArray.empty) (by rw [getS_eq hk]; exact List.getElem_mem hk)
  simpa using this
theorem sumL_len {ss : List ByteArray} {n : Nat} (hs : sizesB ss n = true) (xs : List Int) (hx : ascB (-1) ss.length xs = true) (acc : List Int) (ha : acc.length = n) (k : Nat) (hk : k ≤ xs.length) : (sumL ss (xs.take k) acc).length = n := by
  induction k with
  | zero => simpa [sumL] using ha
  | succ k ih =>
    have h1 := asc_at hx k hk
    rw [sumL_snoc ss xs acc k hk, xorL_len _ _ (by rw [nums_len, ih (by omega), sizes_at hs _ (by omega)]), ih (by omega)]
theorem sumL_bytes {ss : List ByteArray} (xs acc : List Int) (ha : BytesL acc) (k : Nat) (hk : k ≤ xs.length) : BytesL (sumL ss (xs.take k) acc) := by
  cases k with
  | zero => simpa [sumL] using ha
  | succ k => rw [sumL_snoc ss xs acc k hk]; exact xorL_bytes _ _
theorem zeros_bytes (n : Nat) : BytesL (List.replicate n 0) := by
  intro x hx
  rw [List.eq_of_mem_replicate hx]
  omega
theorem below_cat2 {a b c : World} (h : Below a.heap.size a b) (k : Below b.heap.size b c) : Below a.heap.size a c := h.trans (k.mono h.size)
set_option maxHeartbeats 1000000 in
theorem l2Sum_any (a b : Option Addr) (ca cb : Nat) (ss : List ByteArray) (xs : List Int) (n : Nat) (w : World) (ha : StrsAt w a ss) (hb : IntsAt w b xs) (hs : sizesB ss n = true) (hx : ascB (-1) ss.length xs = true) (hn : n ≤ 1000) (hxs : xs.length ≤ 1048576) :
    Calls Tryd.prog 12 #[.slice a ss.length ca, .slice b xs.length cb, .int .i64 n] w fun e w' => e = .returned (.string (strOfNums (sumL ss xs (List.replicate n 0)))) ∧ Below w.heap.size w w' := by
  have hcv := run_convert_bytes_arg (P := Tryd.prog) (w.alloc (.cells #[.int .u8 0] 5)) 45 5 Tryd.underlying45 Tryd.underlying5 w.heap.size 0 1 1 [0] rfl (by
    intro i hi
    obtain rfl : i = 0 := by omega
    simp) 9 Tryd.underlying9
  have h1 : (strOfNums [0]).size ≤ 1048576 := by rw [str_size]; decide
  have HS := hid hs
  have HX := hid hx
  clear hs hx
  go_enter Tryd.func12, Tryd.ntmps12
  go_wp2_with (go_at_call 22; refine (l1Many_any _ n _ (by omega) h1).mono ?_; rintro e w' ⟨rfl, rfl⟩; rw [rep_zero])
  clear hcv h1
  go_loopw [7, 8] (fun o i wr => ∃ k : Nat, k ≤ xs.length ∧ i = .int .i64 k ∧ o = .string (strOfNums (sumL ss (xs.take k) (List.replicate n 0))) ∧ Below w.heap.size w wr) (fun _ i _ => xs.length - (intOf i).toNat)
  case atStart => exact ⟨0, Nat.zero_le _, rfl, rfl, (Below.refl _ _).alloc (Nat.le_refl _) _⟩
  case round =>
    obtain ⟨k, hk, rfl, rfl, hnx⟩ := hrel
    by_cases hlt : k < xs.length
    · obtain ⟨b1, o1, rfl, i1⟩ := hb (by intro h; simp [h] at hlt)
      have hat := asc_at HX.out k hlt
      obtain ⟨b2, o2, rfl, i2⟩ := ha (by intro h; rw [h] at hat; simp at hat; omega)
      have c1 := (hnx.cell (p := ⟨b1, o1 + k, none⟩) (block_lt_of_cell (i1 k hlt))).trans (i1 k hlt)
      have e1 := sumL_snoc ss xs (List.replicate n 0) k hlt
      have e2 := sumL_len HS.out xs HX.out (List.replicate n 0) (by simp) k hk
      have e3 := sumL_bytes (ss := ss) xs (List.replicate n 0) (zeros_bytes n) k hk
      obtain ⟨x, hx⟩ := Int.eq_ofNat_of_zero_le hat.1
      rw [hx] at c1 hat e1
      have hxl : x < ss.length := by omega
      have c2 := (hnx.cell (p := ⟨b2, o2 + x, none⟩) (block_lt_of_cell (i2 x hxl))).trans (i2 x hxl)
      have e4 := sizes_at HS.out x hxl
      rw [Int.toNat_natCast] at e1
      obtain ⟨X, hX⟩ : ∃ X, X = ss.getD x ByteArray.empty := ⟨_, rfl⟩
      rw [← hX] at c2 e1 e4
      obtain ⟨A, hA⟩ : ∃ A, A = sumL ss (xs.take k) (List.replicate n 0) := ⟨_, rfl⟩
      rw [← hA] at e1 e2 e3 ⊢
      have H1 := hid e1
      have H2 := hid e2
      have H3 := hid e3
      have H4 := hid e4
      clear e1 e2 e3 e4 hX hA i1 i2 hx
      go_wp2_with (go_at_call 23; refine (l2Block_any _ X _ (by rw [str_size, H2.out, H4.out]) (by rw [str_size, H2.out]; omega)).mono ?_; rintro e w1 ⟨rfl, hb1⟩)
      go_roundw
      case rel =>
        refine ⟨k + 1, by omega, by go_num, ?_, hnx.trans (hb1.mono hnx.size)⟩
        rw [H1.out, nums_str H3.out]
      case measure => simp [intOf]; omega
    · obtain rfl : k = xs.length := by omega
      go_wp2
      go_ret
      rw [List.take_length]
      exact ⟨rfl, hnx⟩
/-- What RowSum answers. -/
def sumOkB (ss : List ByteArray) (xs : List Int) : Bool := rowOkB xs ss.length && blocksB ss
def sumOf (ss : List ByteArray) (xs : List Int) : ByteArray := if sumOkB ss xs then strOfNums (sumL ss xs (List.replicate (ss.getD 0 ByteArray.empty).size 0)) else ⟨#[]⟩
theorem sum_no {ss : List ByteArray} {xs : List Int} (h : sumOkB ss xs = false) : sumOf ss xs = ⟨#[]⟩ := by simp [sumOf, h]
theorem sum_yes {ss : List ByteArray} {xs : List Int} (h : sumOkB ss xs = true) : sumOf ss xs = strOfNums (sumL ss xs (List.replicate (ss.getD 0 ByteArray.empty).size 0)) := by simp [sumOf, h]
set_option maxHeartbeats 1000000 in
theorem implRowSum_any (a b : Option Addr) (ca cb : Nat) (ss : List ByteArray) (xs : List Int) (w : World) (ha : StrsAt w a ss) (hb : IntsAt w b xs) (hss : ss.length ≤ 1048576) (hxs : xs.length ≤ 1048576) (hsz : ∀ k, (ss.getD k ByteArray.empty).size ≤ 9223372036854775807) :
    Calls Tryd.prog 17 #[.slice a ss.length ca, .slice b xs.length cb] w fun e w' => e = .returned (.tuple #[.string (sumOf ss xs), .bool (sumOkB ss xs)]) ∧ Below w.heap.size w w' := by
  by_cases h1 : rowOkB xs ss.length = true
  · by_cases h2 : blocksB ss = true
    · have hok : sumOkB ss xs = true := by rw [sumOkB, h1, h2]; rfl
      rw [hok, sum_yes hok]
      have hne : ss ≠ [] := by intro h; rw [h] at h2; simp [blocksB] at h2
      have hB := blocksB_cons hne
      rw [h2] at hB
      have hB' := hB.symm
      rw [Bool.and_eq_true, decide_eq_true_eq] at hB'
      obtain ⟨h16, hsiz⟩ := hB'
      have hpos : 0 < ss.length := List.length_pos_iff.2 hne
      have hasc : ascB (-1) ss.length xs = true := by rw [rowOkB, Bool.and_eq_true] at h1; exact h1.2
      obtain ⟨b2, o2, rfl, i2⟩ := ha hne
      have c0 := i2 0 hpos
      rw [Nat.add_zero] at c0
      obtain ⟨n, hn⟩ : ∃ n, n = (ss.getD 0 ByteArray.empty).size := ⟨_, rfl⟩
      obtain ⟨S0, hS0⟩ : ∃ S, S = ss.getD 0 ByteArray.empty := ⟨_, rfl⟩
      rw [← hS0] at c0 hn
      rw [← hS0, ← hn] at hsiz
      rw [← hS0] at h16
      rw [← hS0, ← hn]
      rw [← hn] at h16
      have HN := hid hn
      have H1 := hid h1
      have H2 := hid h2
      have HS := hid hsiz
      have HX := hid hasc
      have HSZ := hid hsz
      have HI2 := hid i2
      obtain ⟨i0, hi, hz0, hz1, hz2⟩ := info_parts Tryd.info5
      clear hn h1 h2 hsiz hasc hsz hok hB hS0 i2
      go_enter Tryd.func17, Tryd.ntmps17
      go_wp2_with (first
        | (go_at_call 27; refine (implRowOk_in b cb xs _ _ hb (by omega)).mono ?_; rintro e w' ⟨rfl, hq⟩; replace hq := hq.symm; subst hq; rw [H1.out])
        | (go_at_call 28; refine (blocksOk_any _ ca ss _ ha (by omega) HSZ.out).mono ?_; rintro e w' ⟨rfl, hq⟩; replace hq := hq.symm; subst hq; rw [H2.out])
        | (at_make; refine wpList_make_full _ rfl _ _ 45 rfl w.heap.size 5 i0 (.int .u8 0) 1 Tryd.underlying45 hi hz0 hz1 _ _ _ _ n rfl rfl (by rw [HN.out]) (by rw [HN.out]) (by rw [hz2]; omega) (by unfold maxLen; omega) (Nat.le_refl _) ?_; intro w1 hown1 hgr1))
      have hb1 : Below w.heap.size w w1 := (Below.refl _ _).grown hgr1 (Nat.le_refl _) (fun k hk => by simp at hk)
      rw [made_bytes] at hown1
      have HO := hid hown1
      clear hown1 hgr1
      go_loopw [6, 26] (fun v i wr => ∃ k : Nat, k ≤ xs.length ∧ i = .int .i64 k ∧ wr.ownsRow w.heap.size 5 1 v n ((sumL ss (xs.take k) (List.replicate n 0)).map (Value.int .u8)) ∧ Below w.heap.size w wr) (fun _ i _ => xs.length - (intOf i).toNat)
      case atStart => exact ⟨0, Nat.zero_le _, rfl, HO.out, hb1⟩
      case round =>
        obtain ⟨k, hk, rfl, hown, hnx⟩ := hrel
        by_cases hlt : k < xs.length
        · obtain ⟨b1, o1, rfl, i1⟩ := hb (by intro h; simp [h] at hlt)
          have hat := asc_at HX.out k hlt
          have c1 := (hnx.cell (p := ⟨b1, o1 + k, none⟩) (block_lt_of_cell (i1 k hlt))).trans (i1 k hlt)
          have e1 := sumL_snoc ss xs (List.replicate n 0) k hlt
          have e2 := sumL_len HS.out xs HX.out (List.replicate n 0) (by simp) k hk
          obtain ⟨x, hx⟩ := Int.eq_ofNat_of_zero_le hat.1
          rw [hx] at c1 hat e1
          have hxl : x < ss.length := by omega
          have c2 := (hnx.cell (p := ⟨b2, o2 + x, none⟩) (block_lt_of_cell (HI2.out x hxl))).trans (HI2.out x hxl)
          have e4 := sizes_at HS.out x hxl
          rw [Int.toNat_natCast] at e1
          obtain ⟨X, hX⟩ : ∃ X, X = ss.getD x ByteArray.empty := ⟨_, rfl⟩
          rw [← hX] at c2 e1 e4
          obtain ⟨A, hA⟩ : ∃ A, A = sumL ss (xs.take k) (List.replicate n 0) := ⟨_, rfl⟩
          rw [← hA] at e1 e2 hown
          obtain ⟨pa, pc, rfl, -, hba⟩ := owns_bytes hown
          have H1' := hid e1
          have H2' := hid e2
          have H4 := hid e4
          clear e1 e2 e4 hX hA i1 hx hown
          go_wp2_with (go_at_call 29; refine (blockMix_bytes pa pc A X _ hba (by rw [H2'.out, H4.out]) (by rw [H2'.out]; omega)).mono ?_; rintro e w2 ⟨v2, rfl, hown2, hb2⟩)
          go_roundw
          case rel =>
            refine ⟨k + 1, by omega, by go_num, ?_, hnx.trans (hb2.mono hnx.size)⟩
            have := owns_base hown2 hnx.size
            rw [H2'.out] at this
            rw [H1'.out]
            exact this
          case measure => simp [intOf]; omega
        · obtain rfl : k = xs.length := by omega
          have hcv := owns_text (P := Tryd.prog) (src := 45) (dst := 9) hown Tryd.underlying45 Tryd.underlying5 Tryd.underlying9
          go_wp2
          go_ret2
          exact ⟨rfl, hnx⟩
    · have h2' : blocksB ss = false := by simpa using h2
      have hno : sumOkB ss xs = false := by rw [sumOkB, h2', Bool.and_false]
      rw [hno, sum_no hno]
      have H1 := hid h1
      have H2 := hid h2'
      have HSZ := hid hsz
      clear h1 h2 h2' hno hsz
      go_enter Tryd.func17, Tryd.ntmps17
      go_wp2_with (first
        | (go_at_call 27; refine (implRowOk_in b cb xs _ _ hb (by omega)).mono ?_; rintro e w' ⟨rfl, hq⟩; replace hq := hq.symm; subst hq; rw [H1.out])
        | (go_at_call 28; refine (blocksOk_any _ ca ss _ ha (by omega) HSZ.out).mono ?_; rintro e w' ⟨rfl, hq⟩; replace hq := hq.symm; subst hq; rw [H2.out]))
      go_ret2
      exact ⟨rfl, Below.refl _ _⟩
  · have h1' : rowOkB xs ss.length = false := by simpa using h1
    have hno : sumOkB ss xs = false := by rw [sumOkB, h1', Bool.false_and]
    rw [hno, sum_no hno]
    have H1 := hid h1'
    clear h1 h1' hno hsz
    go_enter Tryd.func17, Tryd.ntmps17
    go_wp2_with (go_at_call 27; refine (implRowOk_in b cb xs _ _ hb (by omega)).mono ?_; rintro e w' ⟨rfl, hq⟩; replace hq := hq.symm; subst hq; rw [H1.out])
    go_ret2
    exact ⟨rfl, Below.refl _ _⟩
theorem sizes_all {ss : List ByteArray} {n : Nat} (h : ∀ k, k < ss.length → (ss.getD k ByteArray.empty).size = n) : sizesB ss n = true := by
  unfold sizesB
  rw [List.all_eq_true]
  intro x hx
  obtain ⟨i, hi, rfl⟩ := List.getElem_of_mem hx
  have := h i hi
  rw [getS_eq hi] at this
  simp [this]
end Go.Proofs.YtcoofoiaaljpoaaDoor
