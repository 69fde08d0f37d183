/- RowDraw: the program's and the model's. RowDraw, the program's, of what is no count or seed. -/
import Derived.Test.YtcoofoiaaljpoaaDoorG32
namespace Go.Proofs.YtcoofoiaaljpoaaDoor
open Go.ChangeShapes Go.WideShapes Go.ChangeAt Go.RowKit

set_option maxRecDepth 100000 in
theorem seedOf_in (s : Int) (w : World) (h1 : 0 ≤ s) (h2 : s ≤ 2147483647) :
    Calls Tryd.prog 53 #[.int .i64 s] w fun e w' => e = .returned (.tuple #[.int .u64 s, .bool true]) ∧ w' = w := by
  go_enter Tryd.func53, Tryd.ntmps53
  go_wp2
  go_ret2
  exact ⟨rfl, rfl⟩
set_option maxRecDepth 100000 in
theorem seedOf_out (s : Int) (w : World) (h : s < 0 ∨ 2147483647 < s) :
    Calls Tryd.prog 53 #[.int .i64 s] w fun e w' => e = .returned (.tuple #[.int .u64 0, .bool false]) ∧ w' = w := by
  rcases h with h | h
  · go_enter Tryd.func53, Tryd.ntmps53
    go_wp2
    go_ret2
    exact ⟨rfl, rfl⟩
  · have h' : ¬ s < 0 := by omega
    go_enter Tryd.func53, Tryd.ntmps53
    go_wp2
    go_ret2
    exact ⟨rfl, rfl⟩

set_option maxHeartbeats 4000000 in
set_option maxRecDepth 100000 in
theorem implRowDraw_in (count : Nat) (seed : Int) (w : World) (h1 : 1 ≤ count) (h2 : count ≤ 24) (s1 : 0 ≤ seed) (s2 : seed ≤ 2147483647) (hT : Tab w) :
    Calls Tryd.prog 49 #[.int .i64 count, .int .i64 seed] w fun e w' => ∃ v, e = .returned v ∧ w'.ownsRow w.heap.size 3 1 v (drawI count seed).length ((drawI count seed).map (Value.int .i64)) ∧ Below w.heap.size w w' := by
  have hn1 := nx_bd seed
  have hn2 := nx_bd (nx seed)
  have hdn := drawN_le count seed h1
  obtain ⟨S, hS⟩ : ∃ S, S = nx (nx seed) := ⟨_, rfl⟩
  have hdi : drawI count seed = (drawSt count S (drawN count seed)).2.2 := by rw [hS]; rfl
  have hdg : degOf (degI count) (S / 256 % 65536) = drawN count seed := by rw [hS]; rfl
  rw [hdi]
  obtain ⟨d, hd⟩ : ∃ d, d = drawN count seed := ⟨_, rfl⟩
  rw [← hd] at hdn hdg ⊢
  rw [← hS] at hn2
  have HS := hid hS
  have HG := hid hdg
  have hq1 := Int.emod_nonneg (S / 256) (b := 65536) (by omega)
  have hq2 := Int.emod_lt_of_pos (S / 256) (b := 65536) (by omega)
  have hc1 : ¬ (count : Int) < 1 := by omega
  have hc2 : ¬ (24 : Int) < (count : Int) := by omega
  clear hd hdi hdg hS
  go_enter Tryd.func49, Tryd.ntmps49
  go_wp2_with fail
  refine (seedOf_in seed _ s1 s2).mono ?_
  rintro e w' ⟨rfl, hq⟩
  replace hq := hq.symm
  subst hq
  go_wp2_with fail
  refine (seedNext_any seed _ s1 s2).mono ?_
  rintro e w' ⟨rfl, hq⟩
  replace hq := hq.symm
  subst hq
  go_wp2_with fail
  refine (seedNext_any (nx seed) _ hn1.1 hn1.2).mono ?_
  rintro e w' ⟨rfl, hq⟩
  replace hq := hq.symm
  subst hq
  rw [← HS.out]
  go_wp2_with fail
  refine (full_any count _ h1 h2).mono ?_
  rintro e w' ⟨rfl, hq⟩
  replace hq := hq.symm
  subst hq
  go_wp2_with fail
  refine (seedPick_any S 65536 _ hn2.1 hn2.2 (by omega) (by omega)).mono ?_
  rintro e w' ⟨rfl, hq⟩
  replace hq := hq.symm
  subst hq
  go_wp2_with fail
  refine (implDegreeOf_in count (S / 256 % 65536) h1 h2 hq1 hq2 _).mono ?_
  rintro e w1 ⟨rfl, b1⟩
  rw [HG.out]
  go_wp2_with fail
  go_loopw [5, 7, 8, 34] (fun q a b i wr => ∃ (j D E : Nat), j ≤ d ∧ i = .int .i64 j ∧ q = .int .u64 (drawSt count S j).1 ∧ a = .int .u32 D ∧ b = .int .u32 E ∧ D < 16777216 ∧ E < 16777216 ∧ bitsOf E = (drawSt count S j).2.1 ∧ bitsOf D = (drawSt count S j).2.2 ∧ (∀ x ∈ bitsOf D, x ∉ bitsOf E) ∧ Below w.heap.size w wr) (fun _ _ _ i _ => d - (intOf i).toNat)
  case atStart =>
    refine ⟨0, 0, 2 ^ count - 1, Nat.zero_le _, rfl, rfl, rfl, rfl, by omega, ?_, bits_full count h2, bits_zero, fun x hx => by rw [bits_zero] at hx; simp at hx, b1⟩
    have : 2 ^ count ≤ 2 ^ 24 := Nat.pow_le_pow_right (by omega) h2
    have : 0 < 2 ^ count := Nat.pow_pos (by omega)
    omega
  case round =>
    obtain ⟨j, D, E, hj, rfl, rfl, rfl, rfl, hD, hE, heE, heD, hdis, hnx⟩ := hrel
    have hTr := hT.below hnx
    have hsb := drawSt_s count S j hn2
    have hll := drawSt_len count S j (by omega)
    by_cases hlt : j < d
    · have hEl : (bitsOf E).length = count - j := by rw [heE]; exact hll.1
      obtain ⟨T, hT'⟩ : ∃ T, T = (drawSt count S j).1 := ⟨_, rfl⟩
      have e1 : (drawSt count S (j + 1)).1 = nx T := by rw [hT']; rfl
      have e2 : (drawSt count S (j + 1)).2.1 = (bitsOf E).eraseIdx (nx T / 256 % (bitsOf E).length).toNat := by rw [hT', heE]; rfl
      have e3 : (drawSt count S (j + 1)).2.2 = intoAt (bitsOf D) ((bitsOf E).getD (nx T / 256 % (bitsOf E).length).toNat 0) (placeOf (bitsOf D) ((bitsOf E).getD (nx T / 256 % (bitsOf E).length).toNat 0)) := by rw [hT', heE, heD]; rfl
      rw [← hT'] at hsb ⊢
      have hpk := pick_lt T (bitsOf E).length (by omega)
      obtain ⟨p, hp⟩ := Int.eq_ofNat_of_zero_le hpk.1
      rw [hp] at hpk e2 e3
      rw [Int.toNat_natCast] at e2 e3
      have hpl : p < (bitsOf E).length := by omega
      have hmem : (bitsOf E).getD p 0 ∈ bitsOf E := by rw [getD_eq hpl]; exact List.getElem_mem _
      obtain ⟨n, hn, hn24, hbn⟩ := (bitsOf_mem _ _).1 hmem
      rw [hn] at e3
      have hnD : (n : Int) ∉ bitsOf D := fun h => hdis _ h (by rw [← hn]; exact hmem)
      have f1 := bits_with hn24 hnD
      have f2 := bits_out hE hn24 hpl hn
      rw [← f2] at e2
      rw [← f1] at e3
      have hD' := setI_lt D n hD hn24
      have hE' : outB E n < 16777216 := Nat.lt_of_le_of_lt Nat.and_le_left hE
      have hdis' : ∀ x ∈ bitsOf (D ||| 2 ^ n), x ∉ bitsOf (outB E n) := by
        intro x hx
        rw [f1, into_mem] at hx
        rw [f2, (erase_both (bitsOf_asc E) p hpl).2, hn]
        rintro ⟨hxE, hxn⟩
        rcases hx with hx | hx
        · exact hxn hx
        · exact hdis x hx hxE
      have hbn := nx_bd T
      have H1 := hid (show Value.int .u64 (nx T) = .int .u64 (drawSt count S (j + 1)).1 by rw [e1])
      have H2 := hid e2
      have H3 := hid e3
      have H4 := hid hp
      have H5 := hid hn
      have H6 := hid hEl
      have H7 := hid hdis'
      clear e1 e2 e3 hp hn hdis hdis' f1 f2 hT' heE heD hll hmem hnD hEl
      go_wp2_with fail
      refine (seedNext_any T _ hsb.1 hsb.2).mono ?_
      rintro e w' ⟨rfl, hq⟩
      replace hq := hq.symm
      subst hq
      go_wp2_with fail
      refine (size_any E _ hE).mono ?_
      rintro e w2 ⟨rfl, hd2⟩
      have hn2' := hnx.trans (hd2.below _)
      have hT2 := hT.below hn2'
      go_wp2_with fail
      refine (seedPick_any (nx T) ((bitsOf E).length : Int) _ hbn.1 hbn.2 (by omega) (by rw [H6.out]; omega)).mono ?_
      rintro e w' ⟨rfl, hq⟩
      replace hq := hq.symm
      subst hq
      rw [H4.out]
      go_wp2_with fail
      refine (at_any E p _ hE hpl hT2).mono ?_
      rintro e w' ⟨rfl, hq⟩
      replace hq := hq.symm
      subst hq
      rw [H5.out]
      go_wp2_with fail
      refine (with_any D n _ (by omega) hn24).mono ?_
      rintro e w' ⟨rfl, hq⟩
      replace hq := hq.symm
      subst hq
      go_wp2_with fail
      refine (without_any E n _ (by omega) hn24).mono ?_
      rintro e w' ⟨rfl, hq⟩
      replace hq := hq.symm
      subst hq
      go_wp2_with fail
      go_roundw
      case rel => exact ⟨j + 1, D ||| 2 ^ n, outB E n, by omega, by go_num, H1.out, rfl, rfl, hD', hE', H2.out.symm, H3.out.symm, H7.out, hn2'⟩
      case measure => simp [intOf]; omega
    · obtain rfl : d = j := by omega
      have HD := hid heD
      clear heE heD hdis hll
      go_wp2_with fail
      refine (numbers_any D _ hD hTr).mono ?_
      rintro e w2 ⟨v, rfl, ho, hb2⟩
      go_wp2_with fail
      go_ret
      refine ⟨_, rfl, ?_, hnx.trans (hb2.mono hnx.size)⟩
      have := owns_base ho hnx.size
      rw [HD.out] at this
      exact this
end Go.Proofs.YtcoofoiaaljpoaaDoor
namespace Go.Proofs.YtcoofoiaaljpoaaDoor
open Go.ChangeShapes Go.WideShapes Go.ChangeAt Go.RowKit

set_option maxRecDepth 100000 in
theorem implRowDraw_out (c s : Int) (w : World) (h : ¬ ((1 ≤ c ∧ c ≤ 24) ∧ 0 ≤ s ∧ s ≤ 2147483647)) :
    Calls Tryd.prog 49 #[.int .i64 c, .int .i64 s] w fun e w' => ∃ v, e = .returned v ∧ w'.ownsRow w.heap.size 3 1 v ([] : List Int).length (([] : List Int).map (Value.int .i64)) ∧ Below w.heap.size w w' := by
  by_cases hs : 0 ≤ s ∧ s ≤ 2147483647
  · by_cases hc : c < 1
    · clear h
      go_enter Tryd.func49, Tryd.ntmps49
      go_wp2_with (go_at_call 53; refine (seedOf_in s _ hs.1 hs.2).mono ?_; rintro e w' ⟨rfl, hq⟩; replace hq := hq.symm; subst hq)
      go_ret
      exact ⟨_, rfl, World.ownsRow_nil _ _ _ _, Below.refl _ _⟩
    · have hc2 : (24 : Int) < c := by omega
      clear h
      go_enter Tryd.func49, Tryd.ntmps49
      go_wp2_with (go_at_call 53; refine (seedOf_in s _ hs.1 hs.2).mono ?_; rintro e w' ⟨rfl, hq⟩; replace hq := hq.symm; subst hq)
      go_ret
      exact ⟨_, rfl, World.ownsRow_nil _ _ _ _, Below.refl _ _⟩
  · have hs2 : s < 0 ∨ 2147483647 < s := by omega
    clear h hs
    go_enter Tryd.func49, Tryd.ntmps49
    go_wp2_with (go_at_call 53; refine (seedOf_out s _ hs2).mono ?_; rintro e w' ⟨rfl, hq⟩; replace hq := hq.symm; subst hq)
    go_ret
    exact ⟨_, rfl, World.ownsRow_nil _ _ _ _, Below.refl _ _⟩
end Go.Proofs.YtcoofoiaaljpoaaDoor
