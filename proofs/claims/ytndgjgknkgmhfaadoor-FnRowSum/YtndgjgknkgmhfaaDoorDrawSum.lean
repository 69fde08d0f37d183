/- The draw of blocks and a row. -/
import Derived.Test.YtndgjgknkgmhfaaDoorRowS
import Derived.Test.YtndgjgknkgmhfaaDoorBlkR
import Derived.Test.YtndgjgknkgmhfaaDoorStrsH
namespace Go.Proofs.YtndgjgknkgmhfaaDoor
open Go.ChangeShapes Go.WideShapes Go.ChangeAt Go.RowKit

theorem getS_le {ss : List ByteArray} {n : Nat} (h : ∀ s ∈ ss, s.size ≤ n) (k : Nat) : (ss.getD k ByteArray.empty).size ≤ n := by
  rcases Nat.lt_or_ge k ss.length with hk | hk
  · rw [getS_eq hk]; exact h _ (List.getElem_mem hk)
  · simp [List.getD, List.getElem?_eq_none hk]

set_option maxHeartbeats 2000000 in
theorem drawRowSum (a : Option Addr) (len cap : Nat) (zs : List Int) (w : World) (h : Bytes w a len cap zs) :
    Calls Tryd.prog 12 #[.slice a len cap] w fun e w' => ∃ p c q d, ∃ (ss : List ByteArray) (ys : List Int), e = .returned (.tuple #[.slice p ss.length c, .slice q ys.length d]) ∧ StrsAt w' p ss ∧ IntsAt w' q ys ∧ ss.length ≤ 100 ∧ ys.length ≤ 200 ∧ (∀ k, (ss.getD k ByteArray.empty).size ≤ 100) ∧ Below w.heap.size w w' := by
  obtain ⟨i0, hi, hz0, hz1, hz2⟩ := info_parts Tryd.info9
  go_enter Tryd.func12, Tryd.ntmps12
  go_wp2_with fail
  refine (l1Open_any a len cap zs _ h).mono ?_
  rintro e w1 ⟨rfl, hr1, hb1⟩
  have HB := hid hb1
  clear h hb1
  obtain ⟨G, hG⟩ : ∃ G, G = w.heap.size := ⟨_, rfl⟩
  rw [← hG] at hr1 ⊢
  have HG := hid hG
  have hglt := hr1.lt
  clear hG
  go_wp2_with fail
  refine (pick_any G 0 17 _ hr1 (by omega) (by omega) (by omega)).mono ?_
  rintro e w2 ⟨r, rfl, ra, rb, hr2, ht2⟩
  obtain ⟨size, rfl⟩ := Int.eq_ofNat_of_zero_le ra
  have HT2 := hid ht2
  have hz2' : G < w2.heap.size := hr2.lt
  clear ht2 hr1
  go_wp2_with fail
  refine (pick_any G (0 + 1) 9 _ (hr2.kept ((Below.refl _ _).alloc (Nat.le_refl _) _)) (by omega) (by omega) (by omega)).mono ?_
  rintro e w3 ⟨r3, rfl, r3a, r3b, hr3, ht3⟩
  obtain ⟨n, rfl⟩ := Int.eq_ofNat_of_zero_le r3a
  have HT3 := hid ht3
  clear ht3 hr2
  have G3 : w2.grownBy w3 (some G) := grown_trans (below_grown ((Below.refl _ _).alloc (Nat.le_refl _) _) _) HT3.out.grown
  have O3 : w3.ownsRow w2.heap.size 9 1 (.slice (some ⟨w2.heap.size, 0, none⟩) 0 0) 0 [] := HT3.out.owns (World.ownsRow_lit w2 #[] 0 (Nat.le_refl _) (Nat.zero_le _) rfl) hz2'
  have HG3 := hid G3
  have HO3 := hid O3
  clear G3 O3
  go_wp2_with fail
  go_loopw [6, 7] (fun v i wr => ∃ (m : Nat) (ss : List ByteArray) (p : Nat), m + ss.length = n ∧ i = .int .i64 m ∧ wr.ownsRow w2.heap.size 9 1 v ss.length (ss.map Value.string) ∧ (∀ s ∈ ss, s.size ≤ 100) ∧ Rd wr G p ∧ p ≤ 2 + 40 * ss.length ∧ w2.grownBy wr (some G)) (fun _ i _ => (intOf i).toNat)
  case atStart => exact ⟨n, [], 2, by simp, rfl, HO3.out, by simp, hr3, by omega, HG3.out⟩
  case round =>
    obtain ⟨m, ss, p, hm, rfl, hown, hsz, hr4, hp, hgr⟩ := hrel
    have HS := hid hsz
    clear hsz hr3 HO3 HG3
    by_cases hlt : 0 < m
    · go_wp2_with fail
      refine (l15Block_any G p size _ hr4 (by omega) (by omega)).mono ?_
      rintro e w5 ⟨s, rfl, hs, hr5, hg5⟩
      have hown5 := owns_grown hown hg5 (fun j hj e => by have := (hown.lt j hj).1; injection e with e; omega)
      have hgr5 := grown_trans hgr hg5
      have hsz5 := hgr5.size
      clear hown hgr hg5
      go_wp2_with (at_builtin; refine append_one 30 9 i0 _ 16 Tryd.underlying30 hi hz0 hz1 hz2 rfl _ _ rfl rfl rfl rfl rfl rfl hown5 hsz5 (by omega) (by omega) ?_; intro v' w6 hown6 hb6)
      go_roundw
      case rel =>
        refine ⟨m - 1, ss ++ [s], p + 2 * size, by simp; omega, by go_num, ?_, ?_, hr5.keptB hb6 hz2', by simp; omega, grown_then hgr5 hb6⟩
        · rw [List.map_append, List.length_append]; exact hown6
        · intro x hx
          rcases List.mem_append.1 hx with h | h
          · exact HS.out x h
          · rw [List.mem_singleton.1 h]; omega
      case measure => simp [intOf]; omega
    · obtain rfl : m = 0 := by omega
      obtain ⟨pv, cv, rfl⟩ := owns_slice hown
      by_cases hl : 0 < ss.length
      · have hl' : decide ((0 : Int) < (ss.length : Int)) = true := decide_eq_true (by omega)
        go_wp2_with fail
        refine (pick_any G p 12 _ hr4 (by omega) (by omega) (by omega)).mono ?_
        rintro e w5 ⟨r5, rfl, r5a, r5b, hr5, ht5⟩
        have hown5 := ht5.owns hown hz2'
        have hgr5 := grown_trans hgr ht5.grown
        clear ht5 hown hgr hr4
        by_cases hz : r5 = 0
        · subst hz
          obtain ⟨gv, cv', hv, hbv⟩ := owns_shape hown5 (by intro h; rw [List.map_eq_nil_iff] at h; simp [h] at hl)
          simp only [Value.slice.injEq] at hv
          obtain ⟨rfl, -, rfl⟩ := hv
          have HO5 := hid hown5
          have HG5 := hid hgr5
          clear hown5 hgr5
          go_wp2_with fail
          refine (pick_any G (p + 1) ss.length _ hr5 (by omega) (by omega) (by omega)).mono ?_
          rintro e w6 ⟨r6, rfl, r6a, r6b, hr6, ht6⟩
          obtain ⟨k, rfl⟩ := Int.eq_ofNat_of_zero_le r6a
          have HO6 := hid (ht6.owns HO5.out hz2')
          have HG6 := hid (grown_trans HG5.out ht6.grown)
          clear ht6 HO5 HG5 hr5
          go_wp2_with fail
          rw [show ((size : Int) + 1) = ((size + 1 : Nat) : Int) by omega]
          refine (l15Block_any G (p + 1 + 1) (size + 1) _ hr6 (by omega) (by omega)).mono ?_
          rintro e w7 ⟨s, rfl, hs, hr7, hg7⟩
          have HO7 := hid (owns_grown HO6.out hg7 (fun j hj e => by have := (HO6.out.lt j hj).1; injection e with e; omega))
          have HG7 := hid (grown_trans HG6.out hg7)
          clear hg7 HO6 HG6 hr6
          have hk : k < ss.length := by omega
          obtain ⟨u, hu⟩ : ∃ u, w7.cell? ⟨gv, k, none⟩ = some u := by
            rw [HO7.out.cellAt k (by omega)]; exact ⟨_, List.getElem?_eq_getElem (by simp; omega)⟩
          have hf := HO7.out.frozenAt k
          have hst := HO7.out.stored k (.string s)
          have HST := hid hst.1
          have hr7' := hr7.keptB ((Below.refl (G + 1) w7).setCell (p := ⟨gv, k, none⟩) (by show G + 1 ≤ gv; omega) (.string s)) (by omega)
          have HG9 := hid (grown_then HG7.out ((Below.refl w2.heap.size w7).setCell (p := ⟨gv, k, none⟩) hbv (.string s)))
          have HSS := hid (show ∀ x ∈ ss.set k s, x.size ≤ 100 from fun x hx => by
            rcases List.mem_or_eq_of_mem_set hx with h | h
            · exact HS.out x h
            · rw [h]; omega)
          have hls : (ss.set k s).length = ss.length := List.length_set
          clear hst hr7
          go_wp2_with fail
          refine (l15BadRow_any G (p + 1 + 1 + 2 * (size + 1)) ss.length _ hr7' (by omega) (by omega)).mono ?_
          rintro e w8 ⟨v8, ys, rfl, ho8, hl8, hm8, hr8, hg8⟩
          obtain ⟨q, d, rfl⟩ := owns_slice ho8
          have HO8 := hid ho8
          have HG8 := hid hg8
          clear ho8 hm8 hg8
          go_wp2_with fail
          go_ret2
          have hg := HG.out
          subst hg
          have hh := HST.out
          rw [← List.map_set] at hh
          have o8 := owns_grown hh HG8.out (fun j hj e => by have := (hh.lt j hj).1; injection e with e; omega)
          rw [← hls] at o8
          obtain ⟨pa, ca, hv, -, sa⟩ := owns_strs o8
          simp only [Value.slice.injEq] at hv
          obtain ⟨rfl, -, rfl⟩ := hv
          have bb : Below w.heap.size w w2 := HB.out.trans (HT2.out.below (Nat.le_refl _))
          have bc := bb.trans (grown_below (grown_trans HG9.out HG8.out) (Nat.le_refl _) bb.size)
          exact ⟨some ⟨gv, 0, none⟩, cv, q, d, ss.set k s, ys, by rw [hls]; rfl, sa, owns_at HO8.out, by omega, by omega, getS_le HSS.out, bc⟩
        · have hz' : (r5 == 0) = false := by rw [beq_eq_false_iff_ne]; exact hz
          have HO5 := hid hown5
          have HG5 := hid hgr5
          clear hown5 hgr5
          go_wp2_with fail
          refine (l15BadRow_any G (p + 1) ss.length _ hr5 (by omega) (by omega)).mono ?_
          rintro e w8 ⟨v8, ys, rfl, ho8, hl8, hm8, hr8, hg8⟩
          obtain ⟨q, d, rfl⟩ := owns_slice ho8
          have HO8 := hid ho8
          have HG8 := hid hg8
          clear ho8 hm8 hg8
          go_wp2_with fail
          go_ret2
          have hg := HG.out
          subst hg
          have o8 := owns_grown HO5.out HG8.out (fun j hj e => by have := (HO5.out.lt j hj).1; injection e with e; omega)
          obtain ⟨pa, ca, hv, -, sa⟩ := owns_strs o8
          simp only [Value.slice.injEq] at hv
          obtain ⟨rfl, -, rfl⟩ := hv
          have bb : Below w.heap.size w w2 := HB.out.trans (HT2.out.below (Nat.le_refl _))
          have bc := bb.trans (grown_below (grown_trans HG5.out HG8.out) (Nat.le_refl _) bb.size)
          exact ⟨_, _, q, d, _, ys, rfl, sa, owns_at HO8.out, by omega, by omega, getS_le HS.out, bc⟩
      · have hl' : decide ((0 : Int) < (ss.length : Int)) = false := decide_eq_false (by omega)
        have HO5 := hid hown
        have HG5 := hid hgr
        clear hown hgr
        go_wp2_with fail
        refine (l15BadRow_any G p ss.length _ hr4 (by omega) (by omega)).mono ?_
        rintro e w8 ⟨v8, ys, rfl, ho8, hl8, hm8, hr8, hg8⟩
        obtain ⟨q, d, rfl⟩ := owns_slice ho8
        have HO8 := hid ho8
        have HG8 := hid hg8
        clear ho8 hm8 hg8
        go_wp2_with fail
        go_ret2
        have hg := HG.out
        subst hg
        have o8 := owns_grown HO5.out HG8.out (fun j hj e => by have := (HO5.out.lt j hj).1; injection e with e; omega)
        obtain ⟨pa, ca, hv, -, sa⟩ := owns_strs o8
        simp only [Value.slice.injEq] at hv
        obtain ⟨rfl, -, rfl⟩ := hv
        have bb : Below w.heap.size w w2 := HB.out.trans (HT2.out.below (Nat.le_refl _))
        have bc := bb.trans (grown_below (grown_trans HG5.out HG8.out) (Nat.le_refl _) bb.size)
        exact ⟨_, _, q, d, _, ys, rfl, sa, owns_at HO8.out, by omega, by omega, getS_le HS.out, bc⟩
end Go.Proofs.YtndgjgknkgmhfaaDoor
