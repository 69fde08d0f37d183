/- The row of a symbol, by the model. -/
import Derived.Test.YtcoofoiaaljpoaaDoorG34
import Derived.Test.YtcoofoiaaljpoaaDoorG11
namespace Go.Proofs.YtcoofoiaaljpoaaDoor
open Go.ChangeShapes Go.WideShapes Go.ChangeAt Go.RowKit Go.Sort

set_option maxHeartbeats 4000000 in
set_option maxRecDepth 100000 in
theorem l5Window_any (long size id : Int) (a1 a2 : Option Addr) (c1 c2 : Nat) (ws gs : List Int) (w : World) (ha1 : IntsAt w a1 ws) (ha2 : IntsAt w a2 gs) (hw : winP (cntI long size) ws) (hg : wgtP ws.length gs) (i0 : 0 ≤ id) (i1 : id ≤ 9999) :
    Calls Tryd.prog 26 #[.agg #[.int .i64 long, .int .i64 size, .slice a1 ws.length c1, .slice a2 gs.length c2], .int .i64 id] w fun e w' => e = .returned (.int .i64 (winN ws gs id)) ∧ Below w.heap.size w w' := by
  have hgl : gs.length ≤ 3 := by have := hw.2.1; have := hg.2; omega
  have X1 := hid (laid w #[.int .i64 long, .int .i64 size, .slice a1 ws.length c1, .slice a2 gs.length c2] 28)
  have J1 := hid (ha1.alloc (.cells #[.int .i64 long, .int .i64 size, .slice a1 ws.length c1, .slice a2 gs.length c2] 28))
  have J2 := hid (ha2.alloc (.cells #[.int .i64 long, .int .i64 size, .slice a1 ws.length c1, .slice a2 gs.length c2] 28))
  have HW := hid hw
  have HG := hid hg
  have hll : ws.length = gs.length := hg.2.symm
  have HL := hid hll
  clear ha1 ha2 hw hg hll
  go_enter Tryd.func26, Tryd.ntmps26
  go_wp2_with fail
  go_loop [5, 6] (fun u i => ∃ j : Nat, j ≤ gs.length ∧ i = .int .i64 j ∧ u = .int .i64 ((gs.take j).sum)) (fun _ i => gs.length - (intOf i).toNat)
  case atStart => exact ⟨0, Nat.zero_le _, rfl, rfl⟩
  case round =>
    obtain ⟨j, hj, rfl, rfl⟩ := hrel
    have hs := wgt_sum HG.out j hj
    by_cases hjl : j < gs.length
    · obtain ⟨b2, o2, rfl, hc2⟩ := J2.out (by intro h; simp [h] at hjl)
      have g1 := hc2 j hjl
      have hgg := HG.out.1 j hjl
      have HS := hid (sum_snoc gs j hjl)
      obtain ⟨Y, hY⟩ : ∃ Y, Y = gs.getD j 0 := ⟨_, rfl⟩
      obtain ⟨U, hU⟩ : ∃ U, U = (gs.take j).sum := ⟨_, rfl⟩
      rw [← hY] at g1 hgg HS
      rw [← hU] at hs HS ⊢
      obtain ⟨y1, y2⟩ := hgg
      obtain ⟨u1, u2, u3⟩ := hs
      clear hc2 hY hU
      go_wp2_with fail
      go_round
      case rel => exact ⟨j + 1, by omega, by go_num, by rw [HS.out]⟩
      case measure => simp [intOf]; omega
    · obtain rfl : j = gs.length := by omega
      rw [List.take_length] at hs ⊢
      obtain ⟨k0, k1, k2, k3⟩ := pk_bd HG.out HW.out.1 HW.out.2.1 id
      have hnx : nextI id = nx id := nextI_in (by omega) (by omega)
      have hnb := next_bd id
      have EK := hid (show nx id / 256 % gs.sum = pkOf gs id by
        unfold pkOf; rw [pickI_in hnb.1 hnb.2 (by omega) (by omega), hnx])
      rw [hnx] at hnb
      clear hs hnx
      go_wp2_with fail
      refine (l4Next_any id _ (by omega) (by omega)).mono ?_
      rintro e wa ⟨rfl, hq⟩
      subst hq
      go_wp2_with fail
      refine (l4Pick_any (nx id) gs.sum _ hnb.1 hnb.2 (by omega) (by omega)).mono ?_
      rintro e wb ⟨rfl, hq⟩
      rw [EK.out]
      subst hq
      obtain ⟨pk, hpk⟩ : ∃ pk, pk = pkOf gs id := ⟨_, rfl⟩
      have EW := hid (show winOf ws gs pk = winN ws gs id by rw [hpk]; rfl)
      rw [← hpk] at k0 k1 ⊢
      have HK := hid k1
      clear hpk EK k1 hnb
      go_wp2_with fail
      go_loop [7, 8] (fun u i => ∃ j : Nat, j ≤ gs.length ∧ i = .int .i64 j ∧ u = .int .i64 (pk - (gs.take j).sum) ∧ (gs.take j).sum ≤ pk ∧ winOf ws gs pk = winOf (ws.drop j) (gs.drop j) (pk - (gs.take j).sum)) (fun _ i => gs.length - (intOf i).toNat)
      case atStart => exact ⟨0, Nat.zero_le _, rfl, by simp, by simpa using k0, by simp⟩
      case round =>
        obtain ⟨j, hj, rfl, rfl, s2, hwj⟩ := hrel
        have hs := wgt_sum HG.out j hj
        have HWJ := hid hwj
        have hkk := HK.out
        clear hwj
        by_cases hlt : j < gs.length
        · have hjw : j < ws.length := by have := HL.out; omega
          obtain ⟨b2, o2, rfl, hc2⟩ := J2.out (by intro h; simp [h] at hlt)
          obtain ⟨b1, o1, rfl, hc1⟩ := J1.out (by intro h; simp [h] at hjw)
          have g1 := hc2 j hlt
          have g2 := hc1 j hjw
          have hgg := HG.out.1 j hlt
          have HS := hid (sum_snoc gs j hlt)
          have HD1 := hid (drop_at hjw)
          have HD2 := hid (drop_at hlt)
          obtain ⟨Y, hY⟩ : ∃ Y, Y = gs.getD j 0 := ⟨_, rfl⟩
          obtain ⟨V, hV⟩ : ∃ V, V = ws.getD j 0 := ⟨_, rfl⟩
          obtain ⟨U, hU⟩ : ∃ U, U = (gs.take j).sum := ⟨_, rfl⟩
          rw [← hY] at g1 hgg HS HD2
          rw [← hV] at g2 HD1
          rw [← hU] at hs s2 HWJ HS ⊢
          clear hc1 hc2 hY hV hU
          obtain ⟨y1, y2⟩ := hgg
          obtain ⟨u1, u2, u3⟩ := hs
          have jl : (j : Int) < (ws.length : Int) := by omega
          by_cases hk : pk - U < Y
          · have HR := hid (show winOf ws gs pk = V by rw [HWJ.out, HD1.out, HD2.out, winOf_yes hk])
            go_wp2_with fail
            go_ret
            exact ⟨ret_int (by rw [← EW.out, HR.out]), below_alloc' _ _⟩
          · have HR := hid (show winOf ws gs pk = winOf (ws.drop (j + 1)) (gs.drop (j + 1)) (pk - (U + Y)) by rw [HWJ.out, HD1.out, HD2.out, winOf_no hk, show pk - U - Y = pk - (U + Y) by omega])
            go_wp2_with fail
            go_round
            case rel => exact ⟨j + 1, by omega, by go_num, by rw [HS.out]; go_num, by rw [HS.out]; omega, by rw [HS.out]; exact HR.out⟩
            case measure => simp [intOf]; omega
        · obtain rfl : j = gs.length := by omega
          rw [List.take_length] at s2
          omega

set_option maxHeartbeats 2000000 in
set_option maxRecDepth 100000 in
theorem l5Row_any (long size id : Int) (a1 a2 : Option Addr) (c1 c2 : Nat) (ws gs : List Int) (w : World) (ha1 : IntsAt w a1 ws) (ha2 : IntsAt w a2 gs) (hp : planP long size ws gs) (i0 : 0 ≤ id) (i1 : id ≤ 9999) :
    Calls Tryd.prog 14 #[.agg #[.int .i64 long, .int .i64 size, .slice a1 ws.length c1, .slice a2 gs.length c2], .int .i64 id] w fun e w' => ∃ v, e = .returned v ∧ w'.ownsRow w.heap.size 3 1 v (rowI long size ws gs id).length ((rowI long size ws gs id).map (Value.int .i64)) ∧ Below w.heap.size w w' := by
  obtain ⟨⟨l1, l2, l3, l4, l5⟩, hw, hg⟩ := hp
  have I1 := hid (ha1.alloc (.cells #[.int .i64 long, .int .i64 size, .slice a1 ws.length c1, .slice a2 gs.length c2] 28))
  have I2 := hid (ha2.alloc (.cells #[.int .i64 long, .int .i64 size, .slice a1 ws.length c1, .slice a2 gs.length c2] 28))
  have HW := hid hw
  have HG := hid hg
  clear ha1 ha2 hw hg
  by_cases hlt : id < cntI long size
  · have HR := hid (show rowI long size ws gs id = [id] from if_pos hlt)
    go_enter Tryd.func14, Tryd.ntmps14
    go_wp2_with fail
    refine (specCount long size _ _ _ _ _ _ _ l1 l2 l3 l4).mono ?_
    rintro e w1 ⟨rfl, b1⟩
    go_wp2_with fail
    go_ret
    have b2 := below_cat' (below_alloc' _ _) b1
    refine ⟨_, rfl, ?_, below_cat' b2 (below_alloc' _ _)⟩
    rw [HR.out]
    exact owns_base (own_one id) b2.size
  · have HR := hid (show rowI long size ws gs id = drawI (winN ws gs id).toNat id from if_neg hlt)
    go_enter Tryd.func14, Tryd.ntmps14
    go_wp2_with fail
    refine (specCount long size _ _ _ _ _ _ _ l1 l2 l3 l4).mono ?_
    rintro e w1 ⟨rfl, b1⟩
    have X1 := hid (kept (laid w #[.int .i64 long, .int .i64 size, .slice a1 ws.length c1, .slice a2 gs.length c2] 28) b1)
    have J1 := hid (I1.out.below b1)
    have J2 := hid (I2.out.below b1)
    have B1 := hid (below_cat' (below_alloc' _ _) b1)
    clear b1 I1 I2
    have p0 := box_cell X1.out 0 (v := .int .i64 long) rfl
    have p1 := box_cell X1.out 1 (v := .int .i64 size) rfl
    have p2 := box_cell X1.out 2 (v := .slice a1 ws.length c1) rfl
    have p3 := box_cell X1.out 3 (v := .slice a2 gs.length c2) rfl
    obtain ⟨v1, v2⟩ := win_bd HW.out HG.out l5 id
    go_wp2_with fail
    refine (l5Window_any long size id a1 a2 c1 c2 ws gs _ J1.out J2.out HW.out HG.out i0 i1).mono ?_
    rintro e wc ⟨rfl, bc⟩
    obtain ⟨N, hN⟩ := Int.eq_ofNat_of_zero_le (show 0 ≤ winN ws gs id by omega)
    have HN := hid hN
    rw [hN] at v1 v2 ⊢
    have B3 := hid (below_cat' B1.out bc)
    clear bc hN
    go_wp2_with fail
    refine (l4Row_any N id _ (by omega) (by omega) (by omega) (by omega)).mono ?_
    rintro e wd ⟨v, rfl, ho, bd⟩
    go_wp2_with fail
    go_ret
    refine ⟨v, rfl, ?_, below_cat' B3.out bd⟩
    rw [HR.out, HN.out, Int.toNat_natCast]
    exact owns_base ho B3.out.size
end Go.Proofs.YtcoofoiaaljpoaaDoor
