/- The row of a symbol of a plan that is ok, by the program. -/
import Derived.Test.YtcoofoiaaljpoaaDoorG21
import Derived.Test.YtcoofoiaaljpoaaDoorG33
namespace Go.Proofs.YtcoofoiaaljpoaaDoor
open Go.ChangeShapes Go.WideShapes Go.ChangeAt Go.RowKit Go.Sort

/-- The row of a symbol. -/
def rowI (long size : Int) (ws gs : List Int) (id : Int) : List Int := if id < cntI long size then [id] else drawI (winN ws gs id).toNat id
theorem own_one {w : World} (x : Int) : (w.alloc (.cells #[.int .i64 x] 3)).ownsRow w.heap.size 3 1 (.slice (some ⟨w.heap.size, 0, none⟩) 1 1) 1 [.int .i64 x] :=
  World.ownsRow_lit w #[.int .i64 x] 1 (Nat.le_refl _) (by unfold maxLen; omega) rfl

set_option maxHeartbeats 4000000 in
set_option maxRecDepth 100000 in
theorem implRow_any (long size id : Int) (a1 a2 : Option Addr) (c1 c2 : Nat) (ws gs : List Int) (w : World) (ha1 : IntsAt w a1 ws) (ha2 : IntsAt w a2 gs) (hp : planP long size ws gs) (i0 : 0 ≤ id) (i1 : id ≤ 9999) (hT : Tab w) :
    Calls Tryd.prog 33 #[.agg #[.int .i64 long, .int .i64 size, .slice a1 ws.length c1, .slice a2 gs.length c2], .int .i64 id] w fun e w' => ∃ v, e = .returned v ∧ w'.ownsRow w.heap.size 3 1 v (rowI long size ws gs id).length ((rowI long size ws gs id).map (Value.int .i64)) ∧ Below w.heap.size w w' := by
  obtain ⟨⟨l1, l2, l3, l4, l5⟩, hw, hg⟩ := hp
  have hgl : gs.length ≤ 3 := by have := hw.2.1; have := hg.2; omega
  have I1 := hid (ha1.alloc (.cells #[.int .i64 long, .int .i64 size, .slice a1 ws.length c1, .slice a2 gs.length c2] 28))
  have I2 := hid (ha2.alloc (.cells #[.int .i64 long, .int .i64 size, .slice a1 ws.length c1, .slice a2 gs.length c2] 28))
  have HW := hid hw
  have HG := hid hg
  have HT := hid hT
  clear ha1 ha2 hw hg hT
  by_cases hlt : id < cntI long size
  · have HR := hid (show rowI long size ws gs id = [id] from if_pos hlt)
    go_enter Tryd.func33, Tryd.ntmps33
    go_wp2_with fail
    refine (implCount long size _ _ _ _ _ _ _ l1 l2 l3 l4).mono ?_
    rintro e w1 ⟨rfl, b1⟩
    go_wp2_with fail
    go_ret
    have b2 := below_cat' (below_alloc' _ _) b1
    refine ⟨_, rfl, ?_, below_cat' b2 (below_alloc' _ _)⟩
    rw [HR.out]
    exact owns_base (own_one id) b2.size
  · have HR := hid (show rowI long size ws gs id = drawI (winN ws gs id).toNat id from if_neg hlt)
    go_enter Tryd.func33, Tryd.ntmps33
    go_wp2_with fail
    refine (implCount long size _ _ _ _ _ _ _ l1 l2 l3 l4).mono ?_
    rintro e w1 ⟨rfl, b1⟩
    have X1 := hid (kept (laid w #[.int .i64 long, .int .i64 size, .slice a1 ws.length c1, .slice a2 gs.length c2] 28) b1)
    have J1 := hid (I1.out.below b1)
    have J2 := hid (I2.out.below b1)
    have B1 := hid (below_cat' (below_alloc' _ _) b1)
    clear b1 I1 I2
    have p0 := box_cell X1.out 0 (v := .int .i64 long) rfl
    have p1 := box_cell X1.out 1 (v := .int .i64 size) rfl
    have p2 := box_cell X1.out 2 (v := .slice a1 ws.length c1) rfl
    have p3 := box_cell X1.out 3 (v := .slice a2 gs.length c2) rfl
    go_wp2_with fail
    go_loop [5, 19] (fun u i => ∃ j : Nat, j ≤ gs.length ∧ i = .int .i64 j ∧ u = .int .i64 ((gs.take j).sum)) (fun _ i => gs.length - (intOf i).toNat)
    case atStart => exact ⟨0, Nat.zero_le _, rfl, rfl⟩
    case round =>
      obtain ⟨j, hj, rfl, rfl⟩ := hrel
      have hs := wgt_sum HG.out j hj
      by_cases hjl : j < gs.length
      · obtain ⟨b2, o2, rfl, hc2⟩ := J2.out (by intro h; simp [h] at hjl)
        have g1 := hc2 j hjl
        have hgg := HG.out.1 j hjl
        have HS := hid (sum_snoc gs j hjl)
        obtain ⟨Y, hY⟩ : ∃ Y, Y = gs.getD j 0 := ⟨_, rfl⟩
        obtain ⟨U, hU⟩ : ∃ U, U = (gs.take j).sum := ⟨_, rfl⟩
        rw [← hY] at g1 hgg HS
        rw [← hU] at hs HS ⊢
        obtain ⟨y1, y2⟩ := hgg
        obtain ⟨u1, u2, u3⟩ := hs
        clear hc2 hY hU
        go_wp2_with fail
        go_round
        case rel => exact ⟨j + 1, by omega, by go_num, by rw [HS.out]⟩
        case measure => simp [intOf]; omega
      · obtain rfl : j = gs.length := by omega
        rw [List.take_length] at hs ⊢
        have hpk := pk_bd HG.out HW.out.1 HW.out.2.1 id
        have hwb := win_bd HW.out HG.out l5 id
        obtain ⟨k0, k1, k2, k3⟩ := hpk
        obtain ⟨v1, v2⟩ := hwb
        have EK := hid (show pickI (nextI id) gs.sum = pkOf gs id from rfl)
        have EW := hid (show winOf ws gs (pkOf gs id) = winN ws gs id from rfl)
        clear hs
        go_wp2_with fail
        refine (implNext id _).mono ?_
        rintro e wa ⟨rfl, hq⟩
        subst hq
        go_wp2_with fail
        refine (implPick (nextI id) gs.sum _).mono ?_
        rintro e wb ⟨rfl, hq⟩
        subst hq
        rw [EK.out]
        obtain ⟨pk, hpk⟩ : ∃ pk, pk = pkOf gs id := ⟨_, rfl⟩
        rw [← hpk] at k0 k1 EW ⊢
        have KP := hid hpk
        clear hpk EK
        have T1 := hid (HT.out.below B1.out)
        have bA := below_alloc' wb (.cells #[.int .i64 pk] 3)
        have hcl : (wb.alloc (.cells #[.int .i64 pk] 3)).cell? ⟨wb.heap.size, 0, none⟩ = some (.int .i64 pk) := box_cell (laid wb #[.int .i64 pk] 3) 0 rfl
        have K1 := hid (J1.out.below bA)
        have K2 := hid (J2.out.below bA)
        have X2 := hid (kept X1.out bA)
        have CL := hid hcl
        have B2 := hid (below_cat' B1.out bA)
        clear bA hcl p0 p1 p2 p3
        have p0 := box_cell X2.out 0 (v := .int .i64 long) rfl
        have p1 := box_cell X2.out 1 (v := .int .i64 size) rfl
        have p2 := box_cell X2.out 2 (v := .slice a1 ws.length c1) rfl
        have p3 := box_cell X2.out 3 (v := .slice a2 gs.length c2) rfl
        go_wp2_with fail
        refine (window_any long size a1 a2 c1 c2 ws gs pk wb.heap.size _ K1.out K2.out CL.out HG.out.2.symm hgl HG.out.1 k0 k1).mono ?_
        rintro e wc ⟨rfl, bc⟩
        rw [EW.out]
        obtain ⟨N, hN⟩ := Int.eq_ofNat_of_zero_le (show 0 ≤ winN ws gs id by omega)
        have HN := hid hN
        rw [hN] at v1 v2 ⊢
        have B3 := hid (below_cat' B2.out bc)
        have T3 := hid (HT.out.below B3.out)
        clear bc hN
        go_wp2_with fail
        refine (implRowDraw_in N id _ (by omega) (by omega) (by omega) (by omega) T3.out).mono ?_
        rintro e wd ⟨v, rfl, ho, bd⟩
        go_wp2_with fail
        go_ret
        refine ⟨v, rfl, ?_, below_cat' B3.out bd⟩
        rw [HR.out, HN.out, Int.toNat_natCast]
        exact owns_base ho B3.out.size
end Go.Proofs.YtcoofoiaaljpoaaDoor
