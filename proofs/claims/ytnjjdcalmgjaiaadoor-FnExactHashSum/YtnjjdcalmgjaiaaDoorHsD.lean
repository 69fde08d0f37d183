/- The words of a block, by the model. -/
import Derived.Test.YtnjjdcalmgjaiaaDoorHsC
import Derived.Test.YtnjjdcalmgjaiaaDoorFrz
import Derived.Test.YtnjjdcalmgjaiaaDoorInrL
namespace Go.Proofs.YtnjjdcalmgjaiaaDoor
open Go.ChangeShapes Go.WideShapes Go.ChangeAt Go.RowKit

theorem Tryd.info38 : (Tryd.prog.info? 38).map (fun i => (i.zero, i.size, i.bytes)) = some (some (.int .u32 0), 1, 4) := by kernel_rfl
abbrev u32s (xs : List Int) : List Value := xs.map (Value.int .u32)
/-- A block of bytes that can be read. -/
def BlkAt (w : World) (g o : Nat) (bs : List Int) : Prop := ∀ j, j < 64 → w.cell? ⟨g, o + j, none⟩ = some (.int .u8 (bs.getD j 0))
theorem BlkAt.below {w w' : World} {g o : Nat} {bs : List Int} (h : BlkAt w g o bs) (hb : Below w.heap.size w w') : BlkAt w' g o bs := fun j hj =>
  (hb.cell (p := ⟨g, o + j, none⟩) (block_lt_of_cell (h j hj))).trans (h j hj)
theorem u32_at (xs : List Int) (i : Nat) (h : i < xs.length) : (u32s xs)[i]? = some (.int .u32 (xs.getD i 0)) := by
  simp [List.getD, h]
set_option maxHeartbeats 4000000 in
set_option maxRecDepth 100000 in
theorem l1Words_any (g o c : Nat) (bs : List Int) (w : World) (_hc : 64 ≤ c) (hb : BlkAt w g o bs) (hbd : ∀ j, 0 ≤ bs.getD j 0 ∧ bs.getD j 0 ≤ 255) :
    Calls Tryd.prog 57 #[.slice (some ⟨g, o, none⟩) 64 c] w fun e w' => ∃ v, e = .returned v ∧ w'.ownsRow w.heap.size 38 1 v 64 (u32s (sprN bs 64)) ∧ Below w.heap.size w w' := by
  obtain ⟨i0, hi, hz0, hz1, hz2⟩ := info_parts Tryd.info38
  obtain ⟨W1, hr, hown, hgr⟩ := run_make_own (P := Tryd.prog) w w.heap.size 66 38 i0 _ 1 Tryd.underlying66 hi hz0 hz1 .i64 .i64 64 (by rw [hz2]; omega) (by unfold maxLen; omega) (Nat.le_refl _)
  replace hr : (Instr.makeSlice 66 (.int .i64 0) (.int .i64 64)).run Tryd.prog w = .ok (.slice (some ⟨w.heap.size, 0, none⟩) 0 64) W1 := hr
  have HB := hid (u_gr hgr)
  have HO := hid hown
  have HBB := hid hb
  have HBD := hid hbd
  have hwl := block_lt_of_cell (hb 0 (by omega))
  clear hb hbd hown hgr
  go_enter Tryd.func57, Tryd.ntmps57
  go_wp2_with fail
  clear hr
  go_loopw [3, 4] (fun v i wr => ∃ k : Nat, k ≤ 16 ∧ i = .int .i64 k ∧ wr.ownsRow w.heap.size 38 1 v k (u32s (sprN bs k)) ∧ Below w.heap.size w wr) (fun _ i _ => 16 - (intOf i).toNat)
  case atStart => exact ⟨0, by omega, rfl, HO.out, HB.out⟩
  case round =>
    obtain ⟨k, hk, rfl, ho, hbw⟩ := hrel
    have HO2 := hid ho
    have HB2 := hid hbw
    have hbs := hbw.size
    obtain ⟨a0, c0, rfl⟩ := owns_slice ho
    clear ho hbw HO HB
    by_cases hlt : k < 16
    · have KB := (HBB.out.below HB2.out)
      have p0 := cell_regrown (KB (4 * k) (by omega))
      have p1 := cell_regrown (KB (4 * k + 1) (by omega))
      have p2 := cell_regrown (KB (4 * k + 2) (by omega))
      have p3 := cell_regrown (KB (4 * k + 3) (by omega))
      have hS : sprN bs (k + 1) = sprN bs k ++ [wordH bs k] := by simp [sprN, hlt]
      unfold wordH at hS
      have HS := hid hS
      clear hS
      obtain ⟨q0a, q0b⟩ := HBD.out (4 * k)
      obtain ⟨q1a, q1b⟩ := HBD.out (4 * k + 1)
      obtain ⟨q2a, q2b⟩ := HBD.out (4 * k + 2)
      obtain ⟨q3a, q3b⟩ := HBD.out (4 * k + 3)
      obtain ⟨b0, e0⟩ : ∃ b0, b0 = bs.getD (4 * k) 0 := ⟨_, rfl⟩
      obtain ⟨b1, e1⟩ : ∃ b0, b0 = bs.getD (4 * k + 1) 0 := ⟨_, rfl⟩
      obtain ⟨b2, e2⟩ : ∃ b0, b0 = bs.getD (4 * k + 2) 0 := ⟨_, rfl⟩
      obtain ⟨b3, e3⟩ : ∃ b0, b0 = bs.getD (4 * k + 3) 0 := ⟨_, rfl⟩
      rw [← e0] at p0 q0a q0b HS
      rw [← e1] at p1 q1a q1b HS
      rw [← e2] at p2 q2a q2b HS
      rw [← e3] at p3 q3a q3b HS
      clear e0 e1 e2 e3 KB
      repeat ((fail_if_success (with_reducible show Code.wp _ (Code.region 5 _ _) _ _ _)); (first | go_values | go_skip | go_guarded | go_step | go_upon | go_back | go_simp))
      refine wp_planzQ 35 (.pull [(0, 34)] (.step 34 (.step 35 (.step 36 .done)))) (by kernel_rfl) (by kernel_rfl) ?_
      intro V0 hw0
      have hbq := of_class hw0
      refine plz_pull ?_
      simp only [cutOut, List.take_succ_cons, List.take_zero, List.drop_zero, List.append_nil]
      repeat (first | go_big_quiet_step (fail) | quiet_step (fail))
      refine wpQuiet_nil ?_
      clear p0 p1 p2 p3 hw0
      refine plz_step rfl (by omega) (fun K hK => ?_)
      go_simp
      refine hK _ _ (class_of (u_cat hbq (u_b1 _ _))) ?_
      clear hK K
      have hoV := owns_below HO2.out hbq
      have hszV : w.heap.size ≤ V0.heap.size := Nat.le_trans hbs hbq.size
      refine plz_last rfl (by omega) (fun K hK => ?_)
      refine step_append_one 66 38 i0 _ 4 Tryd.underlying66 hi hz0 hz1 hz2 rfl _ _ rfl rfl rfl rfl rfl rfl hoV hszV (by omega) (by omega) ?_
      intro v' w1 hown1 hb1
      refine hK _ _ ?_
      clear hK K
      refine plz_last rfl (by omega) (fun K hK => ?_)
      go_simp
      refine hK _ _ ?_
      clear hK K
      refine plz_done ?_
      go_wp2_with fail
      go_roundw
      case rel =>
        refine ⟨k + 1, by omega, by go_num, ?_, (HB2.out.trans (hbq.mono hbs)).trans hb1⟩
        rw [HS.out]
        simpa using hown1
      case measure => simp [intOf]; omega
    · have hk16 := hid (show k = 16 by omega)
      have HO3 := hid (show wr.ownsRow w.heap.size 38 1 (.slice a0 16 c0) 16 (u32s (sprN bs 16)) by have := HO2.out; rw [hk16.out] at this; exact this)
      have hge : 16 ≤ k := by omega
      have hsl : (Value.slice a0 k c0) = .slice a0 16 c0 := by rw [hk16.out]
      rw [hsl]
      clear HO2 hlt hsl
      go_wp2_with fail
      go_loopw [3, 5] (fun v i wr => ∃ k : Nat, 16 ≤ k ∧ k ≤ 64 ∧ i = .int .i64 k ∧ wr.ownsRow w.heap.size 38 1 v k (u32s (sprN bs k)) ∧ Below w.heap.size w wr) (fun _ i _ => 64 - (intOf i).toNat)
      case atStart => exact ⟨16, by omega, by omega, rfl, HO3.out, HB2.out⟩
      case round =>
        obtain ⟨k, hk0, hk, rfl, ho, hbw⟩ := hrel
        have HO := hid ho
        have HB := hid hbw
        have hbs2 := hbw.size
        clear HO3 HB2
        by_cases hlt : k < 64
        · obtain ⟨g0, cp, hv, hg0⟩ := owns_shape ho (by intro e; have := congrArg List.length e; simp [sprN_len] at this; omega)
          subst hv
          have x1 := hid ((ho.cellAt (k - 15) (by omega)).trans (u32_at _ _ (by rw [sprN_len]; omega)))
          have x2 := hid ((ho.cellAt (k - 2) (by omega)).trans (u32_at _ _ (by rw [sprN_len]; omega)))
          have x3 := hid ((ho.cellAt (k - 16) (by omega)).trans (u32_at _ _ (by rw [sprN_len]; omega)))
          have x4 := hid ((ho.cellAt (k - 7) (by omega)).trans (u32_at _ _ (by rw [sprN_len]; omega)))
          have hS : sprN bs (k + 1) = sprN bs k ++ [nextH (sprN bs k) k] := by simp [sprN, show ¬ k < 16 by omega]
          unfold nextH at hS
          obtain ⟨X15, e15⟩ : ∃ x, x = (sprN bs k).getD (k - 15) 0 := ⟨_, rfl⟩
          obtain ⟨X2, e2⟩ : ∃ x, x = (sprN bs k).getD (k - 2) 0 := ⟨_, rfl⟩
          obtain ⟨X16, e16⟩ : ∃ x, x = (sprN bs k).getD (k - 16) 0 := ⟨_, rfl⟩
          obtain ⟨X7, e7⟩ : ∃ x, x = (sprN bs k).getD (k - 7) 0 := ⟨_, rfl⟩
          rw [← e15, ← e2, ← e16, ← e7] at hS
          rw [← e15] at x1
          rw [← e2] at x2
          rw [← e16] at x3
          rw [← e7] at x4
          have HS := hid hS
          have t15 : ((k : Int) - 15).toNat = k - 15 := by omega
          have t2 : ((k : Int) - 2).toNat = k - 2 := by omega
          have t16 : ((k : Int) - 16).toNat = k - 16 := by omega
          have t7 : ((k : Int) - 7).toNat = k - 7 := by omega
          have y1 := x1.out
          have y2 := x2.out
          clear e15 e2 e16 e7 hS ho hbw x1 x2
          repeat ((fail_if_success (with_reducible show Code.wp _ (Code.region 11 _ _) _ _ _)); (first | go_values | go_skip | go_guarded | go_step | go_upon | go_back | (simp only [Int.not_lt, Int.not_le] at *; go_simp)))
          clear y1 y2
          have T := hid (fun W x k (n : Nat) (h0 : 0 < n) (h1 : n < 32) (hk : k = (n : Int)) => l1Turn_at x k n W h0 h1 hk)
          go_wp2_with fail
          refine (T.out wr X15 7 7 (by omega) (by omega) rfl).mono ?_
          rintro e wa ⟨rfl, ba⟩
          go_wp2_with fail
          refine (T.out wa X15 18 18 (by omega) (by omega) rfl).mono ?_
          rintro e wb ⟨rfl, bb⟩
          go_wp2_with fail
          refine (T.out wb X2 17 17 (by omega) (by omega) rfl).mono ?_
          rintro e wc ⟨rfl, bc⟩
          go_wp2_with fail
          refine (T.out wc X2 19 19 (by omega) (by omega) rfl).mono ?_
          rintro e wd ⟨rfl, bd⟩
          have bX := u_cat (u_cat (u_cat ba bb) bc) bd
          have HO := hid (owns_below HO.out bX)
          have HB := hid (HB.out.trans (bX.mono hbs2))
          have z3 := cell_regrown ((bX.cell (p := ⟨g0, k - 16, none⟩) (block_lt_of_cell x3.out)).trans x3.out)
          have z4 := cell_regrown ((bX.cell (p := ⟨g0, k - 7, none⟩) (block_lt_of_cell x4.out)).trans x4.out)
          have hbs3 : w.heap.size ≤ wd.heap.size := Nat.le_trans hbs2 bX.size
          clear ba bb bc bd bX x3 x4 T hbs2
          repeat ((fail_if_success (with_reducible show Code.wp _ (Code.region 13 _ _) _ _ _)); (first | go_values | go_skip | go_guarded | go_step | go_upon | go_back | (simp only [] at *; go_simp)))
          refine wp_planzQ 17 (.pull [(0, 16)] (.step 16 (.step 17 (.step 18 .done)))) (by kernel_rfl) (by kernel_rfl) ?_
          intro V0 hw0
          have hbq := of_class hw0
          refine plz_pull ?_
          simp only [cutOut, List.take_succ_cons, List.take_zero, List.drop_zero, List.append_nil]
          repeat (first | go_big_quiet_step (fail) | quiet_step (fail))
          refine wpQuiet_nil ?_
          clear z3 z4 hw0
          refine plz_step rfl (by omega) (fun K hK => ?_)
          go_simp
          refine hK _ _ (class_of (u_cat hbq (u_b1 _ _))) ?_
          clear hK K
          have hoV := owns_below HO.out hbq
          have hszV : w.heap.size ≤ V0.heap.size := Nat.le_trans hbs3 hbq.size
          refine plz_last rfl (by omega) (fun K hK => ?_)
          refine step_append_one 66 38 i0 _ 4 Tryd.underlying66 hi hz0 hz1 hz2 rfl _ _ rfl rfl rfl rfl rfl rfl hoV hszV (by omega) (by omega) ?_
          intro v' w1 hown1 hb1
          refine hK _ _ ?_
          clear hK K
          refine plz_last rfl (by omega) (fun K hK => ?_)
          go_simp
          refine hK _ _ ?_
          clear hK K
          refine plz_done ?_
          go_wp2_with fail
          go_roundw
          case rel =>
            refine ⟨k + 1, by omega, by omega, by go_num, ?_, (HB.out.trans (hbq.mono hbs3)).trans hb1⟩
            rw [HS.out]
            simpa using hown1
          case measure => simp [intOf]; omega
        · obtain rfl : k = 64 := by omega
          go_wp2_with fail
          go_ret
          exact ⟨_, rfl, HO.out, HB.out⟩
end Go.Proofs.YtnjjdcalmgjaiaaDoor
