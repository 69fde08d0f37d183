/- A sum, by the program. -/
import Derived.Test.YtnjjdcalmgjaiaaDoorHsK
import Derived.Test.YtnjjdcalmgjaiaaDoorHsL
import Derived.Test.YtnjjdcalmgjaiaaDoorHsH
namespace Go.Proofs.YtnjjdcalmgjaiaaDoor
open Go.ChangeShapes Go.WideShapes Go.ChangeAt Go.RowKit

set_option maxHeartbeats 8000000 in
set_option maxRecDepth 100000 in
theorem implHashSum_any (s : ByteArray) (w : World) (hs : s.size ≤ 4294967296) (hk : HKT w) :
    Calls Tryd.prog 11 #[.string s] w fun e w' => e = .returned (.string (strOfNums (hashH (nums s)))) ∧ Below w.heap.size w w' := by
  have HP := hid (fun W => hashPad_any s W hs)
  have HK := hid hk
  have h0 := block_lt_of_cell (hk 0 (by omega))
  have hmod := padH_mod (nums s)
  obtain ⟨M, hM⟩ : ∃ M, M = (padH (nums s)).length / 64 := ⟨_, rfl⟩
  obtain ⟨p, hp⟩ : ∃ p, p = padH (nums s) := ⟨_, rfl⟩
  have hpb : ∀ j, 0 ≤ p.getD j 0 ∧ p.getD j 0 ≤ 255 := by rw [hp]; exact padH_bd s
  have hpl0 := pad_len s
  have hle := noughts_le s.size
  have hH : hashH (nums s) = figL (sumH p M).l := by unfold hashH; rw [← hp, hM, ← hp]
  rw [← hp] at hmod hM hpl0
  rw [hH]
  obtain ⟨PL, hPL⟩ : ∃ PL, PL = p.length := ⟨_, rfl⟩
  rw [← hPL] at hmod hM hpl0
  have hPM : PL = 64 * M := by omega
  have hPB : PL ≤ 4294967296 + 100 := by omega
  have HPB := hid hpb
  have HPL := hid hPL
  have HPP := hid hp
  have HPM := hid hPM
  clear hPM hmod hM hpl0 hle hpb hPL hp hH hk
  go_enter Tryd.func11, Tryd.ntmps11
  go_wp2_with fail
  refine (hashStart_any w).mono ?_
  rintro _ wa ⟨rfl, ba⟩
  repeat ((fail_if_success (with_reducible show wpList _ _ _ [_] _ _)); (first | go_values | go_step | go_upon | go_back | go_simp))
  obtain ⟨V1, hV1⟩ : ∃ V1, V1 = wa.alloc (.cells (arrC [] 8) 41) := ⟨_, rfl⟩
  refine (fun (key : ∀ U, U = V1 → wpList _ _ _ _ _ U) => key _ (by rw [hV1]; kernel_rfl)) ?_
  intro U hU
  subst hU
  have y3 : U.heap[wa.heap.size]? = some (.cells (arrC [] 8) 41 (0, 0)) := by rw [hV1]; exact laid wa _ _
  have hza : w.heap.size ≤ wa.heap.size := ba.size
  have bU : Below w.heap.size w U := by rw [hV1]; exact ba.trans ((u_b1 wa _).mono hza)
  clear hV1
  refine wpList_plain rfl fun K hK => ?_
  refine wp_store_row 41 _ _ rfl wa.heap.size (stC hash0) (by rfl) (by rfl) 41 (arrC [] 8) y3 info8 (by rw [arrC_size]; rfl) (stC_one _) ?_
  refine hK _ _ ?_
  clear hK K
  obtain ⟨Z, hZ⟩ : ∃ Z, Z = U.setRow wa.heap.size (stC hash0) := ⟨_, rfl⟩
  have HB0 := hid (show Below w.heap.size w Z by rw [hZ]; exact below_setRow bU hza _)
  have HX0 := hid (show Z.heap[wa.heap.size]? = some (.cells (stC hash0) 41 (0, 0)) by rw [hZ]; exact setRow_heap _ _ _ _ _ _ y3)
  rw [← hZ]
  clear hZ y3 bU ba
  go_wp2_with fail
  refine (HP.out Z).mono ?_
  rintro e wp ⟨v, rfl, ov, bv⟩
  rw [← HPP.out] at ov
  rw [← HPL.out] at ov
  obtain ⟨gp, cap, rfl, hgp0, hcap, hcapm, hcell⟩ := ov.cell
  have hgp1 := (ov.lt gp rfl).2
  have hgz := lt_of_block HX0.out
  have hne : wa.heap.size ≠ gp := by omega
  have HC := hid hcell
  have HX1 := hid (kept HX0.out bv)
  have HB1 := hid (HB0.out.trans (bv.mono HB0.out.size))
  clear ov bv hcell HX0 HB0 HP hgp0
  go_wp2_with fail
  go_loopw [5] (fun i wr => ∃ n a : Nat, n ≤ M ∧ a = 64 * n ∧ i = .int .i64 a ∧ wr.heap[wa.heap.size]? = some (.cells (stC (sumH p n)) 41 (0, 0)) ∧ wr.heap[gp]? = wp.heap[gp]? ∧ gp < wr.heap.size ∧ Below w.heap.size w wr) (fun i _ => PL - (intOf i).toNat)
  case atStart => exact ⟨0, 0, by omega, rfl, rfl, HX1.out, rfl, hgp1, HB1.out⟩
  case round =>
    obtain ⟨n, a, hn, ha, rfl, hx, hgp, hgps, hbw⟩ := hrel
    have HX := hid hx
    have HB := hid hbw
    have HA := hid ha
    have HG := hid hgp
    obtain ⟨S, eS⟩ : ∃ S, S = sumH p n := ⟨_, rfl⟩
    rw [← eS] at HX
    have ES := hid eS
    clear hx hbw eS hgp
    by_cases hlt : n < M
    · have hA : a + 64 ≤ PL := by have := HPM.out; omega
      have hA2 : a < PL := by omega
      have hA3 : a + 64 ≤ cap := by omega
      have e64 : a + 64 - a = 64 := by omega
      clear ha
      repeat ((fail_if_success (with_reducible show Code.wp _ (Code.region 6 _ _) _ _ _)); (first | go_values | go_skip | go_guarded | go_step | go_upon | go_back | (simp only [Int.not_lt, Int.not_le] at *; go_simp)))
      have p0 := cell_regrown (box_cell HX.out 0 (v := .int .u32 S.a) rfl)
      have p1 := cell_regrown (box_cell HX.out 1 (v := .int .u32 S.b) rfl)
      have p2 := cell_regrown (box_cell HX.out 2 (v := .int .u32 S.c) rfl)
      have p3 := cell_regrown (box_cell HX.out 3 (v := .int .u32 S.d) rfl)
      have p4 := cell_regrown (box_cell HX.out 4 (v := .int .u32 S.e) rfl)
      have p5 := cell_regrown (box_cell HX.out 5 (v := .int .u32 S.f) rfl)
      have p6 := cell_regrown (box_cell HX.out 6 (v := .int .u32 S.g) rfl)
      have p7 := cell_regrown (box_cell HX.out 7 (v := .int .u32 S.h) rfl)
      refine wp_planzQ 8 (.pull [(0, 6)] (.step 6 (.step 7 (.step 8 .done)))) (by kernel_rfl) (by kernel_rfl) ?_
      intro V0 hw0
      have hbq := of_class hw0
      refine plz_pull ?_
      simp only [cutOut, List.take_succ_cons, List.take_zero, List.drop_zero, List.append_nil]
      repeat (first | go_big_quiet_step (fail) | quiet_step (fail))
      refine wpQuiet_nil ?_
      clear p0 p1 p2 p3 p4 p5 p6 p7 hw0
      have HG2 := hid (show V0.heap[gp]? = wp.heap[gp]? by rw [hbq.block gp hgps]; exact HG.out)
      have hcall := hid (hashSpread_any gp a (cap - a) ((p.drop a).take 64) V0 (by omega) (fun j hj => by
        have h1 := HC.out (a + j) (.int .u8 (p.getD (a + j) 0)) (u8_at p (a + j) (by rw [← HPL.out]; omega))
        have h2 : V0.cell? ⟨gp, a + j, none⟩ = wp.cell? ⟨gp, a + j, none⟩ := World.cell?_of_block HG2.out
        rw [h2, h1, blk_get p a j hj]) (fun j => by
        rcases Nat.lt_or_ge j 64 with h | h
        · rw [blk_get p a j h]; exact HPB.out _
        · rw [List.getD, List.getElem?_eq_none (by simp; omega)]; exact ⟨by decide, by decide⟩))
      refine plz_step rfl (by omega) (fun K hK => ?_)
      go_simp
      try rw [e64]
      refine hcall.out.mono ?_
      rintro _ wb ⟨rfl, bb⟩
      have cb := u_cat hbq bb
      refine hK _ _ (class_of cb) ?_
      clear hK K hcall
      refine plz_step rfl (by omega) (fun K hK => ?_)
      go_simp
      have HKb := hid (HK.out.below h0 (HB.out.trans (cb.mono HB.out.size)))
      refine (behind_any S (sprN ((p.drop a).take 64) 64) wb HKb.out).mono ?_
      rintro _ wc ⟨rfl, bc⟩
      have cc := u_cat cb bc
      refine hK _ _ (class_of cc) ?_
      clear hK K
      have HX := hid (kept HX.out cc)
      have HB := hid (HB.out.trans (cc.mono HB.out.size))
      have HG3 := hid (show wc.heap[gp]? = wp.heap[gp]? by rw [cc.block gp hgps]; exact HG.out)
      have hgs3 : gp < wc.heap.size := Nat.lt_of_lt_of_le hgps cc.size
      clear hbq bb cb bc cc HG2 HG HKb
      refine plz_last rfl (by omega) (fun K hK => ?_)
      rw [if_pos (by rfl)]
      refine wp_store_row 41 _ _ rfl wa.heap.size (stC (behindH S (sprN ((p.drop a).take 64) 64))) (by rfl) (by rfl) 41 (stC S) HX.out info8 rfl (stC_one _) ?_
      refine hK _ _ ?_
      clear hK K
      refine plz_done ?_
      obtain ⟨Z2, hZ2⟩ : ∃ Z, Z = wc.setRow wa.heap.size (stC (behindH S (sprN ((p.drop a).take 64) 64))) := ⟨_, rfl⟩
      have GB := hid (show Below w.heap.size w Z2 by rw [hZ2]; exact below_setRow HB.out hza _)
      have GX := hid (show Z2.heap[wa.heap.size]? = some (.cells (stC (behindH S (sprN ((p.drop a).take 64) 64))) 41 (0, 0)) by rw [hZ2]; exact setRow_heap _ _ _ _ _ _ HX.out)
      have GG := hid (show Z2.heap[gp]? = wp.heap[gp]? by rw [hZ2, setRow_other _ _ _ _ (by omega)]; exact HG3.out)
      have hgs4 : gp < Z2.heap.size := by rw [hZ2]; simpa [World.setRow] using hgs3
      rw [← hZ2]
      clear hZ2 HX HB HG3
      go_wp2_with fail
      go_roundw
      case rel =>
        refine ⟨n + 1, a + 64, by omega, by have := HA.out; omega, by go_num, ?_, GG.out, hgs4, GB.out⟩
        have := GX.out
        rw [ES.out, HA.out] at this
        exact this
      case measure => simp [intOf]; omega
    · have hA : a = PL := by have := HPM.out; omega
      have hM2 := hid (show S = sumH p M by rw [ES.out, show n = M by omega])
      clear ha HC HG
      repeat ((fail_if_success (with_reducible show Code.wp _ (Code.region 7 _ _) _ _ _)); (first | go_values | go_skip | go_guarded | go_step | go_upon | go_back | (simp only [Int.not_lt, Int.not_le] at *; go_simp)))
      refine wp_region_list ?_
      simp only []
      refine wpList_load_row rfl 41 _ rfl wa.heap.size (by rfl) 41 (stC S) (0, 0) _ HX.out Tryd.underlying41 rfl info8 ?_
      go_wp2_with fail
      refine (figures_any S wr (by rw [hM2.out]; exact sumH_bd p M)).mono ?_
      rintro _ wd ⟨rfl, bd⟩
      go_wp2_with fail
      go_ret
      exact ⟨by rw [← hM2.out]; rfl, HB.out.trans (bd.mono HB.out.size)⟩
end Go.Proofs.YtnjjdcalmgjaiaaDoor
