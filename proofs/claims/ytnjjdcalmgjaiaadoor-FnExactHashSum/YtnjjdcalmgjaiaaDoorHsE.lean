/- The words of a block, by the program. -/
import Derived.Test.YtnjjdcalmgjaiaaDoorHsD
import Derived.Deep.WholeRow
namespace Go.Proofs.YtnjjdcalmgjaiaaDoor
open Go.ChangeShapes Go.WideShapes Go.ChangeAt Go.RowKit

/-- The cells of an array of words, some of which are told. -/
def arrC (xs : List Int) (n : Nat) : Array Value := ((List.range n).map fun i => Value.int .u32 (xs.getD i 0)).toArray
theorem arrC_at (xs : List Int) (n i : Nat) (h : i < n) : (arrC xs n)[i]? = some (Value.int .u32 (xs.getD i 0)) := by
  simp [arrC, List.getElem?_range h]
theorem arrC_size (xs : List Int) (n : Nat) : (arrC xs n).size = n := by simp [arrC]
theorem arrC_set (xs : List Int) (x : Int) (n : Nat) (h : xs.length < n) : (arrC xs n).setIfInBounds xs.length (Value.int .u32 x) = arrC (xs ++ [x]) n := by
  apply Array.ext_getElem?
  intro i
  rw [Array.getElem?_setIfInBounds, arrC_size]
  by_cases hi : i < n
  · rw [arrC_at _ _ _ hi, arrC_at _ _ _ hi]
    by_cases h1 : xs.length = i
    · subst h1
      simp [h, List.getD]
    · rw [if_neg h1]
      congr 2
      simp only [List.getD, List.getElem?_append]
      by_cases h2 : i < xs.length
      · rw [if_pos h2]
      · rw [if_neg h2, List.getElem?_eq_none (by omega), List.getElem?_eq_none (by simp; omega)]
  · rw [if_neg (by omega)]
    rw [Array.getElem?_eq_none (by rw [arrC_size]; omega), Array.getElem?_eq_none (by rw [arrC_size]; omega)]
theorem arrC_one (xs : List Int) (n : Nat) : (arrC xs n).all (·.oneCell') = true := by
  rw [Array.all_eq_true_iff_forall_mem]
  intro v hv
  simp only [arrC, List.mem_toArray, List.mem_map] at hv
  obtain ⟨i, _, rfl⟩ := hv
  rfl
theorem info64 : (Tryd.prog.info? 45).map (·.size) = some 64 := by kernel_rfl
set_option maxHeartbeats 8000000 in
set_option maxRecDepth 100000 in
theorem hashSpread_any (g o c : Nat) (bs : List Int) (w : World) (hc : 64 ≤ c) (hb : BlkAt w g o bs) (hbd : ∀ j, 0 ≤ bs.getD j 0 ∧ bs.getD j 0 ≤ 255) :
    Calls Tryd.prog 30 #[.slice (some ⟨g, o, none⟩) 64 c] w fun e w' => e = .returned (.agg (arrC (sprN bs 64) 64)) ∧ Below w.heap.size w w' := by
  have HBB := hid hb
  have HBD := hid hbd
  have hwl := block_lt_of_cell (hb 0 (by omega))
  clear hb hbd
  obtain ⟨W0, hW0⟩ : ∃ W0, W0 = (w.alloc (.cells (arrC [] 64) 45)).alloc (.cells (arrC [] 64) 45) := ⟨_, rfl⟩
  obtain ⟨X0, X1, B0⟩ := u_box2 (w := w) (c := arrC [] 64) (t := 45) (d := arrC [] 64) (s := 45) (w1 := W0) (by rw [hW0]; exact Below.refl _ _)
  have HR := hid X0
  have HX := hid X1
  have HB := hid B0
  clear X0 X1 B0
  go_enter Tryd.func30, Tryd.ntmps30
  repeat ((fail_if_success (with_reducible show Code.wp _ (Code.region 2 _ _) _ _ _)); (first | go_values | go_skip | go_guarded | go_step | go_upon | go_back | go_simp))
  refine (fun (key : ∀ V, V = W0 → Code.wp _ _ _ _ V) => key _ (by rw [hW0]; kernel_rfl)) ?_
  intro V hV
  subst hV
  clear hW0
  go_wp2_with fail
  go_loopw [11] (fun i wr => ∃ k : Nat, k ≤ 16 ∧ i = .int .i64 k ∧ wr.heap[w.heap.size + 1]? = some (.cells (arrC (sprN bs k) 64) 45 (0, 0)) ∧ wr.heap[w.heap.size]? = some (.cells (arrC [] 64) 45 (0, 0)) ∧ Below w.heap.size w wr) (fun i _ => 16 - (intOf i).toNat)
  case atStart => exact ⟨0, by omega, rfl, HX.out, HR.out, HB.out⟩
  case round =>
    obtain ⟨k, hk, rfl, hx, hr, hbw⟩ := hrel
    have HX2 := hid hx
    have HR2 := hid hr
    have HB2 := hid hbw
    clear hx hr hbw HX HR HB
    by_cases hlt : k < 16
    · have KB := (HBB.out.below HB2.out)
      have p0 := cell_regrown (show wr.cell? ⟨g, o + 4 * k, none⟩ = _ from KB (4 * k) (by omega))
      have p1 := cell_regrown (show wr.cell? ⟨g, o + 4 * k + 1, none⟩ = _ from KB (4 * k + 1) (by omega))
      have p2 := cell_regrown (show wr.cell? ⟨g, o + 4 * k + 2, none⟩ = _ from KB (4 * k + 2) (by omega))
      have p3 := cell_regrown (show wr.cell? ⟨g, o + 4 * k + 3, none⟩ = _ from KB (4 * k + 3) (by omega))
      have px := cell_regrown (box_cell HX2.out k (arrC_at (sprN bs k) 64 k (by omega)))
      have hf := box_frozen HX2.out k
      have hS : sprN bs (k + 1) = sprN bs k ++ [wordH bs k] := by simp [sprN, hlt]
      unfold wordH at hS
      have HS := hid hS
      clear hS
      obtain ⟨q0a, q0b⟩ := HBD.out (4 * k)
      obtain ⟨q1a, q1b⟩ := HBD.out (4 * k + 1)
      obtain ⟨q2a, q2b⟩ := HBD.out (4 * k + 2)
      obtain ⟨q3a, q3b⟩ := HBD.out (4 * k + 3)
      obtain ⟨b0, e0⟩ : ∃ b0, b0 = bs.getD (4 * k) 0 := ⟨_, rfl⟩
      obtain ⟨b1, e1⟩ : ∃ b0, b0 = bs.getD (4 * k + 1) 0 := ⟨_, rfl⟩
      obtain ⟨b2, e2⟩ : ∃ b0, b0 = bs.getD (4 * k + 2) 0 := ⟨_, rfl⟩
      obtain ⟨b3, e3⟩ : ∃ b0, b0 = bs.getD (4 * k + 3) 0 := ⟨_, rfl⟩
      rw [← e0] at p0 q0a q0b HS
      rw [← e1] at p1 q1a q1b HS
      rw [← e2] at p2 q2a q2b HS
      rw [← e3] at p3 q3a q3b HS
      clear e0 e1 e2 e3 KB
      repeat ((fail_if_success (with_reducible show Code.wp _ (Code.region 6 _ _) _ _ _)); (first | go_values | go_skip | go_guarded | go_step | go_upon | go_back | go_simp))
      refine wp_planzQ 24 (.pull [(0, 24)] (.step 24 .done)) (by kernel_rfl) (by kernel_rfl) ?_
      intro V0 hw0
      have hbq := of_class hw0
      refine plz_pull ?_
      simp only [cutOut, List.take_succ_cons, List.take_zero, List.drop_zero, List.append_nil]
      repeat (first | go_big_quiet_step (fail) | quiet_step (fail))
      refine wpQuiet_nil ?_
      clear p0 p1 p2 p3 px hw0 hf
      have HX3 := hid (kept HX2.out hbq)
      have HR3 := hid (kept HR2.out hbq)
      have HB3 := hid (HB2.out.trans (hbq.mono HB2.out.size))
      have px := box_cell HX3.out k (arrC_at (sprN bs k) 64 k (by omega))
      have hf := box_frozen HX3.out k
      refine plz_last rfl (by omega) (fun K hK => ?_)
      go_simp
      refine hK _ _ ?_
      clear hK K
      refine plz_done ?_
      have hlk : (sprN bs k).length = k := sprN_len bs k
      have HX4 := hid (set_block HX3.out k (Value.int .u32 (bits .or .u32 (bits .or .u32 (bits .or .u32 (b0 * 16777216) (b1 * 65536)) (b2 * 256)) b3)))
      have HR4 := hid (set_other HR3.out (g := w.heap.size + 1) (by omega) k (Value.int .u32 (bits .or .u32 (bits .or .u32 (bits .or .u32 (b0 * 16777216) (b1 * 65536)) (b2 * 256)) b3)))
      have HB4 := hid (u_set HB3.out (g := w.heap.size + 1) (by omega) k (Value.int .u32 (bits .or .u32 (bits .or .u32 (bits .or .u32 (b0 * 16777216) (b1 * 65536)) (b2 * 256)) b3)))
      clear px hf HX3 HR3 HB3
      go_wp2_with fail
      go_roundw
      case rel =>
        refine ⟨k + 1, by omega, by go_num, ?_, HR4.out, HB4.out⟩
        have h1 := HX4.out
        have h2 := arrC_set (sprN bs k) (bits .or .u32 (bits .or .u32 (bits .or .u32 (b0 * 16777216) (b1 * 65536)) (b2 * 256)) b3) 64 (by omega)
        rw [hlk] at h2
        rw [h2, ← HS.out] at h1
        exact h1
      case measure => simp [intOf]; omega
    · have hk16 := hid (show k = 16 by omega)
      have HX5 := hid (show wr.heap[w.heap.size + 1]? = some (.cells (arrC (sprN bs 16) 64) 45 (0, 0)) by have := HX2.out; rw [hk16.out] at this; exact this)
      have hge : 16 ≤ k := by omega
      clear HX2 hlt
      go_wp2_with fail
      go_loopw [6] (fun i wr => ∃ k : Nat, 16 ≤ k ∧ k ≤ 64 ∧ i = .int .i64 k ∧ wr.heap[w.heap.size + 1]? = some (.cells (arrC (sprN bs k) 64) 45 (0, 0)) ∧ wr.heap[w.heap.size]? = some (.cells (arrC [] 64) 45 (0, 0)) ∧ Below w.heap.size w wr) (fun i _ => 64 - (intOf i).toNat)
      case atStart => exact ⟨16, by omega, by omega, rfl, HX5.out, HR2.out, HB2.out⟩
      case round =>
        obtain ⟨k, hk0, hk, rfl, hx, hr, hbw⟩ := hrel
        have HX := hid hx
        have HR := hid hr
        have HB := hid hbw
        clear HX5 HR2 HB2 hx hr hbw
        by_cases hlt : k < 64
        · have hlk : (sprN bs k).length = k := sprN_len bs k
          have hS : sprN bs (k + 1) = sprN bs k ++ [nextH (sprN bs k) k] := by simp [sprN, show ¬ k < 16 by omega]
          unfold nextH at hS
          have x1 := hid (box_cell HX.out (k - 15) (arrC_at (sprN bs k) 64 (k - 15) (by omega)))
          have x2 := hid (box_cell HX.out (k - 2) (arrC_at (sprN bs k) 64 (k - 2) (by omega)))
          obtain ⟨X15, e15⟩ : ∃ x, x = (sprN bs k).getD (k - 15) 0 := ⟨_, rfl⟩
          obtain ⟨X2, e2⟩ : ∃ x, x = (sprN bs k).getD (k - 2) 0 := ⟨_, rfl⟩
          obtain ⟨X16, e16⟩ : ∃ x, x = (sprN bs k).getD (k - 16) 0 := ⟨_, rfl⟩
          obtain ⟨X7, e7⟩ : ∃ x, x = (sprN bs k).getD (k - 7) 0 := ⟨_, rfl⟩
          rw [← e15, ← e2, ← e16, ← e7] at hS
          rw [← e15] at x1
          rw [← e2] at x2
          have HS := hid hS
          have E16 := hid e16
          have E7 := hid e7
          have t15 : ((k : Int) - 15).toNat = k - 15 := by omega
          have t2 : ((k : Int) - 2).toNat = k - 2 := by omega
          have t16 : ((k : Int) - 16).toNat = k - 16 := by omega
          have t7 : ((k : Int) - 7).toNat = k - 7 := by omega
          have HLK := hid hlk
          clear e15 e2 e16 e7 hS hlk
          repeat ((fail_if_success (with_reducible show Code.wp _ (Code.region 11 _ _) _ _ _)); (first | go_values | go_skip | go_guarded | go_step | go_upon | go_back | (simp only [Int.not_lt, Int.not_le] at *; go_simp)))
          have y1 := cell_regrown x1.out
          have y2 := cell_regrown x2.out
          refine wp_planzQ 10 (.pull [(0, 10)] .done) (by kernel_rfl) (by kernel_rfl) ?_
          intro V0 hw0
          have hbq := of_class hw0
          refine plz_pull ?_
          simp only [cutOut, List.take_succ_cons, List.take_zero, List.drop_zero, List.append_nil]
          repeat (first | go_big_quiet_step (fail) | quiet_step (fail))
          refine wpQuiet_nil ?_
          refine plz_done ?_
          have HX3 := hid (kept HX.out hbq)
          have HR3 := hid (kept HR.out hbq)
          have HB3 := hid (HB.out.trans (hbq.mono HB.out.size))
          clear y1 y2 x1 x2 hw0 hbq HX HR HB
          have T := hid (fun W x k (n : Nat) (h0 : 0 < n) (h1 : n < 32) (hk : k = -(n : Int)) => rotl_any x k n W h0 h1 hk)
          go_wp2_with fail
          refine (T.out _ X15 (-7) 7 (by omega) (by omega) rfl).mono ?_
          rintro e wa ⟨rfl, hq⟩; subst hq
          go_wp2_with fail
          refine (T.out _ X15 (-18) 18 (by omega) (by omega) rfl).mono ?_
          rintro e wa ⟨rfl, hq⟩; subst hq
          go_wp2_with fail
          refine (T.out _ X2 (-17) 17 (by omega) (by omega) rfl).mono ?_
          rintro e wa ⟨rfl, hq⟩; subst hq
          go_wp2_with fail
          refine (T.out _ X2 (-19) 19 (by omega) (by omega) rfl).mono ?_
          rintro e wa ⟨rfl, hq⟩; subst hq
          repeat ((fail_if_success (with_reducible show Code.wp _ (Code.region 14 _ _) _ _ _)); (first | go_values | go_skip | go_guarded | go_step | go_upon | go_back | (simp only [] at *; go_simp)))
          have y1 := cell_regrown (box_cell HX3.out (k - 16) (arrC_at (sprN bs k) 64 (k - 16) (by omega)))
          have y2 := cell_regrown (box_cell HX3.out (k - 7) (arrC_at (sprN bs k) 64 (k - 7) (by omega)))
          rw [← E16.out] at y1
          rw [← E7.out] at y2
          refine wp_planzQ 15 (.pull [(0, 15)] (.step 15 .done)) (by kernel_rfl) (by kernel_rfl) ?_
          intro V0 hw0
          have hbq := of_class hw0
          refine plz_pull ?_
          simp only [cutOut, List.take_succ_cons, List.take_zero, List.drop_zero, List.append_nil]
          repeat (first | go_big_quiet_step (fail) | quiet_step (fail))
          refine wpQuiet_nil ?_
          have HX := hid (kept HX3.out hbq)
          have HR := hid (kept HR3.out hbq)
          have HB := hid (HB3.out.trans (hbq.mono HB3.out.size))
          clear y1 y2 hw0 hbq HX3 HR3 HB3 T
          have px := box_cell HX.out k (arrC_at (sprN bs k) 64 k (by omega))
          have hf := box_frozen HX.out k
          refine plz_last rfl (by omega) (fun K hK => ?_)
          go_simp
          refine hK _ _ ?_
          clear hK K px hf
          refine plz_done ?_
          obtain ⟨NX, hNX⟩ : ∃ NX, sprN bs (k + 1) = sprN bs k ++ [NX] := ⟨_, HS.out⟩
          have hNX2 := List.append_cancel_left (hNX.symm.trans HS.out)
          simp only [List.cons.injEq, and_true] at hNX2
          rw [show (2 : Int) ^ 3 = 8 from rfl, show (2 : Int) ^ 10 = 1024 from rfl] at hNX2
          rw [← hNX2]
          clear hNX2
          have HX4 := hid (set_block HX.out k (Value.int .u32 NX))
          have HR4 := hid (set_other HR.out (g := w.heap.size + 1) (by omega) k (Value.int .u32 NX))
          have HB4 := hid (u_set HB.out (g := w.heap.size + 1) (by omega) k (Value.int .u32 NX))
          clear HX HR HB
          go_wp2_with fail
          go_roundw
          case rel =>
            refine ⟨k + 1, by omega, by omega, by go_num, ?_, HR4.out, HB4.out⟩
            have h1 := HX4.out
            have h2 := arrC_set (sprN bs k) NX 64 (by rw [HLK.out]; omega)
            rw [HLK.out] at h2
            rw [h2, ← hNX] at h1
            exact h1
          case measure => simp [intOf]; omega
        · have hk64 := hid (show k = 64 by omega)
          have HX5 := hid (show wr.heap[w.heap.size + 1]? = some (.cells (arrC (sprN bs 64) 64) 45 (0, 0)) by have := HX.out; rw [hk64.out] at this; exact this)
          have hge : 64 ≤ k := by omega
          clear HX hlt
          repeat ((fail_if_success (with_reducible show Code.wp _ (Code.region 15 _ _) _ _ _)); (first | go_values | go_skip | go_guarded | go_step | go_upon | go_back | (simp only [Int.not_lt, Int.not_le] at *; go_simp)))
          refine wp_region_list ?_
          simp only []
          refine wpList_load_row rfl 45 _ rfl (w.heap.size + 1) (by rfl) 45 (arrC (sprN bs 64) 64) (0, 0) _ HX5.out Tryd.underlying45 rfl (by rw [arrC_size]; exact info64) ?_
          refine wpList_plain rfl fun K hK => ?_
          refine wp_store_row 45 _ _ rfl w.heap.size (arrC (sprN bs 64) 64) (by rfl) (by rfl) 45 (arrC [] 64) HR.out (by rw [arrC_size]; exact info64) (by rw [arrC_size, arrC_size]) (arrC_one _ _) ?_
          refine hK _ _ ?_
          clear hK K
          obtain ⟨VV, hVV⟩ : ∃ VV, VV = wr.setRow w.heap.size (arrC (sprN bs 64) 64) := ⟨_, rfl⟩
          have RV : VV.heap[w.heap.size]? = some (.cells (arrC (sprN bs 64) 64) 45 (0, 0)) := by rw [hVV]; exact setRow_heap wr _ _ _ _ _ HR.out
          have BV : Below w.heap.size w VV := HB.out.trans ⟨by rw [hVV]; rfl, by rw [hVV]; rfl, by rw [hVV]; rfl, by rw [hVV]; simp [World.setRow], fun j hj => by rw [hVV]; exact setRow_other wr _ j _ (by omega)⟩
          rw [← hVV]
          clear hVV HX5 HR HB
          go_wp2_with fail
          refine bodyPost_ret (v := .agg (arrC (sprN bs 64) 64)) ?_ rfl ⟨rfl, BV⟩
          exact results_cell_row Tryd.results30 _ _ w.heap.size 45 (arrC (sprN bs 64) 64) (0, 0) _ (by rfl) RV Tryd.underlying45 rfl (by rw [arrC_size]; exact info64)
end Go.Proofs.YtnjjdcalmgjaiaaDoor
