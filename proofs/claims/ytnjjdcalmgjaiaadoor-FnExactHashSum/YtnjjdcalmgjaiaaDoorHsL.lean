/- The state of a sum in figures, by the program. -/
import Derived.Test.YtnjjdcalmgjaiaaDoorHsJ
import Derived.Test.YtnjjdcalmgjaiaaDoorHsI
import Derived.Test.YtnjjdcalmgjaiaaDoorArr
namespace Go.Proofs.YtnjjdcalmgjaiaaDoor
open Go.ChangeShapes Go.WideShapes Go.ChangeAt Go.RowKit

theorem infoA8 : (Tryd.prog.info? 39).map (·.size) = some 8 := by kernel_rfl
theorem stC_at (s : H8) (j : Nat) (hj : j < 8) : (stC s)[j]? = some (.int .u32 (s.l.getD j 0)) := by
  obtain rfl | rfl | rfl | rfl | rfl | rfl | rfl | rfl : j = 0 ∨ j = 1 ∨ j = 2 ∨ j = 3 ∨ j = 4 ∨ j = 5 ∨ j = 6 ∨ j = 7 := by omega
  all_goals rfl
theorem arr_at_8 (s : H8) (k : Nat) (x : Int) (W : World) (hk : k < 8) (hc : (stC s)[k]? = some (.int .u32 x)) : (Instr.index 39 (.agg (stC s)) (.int .i64 k)).run Tryd.prog W = .ok (.int .u32 x) W :=
  run_idx Tryd.underlying39 Tryd.sizeOf38 Tryd.isAgg38 _ k _ (by omega) (by omega) (by simpa using hc) W
theorem figL_snoc (s : H8) (k : Nat) (hk : k < 8) : figL (s.l.take (k + 1)) = figL (s.l.take k) ++ figW (s.l.getD k 0) 8 := by
  obtain rfl | rfl | rfl | rfl | rfl | rfl | rfl | rfl : k = 0 ∨ k = 1 ∨ k = 2 ∨ k = 3 ∨ k = 4 ∨ k = 5 ∨ k = 6 ∨ k = 7 := by omega
  all_goals simp [H8.l, figL]
set_option maxHeartbeats 8000000 in
set_option maxRecDepth 100000 in
theorem figures_any (s : H8) (w : World) (hs : ∀ x ∈ s.l, 0 ≤ x ∧ x < 4294967296) :
    Calls Tryd.prog 31 #[.agg (stC s)] w fun e w' => e = .returned (.string (strOfNums (figL s.l))) ∧ Below w.heap.size w w' := by
  obtain ⟨i0, hi, hz0, hz1, hz2⟩ := info_parts Tryd.info5
  have HS := hid hs
  clear hs
  go_enter Tryd.func31, Tryd.ntmps31
  repeat ((fail_if_success (with_reducible show Code.wp _ (Code.region 2 _ _) _ _ _)); (first | go_values | go_skip | go_guarded | go_step | go_upon | go_back | (simp only [Int.not_lt, Int.not_le] at *; go_simp)))
  obtain ⟨W0, hW0⟩ : ∃ W0, W0 = w.alloc (.cells (stC s) 41) := ⟨_, rfl⟩
  refine (fun (key : ∀ V, V = W0 → Code.wp _ _ _ _ V) => key _ (by rw [hW0])) ?_
  intro V hV
  subst hV
  have HX := hid (show V.heap[w.heap.size]? = some (.cells (stC s) 41 (0, 0)) by rw [hW0]; exact laid w _ _)
  have HB := hid (show Below w.heap.size w V by rw [hW0]; exact u_b1 _ _)
  clear hW0
  refine wp_region_list ?_
  simp only []
  repeat ((fail_if_success (with_reducible show wpList _ _ _ [_, _] _ _)); (first | go_values | go_step | go_upon | go_back | go_simp))
  refine wpList_load_row rfl 39 _ rfl w.heap.size (by rfl) 41 (stC s) (0, 0) _ HX.out Tryd.underlying39 rfl infoA8 ?_
  have hz3 : w.heap.size ≤ V.heap.size := HB.out.size
  go_wp2_with fail
  go_loopw [3, 9] (fun v i wz => ∃ k : Nat, k ≤ 8 ∧ i = .int .i64 k ∧ wz.ownsRow V.heap.size 5 1 v (8 * k) (u8s (figL (s.l.take k))) ∧ Below V.heap.size V wz) (fun _ i _ => 8 - (intOf i).toNat)
  case atStart => exact ⟨0, by omega, rfl, ⟨rfl, Or.inl ⟨rfl, rfl⟩⟩, Below.refl _ _⟩
  case round =>
    obtain ⟨k, hk, rfl, ho, hbw⟩ := hrel
    have HO := hid ho
    have HBW := hid hbw
    have hbs := hbw.size
    obtain ⟨K8, e8⟩ : ∃ K8, K8 = 8 * k := ⟨_, rfl⟩
    rw [← e8] at HO
    have HK8 := hid e8
    have hK8 : K8 ≤ 64 := by omega
    clear ho hbw e8
    by_cases hlt : k < 8
    · have hxb : 0 ≤ s.l.getD k 0 ∧ s.l.getD k 0 < 4294967296 := by
        refine HS.out _ ?_
        rw [List.getD_eq_getElem?_getD, List.getElem?_eq_getElem (by simpa [H8.l] using hlt)]
        exact List.getElem_mem _
      have hc := stC_at s k hlt
      have hF := hid (figL_snoc s k hlt)
      have hcs := stC_size s
      obtain ⟨x, ex⟩ : ∃ x, x = s.l.getD k 0 := ⟨_, rfl⟩
      rw [← ex] at hc hF hxb
      obtain ⟨hx0, hx1⟩ := hxb
      clear ex
      have hix : ∀ W : World, (Instr.index 39 (.agg (stC s)) (.int .i64 k)).run Tryd.prog W = .ok (.int .u32 x) W := fun W => arr_at_8 s k x W hlt hc
      repeat ((fail_if_success (with_reducible show Code.wp _ (Code.region 5 _ _) _ _ _)); (first | go_values | go_skip | go_guarded | go_step | go_upon | go_back | (simp only [Int.not_lt, Int.not_le] at *; go_simp)))
      clear hix hc hcs
      go_wp2_with fail
      rw [show decide ((k : Int) < 8) = true from decide_eq_true (by omega)]
      go_loopw [3, 6] (fun v i wz => ∃ (j : Nat) (sh : Int), j ≤ 8 ∧ sh = 28 - 4 * (j : Int) ∧ i = .int .i64 sh ∧ wz.ownsRow V.heap.size 5 1 v (K8 + j) (u8s (figL (s.l.take k) ++ figW x j)) ∧ Below V.heap.size V wz) (fun _ i _ => (intOf i + 4).toNat)
      case atStart => exact ⟨0, 28, by omega, rfl, rfl, by simpa [figW] using HO.out, HBW.out⟩
      case round =>
        obtain ⟨j, sh, hj, hsh, rfl, ho, hbw⟩ := hrel
        clear HO HBW
        have HO := hid ho
        have HBW := hid hbw
        have hbs2 := hbw.size
        have HSH := hid hsh
        obtain ⟨KJ, ekj⟩ : ∃ KJ, KJ = K8 + j := ⟨_, rfl⟩
        rw [← ekj] at HO
        have HKJ := hid ekj
        have hKJ : KJ ≤ 72 := by omega
        clear ho hbw
        by_cases hjl : j < 8
        · have s0 : 0 ≤ sh := by omega
          have s1 : sh < 32 := by omega
          have hp : x / (2 : Int) ^ sh.toNat ≤ x ∧ 0 ≤ x / (2 : Int) ^ sh.toNat := ⟨Int.ediv_le_self _ hx0, Int.ediv_nonneg hx0 (Int.pow_nonneg (by decide))⟩
          have hb15 := bits_15 (x / (2 : Int) ^ sh.toNat) hp.2 (by omega)
          obtain ⟨H, h1⟩ : ∃ H, bits .and .u32 (x / (2 : Int) ^ sh.toNat) 15 = H := ⟨_, rfl⟩
          rw [h1] at hb15
          have g10 : 0 ≤ H := by omega
          have g11 : H < 16 := by omega
          have g12 : H.toNat < 16 := by omega
          have HH15 := hid hb15
          clear hsh ekj hb15 hp
          go_wp2_with (at_builtin; refine append_one 22 5 i0 _ 1 Tryd.underlying22 hi hz0 hz1 hz2 rfl _ _ rfl rfl rfl rfl rfl rfl HO.out hbs2 (by omega) (by omega) ?_; intro v0 w1 hown hb1)
          have hN := hown
          rw [fig_at H g10 g11, HH15.out, HKJ.out] at hN
          have HN := hid hN
          have HZ := hid (HBW.out.trans hb1)
          have hsh4 : sh - 4 = 28 - 4 * ((j + 1 : Nat) : Int) := by have := HSH.out; omega
          have hpw : sh.toNat = 4 * (7 - j) := by have := HSH.out; omega
          clear hown hN hb1
          go_roundw
          case rel =>
            refine ⟨j + 1, sh - 4, by omega, hsh4, rfl, ?_, HZ.out⟩
            have hN := HN.out
            rw [hpw] at hN
            simpa [figW, Nat.add_assoc] using hN
          case measure => simp [intOf]; omega
        · have s0 : sh < 0 := by omega
          have hj8 := hid (show j = 8 by omega)
          clear hsh ekj
          go_wp2_with fail
          go_roundw
          case rel =>
            refine ⟨k + 1, by omega, by go_num, ?_, HBW.out⟩
            have hN := HO.out
            rw [HKJ.out, hj8.out, ← hF.out, HK8.out] at hN
            exact hN
          case measure => simp [intOf]; omega
    · obtain rfl : k = 8 := by omega
      have hcv := owns_text (P := Tryd.prog) (src := 22) (dst := 9) HO.out Tryd.underlying22 Tryd.underlying5 Tryd.underlying9
      go_wp2_with fail
      go_ret
      exact ⟨rfl, HB.out.trans (HBW.out.mono hz3)⟩
end Go.Proofs.YtnjjdcalmgjaiaaDoor
