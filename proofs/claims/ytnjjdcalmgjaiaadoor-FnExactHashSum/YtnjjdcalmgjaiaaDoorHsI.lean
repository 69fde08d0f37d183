/- A sum in figures, by the model. -/
import Derived.Test.YtnjjdcalmgjaiaaDoorHsH
namespace Go.Proofs.YtnjjdcalmgjaiaaDoor
open Go.ChangeShapes Go.WideShapes Go.ChangeAt Go.RowKit

theorem fig_fin : ∀ n : Fin 16, (((⟨#[48, 49, 50, 51, 52, 53, 54, 55, 56, 57, 97, 98, 99, 100, 101, 102]⟩ : ByteArray)[n.val]'n.isLt).toNat : Int) = figH (n.val : Int) := by decide +kernel
theorem fig_at (H : Int) (h0 : 0 ≤ H) (h1 : H < 16) (hh : H.toNat < (⟨#[48, 49, 50, 51, 52, 53, 54, 55, 56, 57, 97, 98, 99, 100, 101, 102]⟩ : ByteArray).size) :
    (((⟨#[48, 49, 50, 51, 52, 53, 54, 55, 56, 57, 97, 98, 99, 100, 101, 102]⟩ : ByteArray)[H.toNat]'hh).toNat : Int) = figH H := by
  obtain ⟨n, rfl⟩ := Int.eq_ofNat_of_zero_le h0
  exact fig_fin ⟨n, by omega⟩
theorem nums_snoc (s : ByteArray) (n : Nat) (h : n < s.size) : (nums s).take (n + 1) = (nums s).take n ++ [((s[n]'h).toNat : Int)] := by
  have hl : n < (nums s).length := by rw [nums_len]; exact h
  rw [List.take_succ_eq_append_getElem hl]
  congr 2
  have := nums_at s n h
  rw [List.getD_eq_getElem?_getD, List.getElem?_eq_getElem hl] at this
  exact this
set_option maxHeartbeats 8000000 in
set_option maxRecDepth 100000 in
theorem l1Hex_any (s : ByteArray) (w : World) (hs : s.size ≤ 1048576) :
    Calls Tryd.prog 32 #[.string s] w fun e w' => e = .returned (.string (strOfNums (hexL (nums s)))) ∧ Below w.heap.size w w' := by
  obtain ⟨i0, hi, hz0, hz1, hz2⟩ := info_parts Tryd.info5
  have HS := hid hs
  go_enter Tryd.func32, Tryd.ntmps32
  go_wp2_with fail
  go_loopw [3, 4] (fun v i wz => ∃ n : Nat, n ≤ s.size ∧ i = .int .i64 n ∧ wz.ownsRow w.heap.size 5 1 v (2 * n) (u8s (hexL ((nums s).take n))) ∧ Below w.heap.size w wz) (fun _ i _ => s.size - (intOf i).toNat)
  case atStart => exact ⟨0, by omega, rfl, World.ownsRow_lit _ #[] 0 (Nat.le_refl _) (Nat.zero_le _) rfl, u_b1 _ _⟩
  case round =>
    obtain ⟨n, hn, rfl, ho, hbw⟩ := hrel
    have HO := hid ho
    have HBW := hid hbw
    have hbs := hbw.size
    obtain ⟨a0, c0, rfl⟩ := owns_slice ho
    obtain ⟨N4, e4⟩ : ∃ N4, N4 = 2 * n := ⟨_, rfl⟩
    rw [← e4] at HO ⊢
    have H4 := hid e4
    have hN4 : N4 ≤ 2097152 := by omega
    clear ho hbw e4
    by_cases hlt : n < s.size
    · obtain ⟨b, hx⟩ : ∃ b : Int, ((s[n]'hlt).toNat : Int) = b := ⟨_, rfl⟩
      have hxb : 0 ≤ b ∧ b ≤ 255 := by have := (s[n]'hlt).toNat_lt; omega
      obtain ⟨H1, h1⟩ : ∃ H1, b / 16 = H1 := ⟨_, rfl⟩
      obtain ⟨H2, h2⟩ : ∃ H2, b % 16 = H2 := ⟨_, rfl⟩
      obtain ⟨hb0, hb1⟩ := hxb
      have g10 : 0 ≤ H1 := by omega
      have g11 : H1 < 16 := by omega
      have g20 : 0 ≤ H2 := by omega
      have g21 : H2 < 16 := by omega
      have g12 : H1.toNat < 16 := by omega
      have g22 : H2.toNat < 16 := by omega
      repeat ((fail_if_success (with_reducible show Code.wp _ (Code.region 5 _ _) _ _ _)); (first | go_values | go_skip | go_guarded | go_step | go_upon | go_back | (simp only [Int.not_lt, Int.not_le] at *; go_simp)))
      refine wp_planzQ 12 (.pull [(0, 11)] (.step 11 (.step 12 (.step 13 .done)))) (by kernel_rfl) (by kernel_rfl) ?_
      intro V0 hw0
      have hbq := of_class hw0
      refine plz_pull ?_
      simp only [cutOut, List.take_succ_cons, List.take_zero, List.drop_zero, List.append_nil]
      repeat (first | go_big_quiet_step (fail) | quiet_step (fail))
      refine wpQuiet_nil ?_
      have hA : hexL ((nums s).take (n + 1)) = hexL ((nums s).take n) ++ [figH H1, figH H2] := by
        rw [nums_snoc s n hlt, hexL_app, hx, hexL, h1, h2]
        rfl
      have HA3 := hid hA
      clear hw0 hA hx h1 h2
      refine plz_step rfl (by omega) (fun K hK => ?_)
      go_simp
      refine hK _ _ (class_of (u_cat hbq (u_b1 _ _))) ?_
      clear hK K
      have hoV := owns_below HO.out hbq
      have hszV : w.heap.size ≤ V0.heap.size := Nat.le_trans hbs hbq.size
      refine plz_last rfl (by omega) (fun K hK => ?_)
      refine step_append_row 22 5 i0 _ 1 Tryd.underlying22 hi hz0 hz1 hz2 rfl _ _ rfl rfl rfl _ 2 2 _ rfl ?_ (by intro h; cases h) (owns_below hoV (u_b1 _ _)) (lit_news _ _ _) ?_ (by simp; omega) (by omega) (by omega) ?_
      · rfl
      · intro u hu
        simp only [List.mem_cons, List.not_mem_nil, or_false] at hu
        rcases hu with rfl | rfl <;> rfl
      intro v' w1 hown1 hg1
      have hb1 := grown_base hg1 (owns_below hoV (u_b1 _ _)) (by simp; omega)
      have HN := hid hown1
      have HBB := hid (((HBW.out.trans (hbq.mono hbs)).trans ((u_b1 V0 _).mono hszV)).trans hb1)
      clear hown1 hg1 hb1
      refine hK _ _ ?_
      clear hK K
      refine plz_last rfl (by omega) (fun K hK => ?_)
      go_simp
      refine hK _ _ ?_
      clear hK K
      refine plz_done ?_
      go_wp2_with fail
      go_roundw
      case rel =>
        refine ⟨n + 1, by omega, by go_num, ?_, HBB.out⟩
        have hN := HN.out
        rw [fig_at H1 g10 g11, fig_at H2 g20 g21, H4.out] at hN
        rw [HA3.out]
        simpa [Nat.mul_add] using hN
      case measure => simp [intOf]; omega
    · obtain rfl : n = s.size := by omega
      have hcv := owns_text (P := Tryd.prog) (src := 22) (dst := 9) HO.out Tryd.underlying22 Tryd.underlying5 Tryd.underlying9
      go_wp2_with fail
      go_ret
      refine ⟨?_, HBW.out⟩
      rw [List.take_of_length_le (by rw [nums_len]; exact Nat.le_refl _)]
      rfl
set_option maxHeartbeats 1000000 in
set_option maxRecDepth 100000 in
theorem specHashSum_any (s : ByteArray) (w : World) (hs : s.size ≤ 4294967296) :
    Calls Tryd.prog 12 #[.string s] w fun e w' => e = .returned (.string (strOfNums (hashH (nums s)))) ∧ Below w.heap.size w w' := by
  have HS := hid (l1Sum_any s w hs)
  go_enter Tryd.func12, Tryd.ntmps12
  go_wp2_with fail
  refine HS.out.mono ?_
  rintro e wa ⟨rfl, ba⟩
  have HX := hid (l1Hex_any (strOfNums (bytL (sumH (padH (nums s)) ((padH (nums s)).length / 64)).l)) wa (by
    rw [← nums_len, nums_str (bytL_bytes _), bytL_len]
    simp [H8.l]))
  rw [nums_str (bytL_bytes _), hex_bytL _ (sumH_bd _ _)] at HX
  go_wp2_with fail
  refine HX.out.mono ?_
  rintro e wb ⟨rfl, bb⟩
  go_wp2_with fail
  go_ret
  exact ⟨rfl, u_cat ba bb⟩
end Go.Proofs.YtnjjdcalmgjaiaaDoor
