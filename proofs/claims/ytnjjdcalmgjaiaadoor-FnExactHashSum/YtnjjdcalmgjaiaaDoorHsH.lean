/- A sum as bytes, by the model; bytes as figures. -/
import Derived.Test.YtnjjdcalmgjaiaaDoorHsG
import Derived.Test.YtnjjdcalmgjaiaaDoorBlkN
import Derived.Test.YtnjjdcalmgjaiaaDoorApr
namespace Go.Proofs.YtnjjdcalmgjaiaaDoor
open Go.ChangeShapes Go.WideShapes Go.ChangeAt Go.RowKit

/-- The bytes of a word. -/
def bytW (x : Int) : List Int := [x / 16777216 % 256, x / 65536 % 256, x / 256 % 256, x % 256]
def bytL : List Int → List Int
  | [] => []
  | x :: r => bytW x ++ bytL r
theorem bytL_len (xs : List Int) : (bytL xs).length = 4 * xs.length := by
  induction xs with
  | nil => rfl
  | cons x r ih => simp [bytL, bytW, ih]; omega
theorem bytL_bytes (xs : List Int) : BytesL (bytL xs) := by
  induction xs with
  | nil => intro x hx; simp [bytL] at hx
  | cons x r ih =>
    intro y hy
    simp only [bytL, bytW, List.cons_append, List.nil_append, List.mem_cons] at hy
    rcases hy with rfl | rfl | rfl | rfl | hy
    · omega
    · omega
    · omega
    · omega
    · exact ih y hy
def hexL : List Int → List Int
  | [] => []
  | b :: r => figH (b / 16) :: figH (b % 16) :: hexL r
theorem hexL_app (xs ys : List Int) : hexL (xs ++ ys) = hexL xs ++ hexL ys := by
  induction xs with
  | nil => rfl
  | cons x r ih => simp [hexL, ih]
theorem hex_word (x : Int) (h0 : 0 ≤ x) (h1 : x < 4294967296) : hexL (bytW x) = figW x 8 := by
  have e1 : x / 16777216 % 256 / 16 = x / 268435456 % 16 := by omega
  have e2 : x / 16777216 % 256 % 16 = x / 16777216 % 16 := by omega
  have e3 : x / 65536 % 256 / 16 = x / 1048576 % 16 := by omega
  have e4 : x / 65536 % 256 % 16 = x / 65536 % 16 := by omega
  have e5 : x / 256 % 256 / 16 = x / 4096 % 16 := by omega
  have e6 : x / 256 % 256 % 16 = x / 256 % 16 := by omega
  have e7 : x % 256 / 16 = x / 16 % 16 := by omega
  have e8 : x % 256 % 16 = x / 1 % 16 := by omega
  simp only [hexL, bytW, figW, e1, e2, e3, e4, e5, e6, e7, e8]
  rfl
theorem hex_bytL (xs : List Int) (h : ∀ x ∈ xs, 0 ≤ x ∧ x < 4294967296) : hexL (bytL xs) = figL xs := by
  induction xs with
  | nil => rfl
  | cons x r ih =>
    have hx := h x (by simp)
    rw [bytL, hexL_app, hex_word x hx.1 hx.2, ih (fun y hy => h y (by simp [hy])), figL]
theorem sumH_bd (p : List Int) : ∀ n, ∀ x ∈ (sumH p n).l, 0 ≤ x ∧ x < 4294967296
  | 0 => (by decide : ∀ x ∈ hash0.l, 0 ≤ x ∧ x < 4294967296)
  | n + 1 => by
    intro x hx
    simp only [sumH, behindH, addH, H8.l, List.mem_cons, List.not_mem_nil, or_false] at hx
    rcases hx with rfl | rfl | rfl | rfl | rfl | rfl | rfl | rfl <;> omega
theorem lit_news (w : World) (cs : Array Value) (t : TypeId) : ∀ ad, some (⟨w.heap.size, 0, none⟩ : Addr) = some ad → ∀ j u, cs.toList[j]? = some u → (w.alloc (.cells cs t)).cell? (ad.add j) = some u := by
  intro ad had j u hu
  cases had
  rw [addr_add, Nat.zero_add, cell_of_row _ _ j cs t (0, 0) (laid w cs t)]
  simpa using hu
theorem u8_at (xs : List Int) (i : Nat) (h : i < xs.length) : (u8s xs)[i]? = some (.int .u8 (xs.getD i 0)) := by
  simp [List.getD, h]
theorem blk_get (p : List Int) (a j : Nat) (hj : j < 64) : ((p.drop a).take 64).getD j 0 = p.getD (a + j) 0 := by
  simp [List.getD, hj, List.getElem?_drop]
theorem lenH_bd (n : Nat) : ∀ j, ∀ x ∈ lenH n j, 0 ≤ x ∧ x ≤ 255
  | 0 => by intro x hx; simp [lenH] at hx
  | j + 1 => by
    intro x hx
    simp only [lenH, List.mem_append, List.mem_singleton] at hx
    rcases hx with hx | rfl
    · exact lenH_bd n j x hx
    · omega
theorem padH_bd (s : ByteArray) (j : Nat) : 0 ≤ (padH (nums s)).getD j 0 ∧ (padH (nums s)).getD j 0 ≤ 255 := by
  rcases Nat.lt_or_ge j (padH (nums s)).length with h | h
  · have hm : (padH (nums s)).getD j 0 ∈ padH (nums s) := by
      rw [List.getD_eq_getElem?_getD, List.getElem?_eq_getElem h]
      exact List.getElem_mem h
    generalize (padH (nums s)).getD j 0 = x at hm ⊢
    simp only [padH, List.append_assoc, List.cons_append, List.mem_append, List.mem_cons, List.mem_replicate] at hm
    rcases hm with hm | rfl | ⟨-, rfl⟩ | hm
    · exact nums_bytes s x hm
    · decide
    · decide
    · exact lenH_bd _ _ x hm
  · rw [List.getD, List.getElem?_eq_none h]
    exact ⟨by decide, by decide⟩
set_option maxHeartbeats 8000000 in
set_option maxRecDepth 100000 in
theorem l1Sum_any (s : ByteArray) (w : World) (hs : s.size ≤ 4294967296) :
    Calls Tryd.prog 33 #[.string s] w fun e w' => e = .returned (.string (strOfNums (bytL (sumH (padH (nums s)) ((padH (nums s)).length / 64)).l))) ∧ Below w.heap.size w w' := by
  obtain ⟨i0, hi, hz0, hz1, hz2⟩ := info_parts Tryd.info5
  have HP := hid (fun W => l1Padded_any s W hs)
  have hmod := padH_mod (nums s)
  obtain ⟨M, hM⟩ : ∃ M, M = (padH (nums s)).length / 64 := ⟨_, rfl⟩
  obtain ⟨p, hp⟩ : ∃ p, p = padH (nums s) := ⟨_, rfl⟩
  have hpb : ∀ j, 0 ≤ p.getD j 0 ∧ p.getD j 0 ≤ 255 := by rw [hp]; exact padH_bd s
  have hpl0 := pad_len s
  have hle := noughts_le s.size
  rw [← hp] at hmod hM hpl0
  rw [← hp, ← hM]
  obtain ⟨PL, hPL⟩ : ∃ PL, PL = p.length := ⟨_, rfl⟩
  rw [← hPL] at hmod hM hpl0
  have hPM : PL = 64 * M := by omega
  have hPB : PL ≤ 4294967296 + 100 := by omega
  have HPB := hid hpb
  have HPL := hid hPL
  have HPP := hid hp
  have HPM := hid hPM
  clear hPM hmod hM hpl0 hle hpb hPL hp
  go_enter Tryd.func33, Tryd.ntmps33
  repeat ((fail_if_success (with_reducible show Code.wp _ (Code.region 2 _ _) _ _ _)); (first | go_values | go_skip | go_guarded | go_step | go_upon | go_back | go_simp))
  obtain ⟨W0, hW0⟩ : ∃ W0, W0 = w.alloc (.cells (wordC hash0.l) 38) := ⟨_, rfl⟩
  refine (fun (key : ∀ V, V = W0 → Code.wp _ _ _ _ V) => key _ (by rw [hW0]; kernel_rfl)) ?_
  intro V hV
  subst hV
  have HX0 := hid (show V.heap[w.heap.size]? = some (.cells (wordC hash0.l) 38 (0, 0)) by rw [hW0]; exact u_laid w _ _ rfl)
  have HB0 := hid (show Below w.heap.size w V by rw [hW0]; exact u_b1 _ _)
  clear hW0
  go_wp2_with fail
  refine (HP.out V).mono ?_
  rintro e wp ⟨v, rfl, ov, bv⟩
  rw [← HPP.out] at ov
  rw [← HPL.out] at ov
  obtain ⟨gp, cap, rfl, hgp0, hcap, hcapm, hcell⟩ := ov.cell
  have hgp1 := (ov.lt gp rfl).2
  have HC := hid hcell
  have HX1 := hid (kept HX0.out bv)
  have HB1 := hid (HB0.out.trans (bv.mono HB0.out.size))
  have hz3 : w.heap.size ≤ wp.heap.size := HB1.out.size
  have hg0 := lt_of_block HX1.out
  clear ov bv hcell HX0 HB0 HP
  go_wp2_with fail
  go_loopw [3, 5] (fun h i wr => ∃ n a gh ch : Nat, n ≤ M ∧ a = 64 * n ∧ i = .int .i64 a ∧ h = .slice (some ⟨gh, 0, none⟩) 8 ch ∧ 8 ≤ ch ∧ gh < wr.heap.size ∧ WrdAt wr gh (sumH p n).l ∧ Below wp.heap.size wp wr) (fun _ i _ => PL - (intOf i).toNat)
  case atStart => exact ⟨0, 0, w.heap.size, 8, by omega, rfl, rfl, rfl, by omega, hg0, wrd_of_row HX1.out (fun j hj => wordC_at _ j hj), Below.refl _ _⟩
  case round =>
    obtain ⟨n, a, gh, ch, hn, ha, rfl, rfl, hch, hghw, hw, hbw⟩ := hrel
    have HW := hid hw
    have HB := hid hbw
    have HA := hid ha
    have hbs := hbw.size
    clear hw hbw
    by_cases hlt : n < M
    · have hA : a + 64 ≤ PL := by have := HPM.out; omega
      have hA2 : a < PL := by omega
      have hA3 : a + 64 ≤ cap := by omega
      have hcall := hid (l1Block_any gh ch gp a (cap - a) (sumH p n) ((p.drop a).take 64) wr hch HW.out (by omega) (fun j hj => by
        have h1 := HC.out (a + j) (.int .u8 (p.getD (a + j) 0)) (u8_at p (a + j) (by rw [← HPL.out]; omega))
        have h2 := (HB.out.cell (p := ⟨gp, a + j, none⟩) hgp1).trans h1
        rw [h2, blk_get p a j hj]) (fun j => by
        rcases Nat.lt_or_ge j 64 with h | h
        · rw [blk_get p a j h]; exact HPB.out _
        · rw [List.getD, List.getElem?_eq_none (by simp; omega)]; exact ⟨by decide, by decide⟩))
      have e64 : a + 64 - a = 64 := by omega
      clear ha
      go_wp2_with fail
      rw [e64]
      refine hcall.out.mono ?_
      rintro e wq ⟨v, rfl, oq, bq⟩
      obtain ⟨gq, cq, hv, hgq⟩ := owns_shape oq (by simp [H8.l])
      subst hv
      have hqc : 8 ≤ cq := by
        rcases oq.2 with ⟨h, -⟩ | ⟨_, _, _, h, _, _, h2, _⟩
        · cases h
        · cases h; exact h2
      have HQ := hid (wrd_of_owns oq)
      have hgq2 := (oq.lt gq rfl).2
      have HBQ := hid (HB.out.trans (bq.mono hbs))
      clear oq bq hcall HW
      go_wp2_with fail
      go_roundw
      case rel =>
        refine ⟨n + 1, a + 64, gq, cq, by omega, by have := HA.out; omega, by go_num, rfl, hqc, hgq2, ?_, HBQ.out⟩
        have := HQ.out
        rw [HA.out] at this
        exact this
      case measure => simp [intOf]; omega
    · have hA : a = PL := by have := HPM.out; omega
      have hM2 := hid (show n = M by omega)
      obtain ⟨X, eX⟩ : ∃ X, X = sumH p M := ⟨_, rfl⟩
      have HX := hid (show WrdAt wr gh X.l by have := HW.out; rw [hM2.out, ← eX] at this; exact this)
      have EX := hid eX
      obtain ⟨WR, eWR⟩ : ∃ x, x = wr := ⟨_, rfl⟩
      rw [← eWR] at HX HB hghw
      rw [← eWR]
      have hz4 : w.heap.size ≤ WR.heap.size := Nat.le_trans hz3 HB.out.size
      clear ha HW HC HPB HPP eX eWR
      go_wp2_with fail
      go_loopw [6, 7] (fun v i wz => ∃ n : Nat, n ≤ 8 ∧ i = .int .i64 n ∧ wz.ownsRow WR.heap.size 5 1 v (4 * n) (u8s (bytL (X.l.take n))) ∧ Below WR.heap.size WR wz) (fun _ i _ => 8 - (intOf i).toNat)
      case atStart => exact ⟨0, by omega, rfl, World.ownsRow_lit _ #[] 0 (Nat.le_refl _) (Nat.zero_le _) rfl, u_b1 _ _⟩
      case round =>
        obtain ⟨n, hn, rfl, ho, hbw⟩ := hrel
        have HO := hid ho
        have HBW := hid hbw
        have hbs := hbw.size
        obtain ⟨a0, c0, rfl⟩ := owns_slice ho
        obtain ⟨N4, e4⟩ : ∃ N4, N4 = 4 * n := ⟨_, rfl⟩
        rw [← e4] at HO ⊢
        have H4 := hid e4
        have hN4 : N4 ≤ 32 := by omega
        clear ho hbw e4
        by_cases hlt : n < 8
        · have ph := cell_regrown (show wr.cell? ⟨gh, n, none⟩ = some (.int .u32 (X.l.getD n 0)) from HX.out.below hghw HBW.out n (by simpa [H8.l] using hlt))
          have hA : bytL (X.l.take (n + 1)) = bytL (X.l.take n) ++ bytW (X.l.getD n 0) := by
            obtain rfl | rfl | rfl | rfl | rfl | rfl | rfl | rfl : n = 0 ∨ n = 1 ∨ n = 2 ∨ n = 3 ∨ n = 4 ∨ n = 5 ∨ n = 6 ∨ n = 7 := by omega
            all_goals rfl
          have hxb : 0 ≤ X.l.getD n 0 ∧ X.l.getD n 0 < 4294967296 := by
            rw [EX.out]
            refine sumH_bd p M _ ?_
            rw [List.getD_eq_getElem?_getD, List.getElem?_eq_getElem (by simpa [H8.l] using hlt)]
            exact List.getElem_mem _
          obtain ⟨q, ep⟩ : ∃ p, p = X.l.getD n 0 := ⟨_, rfl⟩
          rw [← ep] at ph hA hxb
          have HA3 := hid hA
          obtain ⟨hx0, hx1⟩ := hxb
          clear ep hA
          repeat ((fail_if_success (with_reducible show Code.wp _ (Code.region 11 _ _) _ _ _)); (first | go_values | go_skip | go_guarded | go_step | go_upon | go_back | (simp only [Int.not_lt, Int.not_le] at *; go_simp)))
          refine wp_planzQ 25 (.pull [(0, 24)] (.step 24 (.step 25 (.step 26 .done)))) (by kernel_rfl) (by kernel_rfl) ?_
          intro V0 hw0
          have hbq := of_class hw0
          refine plz_pull ?_
          simp only [cutOut, List.take_succ_cons, List.take_zero, List.drop_zero, List.append_nil]
          repeat (first | go_big_quiet_step (fail) | quiet_step (fail))
          refine wpQuiet_nil ?_
          clear ph hw0
          refine plz_step rfl (by omega) (fun K hK => ?_)
          go_simp
          refine hK _ _ (class_of (u_cat hbq (u_b1 _ _))) ?_
          clear hK K
          have hoV := owns_below HO.out hbq
          have hszV : WR.heap.size ≤ V0.heap.size := Nat.le_trans hbs hbq.size
          refine plz_last rfl (by omega) (fun K hK => ?_)
          refine step_append_row 22 5 i0 _ 1 Tryd.underlying22 hi hz0 hz1 hz2 rfl _ _ rfl rfl rfl _ 4 4 _ rfl ?_ (by intro h; cases h) (owns_below hoV (u_b1 _ _)) (lit_news _ _ _) ?_ (by simp; omega) (by omega) (by omega) ?_
          · rfl
          · intro u hu
            simp only [List.mem_cons, List.not_mem_nil, or_false] at hu
            rcases hu with rfl | rfl | rfl | rfl <;> rfl
          intro v' w1 hown1 hg1
          have hb1 := grown_base hg1 (owns_below hoV (u_b1 _ _)) (by simp; omega)
          refine hK _ _ ?_
          clear hK K
          refine plz_last rfl (by omega) (fun K hK => ?_)
          go_simp
          refine hK _ _ ?_
          clear hK K
          refine plz_done ?_
          go_wp2_with fail
          go_roundw
          case rel =>
            refine ⟨n + 1, by omega, by go_num, ?_, ?_⟩
            · rw [HA3.out, H4.out] at *
              simpa [bytW, Nat.mul_add, show q / 16777216 % 256 = q / 16777216 by omega] using hown1
            · exact ((HBW.out.trans (hbq.mono hbs)).trans ((u_b1 V0 _).mono hszV)).trans hb1
          case measure => simp [intOf]; omega
        · obtain rfl : n = 8 := by omega
          have hcv := owns_text (P := Tryd.prog) (src := 22) (dst := 9) HO.out Tryd.underlying22 Tryd.underlying5 Tryd.underlying9
          go_wp2_with fail
          go_ret
          refine ⟨by rw [← EX.out]; rfl, (HB1.out.trans (HB.out.mono hz3)).trans (HBW.out.mono hz4)⟩
end Go.Proofs.YtnjjdcalmgjaiaaDoor
