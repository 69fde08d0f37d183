/- The blocks of a text, one by one, and gathered, by the program. -/
import Derived.Test.YtcoofoiaaljpoaaDoorG12
import Derived.OwnWalkIn
namespace Go.Proofs.YtcoofoiaaljpoaaDoor
open Go.ChangeShapes Go.WideShapes Go.ChangeAt Go.RowKit Go.Sort Go.Shelf
attribute [local go_sem] Oper.semAt_some

theorem info_u8 : (Tryd.prog.info? 5).map (fun i => (i.zero, i.size, i.bytes)) = some (some (.int .u8 0), 1, 1) := by kernel_rfl
def BlF (W : World) (Bp Bt L s : Nat) (t : ByteArray) : Prop := W.cell? ⟨Bp, 0, none⟩ = some (.int .i64 L) ∧ W.cell? ⟨Bp, 1, none⟩ = some (.int .i64 s) ∧ W.cell? ⟨Bt, 0, none⟩ = some (.string t)
theorem BlF.below {W W' : World} {Bp Bt L s : Nat} {t : ByteArray} (h : BlF W Bp Bt L s t) (hb : Below W.heap.size W W') : BlF W' Bp Bt L s t :=
  ⟨(hb.cell (p := ⟨Bp, 0, none⟩) (block_lt_of_cell h.1)).trans h.1, (hb.cell (p := ⟨Bp, 1, none⟩) (block_lt_of_cell h.2.1)).trans h.2.1, (hb.cell (p := ⟨Bt, 0, none⟩) (block_lt_of_cell h.2.2)).trans h.2.2⟩

theorem made_zero (n : Nat) : (madeCells (Value.int .u8 0).cells (n * 1)).toList = (List.replicate n (0 : Int)).map (Value.int .u8) := by
  apply List.ext_getElem
  · simp [madeCells]
  · intro i h1 h2
    simp [madeCells, Value.cells, Nat.mod_one]
/-- 'copy(dst, s)', s a string, whatever their lengths: as much as there is room for. -/
theorem run_copy_text {P : Program} (w : World) (dT sT ty elem : TypeId) (b dLen dCap : Nat) (t : ByteArray) (n : Nat) (hn : Nat.min t.size dLen = n)
    (hu : P.underlying dT = some (.slice elem)) (hz : ∀ w, (Go.sizeOf elem).run P w = .ok 1 w)
    (hc : ∀ j, j < n → (w.cell? ⟨b, 0 + j, none⟩).isSome = true) (hf : ∀ j, j < n → w.frozen? ⟨b, 0 + j, none⟩ = false) :
    (Builtin.copy_ #[dT, sT] ty #[.slice (some ⟨b, 0, none⟩) dLen dCap, .string t]).run P w = .ok (goInt n) (w.setCells b 0 ((t.data.toList.map fun x => Value.int .u8 (x.toNat : Int)).take n)) := by
  have hnl : n ≤ t.size := by rw [← hn]; exact Nat.min_le_left _ _
  have hl : ((t.data.toList.map fun x => Value.int .u8 (x.toNat : Int)).take n).length = n := by
    rw [List.length_take, List.length_map]
    have : t.data.toList.length = t.size := by
      show t.data.toList.length = t.data.size
      simp
    omega
  have hst := run_storeCells_cells (P := P) b 0 ((t.data.toList.map fun x => Value.int .u8 (x.toNat : Int)).take n) 0 w (by rw [hl]; simpa using hc) (by rw [hl]; simpa using hf) (by
    intro v hv
    obtain ⟨x, _, rfl⟩ := List.mem_map.1 (List.mem_of_mem_take hv)
    rfl)
  simp [Builtin.copy_, run_underlying hu, Builtin.lenOf, Builtin.firstCells, hz, hn]
  rw [← List.map_take] at hst ⊢
  first
    | rw [hst]; rfl
    | (rw [List.map_take] at hst ⊢; rw [hst]; rfl)
theorem size_u8 (w : World) : (Go.sizeOf 5).run Tryd.prog w = .ok 1 w := by kernel_rfl

set_option maxHeartbeats 4000000 in
set_option maxRecDepth 100000 in
theorem blocks1_in (n l Bp Bt L s N B : Nat) (t : ByteArray) (hn : 1 ≤ n) (ht : t.size = L) (l2 : L ≤ 300) (s1 : 1 ≤ s) (s2 : s ≤ 16) (hN : L ≤ N * s) (hN1 : ∀ k, k < N → k * s < L) (hN2 : N ≤ 300) (J Jx : List (Fin N) → World → Prop) (hJ : AbidesFrom B J) (Kp : World → World → Prop) (hK : ∀ W W', BlF W Bp Bt L s t → Kp W W' → BlF W' Bp Bt L s t)
    (hY : ∀ (pre : List (Fin N)) (x : Fin N) W, J pre W → pre.length < N → YieldAt Fence.wide (n - 1) Tryd.prog l #[.string (strOfNums (blkN t s x.val))] W fun e W' =>
      (e = .returned (.bool true) ∧ J (pre ++ [x]) W' ∧ Kp W W') ∨ (e = .returned (.bool false) ∧ Jx (pre ++ [x]) W'))
    (W : World) (hF : BlF W Bp Bt L s t) (h0 : J [] W) :
    CallsIn Fence.wide n Tryd.prog 44 #[.func (.yield l) #[] #[], .pointer (some ⟨Bp, 0, none⟩), .pointer (some ⟨Bt, 0, none⟩)] W fun e W' => (∃ v, e = .returned v) ∧
      ((∃ ys, ys = List.finRange N ∧ J ys W') ∨ (∃ pre, pre <+: List.finRange N ∧ Jx pre W')) := by
  refine callsIn_of_wp Tryd.func44 rfl trivial ?_ rfl
  simp only [Tryd.ntmps44, List.size_toArray, List.length_cons, List.length_nil, Nat.reduceAdd, Nat.reduceSub, Array.replicate_succ, Array.replicate_zero, List.push_toArray, List.append_toArray, List.nil_append, List.cons_append]
  gi_wp2
  gi_loopw [4, 5] (fun p _ wr => ∃ k : Nat, k ≤ N ∧ p = .int .i64 ((k * s : Nat) : Int) ∧ BlF wr Bp Bt L s t ∧ J ((List.finRange N).take k) wr) (fun p _ _ => N * s + s - (intOf p).toNat)
  case atStart => exact ⟨0, by omega, by simp, hF, h0⟩
  case round =>
    obtain ⟨k, hk, rfl, hl, hJ1⟩ := hrel
    have HF := hid hl
    have HJ1 := hid hJ1
    obtain ⟨c0, c1, c2⟩ := hl
    clear hJ1
    by_cases hlt : k < N
    · have hks := hN1 k hlt
      have HTA := hid (show (List.finRange N).take (k + 1) = (List.finRange N).take k ++ [⟨k, hlt⟩] by rw [List.take_succ_eq_append_getElem (by rw [List.length_finRange]; exact hlt), List.getElem_finRange]; rfl)
      obtain ⟨A, hA⟩ : ∃ A, A = k * s := ⟨_, rfl⟩
      rw [← hA] at hks ⊢
      have HA := hid hA
      clear hA
      obtain ⟨i0, hi, hz0, hz1, hz2⟩ := info_parts info_u8
      obtain ⟨w1, hrun, r1, r2⟩ := run_make_full (P := Tryd.prog) wr wr.heap.size 45 5 i0 (.int .u8 0) 1 Tryd.underlying45 hi hz0 hz1 .i64 .i64 s (by rw [hz2]; omega) (by unfold maxLen; omega) (Nat.le_refl _)
      have b1 : Below wr.heap.size wr w1 := (Below.refl _ _).grown r2 (Nat.le_refl _) (fun k hk => by simp at hk)
      have d0 := (b1.cell (p := ⟨Bp, 0, none⟩) (block_lt_of_cell c0)).trans c0
      have d1 := (b1.cell (p := ⟨Bp, 1, none⟩) (block_lt_of_cell c1)).trans c1
      have d2 := (b1.cell (p := ⟨Bt, 0, none⟩) (block_lt_of_cell c2)).trans c2
      have hts : A ≤ t.size := by omega
      rw [made_zero] at r1
      obtain ⟨m, hm⟩ : ∃ m, m = min (L - A) s := ⟨_, rfl⟩
      have hus : (t.extract A L).size = L - A := by rw [ByteArray.size_extract]; omega
      have hfr : ∀ j, w1.frozen? ⟨wr.heap.size, j, none⟩ = false := fun j => by
        rcases r1.2 with ⟨hv, -⟩ | ⟨g, cap, cur, hv, -, hh, -⟩
        · cases hv
        · cases hv
          simp [World.frozen?, hh]
      have hcell : ∀ j, j < s → w1.cell? ⟨wr.heap.size, j, none⟩ = some (.int .u8 0) := fun j hj => by
        rw [r1.cellAt j (by omega), List.getElem?_map, List.getElem?_replicate, if_pos hj]; rfl
      obtain ⟨W2, hW2⟩ : ∃ W2, W2 = w1.setCells wr.heap.size 0 (((t.extract A L).data.toList.map fun x => Value.int .u8 (x.toNat : Int)).take m) := ⟨_, rfl⟩
      have hcopy := run_copy_text (P := Tryd.prog) w1 45 9 3 5 wr.heap.size s s (t.extract A L) m (by rw [hus]; exact hm.symm) Tryd.underlying45 size_u8 (fun j hj => by rw [Nat.zero_add, hcell j (by omega)]; rfl) (fun j hj => hfr _)
      rw [← hW2] at hcopy
      have b2 : Below wr.heap.size wr W2 := by rw [hW2]; exact below_setCells (Nat.le_refl _) _ _ _ b1
      have hbl : (blkN t s k).length = s := blkN_len t s k (by rw [← HA.out]; exact hts)
      have hbytes : ∀ j, j < (blkN t s k).length → W2.cell? ⟨wr.heap.size, 0 + j, none⟩ = some (.int .u8 ((blkN t s k).getD j 0)) := fun j hj => by
        have hl1 : (((t.extract A L).data.toList.map fun x => Value.int .u8 (x.toNat : Int)).take m).length = m := by
          rw [List.length_take, List.length_map]
          have : (t.extract A L).data.toList.length = (t.extract A L).size := by
            show (t.extract A L).data.toList.length = (t.extract A L).data.size
            rw [Array.length_toList]
          omega
        have e1 : (t.extract A L).data.toList = t.data.toList.drop A := by
          have hl : t.data.toList.length = L := by
            rw [← ht]
            show t.data.toList.length = t.data.size
            simp
          rw [ByteArray.data_extract, Array.toList_extract, List.extract_eq_take_drop, List.take_of_length_le (by rw [List.length_drop]; omega)]
        rw [hW2]
        by_cases hjm : j < m
        · rw [World.cell?_setCells_in _ _ 0 _ (fun i hi => by rw [hl1] at hi; rw [Nat.zero_add, hcell i (by omega)]; rfl) j (by rw [hl1]; exact hjm)]
          have e2 : (blkN t s k)[j]? = (numT t)[A + j]? := by
            unfold blkN
            rw [← HA.out, List.getElem?_append_left (by rw [List.length_take, List.length_drop, numT_len]; omega), List.getElem?_take, if_pos (by omega), List.getElem?_drop]
          have h5 : A + j < t.data.toList.length := by
            show A + j < t.data.toList.length
            have : t.data.toList.length = t.size := by
              show t.data.toList.length = t.data.size
              simp
            omega
          rw [List.getD_eq_getElem?_getD, e2]
          simp only [List.getElem_take, List.getElem_map, e1, List.getElem_drop]
          unfold numT
          rw [List.getElem?_map, List.getElem?_eq_getElem h5]
          rfl
        · rw [World.cell?_setCells_out _ _ 0 _ _ (fun _ _ => .inr (by rw [hl1]; simp; omega)), Nat.zero_add, hcell j (by omega)]
          have e2 : (blkN t s k)[j]? = some 0 := by
            unfold blkN
            rw [← HA.out, List.getElem?_append_right (by rw [List.length_take, List.length_drop, numT_len]; omega), List.getElem?_replicate, if_pos (by rw [List.length_take, List.length_drop, numT_len]; omega)]
          rw [List.getD_eq_getElem?_getD, e2]
          rfl
      have hconv := run_convert_bytes_arg (P := Tryd.prog) W2 45 5 Tryd.underlying45 Tryd.underlying5 wr.heap.size 0 (blkN t s k).length s (blkN t s k) rfl hbytes 9 Tryd.underlying9
      rw [hbl] at hconv
      have HF2 := hid (HF.out.below b2)
      have HJ2 := hid (hJ _ wr W2 none HJ1.out ⟨b2.os, b2.tape, b2.output, b2.size, fun j hj _ => b2.block j hj⟩ (fun r e => by cases e))
      obtain ⟨fn, tmps, assign, body, hy, hR⟩ := hY ((List.finRange N).take k) ⟨k, hlt⟩ W2 HJ2.out (by rw [List.length_take, List.length_finRange]; omega)
      dsimp only at hy
      clear hcell hbytes r1 r2 hW2 hfr
      gi_wp2
      refine hR.mono ?_
      rintro e W3 (⟨rfl, hJ3, hk3⟩ | ⟨rfl, hJx3⟩)
      · have hl3 := hK _ _ HF2.out hk3
        have hq3 := hl3.2.1
        have HL3 := hid hl3
        have hA2 : A + s = (k + 1) * s := by rw [HA.out, Nat.succ_mul]
        have HA2 := hid hA2
        clear hA2 hl3 hy hR hk3
        gi_wp2
        go_roundw
        case rel => exact ⟨k + 1, by omega, by rw [← HA2.out]; go_num, HL3.out, by rw [HTA.out]; exact hJ3⟩
        case measure => simp [intOf]; omega
      · gi_wp2
        refine bodyPost_ret (results_none rfl _ _ _) rfl ?_
        exact ⟨⟨_, rfl⟩, .inr ⟨(List.finRange N).take (k + 1), List.take_prefix _ _, by rw [HTA.out]; exact hJx3⟩⟩
    · obtain rfl : k = N := by omega
      have hge : ¬ (((k * s : Nat) : Int) < (L : Int)) := by omega
      gi_wp2
      go_end0
      exact ⟨⟨_, rfl⟩, .inl (by have h := HJ1.out; rw [List.take_of_length_le (by rw [List.length_finRange]; exact Nat.le_refl _)] at h; exact h)⟩

theorem blocks_stops (n Bp Bt L s N : Nat) (t : ByteArray) (hn : 1 ≤ n) (ht : t.size = L) (l2 : L ≤ 300) (s1 : 1 ≤ s) (s2 : s ≤ 16) (hN : L ≤ N * s) (hN1 : ∀ k, k < N → k * s < L) (hN2 : N ≤ 300) (Kp : World → World → Prop) (hK : ∀ W W', BlF W Bp Bt L s t → Kp W W' → BlF W' Bp Bt L s t) (w : World) (hF : BlF w Bp Bt L s t) :
    SeqStopsK Fence.wide n Tryd.prog 44 #[.pointer (some ⟨Bp, 0, none⟩), .pointer (some ⟨Bt, 0, none⟩)] (fun x : Fin N => #[.string (strOfNums (blkN t s x.val))]) Kp (fun xs => xs = List.finRange N) (fun pre => pre <+: List.finRange N) N w :=
  fun l J Jx W hW hJ _ hY h0 => blocks1_in n l Bp Bt L s N _ t hn ht l2 s1 s2 hN hN1 hN2 J Jx hJ Kp hK hY W
    ⟨(hW.cell (p := ⟨Bp, 0, none⟩) (block_lt_of_cell hF.1)).trans hF.1, (hW.cell (p := ⟨Bp, 1, none⟩) (block_lt_of_cell hF.2.1)).trans hF.2.1, (hW.cell (p := ⟨Bt, 0, none⟩) (block_lt_of_cell hF.2.2)).trans hF.2.2⟩ h0

theorem BlF.belowB {w W W' : World} {Bp Bt L s : Nat} {t : ByteArray} (h : BlF W Bp Bt L s t) (hw : BlF w Bp Bt L s t) (hb : Below w.heap.size W W') : BlF W' Bp Bt L s t :=
  ⟨(hb.cell (p := ⟨Bp, 0, none⟩) (block_lt_of_cell hw.1)).trans h.1, (hb.cell (p := ⟨Bp, 1, none⟩) (block_lt_of_cell hw.2.1)).trans h.2.1, (hb.cell (p := ⟨Bt, 0, none⟩) (block_lt_of_cell hw.2.2)).trans h.2.2⟩

set_option maxHeartbeats 4000000 in
set_option maxRecDepth 100000 in
/-- All that come, gathered. -/
theorem gather_any (Bp Bt L s N : Nat) (t : ByteArray) (w : World) (ht : t.size = L) (l2 : L ≤ 300) (s1 : 1 ≤ s) (s2 : s ≤ 16) (hN : L ≤ N * s) (hN1 : ∀ k, k < N → k * s < L) (hN2 : N ≤ 300) (hF : BlF w Bp Bt L s t) :
    Calls Tryd.prog 43 #[.slice none 0 0, .func (.func 44) #[] #[.pointer (some ⟨Bp, 0, none⟩), .pointer (some ⟨Bt, 0, none⟩)]] w fun e w' => ∃ b d, e = .returned (.slice b N d) ∧ w'.ownsRow w.heap.size 9 1 (.slice b N d) N ((List.finRange N).map (fun k => Value.string (strOfNums (blkN t s k.val)))) ∧ Below w.heap.size w w' := by
  obtain ⟨i0, hi, hz0, hz1, hz2⟩ := info_parts infoStr
  obtain ⟨W0, hW0⟩ : ∃ W0, W0 = w.alloc (.cells #[.slice none 0 0] 36) := ⟨_, rfl⟩
  have B0 : Below w.heap.size w W0 := by rw [hW0]; exact u_b1 _ _
  have X0 : W0.heap[w.heap.size]? = some (.cells #[.slice none 0 0] 36 (0, 0)) := by rw [hW0]; exact laid _ _ _
  have Z0 : W0.heap.size = w.heap.size + 1 := by rw [hW0]; simp
  have F0 := hF.below B0
  have HF := hid hF
  clear hF
  refine (callsIn_wide (n := 9)).1 ?_
  refine callsIn_of_wp_marks Tryd.func43 rfl trivial ?_ rfl
  simp only [Tryd.ntmps43, List.size_toArray, List.length_cons, List.length_nil, Nat.reduceAdd, Nat.reduceSub, Array.replicate_succ, Array.replicate_zero, List.push_toArray, List.append_toArray, List.nil_append, List.cons_append]
  gi_wp2
  rw [← hW0]
  clear hW0
  refine wpIn_rangeFunc_ownG (α := Fin N) rfl (by omega) (gf := 44) (lb := #[.pointer (some ⟨Bp, 0, none⟩), .pointer (some ⟨Bt, 0, none⟩)]) rfl trivial (enters_of Tryd.func44 (by kernel_rfl) rfl)
    (blocks_stops (9 - 1) Bp Bt L s N t (by omega) ht l2 s1 s2 hN hN1 hN2 (Below w.heap.size) (fun W W' h k => h.belowB HF.out k) W0 F0)
    belowK_t (belowK_b (by omega)) (Below.refl _ _) (fun _ => rfl)
    (fun pre W => (∃ b d, W.heap[w.heap.size]? = some (.cells #[.slice b pre.length d] 36 (0, 0)) ∧ W.ownsRow (w.heap.size + 1) 9 1 (.slice b pre.length d) pre.length (pre.map (fun k => Value.string (strOfNums (blkN t s k.val))))) ∧ w.heap.size + 1 ≤ W.heap.size ∧ Below w.heap.size w W)
    (fun _ _ _ => False)
    (fun s A B row hs hg hr => by
      obtain ⟨⟨b, d, h2, h3⟩, h6, h5⟩ := hs
      exact ⟨⟨b, d, own_blk h2 hg hr, own_row h3 hg hr⟩, Nat.le_trans h6 hg.size, ownFrom_below (Nat.le_refl _) (by omega) s A B row h5 hg hr⟩)
    (fun _ _ _ _ _ hs _ _ => hs)
    ⟨⟨none, 0, X0, ⟨rfl, .inl ⟨rfl, rfl⟩⟩⟩, Nat.le_of_eq Z0.symm, B0⟩
    (fun x => { tmps := #[.slice none 0 0, .func (.func 44) #[] #[.pointer (some ⟨Bp, 0, none⟩), .pointer (some ⟨Bt, 0, none⟩)], .pointer (some ⟨w.heap.size, 0, none⟩), undef, .slice none 0 0, .string (strOfNums (blkN t s x.val)), .func (.func 44) #[] #[.pointer (some ⟨Bp, 0, none⟩), .pointer (some ⟨Bt, 0, none⟩)], .string (strOfNums (blkN t s x.val)), undef, undef, undef, undef, undef], defers := [] }) ?assign ?body ?done ?stop
  case assign =>
    intro l x W K hK
    gi_wp2
    exact hK
  case body =>
    rintro l pre x W ⟨⟨b, d, Y2, O1⟩, hw5, B1⟩ hlen
    have HY2 := hid Y2
    have HO := hid O1
    have HB1 := hid B1
    have y0 := box_cell Y2 0 (v := .slice b pre.length d) rfl
    have z0 := box_frozen Y2 0
    obtain ⟨f, hf⟩ : ∃ f, f = strOfNums (blkN t s x.val) := ⟨_, rfl⟩
    rw [← hf]
    have HFX := hid hf
    clear hf Y2 O1 B1
    gi_wp2_with (gi_at_builtin
                 refine wpListIn_append_own _ rfl _ _ 36 rfl (w.heap.size + 1) 9 i0 (.string ByteArray.empty) 1 16 Tryd.underlying36 hi hz0 hz1 hz2 rfl (by omega) _ _ _ rfl (HO.out.alloc _) ⟨W.heap.size, 0, none⟩ 1 1 [.string f] rfl rfl (fun j u hj => by rw [addr_add, Nat.zero_add]; exact box_cell (laid W #[.string f] 9) j (by simpa using hj)) (fun u hu => by simp at hu; subst hu; rfl) (by unfold maxLen; omega) (by omega) (by simp; omega) ?_
                 intro v' w5 o5 g5 _
                 have O4 := HO.out.alloc (.cells #[.string f] 9)
                 have hs4 : w.heap.size + 1 ≤ (W.alloc (.cells #[.string f] 9)).heap.size := by simp; omega
                 have b5 : Below (w.heap.size + 1) W w5 := ((u_b1 W _).mono hw5).trans ((Below.refl _ _).grown g5 hs4 (fun k hk => (O4.lt k hk).1))
                 have hk5 : KeepsOthers W w5 := (KeepsOthers.alloc _ _).trans (KeepsOthers.of_grownBy g5 (fun k o hk ho => by
                   rcases O4.2 with ⟨h1, _⟩ | ⟨g', cap', cur', h1, _, h2, _⟩
                   · rw [h1] at hk; cases hk
                   · rw [h1] at hk
                     cases hk
                     rw [h2] at ho
                     cases ho
                     rfl))
                 obtain ⟨a', cap', rfl⟩ := owns_slice o5
                 have Y5 := hid ((b5.block _ (by omega)).trans HY2.out)
                 have o6 := hid o5
                 have q0 := box_cell Y5.out 0 (v := .slice b pre.length d) rfl
                 have z5 := box_frozen Y5.out 0
                 have B5 := hid (HB1.out.trans (b5.mono (by omega)))
                 have H5 := hid b5
                 have K5 := hid hk5
                 have S5 := hid (set_block Y5.out 0 (.slice a' (pre.length + 1) cap'))
                 clear O4 hs4 b5 hk5 o5 g5 y0 z0)
    refine ⟨(K5.out.trans (KeepsOthers.setCell _ _ _)).from _, u_set (H5.out.mono (by omega)) (by omega) _ _, ⟨a', cap', ?_, ?_⟩, ?_, u_set B5.out (by omega) _ _⟩
    · rw [List.length_append]; exact S5.out
    · rw [List.map_append, List.length_append, List.map_singleton, ← HFX.out]
      exact Touch.owns (Touch.setCell _ _ _) o6.out (by simp)
    · have := H5.out.size; simp; omega
  case done =>
    rintro D ys W hD rfl ⟨⟨b, d, Y2, O1⟩, hw5, B1⟩ hK
    rw [List.length_finRange] at Y2 O1
    have q0 := box_cell Y2 0 (v := .slice b N d) rfl
    have HY2 := hid Y2
    have HO := hid O1
    have HB1 := hid B1
    clear Y2 O1 B1
    gi_wp2
    refine ⟨by simp, .inl ⟨_, _, rfl, run_takeDeferred hK, ?_⟩⟩
    refine ⟨.slice b N d, ?_, b, d, rfl, ?_, HB1.out.trans (belowK_b (w := w) (Nat.le_refl _) _ D _ _ (by omega) hK rfl rfl)⟩
    · simp [results, Tryd.f43, go_sem]
    · exact owns_base (ownsRow_putObj HO.out _ hK rfl) (by omega)
  case stop =>
    rintro D c pre W _ _ h _
    exact h.elim

set_option maxRecDepth 100000 in
theorem collect_any (Bp Bt L s N : Nat) (t : ByteArray) (w : World) (ht : t.size = L) (l2 : L ≤ 300) (s1 : 1 ≤ s) (s2 : s ≤ 16) (hN : L ≤ N * s) (hN1 : ∀ k, k < N → k * s < L) (hN2 : N ≤ 300) (hF : BlF w Bp Bt L s t) :
    Calls Tryd.prog 31 #[.func (.func 44) #[] #[.pointer (some ⟨Bp, 0, none⟩), .pointer (some ⟨Bt, 0, none⟩)]] w fun e w' => ∃ b d, e = .returned (.slice b N d) ∧ w'.ownsRow w.heap.size 9 1 (.slice b N d) N ((List.finRange N).map (fun k => Value.string (strOfNums (blkN t s k.val)))) ∧ Below w.heap.size w w' := by
  have K := hid (gather_any Bp Bt L s N t w ht l2 s1 s2 hN hN1 hN2 hF)
  clear hF hN1
  go_enter Tryd.func31, Tryd.ntmps31
  go_wp2_with fail
  refine K.out.mono ?_
  rintro e w2 ⟨b, d, rfl, o, bb⟩
  have O := hid o
  have BB := hid bb
  clear o bb K
  go_wp2_with fail
  go_ret
  exact ⟨b, d, rfl, O.out, BB.out⟩

set_option maxRecDepth 100000 in
theorem blocksF_in (L s : Int) (v1 v2 : Value) (t : ByteArray) (w : World) :
    Calls Tryd.prog 32 #[.agg #[.int .i64 L, .int .i64 s, v1, v2], .string t] w fun e w' => e = .returned (.func (.func 44) #[] #[.pointer (some ⟨w.heap.size, 0, none⟩), .pointer (some ⟨w.heap.size + 1, 0, none⟩)]) ∧ w' = (w.alloc (.cells #[.int .i64 L, .int .i64 s, v1, v2] 28)).alloc (.cells #[.string t] 9) := by
  go_enter Tryd.func32, Tryd.ntmps32
  go_wp2
  go_ret
  exact ⟨rfl, rfl⟩

theorem cnt_under (long size : Nat) (_l1 : 1 ≤ long) (l3 : 1 ≤ size) (N : Nat) (hN : cntI long size = N) : N * size < long + size := by
  unfold cntI at hN
  have h1 := Int.mul_ediv_add_emod ((long : Int) + size - 1) size
  have h2 := Int.emod_nonneg ((long : Int) + size - 1) (b := (size : Int)) (by omega)
  rw [hN] at h1
  have h4 : ((N * size : Nat) : Int) = (size : Int) * (N : Int) := by rw [Int.natCast_mul, Int.mul_comm]
  omega

set_option maxHeartbeats 2000000 in
set_option maxRecDepth 100000 in
theorem implPlanCut_in (long size : Nat) (a1 a2 : Option Addr) (c1 c2 : Nat) (ws gs : List Int) (t : ByteArray) (w : World) (ha1 : IntsAt w a1 ws) (ha2 : IntsAt w a2 gs) (hx : ws.length ≤ 1048576) (hy : gs.length ≤ 1048576) (hp : planP long size ws gs) (ht : t.size = long) :
    Calls Tryd.prog 18 #[.agg #[.int .i64 long, .int .i64 size, .slice a1 ws.length c1, .slice a2 gs.length c2], .string t] w fun e w' => ∃ b d, e = .returned (.slice b (blkP t long size).length d) ∧ w'.ownsRow w.heap.size 9 1 (.slice b (blkP t long size).length d) (blkP t long size).length ((blkP t long size).map Value.string) ∧ Below w.heap.size w w' := by
  have l1 : 1 ≤ long := by have := hp.1.1; omega
  have l2 : long ≤ 300 := by have := hp.1.2.1; omega
  have l3 : 1 ≤ size := by have := hp.1.2.2.1; omega
  have l4 : size ≤ 16 := by have := hp.1.2.2.2.1; omega
  have hc := cnt_pos long size (by omega) (by omega)
  have hc2 := hp.1.2.2.2.2
  obtain ⟨N, hN⟩ : ∃ N : Nat, cntI long size = N := ⟨(cntI long size).toNat, by omega⟩
  have hcv := cnt_cover long size l1 l3 N hN
  have hN1 : ∀ k, k < N → k * size < long := fun k hk => by
    have h1 : (k + 1) * size ≤ N * size := Nat.mul_le_mul_right _ hk
    rw [Nat.succ_mul] at h1
    have := cnt_under long size l1 l3 N hN
    omega
  have HE := hid (show (blkP t long size).map Value.string = (List.finRange N).map (fun k => Value.string (strOfNums (blkN t size k.val))) by
    unfold blkP
    rw [hN, Int.toNat_natCast, cutP_get, List.map_map]
    apply List.map_congr_left
    intro k _
    have h1 : (k.val + 1) * size ≤ N * size := Nat.mul_le_mul_right _ k.isLt
    have h2 := hN1 k.val k.isLt
    show Value.string _ = _
    rw [blk_eq t size k.val (N * size) (by omega) h1 (by omega), ht])
  have hlen : (blkP t long size).length = N := by unfold blkP; rw [hN, Int.toNat_natCast, cutP_len]
  have HLEN := hid hlen
  obtain ⟨W0, hW0⟩ : ∃ W0, W0 = w.alloc (.cells #[.int .i64 long, .int .i64 size, .slice a1 ws.length c1, .slice a2 gs.length c2] 28) := ⟨_, rfl⟩
  have B0 : Below w.heap.size w W0 := by rw [hW0]; exact u_b1 _ _
  have X0 := hid (show W0.heap[w.heap.size]? = some (.cells #[.int .i64 long, .int .i64 size, .slice a1 ws.length c1, .slice a2 gs.length c2] 28 (0, 0)) by rw [hW0]; exact laid _ _ _)
  have HOK := hid (implPlanOk long size a1 a2 c1 c2 ws gs _ (ha1.below B0) (ha2.below B0) (by omega) (by omega))
  rw [decide_eq_true hp] at HOK
  have HB := hid B0
  have hN24 : N ≤ 24 := by omega
  clear B0 ha1 ha2 hp hc hc2 hN hlen
  go_enter Tryd.func18, Tryd.ntmps18
  repeat ((fail_if_success (with_reducible show Code.wp _ (Code.region 1 _ _) _ _ _)); (first | go_values | go_skip | go_guarded | go_step | go_upon | go_back | go_simp))
  rw [← hW0]
  clear hW0
  have q0 := box_cell X0.out 0 (v := .int .i64 long) rfl
  have q1 := box_cell X0.out 1 (v := .int .i64 size) rfl
  have q2 := box_cell X0.out 2 (v := .slice a1 ws.length c1) rfl
  have q3 := box_cell X0.out 3 (v := .slice a2 gs.length c2) rfl
  go_wp2_with fail
  refine HOK.out.mono ?_
  rintro e w1 ⟨rfl, bb⟩
  replace X0 := hid (kept X0.out bb)
  replace HB := hid (u_cat HB.out bb)
  clear bb q0 q1 q2 q3 HOK
  have q0 := box_cell X0.out 0 (v := .int .i64 long) rfl
  have q1 := box_cell X0.out 1 (v := .int .i64 size) rfl
  have q2 := box_cell X0.out 2 (v := .slice a1 ws.length c1) rfl
  have q3 := box_cell X0.out 3 (v := .slice a2 gs.length c2) rfl
  have hne : ((t.size : Int) != (long : Int)) = false := by simp [ht]
  go_wp2_with fail
  refine (blocksF_in _ _ _ _ t w1).mono ?_
  rintro e w2 ⟨rfl, hw⟩
  have b2 : Below w1.heap.size w1 w2 := by rw [hw]; exact u_b2 _ _ _
  have F2 : BlF w2 w1.heap.size (w1.heap.size + 1) long size t := by
    rw [hw]
    have Y0 := kept (laid w1 #[.int .i64 (long : Int), .int .i64 (size : Int), .slice a1 ws.length c1, .slice a2 gs.length c2] 28) (u_b1 _ (.cells #[.string t] 9))
    exact ⟨box_cell Y0 0 rfl, box_cell Y0 1 rfl, box_cell (u_laid _ _ _ (by simp)) 0 rfl⟩
  have K := hid (collect_any w1.heap.size (w1.heap.size + 1) long size N t w2 ht l2 l3 l4 hcv.1 hN1 (by omega) F2)
  have HB2 := hid (u_cat HB.out b2)
  clear hw b2 F2 q0 q1 q2 q3 hN1 hcv
  go_wp2_with fail
  refine K.out.mono ?_
  rintro e w3 ⟨b, d, rfl, o, bb⟩
  have O := hid (owns_base o HB2.out.size)
  have B3 := hid (u_cat HB2.out bb)
  clear o bb K
  go_wp2_with fail
  go_ret
  refine ⟨b, d, ?_, ?_, B3.out⟩
  · rw [HLEN.out]
    rfl
  · rw [HLEN.out, HE.out]
    exact O.out

set_option maxHeartbeats 2000000 in
set_option maxRecDepth 100000 in
theorem implPlanCut_out (long size : Int) (a1 a2 : Option Addr) (c1 c2 : Nat) (ws gs : List Int) (t : ByteArray) (w : World) (ha1 : IntsAt w a1 ws) (ha2 : IntsAt w a2 gs) (hx : ws.length ≤ 1048576) (hy : gs.length ≤ 1048576) (hp : ¬ (planP long size ws gs ∧ (t.size : Int) = long)) :
    Calls Tryd.prog 18 #[.agg #[.int .i64 long, .int .i64 size, .slice a1 ws.length c1, .slice a2 gs.length c2], .string t] w fun e w' => e = .returned (.slice none 0 0) ∧ Below w.heap.size w w' := by
  have B0 := below_alloc' w (.cells #[.int .i64 long, .int .i64 size, .slice a1 ws.length c1, .slice a2 gs.length c2] 28)
  have X0 := hid (laid w #[.int .i64 long, .int .i64 size, .slice a1 ws.length c1, .slice a2 gs.length c2] 28)
  have HOK := hid (implPlanOk long size a1 a2 c1 c2 ws gs _ (ha1.below B0) (ha2.below B0) (by omega) (by omega))
  have B := hid B0
  clear B0 ha1 ha2
  by_cases h : planP long size ws gs
  · rw [decide_eq_true h] at HOK
    have ht : ((t.size : Int) == long) = false := by rw [beq_eq_false_iff_ne]; exact fun e => hp ⟨h, e⟩
    have ht2 : ((t.size : Int) != long) = true := by simp [bne, ht]
    clear hp h
    go_enter Tryd.func18, Tryd.ntmps18
    go_wp2_with fail
    refine HOK.out.mono ?_
    rintro e w1 ⟨rfl, b1⟩
    have X1 := hid (kept X0.out b1)
    have B1 := hid (below_cat' B.out b1)
    clear b1
    have q0 := box_cell X1.out 0 (v := .int .i64 long) rfl
    go_wp2_with fail
    go_ret
    exact ⟨rfl, B1.out⟩
  · rw [decide_eq_false h] at HOK
    clear hp h
    go_enter Tryd.func18, Tryd.ntmps18
    go_wp2_with fail
    refine HOK.out.mono ?_
    rintro e w1 ⟨rfl, b1⟩
    have B1 := hid (below_cat' B.out b1)
    clear b1
    go_wp2_with fail
    go_ret
    exact ⟨rfl, B1.out⟩
end Go.Proofs.YtcoofoiaaljpoaaDoor
