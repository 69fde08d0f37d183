/- A symbol of a thing, by the model and by the program. -/
import Derived.Test.YtcoofoiaaljpoaaDoorG14
import Derived.Test.YtcoofoiaaljpoaaDoorG19
import Derived.Test.YtcoofoiaaljpoaaDoorG35
import Derived.Test.YtcoofoiaaljpoaaDoorG36
namespace Go.Proofs.YtcoofoiaaljpoaaDoor
open Go.ChangeShapes Go.WideShapes Go.ChangeAt Go.RowKit Go.Sort

def symI (t : ByteArray) (long size : Int) (ws gs : List Int) (id : Int) : Prop := planP long size ws gs ∧ (t.size : Int) = long ∧ 0 ≤ id ∧ id ≤ 9999
instance (t : ByteArray) (long size : Int) (ws gs : List Int) (id : Int) : Decidable (symI t long size ws gs id) := by unfold symI; infer_instance
def symT (t : ByteArray) (long size : Int) (ws gs : List Int) (id : Int) : ByteArray := if symI t long size ws gs id then strOfNums (sumL (blkP t long.toNat size.toNat) (rowI long size ws gs id) (List.replicate size.toNat 0)) else ⟨#[]⟩
theorem blkP_sizes (t : ByteArray) (long size : Nat) (ws gs : List Int) (hp : planP long size ws gs) (ht : t.size = long) : sizesB (blkP t long size) size = true ∧ ((blkP t long size).length : Int) = cntI long size ∧ 1 ≤ (blkP t long size).length ∧ (blkP t long size).length ≤ 24 := by
  have l1 : 1 ≤ long := by have := hp.1.1; omega
  have l3 : 1 ≤ size := by have := hp.1.2.2.1; omega
  have hc := cnt_pos long size (by omega) (by omega)
  have hc2 := hp.1.2.2.2.2
  obtain ⟨N, hN⟩ : ∃ N : Nat, cntI long size = N := ⟨(cntI long size).toNat, by omega⟩
  have hcv := cnt_cover long size l1 l3 N hN
  have hl : (blkP t long size).length = N := by unfold blkP; rw [hN, Int.toNat_natCast, cutP_len]
  refine ⟨sizes_all fun k hk => ?_, by omega, by omega, by omega⟩
  have hk2 : k < N := by omega
  have h1 : (k + 1) * size ≤ N * size := Nat.mul_le_mul_right _ hk2
  have h2 : (k + 1) * size = k * size + size := Nat.succ_mul k size
  have hz : (t ++ rep (N * size - long) (strOfNums [0])).size = N * size := by
    rw [ByteArray.size_append, rep_zero, str_size, List.length_replicate]
    omega
  unfold blkP
  rw [hN, Int.toNat_natCast, cutP_get, List.getD_eq_getElem?_getD, List.getElem?_map, List.getElem?_eq_getElem (by rw [List.length_finRange]; exact hk2), List.getElem_finRange]
  show ((t ++ rep (N * size - long) (strOfNums [0])).extract (k * size) ((k + 1) * size)).size = size
  rw [ByteArray.size_extract, hz, Nat.min_eq_left h1]
  omega
theorem symT_in {t : ByteArray} {long size : Nat} {ws gs : List Int} {id : Int} (h : symI t long size ws gs id) : symT t long size ws gs id = strOfNums (sumL (blkP t long size) (rowI long size ws gs id) (List.replicate size 0)) := by
  unfold symT
  rw [if_pos h, Int.toNat_natCast, Int.toNat_natCast]
theorem sym_ok {t : ByteArray} {long size : Nat} {ws gs : List Int} {id : Int} (h : symI t long size ws gs id) : sumOkB (blkP t long size) (rowI long size ws gs id) = true ∧ sumOf (blkP t long size) (rowI long size ws gs id) = symT t long size ws gs id := by
  obtain ⟨hp, ht, i0, i1⟩ := h
  obtain ⟨h1, h2, h3, h4⟩ := blkP_sizes t long size ws gs hp (by omega)
  have h5 := (rowI_asc hp i0).1
  have hne : blkP t long size ≠ [] := by intro e; rw [e] at h3; simp at h3
  have h0 := sizes_at h1 0 (by omega)
  have h16 : size ≤ 16 := by have := hp.1.2.2.2.1; omega
  have hok : sumOkB (blkP t long size) (rowI long size ws gs id) = true := by
    rw [sumOkB, blocksB_cons hne, h0, h1, rowOkB, h2, h5, ← h2]
    simp
    omega
  refine ⟨hok, ?_⟩
  rw [sum_yes hok, h0, symT_in ⟨hp, ht, i0, i1⟩]

set_option maxHeartbeats 2000000 in
theorem specSym_in (long size : Nat) (a1 a2 : Option Addr) (c1 c2 : Nat) (ws gs : List Int) (t : ByteArray) (id : Int) (w : World) (ha1 : IntsAt w a1 ws) (ha2 : IntsAt w a2 gs) (hx : ws.length ≤ 1048576) (hy : gs.length ≤ 1048576) (h : symI t long size ws gs id) :
    Calls Tryd.prog 5 #[.agg #[.int .i64 long, .int .i64 size, .slice a1 ws.length c1, .slice a2 gs.length c2], .string t, .int .i64 id] w fun e w' => e = .returned (.tuple #[.string (symT t long size ws gs id), .bool true]) ∧ Below w.heap.size w w' := by
  have ht : t.size = long := by have := h.2.1; omega
  have hp := h.1
  have HS := hid (symT_in h)
  have l1 : 1 ≤ long := by have := hp.1.1; omega
  have l2 : long ≤ 300 := by have := hp.1.2.1; omega
  have l3 : 1 ≤ size := by have := hp.1.2.2.1; omega
  have l4 : size ≤ 16 := by have := hp.1.2.2.2.1; omega
  have i0 := h.2.2.1
  have i1 := h.2.2.2
  have hc := cnt_pos long size (by omega) (by omega)
  have hc2 := hp.1.2.2.2.2
  obtain ⟨b1, b2, b3, b4⟩ := blkP_sizes t long size ws gs hp ht
  have hra := rowI_asc hp i0
  rw [← b2] at hra
  have hr24 := hra.2
  obtain ⟨N, hN⟩ : ∃ N : Nat, cntI long size = N := ⟨(cntI long size).toNat, by omega⟩
  have hcv := cnt_cover long size l1 l3 N hN
  have HE := hid (show blkP t long size = cutP (t ++ rep (N * size - long) (strOfNums [0])) size N by unfold blkP; rw [hN]; rfl)
  have hbl : (blkP t long size).length = N := by omega
  have HK := hid (fun w => l5Cut_any long size N (N * size) a1 a2 ws.length c1 gs.length c2 t w l1 l2 l3 l4 hN (by omega) rfl hcv.1 (by omega) ht)
  rw [← HE.out, ← hbl] at HK
  have HRW := hid (fun w i1' i2' => l5Row_any long size id a1 a2 c1 c2 ws gs w i1' i2' hp i0 i1)
  obtain ⟨R, hR⟩ : ∃ R, R = blkP t long size := ⟨_, rfl⟩
  obtain ⟨X, hX⟩ : ∃ X, X = rowI long size ws gs id := ⟨_, rfl⟩
  rw [← hR] at HS HK b1 b3 b4 hra
  rw [← hX] at HS HRW hra hr24
  have HSM := hid (fun p q cp cq w (sa : StrsAt w p R) (sb : IntsAt w q X) => l2Sum_any p q cp cq R X size w sa sb b1 hra.1 (by omega) (by omega))
  have B0 := below_alloc' w (.cells #[.int .i64 long, .int .i64 size, .slice a1 ws.length c1, .slice a2 gs.length c2] 28)
  have X0 := hid (laid w #[.int .i64 long, .int .i64 size, .slice a1 ws.length c1, .slice a2 gs.length c2] 28)
  have HOK := hid (specPlanOk long size a1 a2 c1 c2 ws gs _ (ha1.below B0) (ha2.below B0) (by omega) (by omega))
  rw [decide_eq_true hp] at HOK
  have I1 := hid (ha1.below B0)
  have I2 := hid (ha2.below B0)
  have B := hid B0
  clear B0 ha1 ha2 hp hc hc2 hcv hN h b1 b2 hra HE hR hX hbl
  go_enter Tryd.func5, Tryd.ntmps5
  go_wp2_with (first
    | (go_at_call 10; refine (HOK.out).mono ?_; rintro e w1 ⟨rfl, b1⟩; have X1 := hid (kept X0.out b1); have B1 := hid (below_cat' B.out b1); have J1 := hid (I1.out.below b1); have J2 := hid (I2.out.below b1); clear b1; have q0 := box_cell X1.out 0 (v := .int .i64 long) rfl; have q1 := box_cell X1.out 1 (v := .int .i64 size) rfl; have q2 := box_cell X1.out 2 (v := .slice a1 ws.length c1) rfl; have q3 := box_cell X1.out 3 (v := .slice a2 gs.length c2) rfl)
    | (go_at_call 11; refine (l1In_yes _ _ _ _ (by omega)).mono ?_; rintro e wa ⟨rfl, hq⟩; subst hq))
  go_region_held3 (fun w' => w'.cell? ⟨w.heap.size, 0, none⟩ = some (.int .i64 long) ∧ w'.cell? ⟨w.heap.size, 1, none⟩ = some (.int .i64 size) ∧ w'.cell? ⟨w.heap.size, 2, none⟩ = some (.slice a1 ws.length c1) ∧ w'.cell? ⟨w.heap.size, 3, none⟩ = some (.slice a2 gs.length c2)) (first | (with_reducible exact ⟨q0, q1, q2, q3⟩) | go_keep) (first
    | (go_at_call 13; refine (HK.out _).mono ?_; rintro e w2 ⟨v2, rfl, o2, b2⟩; have B2 := hid (below_cat' (below_drewN B1.out 1) b2); have X2 := hid (kept (kept X1.out (below_drewN (Below.refl _ _) 1)) b2); have K1 := hid ((J1.out.drewN 1).below b2); have K2 := hid ((J2.out.drewN 1).below b2); have O2 := hid o2; obtain ⟨p2, d2, rfl, -, -⟩ := owns_strs o2; clear b2 o2 q0 q1 q2 q3; have q0 := box_cell X2.out 0 (v := .int .i64 long) rfl; have q1 := box_cell X2.out 1 (v := .int .i64 size) rfl; have q2 := box_cell X2.out 2 (v := .slice a1 ws.length c1) rfl; have q3 := box_cell X2.out 3 (v := .slice a2 gs.length c2) rfl)
    | (go_at_call 14; refine (HRW.out _ (by exact K1.out) (by exact K2.out)).mono ?_; rintro e w3 ⟨v3, rfl, o3, b3'⟩; have B3 := hid (below_cat' B2.out b3'); have X3 := hid (kept X2.out b3'); have O3 := hid (owns_below O2.out b3'); have P3 := hid o3; obtain ⟨p3, d3, rfl, -, -⟩ := owns_ints o3; clear b3' o3 q0 q1 q2 q3; have q0 := box_cell X3.out 0 (v := .int .i64 long) rfl; have q1 := box_cell X3.out 1 (v := .int .i64 size) rfl; have q2 := box_cell X3.out 2 (v := .slice a1 ws.length c1) rfl; have q3 := box_cell X3.out 3 (v := .slice a2 gs.length c2) rfl)
    | (go_at_call 12; refine (HSM.out _ _ _ _ _ (by exact own_strs O3.out) (by exact owns_at P3.out)).mono ?_; rintro e w4 ⟨rfl, b4'⟩; have B4 := hid (below_cat' B3.out b4'); have X4 := hid (kept X3.out b4'); clear b4' q0 q1 q2 q3; have q0 := box_cell X4.out 0 (v := .int .i64 long) rfl; have q1 := box_cell X4.out 1 (v := .int .i64 size) rfl; have q2 := box_cell X4.out 2 (v := .slice a1 ws.length c1) rfl; have q3 := box_cell X4.out 3 (v := .slice a2 gs.length c2) rfl))
  go_wp2_with fail
  go_ret2
  exact ⟨by rw [HS.out]; rfl, B4.out⟩

set_option maxHeartbeats 2000000 in
theorem specSym_out (long size : Int) (a1 a2 : Option Addr) (c1 c2 : Nat) (ws gs : List Int) (t : ByteArray) (id : Int) (w : World) (ha1 : IntsAt w a1 ws) (ha2 : IntsAt w a2 gs) (hx : ws.length ≤ 1048576) (hy : gs.length ≤ 1048576) (h : ¬ symI t long size ws gs id) :
    Calls Tryd.prog 5 #[.agg #[.int .i64 long, .int .i64 size, .slice a1 ws.length c1, .slice a2 gs.length c2], .string t, .int .i64 id] w fun e w' => e = .returned (.tuple #[.string (symT t long size ws gs id), .bool false]) ∧ Below w.heap.size w w' := by
  have HS := hid (show symT t long size ws gs id = ⟨#[]⟩ from if_neg h)
  have B0 := below_alloc' w (.cells #[.int .i64 long, .int .i64 size, .slice a1 ws.length c1, .slice a2 gs.length c2] 28)
  have X0 := hid (laid w #[.int .i64 long, .int .i64 size, .slice a1 ws.length c1, .slice a2 gs.length c2] 28)
  have HOK := hid (specPlanOk long size a1 a2 c1 c2 ws gs _ (ha1.below B0) (ha2.below B0) (by omega) (by omega))
  have B := hid B0
  clear B0 ha1 ha2
  by_cases hp : planP long size ws gs
  · rw [decide_eq_true hp] at HOK
    by_cases ht : (t.size : Int) = long
    · have hb : ((t.size : Int) == long) = true := by rw [beq_iff_eq]; exact ht
      have hi : ¬ (0 ≤ id ∧ id ≤ 9999) := fun hi => h ⟨hp, ht, hi⟩
      clear h hp
      go_enter Tryd.func5, Tryd.ntmps5
      go_wp2_with (first
        | (go_at_call 10; refine (HOK.out).mono ?_; rintro e w1 ⟨rfl, b1⟩; have X1 := hid (kept X0.out b1); have B1 := hid (below_cat' B.out b1); clear b1; have q0 := box_cell X1.out 0 (v := .int .i64 long) rfl)
        | (go_at_call 11; refine (l1In_no _ _ _ _ (by omega)).mono ?_; rintro e wa ⟨rfl, hq⟩; subst hq))
      go_ret2
      exact ⟨by rw [HS.out]; rfl, B1.out⟩
    · have hb : ((t.size : Int) == long) = false := by rw [beq_eq_false_iff_ne]; exact ht
      clear h hp
      go_enter Tryd.func5, Tryd.ntmps5
      go_wp2_with (go_at_call 10; refine (HOK.out).mono ?_; rintro e w1 ⟨rfl, b1⟩; have X1 := hid (kept X0.out b1); have B1 := hid (below_cat' B.out b1); clear b1; have q0 := box_cell X1.out 0 (v := .int .i64 long) rfl)
      go_ret2
      exact ⟨by rw [HS.out]; rfl, B1.out⟩
  · rw [decide_eq_false hp] at HOK
    clear h hp
    go_enter Tryd.func5, Tryd.ntmps5
    go_wp2_with (go_at_call 10; refine (HOK.out).mono ?_; rintro e w1 ⟨rfl, b1⟩; have B1 := hid (below_cat' B.out b1); clear b1)
    go_ret2
    exact ⟨by rw [HS.out]; rfl, B1.out⟩

set_option maxHeartbeats 2000000 in
set_option maxRecDepth 100000 in
theorem implSym_any (long size : Int) (a1 a2 : Option Addr) (c1 c2 : Nat) (ws gs : List Int) (t : ByteArray) (id : Int) (w : World) (ha1 : IntsAt w a1 ws) (ha2 : IntsAt w a2 gs) (hx : ws.length ≤ 1048576) (hy : gs.length ≤ 1048576) (hT : Tab w) :
    Calls Tryd.prog 7 #[.agg #[.int .i64 long, .int .i64 size, .slice a1 ws.length c1, .slice a2 gs.length c2], .string t, .int .i64 id] w fun e w' => e = .returned (.tuple #[.string (symT t long size ws gs id), .bool (decide (symI t long size ws gs id))]) ∧ Below w.heap.size w w' := by
  have B0 := below_alloc' w (.cells #[.int .i64 long, .int .i64 size, .slice a1 ws.length c1, .slice a2 gs.length c2] 28)
  have X0 := hid (laid w #[.int .i64 long, .int .i64 size, .slice a1 ws.length c1, .slice a2 gs.length c2] 28)
  by_cases hi : 0 ≤ id ∧ id ≤ 9999
  · have HI := hid (decide_eq_true hi)
    have I1 := hid (ha1.below B0)
    have I2 := hid (ha2.below B0)
    have T1 := hid (hT.below B0)
    have B := hid B0
    have hsz : ∀ k, ((blkR t long size ws gs).getD k ByteArray.empty).size ≤ 9223372036854775807 := by
      intro k
      unfold blkR
      split
      · next h =>
        have hc := h.1.1
        obtain ⟨L, hL⟩ : ∃ L : Nat, long = L := ⟨long.toNat, by have := hc.1; omega⟩
        obtain ⟨S, hS⟩ : ∃ S : Nat, size = S := ⟨size.toNat, by have := hc.2.2.1; omega⟩
        have h4 := hc.2.2.2.1
        rw [hL, hS] at h ⊢
        rw [Int.toNat_natCast, Int.toNat_natCast]
        obtain ⟨b1, -, -, -⟩ := blkP_sizes t L S ws gs h.1 (by omega)
        by_cases hk : k < (blkP t L S).length
        · rw [sizes_at b1 k hk]; omega
        · rw [List.getD_eq_getElem?_getD, List.getElem?_eq_none (by omega)]
          decide
      · simp
    have hR := blkR_len t long size ws gs
    have hX : (rowP long size ws gs id).length ≤ 24 := by
      unfold rowP
      split
      · next h => exact (rowI_asc h.1 h.2.1).2
      · simp
    have HV := hid (show sumOf (blkR t long size ws gs) (rowP long size ws gs id) = symT t long size ws gs id ∧ sumOkB (blkR t long size ws gs) (rowP long size ws gs id) = decide (symI t long size ws gs id) by
      by_cases h : symI t long size ws gs id
      · have hc := h.1.1
        obtain ⟨L, hL⟩ : ∃ L : Nat, long = L := ⟨long.toNat, by have := hc.1; omega⟩
        obtain ⟨S, hS⟩ : ∃ S : Nat, size = S := ⟨size.toNat, by have := hc.2.2.1; omega⟩
        subst hL hS
        have e1 : blkR t L S ws gs = blkP t L S := by unfold blkR; rw [if_pos ⟨h.1, h.2.1⟩, Int.toNat_natCast, Int.toNat_natCast]
        have e2 : rowP L S ws gs id = rowI L S ws gs id := if_pos ⟨h.1, h.2.2⟩
        rw [e1, e2, (sym_ok h).1, (sym_ok h).2, decide_eq_true h]
        exact ⟨rfl, rfl⟩
      · have e1 : blkR t long size ws gs = [] := if_neg fun hh => h ⟨hh.1, hh.2, hi⟩
        have e3 : sumOkB [] (rowP long size ws gs id) = false := by rw [sumOkB, blocksB_nil, Bool.and_false]
        rw [e1, e3, sum_no e3, decide_eq_false h]
        exact ⟨(if_neg h).symm, rfl⟩)
    obtain ⟨R, hRd⟩ : ∃ R, R = blkR t long size ws gs := ⟨_, rfl⟩
    obtain ⟨X, hXd⟩ : ∃ X, X = rowP long size ws gs id := ⟨_, rfl⟩
    have HC := hid (fun (w : World) (i1 : IntsAt w a1 ws) (i2 : IntsAt w a2 gs) => hRd ▸ impl_cut long size a1 a2 c1 c2 ws gs t w i1 i2 hx hy)
    have HW := hid (fun (w : World) (i1 : IntsAt w a1 ws) (i2 : IntsAt w a2 gs) (hT : Tab w) => hXd ▸ implPlanRow long size id a1 a2 c1 c2 ws gs w i1 i2 (by omega) (by omega) hT)
    rw [← hRd] at hsz hR HV
    rw [← hXd] at hX HV
    have HSM := hid (fun p q cp cq w (sa : StrsAt w p R) (sb : IntsAt w q X) => implRowSum_any p q cp cq R X w sa sb (by omega) (by omega) hsz)
    clear B0 ha1 ha2 hT hi hRd hXd hsz
    have q0 := box_cell X0.out 0 (v := .int .i64 long) rfl
    have q1 := box_cell X0.out 1 (v := .int .i64 size) rfl
    have q2 := box_cell X0.out 2 (v := .slice a1 ws.length c1) rfl
    have q3 := box_cell X0.out 3 (v := .slice a2 gs.length c2) rfl
    go_enter Tryd.func7, Tryd.ntmps7
    go_wp2_with (go_at_call 16; refine (idOk_any _ _).mono ?_; rintro e wa ⟨rfl, hq⟩; subst hq; rw [HI.out])
    go_region_held3 (fun w' => w'.cell? ⟨w.heap.size, 0, none⟩ = some (.int .i64 long) ∧ w'.cell? ⟨w.heap.size, 1, none⟩ = some (.int .i64 size) ∧ w'.cell? ⟨w.heap.size, 2, none⟩ = some (.slice a1 ws.length c1) ∧ w'.cell? ⟨w.heap.size, 3, none⟩ = some (.slice a2 gs.length c2)) (first | (with_reducible exact ⟨q0, q1, q2, q3⟩) | go_keep) (first
      | (go_at_call 18; refine (HC.out _ (I1.out.drewN 1) (I2.out.drewN 1)).mono ?_; rintro e w2 ⟨p2, d2, rfl, o2, b2⟩; have B2 := hid (below_cat' (below_drewN B.out 1) b2); have X2 := hid (kept (kept X0.out (below_drewN (Below.refl _ _) 1)) b2); have K1 := hid ((I1.out.drewN 1).below b2); have K2 := hid ((I2.out.drewN 1).below b2); have T2 := hid ((T1.out.below (below_drewN (Below.refl _ _) 1)).below b2); have O2 := hid o2; clear b2 o2 q0 q1 q2 q3; have q0 := box_cell X2.out 0 (v := .int .i64 long) rfl; have q1 := box_cell X2.out 1 (v := .int .i64 size) rfl; have q2 := box_cell X2.out 2 (v := .slice a1 ws.length c1) rfl; have q3 := box_cell X2.out 3 (v := .slice a2 gs.length c2) rfl)
      | (go_at_call 19; refine (HW.out _ (by exact K1.out) (by exact K2.out) T2.out).mono ?_; rintro e w3 ⟨v3, rfl, o3, b3'⟩; have B3 := hid (below_cat' B2.out b3'); have X3 := hid (kept X2.out b3'); have O3 := hid (owns_below O2.out b3'); have P3 := hid o3; obtain ⟨p3, d3, rfl, -, -⟩ := owns_ints o3; clear b3' o3 q0 q1 q2 q3; have q0 := box_cell X3.out 0 (v := .int .i64 long) rfl; have q1 := box_cell X3.out 1 (v := .int .i64 size) rfl; have q2 := box_cell X3.out 2 (v := .slice a1 ws.length c1) rfl; have q3 := box_cell X3.out 3 (v := .slice a2 gs.length c2) rfl)
      | (go_at_call 17; refine (HSM.out _ _ _ _ _ (by exact own_strs O3.out) (by exact owns_at P3.out)).mono ?_; rintro e w4 ⟨rfl, b4'⟩; have B4 := hid (below_cat' B3.out b4'); have X4 := hid (kept X3.out b4'); clear b4' q0 q1 q2 q3; have q0 := box_cell X4.out 0 (v := .int .i64 long) rfl; have q1 := box_cell X4.out 1 (v := .int .i64 size) rfl; have q2 := box_cell X4.out 2 (v := .slice a1 ws.length c1) rfl; have q3 := box_cell X4.out 3 (v := .slice a2 gs.length c2) rfl))
    go_wp2_with fail
    go_ret2
    exact ⟨by rw [← HV.out.1, ← HV.out.2]; rfl, B4.out⟩
  · have HI := hid (decide_eq_false hi)
    have hs : ¬ symI t long size ws gs id := fun h => hi h.2.2
    have HS := hid (show symT t long size ws gs id = ⟨#[]⟩ from if_neg hs)
    have HD := hid (decide_eq_false hs)
    have B := hid B0
    clear B0 ha1 ha2 hT hi
    go_enter Tryd.func7, Tryd.ntmps7
    go_wp2_with (go_at_call 16; refine (idOk_any _ _).mono ?_; rintro e wa ⟨rfl, hq⟩; subst hq; rw [HI.out])
    go_ret2
    exact ⟨by rw [HS.out, HD.out]; rfl, B.out⟩
end Go.Proofs.YtcoofoiaaljpoaaDoor
