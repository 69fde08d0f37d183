/- Degrees, the program's own: parts are taken by a closure. -/
import Derived.Test.YtcoofoiaaljpoaaDoorG28
namespace Go.Proofs.YtcoofoiaaljpoaaDoor
open Go.ChangeShapes Go.WideShapes Go.ChangeAt Go.RowKit

set_option maxRecDepth 100000 in
theorem wish_any (count d : Nat) (h1 : 1 ≤ count) (h2 : count ≤ 24) (g1 : 1 ≤ d) (g2 : d ≤ 24) (w : World) :
    Calls Tryd.prog 67 #[.int .i64 count, .int .i64 d] w fun e w' => e = .returned (.int .i64 (wishI count d)) ∧ w' = w := by
  rcases (show d = 1 ∨ 2 ≤ d from by omega) with rfl | h
  · go_enter Tryd.func67, Tryd.ntmps67
    go_wp2
    go_ret
    exact ⟨ret_int (wishI_one count).symm, rfl⟩
  · obtain ⟨k, rfl⟩ : ∃ k, d = k + 1 := ⟨d - 1, by omega⟩
    have e1 := wishI_more count k (by omega)
    have HE : Hid _ := e1
    have hd : ((k + 1 : Nat) : Int) = (k : Int) + 1 := by omega
    rw [hd]
    have hne : ((k : Int) + 1 == 1) = false := by simp; omega
    have hp1 : 1 ≤ ((k : Int) + 1) * (k : Int) := by have := Int.mul_le_mul (a := 1) (b := 1) (c := (k : Int) + 1) (d := k) (by omega) (by omega) (by omega) (by omega); omega
    have hp2 : ((k : Int) + 1) * (k : Int) ≤ 600 := by have := Int.mul_le_mul (a := (k : Int) + 1) (b := k) (c := 24) (d := 23) (by omega) (by omega) (by omega) (by omega); omega
    have hq1 := Int.ediv_nonneg (a := 65536) (b := ((k : Int) + 1) * (k : Int)) (by omega) (by omega)
    have hq2 := Int.ediv_le_self (a := 65536) (((k : Int) + 1) * (k : Int)) (by omega)
    clear e1 hd
    go_enter Tryd.func67, Tryd.ntmps67
    go_wp2
    go_ret
    exact ⟨ret_int HE.out.symm, rfl⟩

set_option maxRecDepth 100000 in
set_option maxRecDepth 100000 in
/-- The closure: as much as is wished for, as long as it is left. -/
theorem take_any (g : Nat) (x l : Int) (w : World) (hx : 0 ≤ x ∧ x ≤ 65536) (hl : 0 ≤ l ∧ l ≤ 65536) (hcap : w.heap[g]? = some (.cells #[.int .i64 l] 3 (0, 0))) :
    Calls Tryd.prog 69 #[.int .i64 x, .pointer (some ⟨g, 0, none⟩)] w fun e w' => e = .returned (.int .i64 (min x l)) ∧ w'.heap[g]? = some (.cells #[.int .i64 (l - min x l)] 3 (0, 0)) ∧ Touch g w w' := by
  have hc := cell_of_one hcap
  have hf := free_of_one hcap
  have HC : Hid _ := hcap
  clear hcap
  by_cases h : x ≤ l
  · have e1 : min x l = x := by omega
    rw [e1]
    clear e1
    go_enter Tryd.func69, Tryd.ntmps69
    go_wp2
    go_ret
    exact ⟨rfl, one_setCell HC.out, Touch.setCell w ⟨g, 0, none⟩ _⟩
  · have e1 : min x l = l := by omega
    rw [e1]
    have e2 : l - l = 0 := by omega
    rw [e2]
    clear e1 e2
    go_enter Tryd.func69, Tryd.ntmps69
    go_wp2
    go_ret
    exact ⟨rfl, one_setCell HC.out, Touch.setCell w ⟨g, 0, none⟩ _⟩

set_option maxRecDepth 100000 in
theorem taker_any (w : World) :
    Calls Tryd.prog 66 #[] w fun e w' => e = .returned (.func (.func 69) #[] #[.pointer (some ⟨w.heap.size, 0, none⟩)]) ∧ w' = w.alloc (.cells #[.int .i64 65536] 3) := by
  go_enter Tryd.func66, Tryd.ntmps66
  go_wp2
  go_ret
  exact ⟨rfl, rfl⟩

set_option maxHeartbeats 1000000 in
set_option maxRecDepth 100000 in
theorem implDegrees_in (count : Nat) (h1 : 1 ≤ count) (h2 : count ≤ 24) (w : World) :
    Calls Tryd.prog 62 #[.int .i64 count] w fun e w' => ∃ v, e = .returned v ∧ w'.ownsRow w.heap.size 3 1 v count ((degI count).map (Value.int .i64)) ∧ Below w.heap.size w w' := by
  obtain ⟨i0, hi, hz0, hz1, hz2⟩ := info_parts Tryd.info3
  go_enter Tryd.func62, Tryd.ntmps62
  go_wp2_with (go_at_call 66; refine (taker_any _).mono ?_; rintro e w' ⟨rfl, rfl⟩)
  go_loopw [4, 5] (fun v i wr => ∃ k : Nat, k + 1 ≤ count ∧ i = .int .i64 (k + 1) ∧ wr.heap[w.heap.size]? = some (.cells #[.int .i64 (degSt count k).2] 3 (0, 0)) ∧ wr.ownsRow (w.heap.size + 1) 3 1 v k ((degSt count k).1.map (Value.int .i64)) ∧ Below w.heap.size w wr) (fun _ i _ => count - (intOf i).toNat)
  case atStart =>
    exact ⟨0, by omega, rfl, heap_alloc_new w _, World.ownsRow_nil _ _ _ _, (Below.refl _ _).alloc (Nat.le_refl _) _⟩
  case round =>
    obtain ⟨k, hk, rfl, hcap, hown, hnx⟩ := hrel
    have hsz := lt_of_block hcap
    have hlb := degSt_bd count k h1
    have hwb := wishI_bd count (k + 1) h1 (by omega)
    obtain ⟨L, hL⟩ : ∃ L, L = (degSt count k).2 := ⟨_, rfl⟩
    have hlast : count = k + 1 → degI count = (degSt count k).1 ++ [L] := fun h => by subst h; simp [degI, hL]
    rw [← hL] at hlb hcap
    have HL : Hid _ := hL
    have HC : Hid _ := hcap
    clear hL hcap
    by_cases hlt : k + 1 < count
    · clear hlast
      have hwc : ((k : Int) + 1) = ((k + 1 : Nat) : Int) := by omega
      have HWC : Hid _ := hwc
      clear hwc
      go_wp2_with (first
        | (go_at_call 67; rw [HWC.out]; refine (wish_any count (k + 1) h1 h2 (by omega) (by omega) _).mono ?_; rintro e w' ⟨rfl, rfl⟩)
        | (go_at_call 69; refine (take_any w.heap.size _ L _ hwb hlb HC.out).mono ?_; rintro e w2 ⟨rfl, hcap2, ht2⟩; have hown2 := ht2.owns hown (Nat.lt_succ_self _); have HC2 : Hid _ := hcap2; have hsz2 := lt_of_block hcap2; clear hcap2)
        | (at_builtin; refine append_one 22 3 i0 _ 8 Tryd.underlying22 hi hz0 hz1 hz2 rfl _ _ rfl rfl rfl rfl rfl rfl hown2 hsz2 (by omega) (by omega) ?_; intro v' w1 hown1 hb1))
      have hst := deg_step (by rw [← HL.out]) hown1
      have hcap1 := (hb1.block w.heap.size (Nat.lt_succ_self _)).trans HC2.out
      go_roundw
      case rel => exact ⟨k + 1, by omega, by go_num, by rw [hst.2, ← HL.out]; exact hcap1, hst.1, (hnx.trans (ht2.below (Nat.le_refl _))).trans (hb1.mono (Nat.le_succ _))⟩
      case measure => simp [intOf]; omega
    · obtain rfl : count = k + 1 := by omega
      have HF : Hid _ := hlast rfl
      clear hlast
      go_wp2_with (first
        | (go_at_call 69; refine (take_any w.heap.size _ L _ (by omega) hlb HC.out).mono ?_; rintro e w2 ⟨rfl, hcap2, ht2⟩; have hown2 := ht2.owns hown (Nat.lt_succ_self _); have HC2 : Hid _ := hcap2; have hsz2 := lt_of_block hcap2; clear hcap2)
        | (at_builtin; refine append_one 22 3 i0 _ 8 Tryd.underlying22 hi hz0 hz1 hz2 rfl _ _ rfl rfl rfl rfl rfl rfl hown2 hsz2 (by omega) (by omega) ?_; intro v' w1 hown1 hb1))
      go_ret
      refine ⟨_, rfl, ?_, (hnx.trans (ht2.below (Nat.le_refl _))).trans (hb1.mono (Nat.le_succ _))⟩
      rw [HF.out]
      have : min 65536 L = L := by omega
      rw [this] at hown1
      simpa using owns_base hown1 (Nat.le_succ _)

set_option maxRecDepth 100000 in
theorem implDegrees_out (c : Int) (h : c < 1 ∨ 24 < c) (w : World) :
    Calls Tryd.prog 62 #[.int .i64 c] w fun e w' => e = .returned (.slice none 0 0) ∧ w' = w := by
  rcases h with h | h
  · go_enter Tryd.func62, Tryd.ntmps62
    go_wp2
    go_ret
    exact ⟨rfl, rfl⟩
  · have h' : ¬ c < 1 := by omega
    go_enter Tryd.func62, Tryd.ntmps62
    go_wp2
    go_ret
    exact ⟨rfl, rfl⟩
end Go.Proofs.YtcoofoiaaljpoaaDoor
