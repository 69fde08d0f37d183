/- Plans as text: by the model and by the program. -/
import Derived.Test.YtdjllghfhginkaaDoorPwI
import Derived.Test.YtdjllghfhginkaaDoorPlanSB
import Derived.Test.YtdjllghfhginkaaDoorPlanI
import Derived.Deep.QuietTactic
import Derived.BigQuiet
import Derived.Lib.QuietBelow
namespace Go.Proofs.YtdjllghfhginkaaDoor
open Go.ChangeShapes Go.WideShapes Go.ChangeAt Go.RowKit Go.Sort

/-- A plan as text. -/
def plnS (long size : Nat) (ws gs : List Int) : ByteArray := decS long ++ ⟨#[47]⟩ ++ decS size ++ ⟨#[58]⟩ ++ cmS ws ++ ⟨#[58]⟩ ++ cmS gs
theorem getD_of_mem {xs : List Int} {x : Int} (h : x ∈ xs) : ∃ k, k < xs.length ∧ xs.getD k 0 = x := by
  obtain ⟨k, hk, rfl⟩ := List.mem_iff_getElem.1 h
  exact ⟨k, hk, by simp [List.getD, hk]⟩
theorem pln_bounds {long size : Int} {ws gs : List Int} (h : planP long size ws gs) :
    (1 ≤ long ∧ long ≤ 300) ∧ (1 ≤ size ∧ size ≤ 16) ∧ (ws.length ≤ 3 ∧ ws ≠ []) ∧ (gs.length ≤ 3 ∧ gs ≠ []) ∧ (∀ x ∈ ws, 0 ≤ x ∧ x ≤ 99999) ∧ (∀ x ∈ gs, 0 ≤ x ∧ x ≤ 99999) := by
  obtain ⟨⟨h1, h2, h3, h4, h5⟩, ⟨h6, h7, h8, h9⟩, h10, h11⟩ := h
  refine ⟨⟨h1, h2⟩, ⟨h3, h4⟩, ⟨h7, ?_⟩, ⟨by omega, ?_⟩, ?_, ?_⟩
  · rw [Ne, ← List.length_eq_zero_iff]; omega
  · rw [Ne, ← List.length_eq_zero_iff]; omega
  · intro x hx
    obtain ⟨k, hk, rfl⟩ := getD_of_mem hx
    have p := up_pos h8 k hk
    have q := up_le h8 (ws.length - 1 - k) k (by omega)
    rw [show k + (ws.length - 1 - k) = ws.length - 1 by omega] at q
    rw [prev0, if_neg (by omega)] at h9
    omega
  · intro x hx
    obtain ⟨k, hk, rfl⟩ := getD_of_mem hx
    have := h10 k hk
    omega

set_option maxHeartbeats 4000000 in
theorem specPlanWrite_yes (long size : Nat) (a1 a2 : Option Addr) (c1 c2 : Nat) (ws gs : List Int) (w : World) (ha1 : IntsAt w a1 ws) (ha2 : IntsAt w a2 gs) (h : planP long size ws gs) :
    Calls Tryd.prog 5 #[.agg #[.int .i64 long, .int .i64 size, .slice a1 ws.length c1, .slice a2 gs.length c2]] w fun r w' => r = .returned (.string (plnS long size ws gs)) ∧ Below w.heap.size w w' := by
  obtain ⟨⟨l1, l2⟩, ⟨l3, l4⟩, ⟨l5, l6⟩, ⟨l7, l8⟩, l9, l10⟩ := pln_bounds h
  have HOK := hid (fun w h1 h2 => specPlanOk long size a1 a2 c1 c2 ws gs w h1 h2 (by omega) (by omega))
  rw [decide_eq_true h] at HOK
  have D1 := hid (fun w => l1Dec_any long long w (Nat.le_refl _) (by omega))
  have D2 := hid (fun w => l1Dec_any size size w (Nat.le_refl _) (by omega))
  have D3 := hid (fun w h => l5List_any a1 c1 ws w h l5 l9)
  have D4 := hid (fun w h => l5List_any a2 c2 gs w h l7 l10)
  have s1 := decS_size long (by omega)
  have s2 := decS_size size (by omega)
  have s3 := cmS_size ws l9
  have s4 := cmS_size gs l10
  have s3' : (cmS ws).size ≤ 66 := by omega
  have s4' : (cmS gs).size ≤ 66 := by omega
  unfold plnS
  obtain ⟨L, hL⟩ : ∃ L, L = decS long := ⟨_, rfl⟩
  obtain ⟨Z, hZ⟩ : ∃ Z, Z = decS size := ⟨_, rfl⟩
  obtain ⟨V, hV⟩ : ∃ V, V = cmS ws := ⟨_, rfl⟩
  obtain ⟨G, hG⟩ : ∃ G, G = cmS gs := ⟨_, rfl⟩
  rw [← hL] at D1 s1; rw [← hZ] at D2 s2; rw [← hV] at D3 s3'; rw [← hG] at D4 s4'
  rw [← hL, ← hZ, ← hV, ← hG]
  have HA1 := hid (ha1.below (below_newD w (.cells #[.int .i64 long, .int .i64 size, .slice a1 ws.length c1, .slice a2 gs.length c2] 27)))
  have HA2 := hid (ha2.below (below_newD w (.cells #[.int .i64 long, .int .i64 size, .slice a1 ws.length c1, .slice a2 gs.length c2] 27)))
  have X0 := hid (laid w #[.int .i64 long, .int .i64 size, .slice a1 ws.length c1, .slice a2 gs.length c2] 27)
  clear hL hZ hV hG l1 l2 l3 l4 l5 l6 l7 l8 l9 l10 s3 s4 h ha1 ha2
  go_enter Tryd.func5, Tryd.ntmps5
  go_wp2_with (go_at_call 10; refine (HOK.out _ HA1.out HA2.out).mono ?_; rintro r W ⟨rfl, b1⟩; have B1 := hid (below_catD (below_newD _ _) b1); have X1 := hid (kept X0.out b1); have K1 := hid (HA1.out.below b1); have K2 := hid (HA2.out.below b1); clear b1)
  have k1 := hid (rg (w := W) (fun w' _ => D1.out w'))
  have k2 := hid (rg (w := W) (fun w' _ => D2.out w'))
  have k3 := hid (rg (w := W) (fun w' hb => D3.out w' (K1.out.below hb)))
  have k4 := hid (rg (w := W) (fun w' hb => D4.out w' (K2.out.below hb)))
  have P0 := cell_regrown (box_cell X1.out 0 (v := .int .i64 long) rfl)
  have P1 := cell_regrown (box_cell X1.out 1 (v := .int .i64 size) rfl)
  have P2 := cell_regrown (box_cell X1.out 2 (v := .slice a1 ws.length c1) rfl)
  have P3 := cell_regrown (box_cell X1.out 3 (v := .slice a2 gs.length c2) rfl)
  clear D1 D2 D3 D4
  refine wp_region_quiet_below (by kernel_rfl) (by kernel_rfl) ?_
  repeat (first
    | go_big_quiet_step (first | (go_at_call_of 11 (Value.int .i64 (long : Int)); exact k1.out _ _) | (go_at_call_of 11 (Value.int .i64 (size : Int)); exact k2.out _ _) | (go_at_call_of 12 (Value.slice a1 ws.length c1); exact k3.out _ _) | (go_at_call_of 12 (Value.slice a2 gs.length c2); exact k4.out _ _))
    | quiet_step (first | (go_at_call_of 11 (Value.int .i64 (long : Int)); exact k1.out _ _) | (go_at_call_of 11 (Value.int .i64 (size : Int)); exact k2.out _ _) | (go_at_call_of 12 (Value.slice a1 ws.length c1); exact k3.out _ _) | (go_at_call_of 12 (Value.slice a2 gs.length c2); exact k4.out _ _)))
  refine wpQuiet_nil ?_
  intro _ hw'
  obtain ⟨⟨dq, osq⟩, hw''⟩ := hw'
  have hbq := below_regrown W dq osq
  rw [← hw''] at hbq
  clear hw''
  have B2 := hid (below_catD B1.out hbq)
  go_wp2_with fail
  go_ret
  exact ⟨rfl, B2.out⟩

set_option maxHeartbeats 4000000 in
theorem implPlanWrite_yes (long size : Nat) (a1 a2 : Option Addr) (c1 c2 : Nat) (ws gs : List Int) (w : World) (ha1 : IntsAt w a1 ws) (ha2 : IntsAt w a2 gs) (h : planP long size ws gs) (hp : Pow w) :
    Calls Tryd.prog 7 #[.agg #[.int .i64 long, .int .i64 size, .slice a1 ws.length c1, .slice a2 gs.length c2]] w fun r w' => r = .returned (.string (plnS long size ws gs)) ∧ Below w.heap.size w w' := by
  obtain ⟨⟨l1, l2⟩, ⟨l3, l4⟩, ⟨l5, l6⟩, ⟨l7, l8⟩, l9, l10⟩ := pln_bounds h
  have HOK := hid (fun w h1 h2 => implPlanOk long size a1 a2 c1 c2 ws gs w h1 h2 (by omega) (by omega))
  rw [decide_eq_true h] at HOK
  have D1 := hid (fun w hp => itoa_any long w (by omega) hp)
  have D2 := hid (fun w hp => itoa_any size w (by omega) hp)
  have D3 := hid (fun w h hp => planListWrite_any a1 c1 ws w h l5 l6 l9 hp)
  have D4 := hid (fun w h hp => planListWrite_any a2 c2 gs w h l7 l8 l10 hp)
  have s1 := decS_size long (by omega)
  have s2 := decS_size size (by omega)
  have s3 := cmS_size ws l9
  have s4 := cmS_size gs l10
  have s3' : (cmS ws).size ≤ 66 := by omega
  have s4' : (cmS gs).size ≤ 66 := by omega
  unfold plnS
  obtain ⟨L, hL⟩ : ∃ L, L = decS long := ⟨_, rfl⟩
  obtain ⟨Z, hZ⟩ : ∃ Z, Z = decS size := ⟨_, rfl⟩
  obtain ⟨V, hV⟩ : ∃ V, V = cmS ws := ⟨_, rfl⟩
  obtain ⟨G, hG⟩ : ∃ G, G = cmS gs := ⟨_, rfl⟩
  rw [← hL] at D1 s1; rw [← hZ] at D2 s2; rw [← hV] at D3 s3'; rw [← hG] at D4 s4'
  rw [← hL, ← hZ, ← hV, ← hG]
  have HA1 := hid (ha1.below (below_newD w (.cells #[.int .i64 long, .int .i64 size, .slice a1 ws.length c1, .slice a2 gs.length c2] 27)))
  have HA2 := hid (ha2.below (below_newD w (.cells #[.int .i64 long, .int .i64 size, .slice a1 ws.length c1, .slice a2 gs.length c2] 27)))
  have X0 := hid (laid w #[.int .i64 long, .int .i64 size, .slice a1 ws.length c1, .slice a2 gs.length c2] 27)
  have HP := hid hp
  clear hL hZ hV hG l1 l2 l3 l4 l5 l6 l7 l8 l9 l10 s3 s4 h ha1 ha2 hp
  go_enter Tryd.func7, Tryd.ntmps7
  go_wp2_with (go_at_call 14; refine (HOK.out _ HA1.out HA2.out).mono ?_; rintro r W ⟨rfl, b1⟩; have B1 := hid (below_catD (below_newD _ _) b1); have X1 := hid (kept X0.out b1); have K1 := hid (HA1.out.below b1); have K2 := hid (HA2.out.below b1); clear b1)
  have PW := hid (HP.out.below B1.out)
  have k1 := hid (rg (w := W) (fun w' hb => D1.out w' (PW.out.below hb)))
  have k2 := hid (rg (w := W) (fun w' hb => D2.out w' (PW.out.below hb)))
  have k3 := hid (rg (w := W) (fun w' hb => D3.out w' (K1.out.below hb) (PW.out.below hb)))
  have k4 := hid (rg (w := W) (fun w' hb => D4.out w' (K2.out.below hb) (PW.out.below hb)))
  have P0 := cell_regrown (box_cell X1.out 0 (v := .int .i64 long) rfl)
  have P1 := cell_regrown (box_cell X1.out 1 (v := .int .i64 size) rfl)
  have P2 := cell_regrown (box_cell X1.out 2 (v := .slice a1 ws.length c1) rfl)
  have P3 := cell_regrown (box_cell X1.out 3 (v := .slice a2 gs.length c2) rfl)
  clear D1 D2 D3 D4
  refine wp_region_quiet_below (by kernel_rfl) (by kernel_rfl) ?_
  repeat (first
    | go_big_quiet_step (first | (go_at_call_of 15 (Value.int .i64 (long : Int)); exact k1.out _ _) | (go_at_call_of 15 (Value.int .i64 (size : Int)); exact k2.out _ _) | (go_at_call_of 16 (Value.slice a1 ws.length c1); exact k3.out _ _) | (go_at_call_of 16 (Value.slice a2 gs.length c2); exact k4.out _ _))
    | quiet_step (first | (go_at_call_of 15 (Value.int .i64 (long : Int)); exact k1.out _ _) | (go_at_call_of 15 (Value.int .i64 (size : Int)); exact k2.out _ _) | (go_at_call_of 16 (Value.slice a1 ws.length c1); exact k3.out _ _) | (go_at_call_of 16 (Value.slice a2 gs.length c2); exact k4.out _ _)))
  refine wpQuiet_nil ?_
  intro _ hw'
  obtain ⟨⟨dq, osq⟩, hw''⟩ := hw'
  have hbq := below_regrown W dq osq
  rw [← hw''] at hbq
  clear hw''
  have B2 := hid (below_catD B1.out hbq)
  go_wp2_with fail
  go_ret
  exact ⟨rfl, B2.out⟩

set_option maxHeartbeats 1000000 in
theorem specPlanWrite_no (long size : Int) (a1 a2 : Option Addr) (c1 c2 : Nat) (ws gs : List Int) (w : World) (ha1 : IntsAt w a1 ws) (ha2 : IntsAt w a2 gs) (hx : ws.length ≤ 1048576) (hy : gs.length ≤ 1048576) (h : ¬ planP long size ws gs) :
    Calls Tryd.prog 5 #[.agg #[.int .i64 long, .int .i64 size, .slice a1 ws.length c1, .slice a2 gs.length c2]] w fun r w' => r = .returned (.string ⟨#[]⟩) ∧ Below w.heap.size w w' := by
  have HOK := hid (fun w h1 h2 => specPlanOk long size a1 a2 c1 c2 ws gs w h1 h2 (by omega) (by omega))
  rw [decide_eq_false h] at HOK
  have HA1 := hid (ha1.below (below_newD w (.cells #[.int .i64 long, .int .i64 size, .slice a1 ws.length c1, .slice a2 gs.length c2] 27)))
  have HA2 := hid (ha2.below (below_newD w (.cells #[.int .i64 long, .int .i64 size, .slice a1 ws.length c1, .slice a2 gs.length c2] 27)))
  clear ha1 ha2 h
  go_enter Tryd.func5, Tryd.ntmps5
  go_wp2_with (go_at_call 10; refine (HOK.out _ HA1.out HA2.out).mono ?_; rintro r W ⟨rfl, b1⟩; have B1 := hid (below_catD (below_newD _ _) b1); clear b1)
  go_ret
  exact ⟨rfl, B1.out⟩

set_option maxHeartbeats 1000000 in
theorem implPlanWrite_no (long size : Int) (a1 a2 : Option Addr) (c1 c2 : Nat) (ws gs : List Int) (w : World) (ha1 : IntsAt w a1 ws) (ha2 : IntsAt w a2 gs) (hx : ws.length ≤ 1048576) (hy : gs.length ≤ 1048576) (h : ¬ planP long size ws gs) :
    Calls Tryd.prog 7 #[.agg #[.int .i64 long, .int .i64 size, .slice a1 ws.length c1, .slice a2 gs.length c2]] w fun r w' => r = .returned (.string ⟨#[]⟩) ∧ Below w.heap.size w w' := by
  have HOK := hid (fun w h1 h2 => implPlanOk long size a1 a2 c1 c2 ws gs w h1 h2 (by omega) (by omega))
  rw [decide_eq_false h] at HOK
  have HA1 := hid (ha1.below (below_newD w (.cells #[.int .i64 long, .int .i64 size, .slice a1 ws.length c1, .slice a2 gs.length c2] 27)))
  have HA2 := hid (ha2.below (below_newD w (.cells #[.int .i64 long, .int .i64 size, .slice a1 ws.length c1, .slice a2 gs.length c2] 27)))
  clear ha1 ha2 h
  go_enter Tryd.func7, Tryd.ntmps7
  go_wp2_with (go_at_call 14; refine (HOK.out _ HA1.out HA2.out).mono ?_; rintro r W ⟨rfl, b1⟩; have B1 := hid (below_catD (below_newD _ _) b1); clear b1)
  go_ret
  exact ⟨rfl, B1.out⟩
end Go.Proofs.YtdjllghfhginkaaDoor
