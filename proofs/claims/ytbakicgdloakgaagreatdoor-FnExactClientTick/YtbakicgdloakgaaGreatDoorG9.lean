/- Plans: what is ok by the model. -/
import Derived.Test.YtbakicgdloakgaaGreatDoorG7
import Derived.Test.YtbakicgdloakgaaGreatDoorG2
namespace Go.Proofs.YtbakicgdloakgaaGreatDoor
open Go.ChangeShapes Go.WideShapes Go.ChangeAt Go.RowKit Go.Sort

/-- What is good at a place of windows and weights. -/
def goodAt (n : Int) (ws gs : List Int) (j : Nat) : Prop := prev0 ws j < ws.getD j 0 ∧ ws.getD j 0 ≤ n ∧ 1 ≤ gs.getD j 0 ∧ gs.getD j 0 ≤ 99
theorem up_le {ws : List Int} (h : ∀ k, k < ws.length → prev0 ws k < ws.getD k 0) : ∀ d k, k + d < ws.length → ws.getD k 0 ≤ ws.getD (k + d) 0
  | 0, k, _ => by simp
  | d + 1, k, hk => by
    have h1 := up_le h d k (by omega)
    have h2 := h (k + d + 1) (by omega)
    rw [prev0_succ] at h2
    have : k + (d + 1) = k + d + 1 := by omega
    rw [this]; omega
/-- The model's way to say it. -/
theorem plan_good {long size : Int} {ws gs : List Int} (hs : sizP long size) (l6 : 1 ≤ ws.length) (l7 : ws.length ≤ 3) (l8 : gs.length = ws.length) :
    planP long size ws gs ↔ (∀ j, j < ws.length → goodAt (cntI long size) ws gs j) ∧ ws.getD (ws.length - 1) 0 = cntI long size := by
  have hlast : prev0 ws ws.length = ws.getD (ws.length - 1) 0 := by unfold prev0; rw [if_neg (by omega)]
  constructor
  · rintro ⟨_, ⟨_, _, h1, h2⟩, h3, _⟩
    rw [hlast] at h2
    refine ⟨fun j hj => ⟨h1 j hj, ?_, h3 j (by omega)⟩, h2⟩
    have := up_le h1 (ws.length - 1 - j) j (by omega)
    rw [show j + (ws.length - 1 - j) = ws.length - 1 by omega] at this
    omega
  · rintro ⟨h1, h2⟩
    exact ⟨hs, ⟨l6, l7, fun k hk => (h1 k hk).1, by rw [hlast]; exact h2⟩, fun k hk => (h1 k (by omega)).2.2, l8⟩
theorem prev0_nn {n : Int} {ws gs : List Int} {k : Nat} (h : ∀ j, j < k → goodAt n ws gs j) : ∀ d, d ≤ k → 0 ≤ prev0 ws d
  | 0, _ => by simp [prev0]
  | d + 1, hd => by
    have h1 := prev0_nn h d (by omega)
    have h2 := (h d (by omega)).1
    rw [prev0_succ]; omega

set_option maxRecDepth 100000 in
set_option maxHeartbeats 8000000 in
theorem specPlan_in (long size : Int) (a1 a2 : Option Addr) (c1 c2 : Nat) (ws gs : List Int) (w : World) (ha1 : IntsAt w a1 ws) (ha2 : IntsAt w a2 gs) (l1 : 1 ≤ long) (l2 : long ≤ 300) (l3 : 1 ≤ size) (l4 : size ≤ 16) (l5 : cntI long size ≤ 24) (l6 : 1 ≤ ws.length) (l7 : ws.length ≤ 3) (l8 : gs.length = ws.length) :
    Calls Tryz.prog 68 #[.agg #[.int .i64 long, .int .i64 size, .slice a1 ws.length c1, .slice a2 gs.length c2]] w fun e w' => e = .returned (.bool (decide (planP long size ws gs))) ∧ Below w.heap.size w w' := by
  have hN := cnt_pos long size l1 l3
  have HG := hid (plan_good (long := long) (size := size) (ws := ws) (gs := gs) ⟨l1, l2, l3, l4, l5⟩ l6 l7 l8)
  have L8 := hid l8
  have l8' : ((gs.length : Int) != (ws.length : Int)) = false := by rw [l8]; simp
  clear l8
  obtain ⟨b, off, rfl, hr1⟩ := ha1 (by intro h; simp [h] at l6)
  obtain ⟨b2, off2, rfl, hr2⟩ := ha2 (by intro h; have := L8.out; simp [h] at this; omega)
  have hlb := block_lt_of_cell (hr1 0 (by omega))
  have hlb2 := block_lt_of_cell (hr2 0 (by have := L8.out; omega))
  have hlb' : b < w.heap.size := hlb
  have hlb2' : b2 < w.heap.size := hlb2
  have HR1 := hid hr1
  have HR2 := hid hr2
  clear hlb hlb2 hr1 hr2 ha1 ha2
  go_enter Tryz.func68, Tryz.ntmps68
  go_wp2_with (first
    | (go_at_call 70; refine (specCount long size _ _ _ _ _ _ _ l1 l2 l3 l4).mono ?_; rintro e w1 ⟨rfl, hb1⟩; obtain ⟨hc1, hf1⟩ := bcell hb1)
    | (go_at_call 46; refine (l1In_yes _ _ _ _ (by omega)).mono ?_; rintro e w2 ⟨rfl, rfl⟩))
  go_loopw [3] (fun i wr => ∃ k : Nat, k ≤ ws.length ∧ i = .int .i64 k ∧ (∀ j, j < k → goodAt (cntI long size) ws gs j) ∧ Below (w.heap.size + 1) (w.alloc (.cells #[.int .i64 long, .int .i64 size, .slice (some ⟨b, off, none⟩) ws.length c1, .slice (some ⟨b2, off2, none⟩) gs.length c2] 33)) wr) (fun i _ => ws.length - (intOf i).toNat)
  case atStart => exact ⟨0, Nat.zero_le _, rfl, fun j hj => absurd hj (by omega), by simpa using hb1⟩
  case round =>
    obtain ⟨k, hk, rfl, hp, hbr⟩ := hrel
    clear hb1 hc1 hf1
    have HP : Hid _ := hp
    have HB : Hid _ := hbr
    have hsz : w.heap.size < wr.heap.size := by have := hbr.size; simp at this; omega
    have hbx : wr.heap[w.heap.size]? = some (.cells #[.int .i64 long, .int .i64 size, .slice (some ⟨b, off, none⟩) ws.length c1, .slice (some ⟨b2, off2, none⟩) gs.length c2] 33 (0, 0)) := (hbr.block _ (by omega)).trans (heap_alloc_new w _)
    have p0 := box_cell hbx 0 (v := .int .i64 long) rfl
    have p1 := box_cell hbx 1 (v := .int .i64 size) rfl
    have p2 := box_cell hbx 2 (v := .slice (some ⟨b, off, none⟩) ws.length c1) rfl
    have p3 := box_cell hbx 3 (v := .slice (some ⟨b2, off2, none⟩) gs.length c2) rfl
    have P0 := cell_regrown p0
    have P1 := cell_regrown p1
    have P2 := cell_regrown p2
    have P3 := cell_regrown p3
    have kc : Hid (∀ d os, Calls Tryz.prog 70 #[.agg #[.int .i64 long, .int .i64 size, .slice (some ⟨b, off, none⟩) ws.length c1, .slice (some ⟨b2, off2, none⟩) gs.length c2]] (grow (redrawn wr d) os) fun e w'' => e = .returned (.int .i64 (cntI long size)) ∧ ∃ p : Regrown, w'' = grow (redrawn wr p.d) p.os) := hid (rg fun w' _ => specCount long size _ _ _ _ _ _ _ l1 l2 l3 l4)
    have hlb : b < wr.heap.size := by omega
    have hlb2 : b2 < wr.heap.size := by omega
    have hold : ∀ bb o, bb < w.heap.size → wr.cell? ⟨bb, o, none⟩ = w.cell? ⟨bb, o, none⟩ := fun bb o h => by
      rw [hbr.cell (p := ⟨bb, o, none⟩) (show bb < w.heap.size + 1 by omega)]; exact (below_alloc' w _).cell (p := ⟨bb, o, none⟩) h
    have hwr : Below w.heap.size w wr := (below_alloc' w _).trans (hbr.mono (by omega))
    have HW := hid hwr
    clear hbx hp hbr hwr
    by_cases hlt : k < ws.length
    · have hx := (hold b (off + k) hlb').trans (HR1.out k hlt)
      have hg := (hold b2 (off2 + k) hlb2').trans (HR2.out k (by have := L8.out; omega))
      have hl : 0 < k → wr.cell? ⟨b, off + (k - 1), none⟩ = some (.int .i64 (prev0 ws k)) := fun h => by
        rw [hold b _ hlb', HR1.out (k - 1) (by omega)]; unfold prev0; rw [if_neg (by omega)]
      have h0 : k = 0 → prev0 ws k = 0 := fun h => by simp [prev0, h]
      have hnn := prev0_nn HP.out k (Nat.le_refl _)
      obtain ⟨X, hX⟩ : ∃ X, X = ws.getD k 0 := ⟨_, rfl⟩
      obtain ⟨L, hL⟩ : ∃ L, L = prev0 ws k := ⟨_, rfl⟩
      obtain ⟨G, hG⟩ : ∃ G, G = gs.getD k 0 := ⟨_, rfl⟩
      rw [← hX] at hx
      rw [← hG] at hg
      rw [← hL] at hl h0 hnn
      have HGD := hid (show goodAt (cntI long size) ws gs k ↔ L < X ∧ X ≤ cntI long size ∧ 1 ≤ G ∧ G ≤ 99 by unfold goodAt; rw [← hX, ← hL, ← hG])
      have hkg : (k : Int) < (gs.length : Int) := by have := L8.out; omega
      clear hold hX hL hG
      by_cases hgd : L < X ∧ X ≤ cntI long size ∧ 1 ≤ G ∧ G ≤ 99
      · have HS := hid (show ∀ j, j < k + 1 → goodAt (cntI long size) ws gs j from fun j hj => by
          rcases Nat.lt_or_ge j k with h' | h'
          · exact HP.out j h'
          · obtain rfl : j = k := by omega
            exact HGD.out.2 hgd)
        clear HGD HP
        rcases Nat.eq_zero_or_pos k with hz | hz
        · have hL0 := h0 hz
          subst hz
          simp only [Nat.add_zero] at hx hg
          clear hl h0
          have PX := cell_regrown hx
          have PG := cell_regrown hg
          clear hx hg
          have kx : Hid (∀ d os, Calls Tryz.prog 46 #[.int .i64 X, .int .i64 1, .int .i64 (cntI long size)] (grow (redrawn wr d) os) fun e w'' => e = .returned (.bool true) ∧ ∃ p : Regrown, w'' = grow (redrawn wr p.d) p.os) := hid (rgs fun w' => l1In_yes _ _ _ _ (by omega))
          have kg : Hid (∀ d os, Calls Tryz.prog 46 #[.int .i64 G, .int .i64 1, .int .i64 99] (grow (redrawn wr d) os) fun e w'' => e = .returned (.bool true) ∧ ∃ p : Regrown, w'' = grow (redrawn wr p.d) p.os) := hid (rgs fun w' => l1In_yes _ _ _ _ (by omega))
          go_wp2
          refine wp_region_quiet_below (by kernel_rfl) (by kernel_rfl) ?_
          repeat (first | go_big_quiet_step (first | (go_at_call 70; exact kc.out _ _) | (go_at_call_of 46 (Value.int .i64 X); exact kx.out _ _) | (go_at_call_of 46 (Value.int .i64 G); exact kg.out _ _)) | quiet_step (first | (go_at_call 70; exact kc.out _ _) | (go_at_call_of 46 (Value.int .i64 X); exact kx.out _ _) | (go_at_call_of 46 (Value.int .i64 G); exact kg.out _ _)))
          refine wpQuiet_nil ?_
          intro _ hw'
          obtain ⟨⟨dq, osq⟩, hw''⟩ := hw'
          subst hw''
          have hbq := below_regrown wr dq osq
          go_wp2
          go_roundw
          case rel => exact ⟨1, by omega, by go_num, HS.out, HB.out.trans (hbq.mono (by omega))⟩
          case measure => simp [intOf]; omega
        · have hl' := hl hz
          clear hl h0
          have hz' : decide ((0 : Int) < (k : Int)) = true := by simp; omega
          have PX := cell_regrown hx
          have PG := cell_regrown hg
          have PL := cell_regrown hl'
          clear hx hg hl'
          have kx : Hid (∀ d os, Calls Tryz.prog 46 #[.int .i64 X, .int .i64 1, .int .i64 (cntI long size)] (grow (redrawn wr d) os) fun e w'' => e = .returned (.bool true) ∧ ∃ p : Regrown, w'' = grow (redrawn wr p.d) p.os) := hid (rgs fun w' => l1In_yes _ _ _ _ (by omega))
          have kg : Hid (∀ d os, Calls Tryz.prog 46 #[.int .i64 G, .int .i64 1, .int .i64 99] (grow (redrawn wr d) os) fun e w'' => e = .returned (.bool true) ∧ ∃ p : Regrown, w'' = grow (redrawn wr p.d) p.os) := hid (rgs fun w' => l1In_yes _ _ _ _ (by omega))
          have hle : decide (X ≤ L) = false := by simp; omega
          go_wp2
          refine wp_region_quiet_below (by kernel_rfl) (by kernel_rfl) ?_
          repeat (first | go_big_quiet_step (first | (go_at_call 70; exact kc.out _ _) | (go_at_call_of 46 (Value.int .i64 X); exact kx.out _ _) | (go_at_call_of 46 (Value.int .i64 G); exact kg.out _ _)) | quiet_step (first | (go_at_call 70; exact kc.out _ _) | (go_at_call_of 46 (Value.int .i64 X); exact kx.out _ _) | (go_at_call_of 46 (Value.int .i64 G); exact kg.out _ _)))
          refine wpQuiet_nil ?_
          intro _ hw'
          obtain ⟨⟨dq, osq⟩, hw''⟩ := hw'
          subst hw''
          have hbq := below_regrown wr dq osq
          go_wp2
          go_roundw
          case rel => exact ⟨k + 1, by omega, by go_num, HS.out, HB.out.trans (hbq.mono (by omega))⟩
          case measure => simp [intOf]; omega
      · have HS := hid (show decide (planP long size ws gs) = false from decide_eq_false fun h => hgd (HGD.out.1 ((HG.out.1 h).1 k hlt)))
        clear HGD HP
        rcases Nat.eq_zero_or_pos k with hz | hz
        · have hL0 := h0 hz
          subst hz
          simp only [Nat.add_zero] at hx hg
          clear hl h0
          have PX := cell_regrown hx
          have PG := cell_regrown hg
          clear hx hg
          by_cases q1 : 1 ≤ X ∧ X ≤ cntI long size
          · have kx : Hid (∀ d os, Calls Tryz.prog 46 #[.int .i64 X, .int .i64 1, .int .i64 (cntI long size)] (grow (redrawn wr d) os) fun e w'' => e = .returned (.bool true) ∧ ∃ p : Regrown, w'' = grow (redrawn wr p.d) p.os) := hid (rgs fun w' => l1In_yes _ _ _ _ (by omega))
            have kg : Hid (∀ d os, Calls Tryz.prog 46 #[.int .i64 G, .int .i64 1, .int .i64 99] (grow (redrawn wr d) os) fun e w'' => e = .returned (.bool false) ∧ ∃ p : Regrown, w'' = grow (redrawn wr p.d) p.os) := hid (rgs fun w' => l1In_no _ _ _ _ (by omega))
            go_wp2
            refine wp_region_quiet_below (by kernel_rfl) (by kernel_rfl) ?_
            repeat (first | go_big_quiet_step (first | (go_at_call 70; exact kc.out _ _) | (go_at_call_of 46 (Value.int .i64 X); exact kx.out _ _) | (go_at_call_of 46 (Value.int .i64 G); exact kg.out _ _)) | quiet_step (first | (go_at_call 70; exact kc.out _ _) | (go_at_call_of 46 (Value.int .i64 X); exact kx.out _ _) | (go_at_call_of 46 (Value.int .i64 G); exact kg.out _ _)))
            refine wpQuiet_nil ?_
            intro _ hw'
            obtain ⟨⟨dq, osq⟩, hw''⟩ := hw'
            subst hw''
            have hbq := below_regrown wr dq osq
            go_wp2
            go_ret
            exact ⟨ret_bool HS.out.symm, below_cat' HW.out hbq⟩
          · have kx : Hid (∀ d os, Calls Tryz.prog 46 #[.int .i64 X, .int .i64 1, .int .i64 (cntI long size)] (grow (redrawn wr d) os) fun e w'' => e = .returned (.bool false) ∧ ∃ p : Regrown, w'' = grow (redrawn wr p.d) p.os) := hid (rgs fun w' => l1In_no _ _ _ _ (by omega))
            have kg : True := trivial
            go_wp2
            refine wp_region_quiet_below (by kernel_rfl) (by kernel_rfl) ?_
            repeat (first | go_big_quiet_step (first | (go_at_call 70; exact kc.out _ _) | (go_at_call_of 46 (Value.int .i64 X); exact kx.out _ _)) | quiet_step (first | (go_at_call 70; exact kc.out _ _) | (go_at_call_of 46 (Value.int .i64 X); exact kx.out _ _)))
            refine wpQuiet_nil ?_
            intro _ hw'
            obtain ⟨⟨dq, osq⟩, hw''⟩ := hw'
            subst hw''
            have hbq := below_regrown wr dq osq
            go_wp2
            go_ret
            exact ⟨ret_bool HS.out.symm, below_cat' HW.out hbq⟩
        · have hl' := hl hz
          clear hl h0
          have hz' : decide ((0 : Int) < (k : Int)) = true := by simp; omega
          have PX := cell_regrown hx
          have PG := cell_regrown hg
          have PL := cell_regrown hl'
          clear hx hg hl'
          by_cases q1 : 1 ≤ X ∧ X ≤ cntI long size
          · have kx : Hid (∀ d os, Calls Tryz.prog 46 #[.int .i64 X, .int .i64 1, .int .i64 (cntI long size)] (grow (redrawn wr d) os) fun e w'' => e = .returned (.bool true) ∧ ∃ p : Regrown, w'' = grow (redrawn wr p.d) p.os) := hid (rgs fun w' => l1In_yes _ _ _ _ (by omega))
            by_cases q2 : X ≤ L
            · have hle : decide (X ≤ L) = true := by simpa using q2
              have kg : True := trivial
              go_wp2
              refine wp_region_quiet_below (by kernel_rfl) (by kernel_rfl) ?_
              repeat (first | go_big_quiet_step (first | (go_at_call 70; exact kc.out _ _) | (go_at_call_of 46 (Value.int .i64 X); exact kx.out _ _)) | quiet_step (first | (go_at_call 70; exact kc.out _ _) | (go_at_call_of 46 (Value.int .i64 X); exact kx.out _ _)))
              refine wpQuiet_nil ?_
              intro _ hw'
              obtain ⟨⟨dq, osq⟩, hw''⟩ := hw'
              subst hw''
              have hbq := below_regrown wr dq osq
              go_wp2
              go_ret
              exact ⟨ret_bool HS.out.symm, below_cat' HW.out hbq⟩
            · have hle : decide (X ≤ L) = false := by simpa using q2
              have kg : Hid (∀ d os, Calls Tryz.prog 46 #[.int .i64 G, .int .i64 1, .int .i64 99] (grow (redrawn wr d) os) fun e w'' => e = .returned (.bool false) ∧ ∃ p : Regrown, w'' = grow (redrawn wr p.d) p.os) := hid (rgs fun w' => l1In_no _ _ _ _ (by omega))
              go_wp2
              refine wp_region_quiet_below (by kernel_rfl) (by kernel_rfl) ?_
              repeat (first | go_big_quiet_step (first | (go_at_call 70; exact kc.out _ _) | (go_at_call_of 46 (Value.int .i64 X); exact kx.out _ _) | (go_at_call_of 46 (Value.int .i64 G); exact kg.out _ _)) | quiet_step (first | (go_at_call 70; exact kc.out _ _) | (go_at_call_of 46 (Value.int .i64 X); exact kx.out _ _) | (go_at_call_of 46 (Value.int .i64 G); exact kg.out _ _)))
              refine wpQuiet_nil ?_
              intro _ hw'
              obtain ⟨⟨dq, osq⟩, hw''⟩ := hw'
              subst hw''
              have hbq := below_regrown wr dq osq
              go_wp2
              go_ret
              exact ⟨ret_bool HS.out.symm, below_cat' HW.out hbq⟩
          · have kx : Hid (∀ d os, Calls Tryz.prog 46 #[.int .i64 X, .int .i64 1, .int .i64 (cntI long size)] (grow (redrawn wr d) os) fun e w'' => e = .returned (.bool false) ∧ ∃ p : Regrown, w'' = grow (redrawn wr p.d) p.os) := hid (rgs fun w' => l1In_no _ _ _ _ (by omega))
            have kg : True := trivial
            go_wp2
            refine wp_region_quiet_below (by kernel_rfl) (by kernel_rfl) ?_
            repeat (first | go_big_quiet_step (first | (go_at_call 70; exact kc.out _ _) | (go_at_call_of 46 (Value.int .i64 X); exact kx.out _ _)) | quiet_step (first | (go_at_call 70; exact kc.out _ _) | (go_at_call_of 46 (Value.int .i64 X); exact kx.out _ _)))
            refine wpQuiet_nil ?_
            intro _ hw'
            obtain ⟨⟨dq, osq⟩, hw''⟩ := hw'
            subst hw''
            have hbq := below_regrown wr dq osq
            go_wp2
            go_ret
            exact ⟨ret_bool HS.out.symm, below_cat' HW.out hbq⟩
    · obtain rfl : k = ws.length := by omega
      have hx := (hold b (off + (ws.length - 1)) hlb').trans (HR1.out (ws.length - 1) (by omega))
      have e1 : ((ws.length : Int) - 1) = ((ws.length - 1 : Nat) : Int) := by omega
      have HE : Hid (planP long size ws gs ↔ ws.getD (ws.length - 1) 0 = cntI long size) := ⟨fun h => (HG.out.1 h).2, fun h => HG.out.2 ⟨HP.out, h⟩⟩
      obtain ⟨X, hX⟩ : ∃ X, X = ws.getD (ws.length - 1) 0 := ⟨_, rfl⟩
      rw [← hX] at hx HE
      have PX := cell_regrown hx
      clear hold HP HG hX hx
      go_wp2
      refine wp_region_quiet_below (by kernel_rfl) (by kernel_rfl) ?_
      repeat (first | go_big_quiet_step (exact kc.out _ _) | quiet_step (exact kc.out _ _))
      refine wpQuiet_nil ?_
      intro _ hw'
      obtain ⟨⟨dq, osq⟩, hw''⟩ := hw'
      subst hw''
      have hbq := below_regrown wr dq osq
      go_wp2
      go_ret
      refine ⟨ret_bool ?_, below_cat' HW.out hbq⟩
      rw [Bool.eq_iff_iff, decide_eq_true_eq, HE.out, beq_iff_eq]
end Go.Proofs.YtbakicgdloakgaaGreatDoor
