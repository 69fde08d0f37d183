/- Plans: what is ok by the model. What was appended to nothing; what is owned stays owned. Plans, as the laws make, count and compare them. -/
import Derived.Test.YtbakicgdloakgaaGreatDoorG4
import Derived.Test.YtbakicgdloakgaaGreatDoorG1
import Derived.Test.YtbakicgdloakgaaGreatDoorG3
namespace Go.Proofs.YtbakicgdloakgaaGreatDoor
open Go.ChangeShapes Go.WideShapes Go.ChangeAt Go.RowKit Go.Sort

/-- What is good at a place of windows and weights. -/
def goodAt (n : Int) (ws gs : List Int) (j : Nat) : Prop := prev0 ws j < ws.getD j 0 ∧ ws.getD j 0 ≤ n ∧ 1 ≤ gs.getD j 0 ∧ gs.getD j 0 ≤ 99
theorem up_le {ws : List Int} (h : ∀ k, k < ws.length → prev0 ws k < ws.getD k 0) : ∀ d k, k + d < ws.length → ws.getD k 0 ≤ ws.getD (k + d) 0
  | 0, k, _ => by simp
  | d + 1, k, hk => by
    have h1 := up_le h d k (by omega)
    have h2 := h (k + d + 1) (by omega)
    rw [prev0_succ] at h2
    have : k + (d + 1) = k + d + 1 := by omega
    rw [this]; omega
/-- The model's way to say it. -/
theorem plan_good {long size : Int} {ws gs : List Int} (hs : sizP long size) (l6 : 1 ≤ ws.length) (l7 : ws.length ≤ 3) (l8 : gs.length = ws.length) :
    planP long size ws gs ↔ (∀ j, j < ws.length → goodAt (cntI long size) ws gs j) ∧ ws.getD (ws.length - 1) 0 = cntI long size := by
  have hlast : prev0 ws ws.length = ws.getD (ws.length - 1) 0 := by unfold prev0; rw [if_neg (by omega)]
  constructor
  · rintro ⟨_, ⟨_, _, h1, h2⟩, h3, _⟩
    rw [hlast] at h2
    refine ⟨fun j hj => ⟨h1 j hj, ?_, h3 j (by omega)⟩, h2⟩
    have := up_le h1 (ws.length - 1 - j) j (by omega)
    rw [show j + (ws.length - 1 - j) = ws.length - 1 by omega] at this
    omega
  · rintro ⟨h1, h2⟩
    exact ⟨hs, ⟨l6, l7, fun k hk => (h1 k hk).1, by rw [hlast]; exact h2⟩, fun k hk => (h1 k (by omega)).2.2, l8⟩
theorem prev0_nn {n : Int} {ws gs : List Int} {k : Nat} (h : ∀ j, j < k → goodAt n ws gs j) : ∀ d, d ≤ k → 0 ≤ prev0 ws d
  | 0, _ => by simp [prev0]
  | d + 1, hd => by
    have h1 := prev0_nn h d (by omega)
    have h2 := (h d (by omega)).1
    rw [prev0_succ]; omega

set_option maxRecDepth 100000 in
set_option maxHeartbeats 8000000 in
theorem specPlan_in (long size : Int) (a1 a2 : Option Addr) (c1 c2 : Nat) (ws gs : List Int) (w : World) (ha1 : IntsAt w a1 ws) (ha2 : IntsAt w a2 gs) (l1 : 1 ≤ long) (l2 : long ≤ 300) (l3 : 1 ≤ size) (l4 : size ≤ 16) (l5 : cntI long size ≤ 24) (l6 : 1 ≤ ws.length) (l7 : ws.length ≤ 3) (l8 : gs.length = ws.length) :
    Calls Tryz.prog 68 #[.agg #[.int .i64 long, .int .i64 size, .slice a1 ws.length c1, .slice a2 gs.length c2]] w fun e w' => e = .returned (.bool (decide (planP long size ws gs))) ∧ Below w.heap.size w w' := by
  have hN := cnt_pos long size l1 l3
  have HG := hid (plan_good (long := long) (size := size) (ws := ws) (gs := gs) ⟨l1, l2, l3, l4, l5⟩ l6 l7 l8)
  have L8 := hid l8
  have l8' : ((gs.length : Int) != (ws.length : Int)) = false := by rw [l8]; simp
  clear l8
  obtain ⟨b, off, rfl, hr1⟩ := ha1 (by intro h; simp [h] at l6)
  obtain ⟨b2, off2, rfl, hr2⟩ := ha2 (by intro h; have := L8.out; simp [h] at this; omega)
  have hlb := block_lt_of_cell (hr1 0 (by omega))
  have hlb2 := block_lt_of_cell (hr2 0 (by have := L8.out; omega))
  have hlb' : b < w.heap.size := hlb
  have hlb2' : b2 < w.heap.size := hlb2
  have HR1 := hid hr1
  have HR2 := hid hr2
  clear hlb hlb2 hr1 hr2 ha1 ha2
  go_enter Tryz.func68, Tryz.ntmps68
  go_wp2_with (first
    | (go_at_call 70; refine (specCount long size _ _ _ _ _ _ _ l1 l2 l3 l4).mono ?_; rintro e w1 ⟨rfl, hb1⟩; obtain ⟨hc1, hf1⟩ := bcell hb1)
    | (go_at_call 46; refine (l1In_yes _ _ _ _ (by omega)).mono ?_; rintro e w2 ⟨rfl, rfl⟩))
  go_loopw [3] (fun i wr => ∃ k : Nat, k ≤ ws.length ∧ i = .int .i64 k ∧ (∀ j, j < k → goodAt (cntI long size) ws gs j) ∧ Below (w.heap.size + 1) (w.alloc (.cells #[.int .i64 long, .int .i64 size, .slice (some ⟨b, off, none⟩) ws.length c1, .slice (some ⟨b2, off2, none⟩) gs.length c2] 33)) wr) (fun i _ => ws.length - (intOf i).toNat)
  case atStart => exact ⟨0, Nat.zero_le _, rfl, fun j hj => absurd hj (by omega), by simpa using hb1⟩
  case round =>
    obtain ⟨k, hk, rfl, hp, hbr⟩ := hrel
    clear hb1 hc1 hf1
    have HP : Hid _ := hp
    have HB : Hid _ := hbr
    have hsz : w.heap.size < wr.heap.size := by have := hbr.size; simp at this; omega
    have hbx : wr.heap[w.heap.size]? = some (.cells #[.int .i64 long, .int .i64 size, .slice (some ⟨b, off, none⟩) ws.length c1, .slice (some ⟨b2, off2, none⟩) gs.length c2] 33 (0, 0)) := (hbr.block _ (by omega)).trans (heap_alloc_new w _)
    have p0 := box_cell hbx 0 (v := .int .i64 long) rfl
    have p1 := box_cell hbx 1 (v := .int .i64 size) rfl
    have p2 := box_cell hbx 2 (v := .slice (some ⟨b, off, none⟩) ws.length c1) rfl
    have p3 := box_cell hbx 3 (v := .slice (some ⟨b2, off2, none⟩) gs.length c2) rfl
    have P0 := cell_regrown p0
    have P1 := cell_regrown p1
    have P2 := cell_regrown p2
    have P3 := cell_regrown p3
    have kc : Hid (∀ d os, Calls Tryz.prog 70 #[.agg #[.int .i64 long, .int .i64 size, .slice (some ⟨b, off, none⟩) ws.length c1, .slice (some ⟨b2, off2, none⟩) gs.length c2]] (grow (redrawn wr d) os) fun e w'' => e = .returned (.int .i64 (cntI long size)) ∧ ∃ p : Regrown, w'' = grow (redrawn wr p.d) p.os) := hid (rg fun w' _ => specCount long size _ _ _ _ _ _ _ l1 l2 l3 l4)
    have hlb : b < wr.heap.size := by omega
    have hlb2 : b2 < wr.heap.size := by omega
    have hold : ∀ bb o, bb < w.heap.size → wr.cell? ⟨bb, o, none⟩ = w.cell? ⟨bb, o, none⟩ := fun bb o h => by
      rw [hbr.cell (p := ⟨bb, o, none⟩) (show bb < w.heap.size + 1 by omega)]; exact (below_alloc' w _).cell (p := ⟨bb, o, none⟩) h
    have hwr : Below w.heap.size w wr := (below_alloc' w _).trans (hbr.mono (by omega))
    have HW := hid hwr
    clear hbx hp hbr hwr
    by_cases hlt : k < ws.length
    · have hx := (hold b (off + k) hlb').trans (HR1.out k hlt)
      have hg := (hold b2 (off2 + k) hlb2').trans (HR2.out k (by have := L8.out; omega))
      have hl : 0 < k → wr.cell? ⟨b, off + (k - 1), none⟩ = some (.int .i64 (prev0 ws k)) := fun h => by
        rw [hold b _ hlb', HR1.out (k - 1) (by omega)]; unfold prev0; rw [if_neg (by omega)]
      have h0 : k = 0 → prev0 ws k = 0 := fun h => by simp [prev0, h]
      have hnn := prev0_nn HP.out k (Nat.le_refl _)
      obtain ⟨X, hX⟩ : ∃ X, X = ws.getD k 0 := ⟨_, rfl⟩
      obtain ⟨L, hL⟩ : ∃ L, L = prev0 ws k := ⟨_, rfl⟩
      obtain ⟨G, hG⟩ : ∃ G, G = gs.getD k 0 := ⟨_, rfl⟩
      rw [← hX] at hx
      rw [← hG] at hg
      rw [← hL] at hl h0 hnn
      have HGD := hid (show goodAt (cntI long size) ws gs k ↔ L < X ∧ X ≤ cntI long size ∧ 1 ≤ G ∧ G ≤ 99 by unfold goodAt; rw [← hX, ← hL, ← hG])
      have hkg : (k : Int) < (gs.length : Int) := by have := L8.out; omega
      clear hold hX hL hG
      by_cases hgd : L < X ∧ X ≤ cntI long size ∧ 1 ≤ G ∧ G ≤ 99
      · have HS := hid (show ∀ j, j < k + 1 → goodAt (cntI long size) ws gs j from fun j hj => by
          rcases Nat.lt_or_ge j k with h' | h'
          · exact HP.out j h'
          · obtain rfl : j = k := by omega
            exact HGD.out.2 hgd)
        clear HGD HP
        rcases Nat.eq_zero_or_pos k with hz | hz
        · have hL0 := h0 hz
          subst hz
          simp only [Nat.add_zero] at hx hg
          clear hl h0
          have PX := cell_regrown hx
          have PG := cell_regrown hg
          clear hx hg
          have kx : Hid (∀ d os, Calls Tryz.prog 46 #[.int .i64 X, .int .i64 1, .int .i64 (cntI long size)] (grow (redrawn wr d) os) fun e w'' => e = .returned (.bool true) ∧ ∃ p : Regrown, w'' = grow (redrawn wr p.d) p.os) := hid (rgs fun w' => l1In_yes _ _ _ _ (by omega))
          have kg : Hid (∀ d os, Calls Tryz.prog 46 #[.int .i64 G, .int .i64 1, .int .i64 99] (grow (redrawn wr d) os) fun e w'' => e = .returned (.bool true) ∧ ∃ p : Regrown, w'' = grow (redrawn wr p.d) p.os) := hid (rgs fun w' => l1In_yes _ _ _ _ (by omega))
          go_wp2
          refine wp_region_quiet_below (by kernel_rfl) (by kernel_rfl) ?_
          repeat (first | go_big_quiet_step (first | (go_at_call 70; exact kc.out _ _) | (go_at_call_of 46 (Value.int .i64 X); exact kx.out _ _) | (go_at_call_of 46 (Value.int .i64 G); exact kg.out _ _)) | quiet_step (first | (go_at_call 70; exact kc.out _ _) | (go_at_call_of 46 (Value.int .i64 X); exact kx.out _ _) | (go_at_call_of 46 (Value.int .i64 G); exact kg.out _ _)))
          refine wpQuiet_nil ?_
          intro _ hw'
          obtain ⟨⟨dq, osq⟩, hw''⟩ := hw'
          subst hw''
          have hbq := below_regrown wr dq osq
          go_wp2
          go_roundw
          case rel => exact ⟨1, by omega, by go_num, HS.out, HB.out.trans (hbq.mono (by omega))⟩
          case measure => simp [intOf]; omega
        · have hl' := hl hz
          clear hl h0
          have hz' : decide ((0 : Int) < (k : Int)) = true := by simp; omega
          have PX := cell_regrown hx
          have PG := cell_regrown hg
          have PL := cell_regrown hl'
          clear hx hg hl'
          have kx : Hid (∀ d os, Calls Tryz.prog 46 #[.int .i64 X, .int .i64 1, .int .i64 (cntI long size)] (grow (redrawn wr d) os) fun e w'' => e = .returned (.bool true) ∧ ∃ p : Regrown, w'' = grow (redrawn wr p.d) p.os) := hid (rgs fun w' => l1In_yes _ _ _ _ (by omega))
          have kg : Hid (∀ d os, Calls Tryz.prog 46 #[.int .i64 G, .int .i64 1, .int .i64 99] (grow (redrawn wr d) os) fun e w'' => e = .returned (.bool true) ∧ ∃ p : Regrown, w'' = grow (redrawn wr p.d) p.os) := hid (rgs fun w' => l1In_yes _ _ _ _ (by omega))
          have hle : decide (X ≤ L) = false := by simp; omega
          go_wp2
          refine wp_region_quiet_below (by kernel_rfl) (by kernel_rfl) ?_
          repeat (first | go_big_quiet_step (first | (go_at_call 70; exact kc.out _ _) | (go_at_call_of 46 (Value.int .i64 X); exact kx.out _ _) | (go_at_call_of 46 (Value.int .i64 G); exact kg.out _ _)) | quiet_step (first | (go_at_call 70; exact kc.out _ _) | (go_at_call_of 46 (Value.int .i64 X); exact kx.out _ _) | (go_at_call_of 46 (Value.int .i64 G); exact kg.out _ _)))
          refine wpQuiet_nil ?_
          intro _ hw'
          obtain ⟨⟨dq, osq⟩, hw''⟩ := hw'
          subst hw''
          have hbq := below_regrown wr dq osq
          go_wp2
          go_roundw
          case rel => exact ⟨k + 1, by omega, by go_num, HS.out, HB.out.trans (hbq.mono (by omega))⟩
          case measure => simp [intOf]; omega
      · have HS := hid (show decide (planP long size ws gs) = false from decide_eq_false fun h => hgd (HGD.out.1 ((HG.out.1 h).1 k hlt)))
        clear HGD HP
        rcases Nat.eq_zero_or_pos k with hz | hz
        · have hL0 := h0 hz
          subst hz
          simp only [Nat.add_zero] at hx hg
          clear hl h0
          have PX := cell_regrown hx
          have PG := cell_regrown hg
          clear hx hg
          by_cases q1 : 1 ≤ X ∧ X ≤ cntI long size
          · have kx : Hid (∀ d os, Calls Tryz.prog 46 #[.int .i64 X, .int .i64 1, .int .i64 (cntI long size)] (grow (redrawn wr d) os) fun e w'' => e = .returned (.bool true) ∧ ∃ p : Regrown, w'' = grow (redrawn wr p.d) p.os) := hid (rgs fun w' => l1In_yes _ _ _ _ (by omega))
            have kg : Hid (∀ d os, Calls Tryz.prog 46 #[.int .i64 G, .int .i64 1, .int .i64 99] (grow (redrawn wr d) os) fun e w'' => e = .returned (.bool false) ∧ ∃ p : Regrown, w'' = grow (redrawn wr p.d) p.os) := hid (rgs fun w' => l1In_no _ _ _ _ (by omega))
            go_wp2
            refine wp_region_quiet_below (by kernel_rfl) (by kernel_rfl) ?_
            repeat (first | go_big_quiet_step (first | (go_at_call 70; exact kc.out _ _) | (go_at_call_of 46 (Value.int .i64 X); exact kx.out _ _) | (go_at_call_of 46 (Value.int .i64 G); exact kg.out _ _)) | quiet_step (first | (go_at_call 70; exact kc.out _ _) | (go_at_call_of 46 (Value.int .i64 X); exact kx.out _ _) | (go_at_call_of 46 (Value.int .i64 G); exact kg.out _ _)))
            refine wpQuiet_nil ?_
            intro _ hw'
            obtain ⟨⟨dq, osq⟩, hw''⟩ := hw'
            subst hw''
            have hbq := below_regrown wr dq osq
            go_wp2
            go_ret
            exact ⟨ret_bool HS.out.symm, below_cat' HW.out hbq⟩
          · have kx : Hid (∀ d os, Calls Tryz.prog 46 #[.int .i64 X, .int .i64 1, .int .i64 (cntI long size)] (grow (redrawn wr d) os) fun e w'' => e = .returned (.bool false) ∧ ∃ p : Regrown, w'' = grow (redrawn wr p.d) p.os) := hid (rgs fun w' => l1In_no _ _ _ _ (by omega))
            have kg : True := trivial
            go_wp2
            refine wp_region_quiet_below (by kernel_rfl) (by kernel_rfl) ?_
            repeat (first | go_big_quiet_step (first | (go_at_call 70; exact kc.out _ _) | (go_at_call_of 46 (Value.int .i64 X); exact kx.out _ _)) | quiet_step (first | (go_at_call 70; exact kc.out _ _) | (go_at_call_of 46 (Value.int .i64 X); exact kx.out _ _)))
            refine wpQuiet_nil ?_
            intro _ hw'
            obtain ⟨⟨dq, osq⟩, hw''⟩ := hw'
            subst hw''
            have hbq := below_regrown wr dq osq
            go_wp2
            go_ret
            exact ⟨ret_bool HS.out.symm, below_cat' HW.out hbq⟩
        · have hl' := hl hz
          clear hl h0
          have hz' : decide ((0 : Int) < (k : Int)) = true := by simp; omega
          have PX := cell_regrown hx
          have PG := cell_regrown hg
          have PL := cell_regrown hl'
          clear hx hg hl'
          by_cases q1 : 1 ≤ X ∧ X ≤ cntI long size
          · have kx : Hid (∀ d os, Calls Tryz.prog 46 #[.int .i64 X, .int .i64 1, .int .i64 (cntI long size)] (grow (redrawn wr d) os) fun e w'' => e = .returned (.bool true) ∧ ∃ p : Regrown, w'' = grow (redrawn wr p.d) p.os) := hid (rgs fun w' => l1In_yes _ _ _ _ (by omega))
            by_cases q2 : X ≤ L
            · have hle : decide (X ≤ L) = true := by simpa using q2
              have kg : True := trivial
              go_wp2
              refine wp_region_quiet_below (by kernel_rfl) (by kernel_rfl) ?_
              repeat (first | go_big_quiet_step (first | (go_at_call 70; exact kc.out _ _) | (go_at_call_of 46 (Value.int .i64 X); exact kx.out _ _)) | quiet_step (first | (go_at_call 70; exact kc.out _ _) | (go_at_call_of 46 (Value.int .i64 X); exact kx.out _ _)))
              refine wpQuiet_nil ?_
              intro _ hw'
              obtain ⟨⟨dq, osq⟩, hw''⟩ := hw'
              subst hw''
              have hbq := below_regrown wr dq osq
              go_wp2
              go_ret
              exact ⟨ret_bool HS.out.symm, below_cat' HW.out hbq⟩
            · have hle : decide (X ≤ L) = false := by simpa using q2
              have kg : Hid (∀ d os, Calls Tryz.prog 46 #[.int .i64 G, .int .i64 1, .int .i64 99] (grow (redrawn wr d) os) fun e w'' => e = .returned (.bool false) ∧ ∃ p : Regrown, w'' = grow (redrawn wr p.d) p.os) := hid (rgs fun w' => l1In_no _ _ _ _ (by omega))
              go_wp2
              refine wp_region_quiet_below (by kernel_rfl) (by kernel_rfl) ?_
              repeat (first | go_big_quiet_step (first | (go_at_call 70; exact kc.out _ _) | (go_at_call_of 46 (Value.int .i64 X); exact kx.out _ _) | (go_at_call_of 46 (Value.int .i64 G); exact kg.out _ _)) | quiet_step (first | (go_at_call 70; exact kc.out _ _) | (go_at_call_of 46 (Value.int .i64 X); exact kx.out _ _) | (go_at_call_of 46 (Value.int .i64 G); exact kg.out _ _)))
              refine wpQuiet_nil ?_
              intro _ hw'
              obtain ⟨⟨dq, osq⟩, hw''⟩ := hw'
              subst hw''
              have hbq := below_regrown wr dq osq
              go_wp2
              go_ret
              exact ⟨ret_bool HS.out.symm, below_cat' HW.out hbq⟩
          · have kx : Hid (∀ d os, Calls Tryz.prog 46 #[.int .i64 X, .int .i64 1, .int .i64 (cntI long size)] (grow (redrawn wr d) os) fun e w'' => e = .returned (.bool false) ∧ ∃ p : Regrown, w'' = grow (redrawn wr p.d) p.os) := hid (rgs fun w' => l1In_no _ _ _ _ (by omega))
            have kg : True := trivial
            go_wp2
            refine wp_region_quiet_below (by kernel_rfl) (by kernel_rfl) ?_
            repeat (first | go_big_quiet_step (first | (go_at_call 70; exact kc.out _ _) | (go_at_call_of 46 (Value.int .i64 X); exact kx.out _ _)) | quiet_step (first | (go_at_call 70; exact kc.out _ _) | (go_at_call_of 46 (Value.int .i64 X); exact kx.out _ _)))
            refine wpQuiet_nil ?_
            intro _ hw'
            obtain ⟨⟨dq, osq⟩, hw''⟩ := hw'
            subst hw''
            have hbq := below_regrown wr dq osq
            go_wp2
            go_ret
            exact ⟨ret_bool HS.out.symm, below_cat' HW.out hbq⟩
    · obtain rfl : k = ws.length := by omega
      have hx := (hold b (off + (ws.length - 1)) hlb').trans (HR1.out (ws.length - 1) (by omega))
      have e1 : ((ws.length : Int) - 1) = ((ws.length - 1 : Nat) : Int) := by omega
      have HE : Hid (planP long size ws gs ↔ ws.getD (ws.length - 1) 0 = cntI long size) := ⟨fun h => (HG.out.1 h).2, fun h => HG.out.2 ⟨HP.out, h⟩⟩
      obtain ⟨X, hX⟩ : ∃ X, X = ws.getD (ws.length - 1) 0 := ⟨_, rfl⟩
      rw [← hX] at hx HE
      have PX := cell_regrown hx
      clear hold HP HG hX hx
      go_wp2
      refine wp_region_quiet_below (by kernel_rfl) (by kernel_rfl) ?_
      repeat (first | go_big_quiet_step (exact kc.out _ _) | quiet_step (exact kc.out _ _))
      refine wpQuiet_nil ?_
      intro _ hw'
      obtain ⟨⟨dq, osq⟩, hw''⟩ := hw'
      subst hw''
      have hbq := below_regrown wr dq osq
      go_wp2
      go_ret
      refine ⟨ret_bool ?_, below_cat' HW.out hbq⟩
      rw [Bool.eq_iff_iff, decide_eq_true_eq, HE.out, beq_iff_eq]
end Go.Proofs.YtbakicgdloakgaaGreatDoor
namespace Go.Proofs.YtbakicgdloakgaaGreatDoor
open Go.ChangeShapes Go.WideShapes Go.ChangeAt Go.RowKit Go.Sort

/-- 'append([]int{}, xs...)': a row of its own. -/
theorem append_copy {P : Program} {w : World} {ops : Array Oper} {rest : List Oper} {o : Oper} {a : Act} {Q : Exit → Act → World → Prop} (t e : TypeId) (i : TypeInfo) (z : Value) (bytes : Nat)
    (ht : P.underlying t = some (.slice e)) (hi : P.info? e = some i) (hz : i.zero = some z) (hz1 : i.size = 1) (hz2 : i.bytes = bytes) (hzs : z.cells.size = 1)
    {g b off m cap : Nat} {xs : List Int} (s x : Operand) (hgd : o.guard = none) (ho : o.op = .call { callee := .builtin .append, args := #[s, x], argTypes := #[t, t] })
    (hs : a.eval s = .slice (some ⟨g, 0, none⟩) 0 0) (hx : a.eval x = .slice (some ⟨b, off, none⟩) m cap) (hg : g = w.heap.size) (hm : xs.length = m)
    (hc : ∀ i, i < xs.length → w.cell? ⟨b, off + i, none⟩ = some (.int .i64 (xs.getD i 0))) (hbd : m * bytes ≤ 140737488355328) (hml : m ≤ 9223372036854775807)
    (h : ∀ v' w', w'.ownsRow w.heap.size e 1 v' m (xs.map (Value.int .i64)) → Below w.heap.size w w' → wpList P ops Q rest (a.put o.dst v') w') :
    wpList P ops Q (o :: rest) a (w.alloc (.cells #[] e)) := by
  subst hg
  have ho1 : (w.alloc (.cells #[] e)).ownsRow w.heap.size e 1 (.slice (some ⟨w.heap.size, 0, none⟩) 0 0) 0 [] := World.ownsRow_lit w #[] 0 (Nat.le_refl _) (Nat.zero_le _) rfl
  refine wpList_append_own _ hgd s x t ho w.heap.size e i z 1 bytes ht hi hz hz1 hz2 hzs (by decide) _ 0 [] hs ho1 ⟨b, off, none⟩ m cap (xs.map (Value.int .i64)) hx (by simp [hm]) ?_ (by intro u hu; obtain ⟨y, -, rfl⟩ := List.mem_map.1 hu; rfl) (by unfold maxLen; omega) (by rw [Nat.zero_add]; exact hbd) (by simp) ?_
  · intro j u hj
    have hjl : j < xs.length := by have := (List.getElem?_eq_some_iff.1 hj).1; simpa using this
    have hci := hc j hjl
    rw [addr_add, World.cell?_of_block (w := w) (Below.heap_alloc _ _ _ (block_lt_of_cell hci)), hci]
    rw [← hj]; simp [List.getD, hjl]
  · intro v' w' h1 h2 _
    refine h v' w' ?_ (((Below.refl _ _).alloc (Nat.le_refl _) _).grown h2 (by simp) (fun j hj => (ho1.lt j hj).1))
    simpa using h1
theorem owns_set {w : World} {base : Nat} {e : TypeId} {size : Nat} {v : Value} {n : Nat} {xs : List Value} (h : w.ownsRow base e size v n xs) {p : Addr} (hp : p.block < base) (u : Value) : (w.setCell p u).ownsRow base e size v n xs := by
  obtain ⟨h1, h2⟩ := h
  refine ⟨h1, ?_⟩
  rcases h2 with h2 | ⟨g, cap, cur, hv, hg, hh, r⟩
  · exact Or.inl h2
  · exact Or.inr ⟨g, cap, cur, hv, hg, by rw [Below.heap_setCell _ p _ g (by omega)]; exact hh, r⟩
end Go.Proofs.YtbakicgdloakgaaGreatDoor
namespace Go.Proofs.YtbakicgdloakgaaGreatDoor
open Go.ChangeShapes Go.WideShapes Go.ChangeAt Go.RowKit Go.Sort

/-- What is left of a number of values. -/
def szI (left : Int) (n : Nat) : Int := if left - n < 0 then -1 else left - n
set_option maxRecDepth 100000 in
theorem szIntS_any (a : Option Addr) (n c : Nat) (left : Int) (w : World) (h1 : 0 ≤ left) (h2 : left ≤ 1048576) (hn : n ≤ 9223372036854775807) :
    Calls Tryz.prog 66 #[.slice a n c, .int .i64 left] w fun e w' => e = .returned (.int .i64 (szI left n)) ∧ w' = w := by
  by_cases h : left - n < 0
  · have H := hid (show szI left n = -1 by unfold szI; rw [if_pos h])
    go_enter Tryz.func66, Tryz.ntmps66
    go_wp2
    go_ret
    exact ⟨ret_int H.out.symm, rfl⟩
  · have H := hid (show szI left n = left - n by unfold szI; rw [if_neg h])
    go_enter Tryz.func66, Tryz.ntmps66
    go_wp2
    go_ret
    exact ⟨ret_int H.out.symm, rfl⟩

set_option maxRecDepth 100000 in
theorem szPlan_any (long size : Int) (a1 a2 : Option Addr) (n1 c1 n2 c2 : Nat) (left : Int) (w : World) (h1 : 0 ≤ left) (h2 : left ≤ 1048576) (hn1 : n1 ≤ 9223372036854775807) (hn2 : n2 ≤ 9223372036854775807) :
    Calls Tryz.prog 44 #[.agg #[.int .i64 long, .int .i64 size, .slice a1 n1 c1, .slice a2 n2 c2], .int .i64 left] w fun e w' => e = .returned (.int .i64 (szI left (n1 + n2))) ∧ Below w.heap.size w w' := by
  by_cases h : left - n1 < 0
  · have e1 := hid (show szI left n1 = -1 by unfold szI; rw [if_pos h])
    have e2 := hid (show szI left (n1 + n2) = -1 by unfold szI; rw [if_pos (by omega)])
    go_enter Tryz.func44, Tryz.ntmps44
    go_wp2_with fail
    refine (szIntS_any a1 n1 c1 left _ h1 h2 hn1).mono ?_
    rintro e w1 ⟨rfl, rfl⟩
    rw [e1.out]
    go_wp2_with fail
    go_ret
    exact ⟨ret_int e2.out.symm, (Below.refl _ _).alloc (Nat.le_refl _) _⟩
  · have e1 := hid (show szI left n1 = left - n1 by unfold szI; rw [if_neg h])
    have e3 := hid (show szI (left - n1) n2 = szI left (n1 + n2) by
      unfold szI
      by_cases hh : left - (n1 : Int) - (n2 : Int) < 0
      · rw [if_pos hh, if_pos (by omega)]
      · rw [if_neg hh, if_neg (by omega)]; omega)
    go_enter Tryz.func44, Tryz.ntmps44
    go_wp2_with fail
    refine (szIntS_any a1 n1 c1 left _ h1 h2 hn1).mono ?_
    rintro e w1 ⟨rfl, rfl⟩
    rw [e1.out]
    go_wp2_with fail
    refine (szIntS_any a2 n2 c2 (left - n1) _ (by omega) (by omega) hn2).mono ?_
    rintro e w1 ⟨rfl, rfl⟩
    rw [e3.out]
    by_cases hh : szI left (n1 + n2) < 0
    · have e4 := hid (show szI left (n1 + n2) = -1 by
        unfold szI at hh ⊢
        split at hh
        · rw [if_pos (by omega)]
        · omega)
      go_wp2_with fail
      go_ret
      exact ⟨ret_int e4.out.symm, (Below.refl _ _).alloc (Nat.le_refl _) _⟩
    · go_wp2_with fail
      go_ret
      exact ⟨rfl, (Below.refl _ _).alloc (Nat.le_refl _) _⟩

theorem below3 (w : World) (a b c : Obj) : Below w.heap.size w (((w.alloc a).alloc b).alloc c) :=
  (((Below.refl _ _).alloc (Nat.le_refl _) _).alloc (by simp) _).alloc (by simp; omega) _
theorem below_set {w w' : World} (h : Below w.heap.size w w') {p : Addr} (hp : w.heap.size ≤ p.block) (u : Value) : Below w.heap.size w (w'.setCell p u) := h.setCell hp u

set_option maxRecDepth 100000 in
set_option maxHeartbeats 2000000 in
theorem toPlan_own (long size : Int) (a1 a2 : Option Addr) (c1 c2 : Nat) (ws gs : List Int) (w : World) (ha1 : IntsAt w a1 ws) (ha2 : IntsAt w a2 gs) (hx : ws.length ≤ 1048576) (hy : gs.length ≤ 1048576) :
    Calls Tryz.prog 51 #[.agg #[.int .i64 long, .int .i64 size, .slice a1 ws.length c1, .slice a2 gs.length c2]] w fun e w' => ∃ b1 d1 b2 d2, e = .returned (.agg #[.int .i64 long, .int .i64 size, .slice b1 ws.length d1, .slice b2 gs.length d2]) ∧ w'.ownsRow w.heap.size 3 1 (.slice b1 ws.length d1) ws.length (ws.map (Value.int .i64)) ∧ w'.ownsRow w.heap.size 3 1 (.slice b2 gs.length d2) gs.length (gs.map (Value.int .i64)) ∧ Apart (.slice b1 ws.length d1) (.slice b2 gs.length d2) ∧ Below w.heap.size w w' := by
  go_enter Tryz.func51, Tryz.ntmps51
  go_wp2_with fail
  refine (toIntS_any a1 c1 ws _ (by exact ha1.below (below3 _ _ _ _)) hx).mono ?_
  rintro e w1 ⟨v1, rfl, o1, b1⟩
  obtain ⟨q1, d1, rfl, -, i1⟩ := owns_ints o1
  obtain ⟨hc1, hf1⟩ := bcell b1
  have hs1 : w.heap.size + 1 + 1 < w1.heap.size := by have := b1.size; simp at this; omega
  have B1 := hid (below_cat' (below3 _ _ _ _) b1)
  have O1 := hid o1
  clear o1 i1 b1
  go_wp2_with fail
  have B1' := hid (below_set B1.out (p := ⟨w.heap.size + 1 + 1, 2, none⟩) (by simp; omega) (.slice q1 ws.length d1))
  refine (toIntS_any a2 c2 gs _ (by exact ha2.below B1'.out) hy).mono ?_
  rintro e w2 ⟨v2, rfl, o2, b2⟩
  obtain ⟨q2, d2, rfl, -, i2⟩ := owns_ints o2
  have hc2 : ∀ b o, b < w1.heap.size → w2.cell? ⟨b, o, none⟩ = (w1.setCell ⟨w.heap.size + 1 + 1, 2, none⟩ (.slice q1 ws.length d1)).cell? ⟨b, o, none⟩ := fun b o h => (bcell b2).1 b o (by simpa using h)
  have hf2 : ∀ b o, b < w1.heap.size → w2.frozen? ⟨b, o, none⟩ = (w1.setCell ⟨w.heap.size + 1 + 1, 2, none⟩ (.slice q1 ws.length d1)).frozen? ⟨b, o, none⟩ := fun b o h => (bcell b2).2 b o (by simpa using h)
  have hs3 : w.heap.size + 1 < w1.heap.size := by omega
  have hs4 : w.heap.size < w1.heap.size := by omega
  have B2 := hid b2
  have O2 := hid o2
  clear b2 o2 i2
  go_wp2_with fail
  have hb : Below w.heap.size w (((((w2.setCell ⟨w.heap.size + 1 + 1, 3, none⟩ (.slice q2 gs.length d2)).setCell ⟨w.heap.size + 1, 0, none⟩ (.int .i64 long)).setCell ⟨w.heap.size + 1, 1, none⟩ (.int .i64 size)).setCell ⟨w.heap.size + 1, 2, none⟩ (.slice q1 ws.length d1)).setCell ⟨w.heap.size + 1, 3, none⟩ (.slice q2 gs.length d2)) :=
    below_set (below_set (below_set (below_set (below_set (below_cat' B1'.out B2.out) (by simp; omega) _) (by simp) _) (by simp) _) (by simp) _) (by simp) _
  have o1 := owns_below ((Touch.setCell w1 ⟨w.heap.size + 1 + 1, 2, none⟩ (.slice q1 ws.length d1)).owns O1.out (by simp)) B2.out
  have o2 := O2.out
  have t1 := (Touch.setCell _ ⟨w.heap.size + 1, 3, none⟩ (.slice q2 gs.length d2)).owns ((Touch.setCell _ ⟨w.heap.size + 1, 2, none⟩ (.slice q1 ws.length d1)).owns ((Touch.setCell _ ⟨w.heap.size + 1, 1, none⟩ (.int .i64 size)).owns ((Touch.setCell _ ⟨w.heap.size + 1, 0, none⟩ (.int .i64 long)).owns ((Touch.setCell w2 ⟨w.heap.size + 1 + 1, 3, none⟩ (.slice q2 gs.length d2)).owns o1 (by simp)) (by simp)) (by simp)) (by simp)) (by simp)
  have t2 := (Touch.setCell _ ⟨w.heap.size + 1, 3, none⟩ (.slice q2 gs.length d2)).owns ((Touch.setCell _ ⟨w.heap.size + 1, 2, none⟩ (.slice q1 ws.length d1)).owns ((Touch.setCell _ ⟨w.heap.size + 1, 1, none⟩ (.int .i64 size)).owns ((Touch.setCell _ ⟨w.heap.size + 1, 0, none⟩ (.int .i64 long)).owns ((Touch.setCell w2 ⟨w.heap.size + 1 + 1, 3, none⟩ (.slice q2 gs.length d2)).owns o2 (by simp; omega)) (by simp; omega)) (by simp; omega)) (by simp; omega)) (by simp; omega)
  refine bodyPost_ret (v := .agg #[.int .i64 long, .int .i64 size, .slice q1 ws.length d1, .slice q2 gs.length d2]) ?_ rfl ⟨q1, d1, q2, d2, rfl, owns_base t1 (by simp; omega), owns_base t2 (by simp; omega), owns_apart O1.out O2.out (by simp), hb⟩
  simp [results, Tryz.results51, go_sem, hc2, hc1, hs3]

end Go.Proofs.YtbakicgdloakgaaGreatDoor
