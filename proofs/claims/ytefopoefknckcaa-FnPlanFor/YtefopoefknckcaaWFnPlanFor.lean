/- The walk of the promise on plans for each length. -/
import Derived.Test.YtefopoefknckcaaPlanWh
import Derived.Test.YtefopoefknckcaaDrawN
import Derived.Test.YtefopoefknckcaaWhIn
import Derived.Test.YtefopoefknckcaaPlanIC
import Derived.Deep.RegionHeld3
namespace Go.Proofs.Ytefopoefknckcaa
open Go.ChangeShapes Go.WideShapes Go.ChangeAt Go.RowKit Go.Sort

/-- A plan for a length is ok, and has just as many blocks as it needs. -/
theorem for_ok (n : Int) (h1 : 1 ≤ n) (h2 : n ≤ 300) : planP n (forS n) (forW n) (forG n) := by
  obtain ⟨s1, s2⟩ := forS_bd n h1 h2
  have hn1 : 1 ≤ forN n := cnt_pos n (forS n) h1 (by omega)
  have hle : forN n ≤ 24 := by
    have := for_step n (forS n) h1 h2 (by omega)
    have hm : forS n = max 8 (cntI n 24) := rfl
    have : ¬ 24 < cntI n (forS n) := fun h => by have := this.1 h; omega
    have e : forN n = cntI n (forS n) := rfl
    omega
  have hk : 1 ≤ forK n ∧ forK n ≤ forN n := by unfold forK cntI; omega
  refine ⟨⟨h1, h2, by omega, by omega, hle⟩, ?_⟩
  unfold forW forG
  by_cases h : forK n < forN n
  · rw [if_pos h, if_pos h]
    refine ⟨⟨by simp, by simp, fun k hk' => ?_, rfl⟩, fun k hk' => ?_, rfl⟩
    · have : k = 0 ∨ k = 1 := by simp at hk'; omega
      rcases this with rfl | rfl <;> simp [prev0] <;> omega
    · have : k = 0 ∨ k = 1 := by simp at hk'; omega
      rcases this with rfl | rfl <;> simp
  · rw [if_neg h, if_neg h]
    refine ⟨⟨by simp, by simp, fun k hk' => ?_, rfl⟩, fun k hk' => ?_, rfl⟩
    · have : k = 0 := by simp at hk'; omega
      subst this; simp [prev0]; omega
    · have : k = 0 := by simp at hk'; omega
      subst this; simp
theorem for_cover (n : Int) (h1 : 1 ≤ n) (h2 : n ≤ 300) : n ≤ forN n * forS n ∧ (forN n - 1) * forS n < n := by
  obtain ⟨s1, s2⟩ := forS_bd n h1 h2
  have e : forN n = (n + forS n - 1) / forS n := rfl
  have h3 := Int.ediv_mul_le (n + forS n - 1) (show forS n ≠ 0 by omega)
  have h4 := Int.lt_ediv_add_one_mul_self (n + forS n - 1) (show 0 < forS n by omega)
  rw [← e] at h3 h4
  rw [Int.add_mul] at h4
  rw [Int.sub_mul]
  omega

/-- What a plan for a length is, whatever it is. -/
theorem for_says (n : Int) : ∃ (L S : Int) (ws gs : List Int), ws.length ≤ 1000 ∧ gs.length ≤ 1000 ∧
    (∀ w : World, Calls Try.prog 8 #[.int .i64 n] w fun e w' => ∃ v, e = .returned v ∧ PlanO w' w.heap.size L S ws gs v ∧ Below w.heap.size w w') ∧
    (∀ w : World, Calls Try.prog 6 #[.int .i64 n] w fun e w' => ∃ v, e = .returned v ∧ PlanO w' w.heap.size L S ws gs v ∧ Below w.heap.size w w') ∧
    ((1 ≤ n ∧ n ≤ 300) ∧ L = n ∧ planP n S ws gs ∧ 1 ≤ S ∧ S ≤ 16 ∧ n ≤ cntI n S * S ∧ (cntI n S - 1) * S < n ∨ ¬ (1 ≤ n ∧ n ≤ 300) ∧ L = 0) := by
  by_cases h : 1 ≤ n ∧ n ≤ 300
  · have hp := for_ok n h.1 h.2
    have hb := forS_bd n h.1 h.2
    have hc := for_cover n h.1 h.2
    refine ⟨n, forS n, forW n, forG n, ?_, ?_, fun w => specPlanFor_in n w h.1 h.2, fun w => implPlanFor_in n w h.1 h.2, .inl ⟨h, rfl, hp, by omega, by omega, hc.1, hc.2⟩⟩
    · unfold forW; split <;> simp
    · unfold forG; split <;> simp
  · exact ⟨0, 0, [], [], by simp, by simp, fun w => specPlanFor_out n w h, fun w => implPlanFor_out n w h, .inr ⟨h, rfl⟩⟩

set_option maxHeartbeats 4000000 in
theorem walk_FnPlanFor (a0 : Option Addr) (len0 cap0 : Nat) (z0 : List Int) (w : World) (w0 : IsRow .u8 w a0 len0 cap0 z0) :
    Calls Try.prog 3 #[.slice a0 len0 cap0] w fun e w' => e = .returned (.bool true) ∧ Below w.heap.size w w' := by
  by_cases h : len0 ≤ 1048576
  · have h' : ¬ (1048576 : Int) < (len0 : Int) := by omega
    have W0 := hid w0
    clear w0
    go_enter Try.func3, Try.ntmps3
    go_wp2_with fail
    refine (drawPlanFor a0 len0 cap0 z0 _ W0.out).mono ?_
    rintro e w1 ⟨n, rfl, n1, n2, b1⟩
    obtain ⟨L, S, ws, gs, hx, hy, hs, hi, hin⟩ := for_says n
    have HS := hid hs
    have HI := hid hi
    have B1 := hid b1
    have HIN := hid hin
    clear hs hi b1 hin W0
    go_wp2_with fail
    refine (HI.out _).mono ?_
    rintro e w2 ⟨v, rfl, ho, b2⟩
    obtain ⟨b1, d1, b2', d2, rfl, q1, q2, ap⟩ := planO_slices ho
    have bA := below_alloc' w2 (.cells #[.int .i64 L, .int .i64 S, .slice b1 ws.length d1, .slice b2' gs.length d2] 26)
    have X4 := hid (laid w2 #[.int .i64 L, .int .i64 S, .slice b1 ws.length d1, .slice b2' gs.length d2] 26)
    have Q1 := hid (owns_below q1 bA)
    have Q2 := hid (owns_below q2 bA)
    have B2 := hid (below_cat' (below_cat' B1.out b2) bA)
    clear ho q1 q2 ap b2 bA
    have s0 := box_cell X4.out 0 (v := .int .i64 L) rfl
    have s1 := box_cell X4.out 1 (v := .int .i64 S) rfl
    have s2 := box_cell X4.out 2 (v := .slice b1 ws.length d1) rfl
    have s3 := box_cell X4.out 3 (v := .slice b2' gs.length d2) rfl
    go_wp2_with fail
    go_region_held3 (fun w' => w'.cell? ⟨w2.heap.size, 0, none⟩ = some (.int .i64 L) ∧ w'.cell? ⟨w2.heap.size, 1, none⟩ = some (.int .i64 S) ∧ w'.cell? ⟨w2.heap.size, 2, none⟩ = some (.slice b1 ws.length d1) ∧ w'.cell? ⟨w2.heap.size, 3, none⟩ = some (.slice b2' gs.length d2)) (go_keep) (first
      | (go_at_call 8; refine (HS.out _).mono ?_; rintro e w3 ⟨v, rfl, ho, b3⟩; obtain ⟨a1, c1, a2, c2, rfl, o1, o2, -⟩ := planO_slices ho; have hc3 : ∀ bb o, bb < w2.heap.size + 1 → w3.cell? ⟨bb, o, none⟩ = (w2.alloc (.cells #[.int .i64 L, .int .i64 S, .slice b1 ws.length d1, .slice b2' gs.length d2] 26)).cell? ⟨bb, o, none⟩ := (fun bb o hbb => (bcell b3).1 bb o (by simpa using hbb)); have O1 := hid o1; have O2 := hid o2; have B3 := hid b3; clear o1 o2 b3 ho)
      | (go_at_call 7; refine (whPlan_same L S b1 b2' a1 a2 d1 d2 c1 c2 ws gs _ (by exact owns_at (owns_below (owns_below Q1.out (Below.refl _ _).drew) B3.out)) (by exact owns_at (owns_below (owns_below Q2.out (Below.refl _ _).drew) B3.out)) (by exact owns_at O1.out) (by exact owns_at O2.out) (by omega) (by omega)).mono ?_; rintro e w4 ⟨rfl, b4⟩; have hc4 : ∀ bb o, bb < w3.heap.size → w4.cell? ⟨bb, o, none⟩ = w3.cell? ⟨bb, o, none⟩ := (bcell b4).1; have m3 : w2.heap.size < w3.heap.size := (by have := B3.out.size; simp at this; omega); have B4 := hid b4; clear b4))
    have B34 := hid (below_cat' B3.out B4.out)
    have X5 := hid (kept (kept X4.out (Below.refl _ _).drew) B34.out)
    have R1 := hid (owns_below (owns_below Q1.out (Below.refl _ _).drew) B34.out)
    have R2 := hid (owns_below (owns_below Q2.out (Below.refl _ _).drew) B34.out)
    have B5 := hid (below_cat' (below_cat' B2.out (Below.refl _ _).drew) B34.out)
    have t0 := box_cell X5.out 0 (v := .int .i64 L) rfl
    have t1 := box_cell X5.out 1 (v := .int .i64 S) rfl
    have t2 := box_cell X5.out 2 (v := .slice b1 ws.length d1) rfl
    have t3 := box_cell X5.out 3 (v := .slice b2' gs.length d2) rfl
    clear s0 s1 s2 s3 hc3 hc4 X4 Q1 Q2 B3 B4 O1 O2 B2 B1 HS HI B34
    rcases HIN.out with ⟨hn, hL, hp, hS1, hS2, hc1, hc2⟩ | ⟨hn, hL⟩
    · subst hL
      have hp' := hid hp
      have hC1 : cntI L S ≤ 24 := hp.1.2.2.2.2
      have hC0 : 1 ≤ cntI L S := cnt_pos L S hn.1 hS1
      have HC := hid (show cntP L S ws gs = cntI L S from if_pos hp)
      have HP := hid (decide_eq_true hp)
      clear hp HIN
      obtain ⟨C, hC⟩ : ∃ C, C = cntI L S := ⟨_, rfl⟩
      rw [← hC] at hc1 hc2 hC1 hC0 HC
      have hm0 : 0 ≤ C * S := Int.mul_nonneg (by omega) (by omega)
      have hm1 : C * S ≤ 24 * 16 := Int.mul_le_mul hC1 hS2 (by omega) (by omega)
      have hm2 : 0 ≤ (C - 1) * S := Int.mul_nonneg (by omega) (by omega)
      have hm3 : (C - 1) * S ≤ 24 * 16 := Int.mul_le_mul (by omega) hS2 (by omega) (by omega)
      obtain ⟨hn3, hn4⟩ := hn
      have HCC := hid hC
      clear hC
      go_wp2_with fail
      refine (whIn_yes _ _ _ _ (by omega) (by omega)).mono ?_
      rintro e w5 ⟨rfl, hw⟩
      subst hw
      go_wp2_with fail
      refine (implPlanCount L S b1 b2' d1 d2 ws gs _ (by exact owns_at R1.out) (by exact owns_at R2.out) (by omega) (by omega)).mono ?_
      rintro e w6 ⟨rfl, b6⟩
      rw [HC.out]
      have X6 := hid (kept X5.out b6)
      have R3 := hid (owns_below R1.out b6)
      have R4 := hid (owns_below R2.out b6)
      have B6 := hid (below_cat' B5.out b6)
      clear t0 t1 t2 t3 b6 X5 R1 R2 B5
      have t0 := box_cell X6.out 0 (v := .int .i64 L) rfl
      have t1 := box_cell X6.out 1 (v := .int .i64 S) rfl
      have t2 := box_cell X6.out 2 (v := .slice b1 ws.length d1) rfl
      have t3 := box_cell X6.out 3 (v := .slice b2' gs.length d2) rfl
      go_wp2_with fail
      refine (implPlanOk L S b1 b2' d1 d2 ws gs _ (by exact owns_at R3.out) (by exact owns_at R4.out) (by omega) (by omega)).mono ?_
      rintro e w7 ⟨rfl, b7⟩
      rw [HP.out]
      have X7 := hid (kept X6.out b7)
      have B7 := hid (below_cat' B6.out b7)
      clear t0 t1 t2 t3 b7 X6
      have t0 := box_cell X7.out 0 (v := .int .i64 L) rfl
      have t1 := box_cell X7.out 1 (v := .int .i64 S) rfl
      go_wp2_with fail
      go_ret
      exact ⟨rfl, B7.out⟩
    · subst hL
      clear HIN
      go_wp2_with fail
      refine (whIn_no _ _ _ _ (by omega)).mono ?_
      rintro e w5 ⟨rfl, hw⟩
      subst hw
      go_wp2_with fail
      go_ret
      exact ⟨rfl, B5.out⟩
  · have h' : (1048576 : Int) < (len0 : Int) := by omega
    clear w0
    go_enter Try.func3, Try.ntmps3
    go_wp2
    go_ret
    exact ⟨rfl, Below.refl _ _⟩
end Go.Proofs.Ytefopoefknckcaa
