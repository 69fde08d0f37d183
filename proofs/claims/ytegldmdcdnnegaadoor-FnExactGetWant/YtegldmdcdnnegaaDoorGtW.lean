/- How many windows are known; whether all is: by the program. -/
import Derived.Test.YtegldmdcdnnegaaDoorGtK
import Derived.Test.YtegldmdcdnnegaaDoorSlUa
import Derived.Test.YtegldmdcdnnegaaDoorPlanS
namespace Go.Proofs.YtegldmdcdnnegaaDoor
open Go.ChangeShapes Go.WideShapes Go.ChangeAt Go.RowKit Go.Sort Go.Shelf
attribute [local go_sem] Oper.semAt_some

/-- How many of the first windows have no more blocks than so many. -/
def cntW (ws : List Int) (p : Int) : Nat → Nat
  | 0 => 0
  | k + 1 => cntW ws p k + if ws.getD k 0 ≤ p then 1 else 0
theorem cntW_le (ws : List Int) (p : Int) : ∀ k, cntW ws p k ≤ k
  | 0 => Nat.le_refl _
  | k + 1 => by have := cntW_le ws p k; simp only [cntW]; split <;> omega
theorem cntW_all {ws : List Int} {p : Int} : ∀ {n : Nat}, (∀ j, j < n → ws.getD j 0 ≤ p) → cntW ws p n = n
  | 0, _ => rfl
  | n + 1, h => by simp only [cntW]; rw [cntW_all (fun j hj => h j (by omega)), if_pos (h n (by omega))]
theorem cntW_stop {ws : List Int} {p : Int} {n : Nat} (h : ∀ j, n ≤ j → j < ws.length → p < ws.getD j 0) : ∀ d, n + d ≤ ws.length → cntW ws p (n + d) = cntW ws p n
  | 0, _ => rfl
  | d + 1, hd => by
    have h1 := h (n + d) (by omega) (by omega)
    show cntW ws p (n + d) + (if ws.getD (n + d) 0 ≤ p then 1 else 0) = _
    rw [cntW_stop h d (by omega), if_neg (Int.not_le.2 h1), Nat.add_zero]
theorem cntW_end {ws : List Int} {p : Int} {n : Nat} (hn : n ≤ ws.length) (h1 : ∀ j, j < n → ws.getD j 0 ≤ p) (h2 : n < ws.length → p < ws.getD n 0) (ha : ∀ d k, k + d < ws.length → ws.getD k 0 ≤ ws.getD (k + d) 0) : cntW ws p ws.length = n := by
  obtain ⟨d, hd⟩ : ∃ d, ws.length = n + d := ⟨ws.length - n, by omega⟩
  rw [hd, cntW_stop (fun j hj hl => ?_) d (by omega), cntW_all h1]
  have h3 := h2 (by omega)
  have h4 := ha (j - n) n (by omega)
  rw [show n + (j - n) = j by omega] at h4
  omega
/-- Windows that are known. -/
def winsOf (L S : Int) (ws gs : List Int) (C Z : Int) (es : List EqV) : Int := if getP L S ws gs C Z es then cntW ws (pfx 0 (es.map EqV.r)) ws.length else 0

set_option maxHeartbeats 4000000 in
theorem implGetWindows_any (L S : Int) (a1 a2 : Option Addr) (c1 c2 : Nat) (ws gs : List Int) (C Z : Int) (a : Option Addr) (cap : Nat) (es : List EqV) (w : World) (ha1 : IntsAt w a1 ws) (ha2 : IntsAt w a2 gs) (hx : ws.length ≤ 1048576) (hy : gs.length ≤ 1048576) (ha : EqsAt w a es) (hl : es.length ≤ 1048576) (hsm : SmallE es) (hT : Tab w) :
    Calls Tryd.prog 14 #[.agg #[.int .i64 L, .int .i64 S, .slice a1 ws.length c1, .slice a2 gs.length c2, .int .i64 C, .int .i64 Z, .slice a es.length cap]] w fun e w' => e = .returned (.int .i64 (winsOf L S ws gs C Z es)) ∧ Below w.heap.size w w' := by
  have HA := hid ha
  have HS := hid hsm
  have HT := hid hT
  have H1 := hid ha1
  have H2 := hid ha2
  clear ha hsm hT ha1 ha2
  have B0 := hid (u_b1 w (.cells #[.int .i64 L, .int .i64 S, .slice a1 ws.length c1, .slice a2 gs.length c2, .int .i64 C, .int .i64 Z, .slice a es.length cap] 37))
  have X0 := hid (laid w #[.int .i64 L, .int .i64 S, .slice a1 ws.length c1, .slice a2 gs.length c2, .int .i64 C, .int .i64 Z, .slice a es.length cap] 37)
  go_enter Tryd.func14, Tryd.ntmps14
  go_wp2_with fail
  refine (known_any L S a1 a2 c1 c2 ws gs C Z a cap es _ (H1.out.below B0.out) (H2.out.below B0.out) hx hy (HA.out.below B0.out) hl HS.out (HT.out.below B0.out)).mono ?_
  rintro e w1 ⟨bb, ⟨hg, ls, b1, d1, b2, d2, rfl, o1, -, -, -, -⟩ | ⟨hg, rfl⟩⟩
  · have HG := hid hg
    have HW := hid (show winsOf L S ws gs C Z es = cntW ws (pfx 0 (es.map EqV.r)) ws.length from if_pos hg)
    have hw3 : ws.length ≤ 3 := hg.1.2.1.2.1
    have X := hid (kept X0.out bb)
    have B := hid (u_cat B0.out bb)
    have O1 := hid o1
    clear hg bb o1 X0 B0
    repeat ((fail_if_success (with_reducible show Code.wp _ (Code.region 4 _ _) _ _ _)); (first | go_values | go_skip | go_guarded | go_step | go_upon | go_back | go_simp))
    obtain ⟨V, hV⟩ : ∃ V, V = w1.alloc (.cells #[.int .i64 L, .int .i64 S, .slice b1 ws.length d1, .slice b2 gs.length d2, .int .i64 C, .int .i64 Z, .pointer (ptrOf ls)] 56) := ⟨_, rfl⟩
    have bv : Below w1.heap.size w1 V := by rw [hV]; exact u_b1 _ _
    have HV := hid (show V.heap[w1.heap.size]? = some (.cells #[.int .i64 L, .int .i64 S, .slice b1 ws.length d1, .slice b2 gs.length d2, .int .i64 C, .int .i64 Z, .pointer (ptrOf ls)] 56 (0, 0)) by rw [hV]; exact laid _ _ _)
    rw [← hV]
    clear hV
    replace X := hid (kept X.out bv)
    replace B := hid (u_cat B.out bv)
    replace O1 := hid (owns_below O1.out bv)
    clear bv
    have q4 := box_cell X.out 4 (v := .int .i64 C) rfl
    have q5 := box_cell X.out 5 (v := .int .i64 Z) rfl
    have q6 := box_cell X.out 6 (v := .slice a es.length cap) rfl
    have K := hid (implSolverPrefix_any a cap es C Z V (HA.out.below B.out) HS.out hl (HT.out.below B.out))
    rw [eqsOf_yes HG.out.2.1] at K
    go_wp2_with fail
    refine K.out.mono ?_
    rintro e w2 ⟨rfl, bb⟩
    replace HV := hid (kept HV.out bb)
    replace B := hid (u_cat B.out bb)
    have I1 := hid (owns_at (owns_below O1.out bb))
    have hp24 : pfx 0 (es.map EqV.r) ≤ 24 := by
      have h1 := pfx_spec (es.map EqV.r) 0
      have h2 := okE_24 HG.out.2.1.2 (by have := HG.out.2.1.1.1; omega) HG.out.2.1.1.1.2
      rw [List.length_map] at h1
      omega
    clear bb q4 q5 q6 K O1 X
    obtain ⟨P, hP⟩ : ∃ P, P = pfx 0 (es.map EqV.r) := ⟨_, rfl⟩
    rw [← hP] at HW hp24 ⊢
    clear hP
    have k2 := box_cell HV.out 2 (v := .slice b1 ws.length d1) rfl
    go_wp2_with fail
    go_loop [5, 23] (fun n i => ∃ k : Nat, k ≤ ws.length ∧ i = .int .i64 k ∧ n = .int .i64 (cntW ws P k)) (fun _ i => ws.length - (intOf i).toNat)
    case atStart => exact ⟨0, Nat.zero_le _, rfl, rfl⟩
    case round =>
      obtain ⟨k, hk, rfl, rfl⟩ := hrel
      have hck := cntW_le ws P k
      by_cases hlt : k < ws.length
      · obtain ⟨b, off, rfl, hc⟩ := I1.out (by intro h; simp [h] at hlt)
        have hc0 := hc k hlt
        have HN := hid (show cntW ws P (k + 1) = cntW ws P k + if ws.getD k 0 ≤ P then 1 else 0 from rfl)
        obtain ⟨x, hx0⟩ : ∃ x, x = ws.getD k 0 := ⟨_, rfl⟩
        obtain ⟨n, hn⟩ : ∃ n, n = cntW ws P k := ⟨_, rfl⟩
        rw [← hx0, ← hn] at HN
        rw [← hx0] at hc0
        rw [← hn] at hck ⊢
        clear hc hx0 hn
        by_cases hxp : x ≤ P
        · rw [if_pos hxp] at HN
          go_wp2_with fail
          go_round
          case rel => exact ⟨k + 1, by omega, by go_num, by rw [HN.out]; go_num⟩
          case measure => simp [intOf]; omega
        · rw [if_neg hxp] at HN
          go_wp2_with fail
          go_round
          case rel => exact ⟨k + 1, by omega, by go_num, by rw [HN.out]; rfl⟩
          case measure => simp [intOf]; omega
      · obtain rfl : k = ws.length := by omega
        go_wp2_with fail
        go_ret
        exact ⟨ret_int HW.out.symm, B.out⟩
  · have HW := hid (show winsOf L S ws gs C Z es = 0 from if_neg hg)
    have B := hid (u_cat B0.out bb)
    clear hg bb X0 B0
    go_wp2_with fail
    go_ret
    exact ⟨ret_int HW.out.symm, u_cat B.out (u_b1 _ _)⟩

set_option maxHeartbeats 4000000 in
theorem implGetOk_any (L S : Int) (a1 a2 : Option Addr) (c1 c2 : Nat) (ws gs : List Int) (C Z : Int) (a : Option Addr) (cap : Nat) (es : List EqV) (w : World) (ha1 : IntsAt w a1 ws) (ha2 : IntsAt w a2 gs) (hx : ws.length ≤ 1048576) (hy : gs.length ≤ 1048576) (ha : EqsAt w a es) (hl : es.length ≤ 1048576) (hsm : SmallE es) (hT : Tab w) :
    Calls Tryd.prog 11 #[.agg #[.int .i64 L, .int .i64 S, .slice a1 ws.length c1, .slice a2 gs.length c2, .int .i64 C, .int .i64 Z, .slice a es.length cap]] w fun e w' => e = .returned (.bool (decide (getP L S ws gs C Z es))) ∧ Below w.heap.size w w' := by
  have HA := hid ha
  have HS := hid hsm
  have HT := hid hT
  have H1 := hid ha1
  have H2 := hid ha2
  clear ha hsm hT ha1 ha2
  have B0 := hid (u_b1 w (.cells #[.int .i64 L, .int .i64 S, .slice a1 ws.length c1, .slice a2 gs.length c2, .int .i64 C, .int .i64 Z, .slice a es.length cap] 37))
  go_enter Tryd.func11, Tryd.ntmps11
  go_wp2_with fail
  refine (known_any L S a1 a2 c1 c2 ws gs C Z a cap es _ (H1.out.below B0.out) (H2.out.below B0.out) hx hy (HA.out.below B0.out) hl HS.out (HT.out.below B0.out)).mono ?_
  rintro e w1 ⟨bb, ⟨hg, ls, b1, d1, b2, d2, rfl, o1, -, -, -, -⟩ | ⟨hg, rfl⟩⟩
  · have HG := hid (decide_eq_true hg)
    have B := hid (u_cat B0.out bb)
    clear hg bb o1 B0
    go_wp2_with fail
    go_ret
    exact ⟨ret_bool HG.out.symm, u_cat B.out (u_b1 _ _)⟩
  · have HG := hid (decide_eq_false hg)
    have B := hid (u_cat B0.out bb)
    clear hg bb B0
    go_wp2_with fail
    go_ret
    exact ⟨ret_bool HG.out.symm, u_cat B.out (u_b1 _ _)⟩

/-- All is known just if all of the first blocks are. -/
theorem done_iff {c z : Int} {es : List EqV} (h : okE c z es) (hc : 1 ≤ c) (hc2 : c ≤ 24) : ((pfx 0 (es.map EqV.r) : Nat) : Int) = c ↔ (es.length : Int) = c := by
  have hle : (es.length : Int) ≤ c := by
    have : ∀ e ∈ es, 0 ≤ hd e.r := fun e he => by
      have h1 := okE_rows hc2 h e.r (List.mem_map_of_mem he)
      have := asc_mem h1.1 (hd_mem h1.2)
      omega
    have := okE_len h this (by omega)
    omega
  have hp := pfx_spec (es.map EqV.r) 0
  rw [List.length_map] at hp
  constructor
  · intro he; omega
  · intro he
    have h' := okE_iff.1 h
    obtain ⟨-, h2⟩ := okE_p.1 h
    -- the i-th first number is i
    have hup : ∀ (d i : Nat) (hi : i < es.length) (hj : i + d < es.length), hd es[i].r + d ≤ hd es[i + d].r := by
      intro d
      induction d with
      | zero => intro i hi hj; simp
      | succ d ih =>
        intro i hi hj
        have h3 := ih i hi (by omega)
        have h4 := ((h' (i + d) (by omega)).2 (i + (d + 1)) hj (by omega)).1
        omega
    have hhd : ∀ (i : Nat) (hi : i < es.length), hd es[i].r = i := by
      intro i hi
      have h3 := hd_ge h i hi
      have h4 := hup (es.length - 1 - i) i hi (by omega)
      have h5 := (h' (es.length - 1) (by omega)).1
      have h6 := asc_mem h5.1 (hd_mem h5.2.2)
      have e : i + (es.length - 1 - i) = es.length - 1 := by omega
      simp only [e] at h4
      omega
    have hrow : ∀ (i : Nat) (hi : i < es.length), es[i].r = [(i : Int)] := by
      intro i hi
      have h3 := (h' i hi).1
      rw [← one_row]
      refine ⟨?_, hhd i hi⟩
      have hall : ∀ x ∈ es[i].r, x = (i : Int) := by
        intro x hx
        have h4 := asc_mem h3.1 hx
        obtain ⟨k, rfl⟩ := Int.eq_ofNat_of_zero_le (show 0 ≤ x by omega)
        have hk : k < es.length := by omega
        by_cases hki : k = i
        · rw [hki]
        · exact absurd (by rw [hhd k hk]; exact hx) (h2 k i hk hi (fun e => hki e.symm))
      match hr : es[i].r, h3.2.2 with
      | [x], _ => rfl
      | x :: y :: r, _ =>
        rw [hr] at hall h3
        have e1 := hall x (by simp)
        have e2 := hall y (by simp)
        obtain ⟨-, h5⟩ := asc_cons.1 h3.1
        obtain ⟨h6, -⟩ := asc_cons.1 h5
        omega
    rw [pfx_all (fun i hi => by rw [List.getElem_map]; exact hrow i (by simpa using hi)), List.length_map]
    exact he

set_option maxHeartbeats 4000000 in
theorem implGetDone_any (L S : Int) (a1 a2 : Option Addr) (c1 c2 : Nat) (ws gs : List Int) (C Z : Int) (a : Option Addr) (cap : Nat) (es : List EqV) (w : World) (ha1 : IntsAt w a1 ws) (ha2 : IntsAt w a2 gs) (hx : ws.length ≤ 1048576) (hy : gs.length ≤ 1048576) (ha : EqsAt w a es) (hl : es.length ≤ 1048576) (hsm : SmallE es) (hT : Tab w) :
    Calls Tryd.prog 18 #[.agg #[.int .i64 L, .int .i64 S, .slice a1 ws.length c1, .slice a2 gs.length c2, .int .i64 C, .int .i64 Z, .slice a es.length cap]] w fun e w' => e = .returned (.bool (decide (getP L S ws gs C Z es ∧ (es.length : Int) = C))) ∧ Below w.heap.size w w' := by
  have HA := hid ha
  have HS := hid hsm
  have HT := hid hT
  have H1 := hid ha1
  have H2 := hid ha2
  clear ha hsm hT ha1 ha2
  have B0 := hid (u_b1 w (.cells #[.int .i64 L, .int .i64 S, .slice a1 ws.length c1, .slice a2 gs.length c2, .int .i64 C, .int .i64 Z, .slice a es.length cap] 37))
  have X0 := hid (laid w #[.int .i64 L, .int .i64 S, .slice a1 ws.length c1, .slice a2 gs.length c2, .int .i64 C, .int .i64 Z, .slice a es.length cap] 37)
  go_enter Tryd.func18, Tryd.ntmps18
  go_wp2_with fail
  refine (known_any L S a1 a2 c1 c2 ws gs C Z a cap es _ (H1.out.below B0.out) (H2.out.below B0.out) hx hy (HA.out.below B0.out) hl HS.out (HT.out.below B0.out)).mono ?_
  rintro e w1 ⟨bb, ⟨hg, ls, b1, d1, b2, d2, rfl, -, -, -, -, -⟩ | ⟨hg, rfl⟩⟩
  · have HG := hid hg
    have X := hid (kept X0.out bb)
    have B := hid (u_cat B0.out bb)
    clear hg bb X0 B0
    repeat ((fail_if_success (with_reducible show Code.wp _ (Code.region 2 _ _) _ _ _)); (first | go_values | go_skip | go_guarded | go_step | go_upon | go_back | go_simp))
    obtain ⟨V, hV⟩ : ∃ V, V = w1.alloc (.cells #[.int .i64 L, .int .i64 S, .slice b1 ws.length d1, .slice b2 gs.length d2, .int .i64 C, .int .i64 Z, .pointer (ptrOf ls)] 56) := ⟨_, rfl⟩
    have bv : Below w1.heap.size w1 V := by rw [hV]; exact u_b1 _ _
    have HV := hid (show V.heap[w1.heap.size]? = some (.cells #[.int .i64 L, .int .i64 S, .slice b1 ws.length d1, .slice b2 gs.length d2, .int .i64 C, .int .i64 Z, .pointer (ptrOf ls)] 56 (0, 0)) by rw [hV]; exact laid _ _ _)
    rw [← hV]
    clear hV
    replace X := hid (kept X.out bv)
    replace B := hid (u_cat B.out bv)
    clear bv
    have q4 := cell_regrown (box_cell X.out 4 (v := .int .i64 C) rfl)
    have q5 := cell_regrown (box_cell X.out 5 (v := .int .i64 Z) rfl)
    have q6 := cell_regrown (box_cell X.out 6 (v := .slice a es.length cap) rfl)
    have k0 := cell_regrown (box_cell HV.out 0 (v := .int .i64 L) rfl)
    have k1 := cell_regrown (box_cell HV.out 1 (v := .int .i64 S) rfl)
    have k2 := cell_regrown (box_cell HV.out 2 (v := .slice b1 ws.length d1) rfl)
    have k3 := cell_regrown (box_cell HV.out 3 (v := .slice b2 gs.length d2) rfl)
    have s1 := HG.out.1.1.1
    have s2 := HG.out.1.1.2.1
    have s3 := HG.out.1.1.2.2.1
    have s4 := HG.out.1.1.2.2.2.1
    have K1 := hid (rg (w := V) (fun w' hb => implSolverPrefix_any a cap es C Z w' ((HA.out.below B.out).below hb) HS.out hl ((HT.out.below B.out).below hb)))
    rw [eqsOf_yes HG.out.2.1] at K1
    have K2 := hid (rg (w := V) (fun w' _ => implCount L S b1 b2 ws.length d1 gs.length d2 w' s1 s2 s3 s4))
    rw [← HG.out.2.2.1] at K2
    have HD := hid (show (((pfx 0 (es.map EqV.r) : Nat) : Int) == C) = decide (getP L S ws gs C Z es ∧ (es.length : Int) = C) by
      rw [Bool.eq_iff_iff, beq_iff_eq, decide_eq_true_eq, done_iff HG.out.2.1.2 (by have := HG.out.2.1.1.1; omega) HG.out.2.1.1.1.2]
      exact ⟨fun h => ⟨HG.out, h⟩, fun h => h.2⟩)
    obtain ⟨P, hP⟩ : ∃ P, P = pfx 0 (es.map EqV.r) := ⟨_, rfl⟩
    rw [← hP] at K1 HD
    clear hP s1 s2 s3 s4
    refine wp_region_quiet_below (by kernel_rfl) (by kernel_rfl) ?_
    repeat (first | go_big_quiet_step (first | (go_at_call 32; with_reducible exact K1.out _ _) | (go_at_call 38; with_reducible exact K2.out _ _)) | quiet_step (first | (go_at_call 32; with_reducible exact K1.out _ _) | (go_at_call 38; with_reducible exact K2.out _ _)))
    refine wpQuiet_nil ?_
    intro V2 hw'
    obtain ⟨⟨dq, osq⟩, hw''⟩ := hw'
    have hbq := below_regrown V dq osq
    rw [← hw''] at hbq
    replace B := hid (u_cat B.out hbq)
    clear hw'' dq osq hbq q4 q5 q6 k0 k1 k2 k3
    go_wp2_with fail
    go_ret
    exact ⟨ret_bool HD.out, B.out⟩
  · have HG := hid (show decide (getP L S ws gs C Z es ∧ (es.length : Int) = C) = false from decide_eq_false (fun h => hg h.1))
    have B := hid (u_cat B0.out (u_cat bb (u_b1 w1 (.cells #[.int .i64 0, .int .i64 0, .slice none 0 0, .slice none 0 0, .int .i64 0, .int .i64 0, .pointer none] 56))))
    clear hg bb X0 B0
    repeat ((fail_if_success (with_reducible show Code.wp _ (Code.region 2 _ _) _ _ _)); (first | go_values | go_skip | go_guarded | go_step | go_upon | go_back | go_simp))
    obtain ⟨V, hV⟩ : ∃ V, V = w1.alloc (.cells #[.int .i64 0, .int .i64 0, .slice none 0 0, .slice none 0 0, .int .i64 0, .int .i64 0, .pointer none] 56) := ⟨_, rfl⟩
    rw [← hV] at B ⊢
    clear hV
    refine wp_region_quiet_below (by kernel_rfl) (by kernel_rfl) ?_
    repeat (first | go_big_quiet_step (fail) | quiet_step (fail))
    refine wpQuiet_nil ?_
    intro V2 hw'
    obtain ⟨⟨dq, osq⟩, hw''⟩ := hw'
    have hbq := below_regrown V dq osq
    rw [← hw''] at hbq
    replace B := hid (u_cat B.out hbq)
    clear hw'' dq osq hbq
    go_wp2_with fail
    go_ret
    exact ⟨ret_bool HG.out.symm, B.out⟩
end Go.Proofs.YtegldmdcdnnegaaDoor
