/- The frame that is to go, by the model. -/
import Derived.Test.YtnfjplmpaeiagaaPtV
namespace Go.Proofs.Ytnfjplmpaeiagaa
open Go.ChangeShapes Go.WideShapes Go.ChangeAt Go.RowKit Go.Sort Go.Shelf
attribute [local go_sem] Oper.semAt_some

theorem look_used {full : Bool} {house : Int} {f : Fr} (hm : mayGo full house f = true) (hu : f.u = true) : look full house f = some (unuse f) := by
  unfold look
  rw [if_pos hm, if_pos hu]

set_option maxHeartbeats 4000000 in
theorem l10Victim_in (base q d m : Nat) (fs : List Fr) (house : Int) (full : Bool) (w : World) (hO : w.ownsRow base 45 5 (.slice (some ⟨q, 0, none⟩) 8 d) 8 (frCells fs)) (ha : FrsAt w (some ⟨q, 0, none⟩) fs) (h8 : fs.length = 8) (hm : m < 8) (hnn : ∀ f ∈ fs, 0 ≤ f.e) (hfull : full = decide (5 ≤ frOf fs house)) :
    Calls Try.prog 47 #[.agg #[.slice (some ⟨q, 0, none⟩) 8 d, .int .i64 m], .int .i64 house] w fun e w' =>
      ∃ (gs : List Fr) (o : Option Nat), scan full house 17 m fs = (gs, o) ∧ e = .returned (.tuple #[.agg #[.slice (some ⟨q, 0, none⟩) 8 d, .int .i64 ((match o with | some v => (v + 1) % 8 | none => (m + 17) % 8 : Nat) : Int)], .int .i64 (match o with | some v => (v : Int) | none => -1)]) ∧ w'.ownsRow base 45 5 (.slice (some ⟨q, 0, none⟩) 8 d) 8 (frCells gs) ∧ Below base w w' := by
  have hq := hO.lt q rfl
  have HA := hid ha
  have HO := hid hO
  have H8 := hid h8
  have HN := hid hnn
  have K := hid (l10Of_any (some ⟨q, 0, none⟩) d fs m house)
  rw [h8] at K
  clear ha hO h8 hnn
  go_enter Try.func47, Try.ntmps47
  go_wp2_with fail
  refine (K.out _ (HA.out.below (u_b2 _ _ _)) (by omega) HN.out).mono ?_
  rintro e w1 ⟨rfl, b1⟩
  obtain ⟨P1, R1, B1⟩ := u_box2 b1
  have HP := hid P1
  have HR := hid R1
  have HB := hid (B1.mono (show base ≤ w.heap.size by omega))
  have HO := hid (owns_below HO.out B1)
  have hs1 := lt_of_block R1
  have hfu : decide (5 ≤ (frOf fs house : Int)) = full := by rw [hfull]; apply Bool.eq_iff_iff.2; simp; omega
  clear b1 P1 R1 B1 hfull
  go_wp2_with fail
  clear hfu
  go_loopw [7] (fun i wr => ∃ (n : Nat) (gs : List Fr), n ≤ 17 ∧ i = .int .i64 n ∧ scan full house 17 m fs = scan full house (17 - n) (m + n) gs ∧ gs.length = 8 ∧ wr.heap[w.heap.size]? = some (.cells #[.slice (some ⟨q, 0, none⟩) 8 d, .int .i64 ((m + n) % 8 : Nat)] 29 (0, 0)) ∧ wr.heap[w.heap.size + 1]? = some (.cells #[.slice none 0 0, .int .i64 0] 29 (0, 0)) ∧ wr.ownsRow base 45 5 (.slice (some ⟨q, 0, none⟩) 8 d) 8 (frCells gs) ∧ Below base w wr) (fun i _ => 17 - (intOf i).toNat)
  case atStart => exact ⟨0, fs, by omega, rfl, rfl, H8.out, by rw [Nat.add_zero, Nat.mod_eq_of_lt hm]; exact HP.out, HR.out, HO.out, HB.out⟩
  case round =>
    clear HP HR HO HB
    obtain ⟨n, gs, hn, rfl, hsc, hg8, X, R, O, B⟩ := hrel
    obtain ⟨k, hk⟩ : ∃ k, k = (m + n) % 8 := ⟨_, rfl⟩
    rw [← hk] at X
    have hk8 : k < 8 := by omega
    have q0 := box_cell X 0 (v := .slice (some ⟨q, 0, none⟩) 8 d) rfl
    have q1 := box_cell X 1 (v := .int .i64 k) rfl
    have zx := box_frozen X
    have HX := hid X
    have HR := hid R
    have HO := hid O
    have HB := hid B
    have HS := hid hsc
    have HK := hid hk
    have hs1 := lt_of_block R
    have n1 : ¬ w.heap.size = wr.heap.size := by omega
    have n2 : ¬ wr.heap.size = w.heap.size := by omega
    have n3 : ¬ w.heap.size + 1 = wr.heap.size := by omega
    have n4 : ¬ q = wr.heap.size := by omega
    have n5 : ¬ q = w.heap.size := by omega
    have n7 : ¬ w.heap.size = q := by omega
    by_cases hlt : n < 17
    · obtain ⟨f, hf, c0, c1, c2, c3, c4⟩ := frs_cells O k hk8
      have hfz := O.frozenAt
      have HF := hid (show gs[(m + n) % 8]? = some f by rw [← hk]; exact hf)
      have bf := u_b1 wr (.cells #[.int .i64 f.h, .int .i64 f.e, .int .i64 f.b, .int .i64 f.d, .bool f.u] 45)
      have y1 := box_cell (kept X bf) 1 (v := .int .i64 k) rfl
      have zy := box_frozen (kept X bf)
      have y4 := ((u_cell bf).1 q (k * 5 + 4) (by omega)).trans c4
      have zq := (owns_below O bf).frozenAt
      have BF := hid bf
      clear X R O B hf hsc hk bf
      have V1 := hid (show ((wr.alloc (.cells #[.int .i64 f.h, .int .i64 f.e, .int .i64 f.b, .int .i64 f.d, .bool f.u] 45)).setCell ⟨w.heap.size, 1, none⟩ (.int .i64 (((k : Int) + 1) % 8))).heap[w.heap.size]? = some (.cells #[.slice (some ⟨q, 0, none⟩) 8 d, .int .i64 (((k : Int) + 1) % 8)] 29 (0, 0)) from set_block (kept HX.out BF.out) 1 (.int .i64 (((k : Int) + 1) % 8)))
      have EK := hid (show ((k : Int) + 1) % 8 = (((m + (n + 1)) % 8 : Nat) : Int) by have := HK.out; omega)
      have V2 := hid (show ((wr.alloc (.cells #[.int .i64 f.h, .int .i64 f.e, .int .i64 f.b, .int .i64 f.d, .bool f.u] 45)).setCell ⟨w.heap.size, 1, none⟩ (.int .i64 (((k : Int) + 1) % 8))).heap[w.heap.size + 1]? = _ from set_other (kept HR.out BF.out) (by omega) _ _)
      have V3 := hid (show ((wr.alloc (.cells #[.int .i64 f.h, .int .i64 f.e, .int .i64 f.b, .int .i64 f.d, .bool f.u] 45)).setCell ⟨w.heap.size, 1, none⟩ (.int .i64 (((k : Int) + 1) % 8))).ownsRow base 45 5 (.slice (some ⟨q, 0, none⟩) 8 d) 8 (frCells gs) from u_owns (owns_below HO.out BF.out) (fun k hk => by cases hk; exact set_other rfl n5 _ _))
      have V4 := hid (show Below base w ((wr.alloc (.cells #[.int .i64 f.h, .int .i64 f.e, .int .i64 f.b, .int .i64 f.d, .bool f.u] 45)).setCell ⟨w.heap.size, 1, none⟩ (.int .i64 (((k : Int) + 1) % 8))) from u_set (HB.out.trans (BF.out.mono (by omega))) (by omega) _ _)
      have NS := hid (show look full house f = some f → scan full house 17 m fs = scan full house (17 - (n + 1)) (m + (n + 1)) gs by intro hl; rw [HS.out, scan_goes hlt HF.out hl, set_same HF.out])
      by_cases ho : overF full house f = true
      · have hful : full = true := by unfold overF at ho; simp at ho; exact ho.1
        have MG := hid (show mayGo full house f = false by unfold mayGo; rw [ho]; rfl)
        have hw0 : f.e = 0 ∨ ¬ f.h = house := by unfold overF at ho; rw [hful] at ho; simpa using ho
        subst hful
        clear ho
        by_cases he : f.e = 0
        · have he1 : (f.e == 0) = true := by simpa using he
          clear he hw0
          go_wp2
          go_roundw
          case rel => exact ⟨n + 1, gs, by omega, by go_num, NS.out (look_over MG.out), hg8, EK.out ▸ V1.out, V2.out, V3.out, V4.out⟩
          case measure => simp [intOf]; omega
        · have he1 : (f.e == 0) = false := by simpa using he
          have hqh : (f.h == house) = false := by rcases hw0 with h | h; exact absurd h he; simpa using h
          have hq2 : (f.h != house) = true := by simp [bne, hqh]
          clear he hw0
          go_wp2
          go_roundw
          case rel => exact ⟨n + 1, gs, by omega, by go_num, NS.out (look_over MG.out), hg8, EK.out ▸ V1.out, V2.out, V3.out, V4.out⟩
          case measure => simp [intOf]; omega
      · have HOV := hid ho
        cases full
        · clear ho
          by_cases hd : 0 < f.d
          · have MG := hid (show mayGo false house f = false by unfold mayGo; rw [decide_eq_false (by omega)]; simp)
            have hdd : decide (0 < f.d) = true := decide_eq_true hd
            clear hd
            go_wp2
            go_roundw
            case rel => exact ⟨n + 1, gs, by omega, by go_num, NS.out (look_over MG.out), hg8, EK.out ▸ V1.out, V2.out, V3.out, V4.out⟩
            case measure => simp [intOf]; omega
          · have MG := hid (show mayGo false house f = true by unfold mayGo; rw [Bool.eq_false_iff.2 HOV.out, decide_eq_true (show f.d ≤ 0 by omega)]; rfl)
            have hdd : decide (0 < f.d) = false := decide_eq_false hd
            clear hd
            obtain ⟨u, hu⟩ : ∃ u, f.u = u := ⟨_, rfl⟩
            have HU := hid hu
            rw [hu] at c4 y1 zy y4 zq V1 V2 V3 V4
            clear hu
            cases u
            · have p0 := box_cell V1.out 0 (v := .slice (some ⟨q, 0, none⟩) 8 d) rfl
              have p1 := box_cell V1.out 1 (v := .int .i64 (((k : Int) + 1) % 8)) rfl
              have r0 := box_cell V2.out 0 (v := .slice none 0 0) rfl
              have r1 := box_cell V2.out 1 (v := .int .i64 0) rfl
              have zr := box_frozen V2.out
              have X5 := hid (set_block (set_block V2.out 0 (.slice (some ⟨q, 0, none⟩) 8 d)) 1 (.int .i64 (((k : Int) + 1) % 8)))
              have x0 := box_cell X5.out 0 (v := .slice (some ⟨q, 0, none⟩) 8 d) rfl
              have x1 := box_cell X5.out 1 (v := .int .i64 (((k : Int) + 1) % 8)) rfl
              have n6 : ¬ q = w.heap.size + 1 := by omega
              go_wp2
              refine bodyPost_ret (v := .tuple #[.agg #[.slice (some ⟨q, 0, none⟩) 8 d, .int .i64 (((k : Int) + 1) % 8)], .int .i64 k]) ?_ rfl ⟨gs, some k, by rw [HS.out, scan_stop hlt HF.out (look_free MG.out HU.out), ← HK.out], ?_, ?_, u_set (u_set V4.out (by omega) _ _) (by omega) _ _⟩
              · obtain ⟨V, hV⟩ : ∃ V, V = ((wr.alloc (.cells #[.int .i64 f.h, .int .i64 f.e, .int .i64 f.b, .int .i64 f.d, .bool false] 45)).setCell ⟨w.heap.size, 1, none⟩ (.int .i64 (((k : Int) + 1) % 8))) := ⟨_, rfl⟩
                rw [← hV] at x0 x1 ⊢
                clear hV
                simp [results, Try.results47, go_sem, x0, x1]
              · simp only []
                rw [show (((k + 1) % 8 : Nat) : Int) = ((k : Int) + 1) % 8 by omega]
              · exact u_owns V3.out (fun k hk => by cases hk; exact set_other (set_other rfl n6 _ _) n6 _ _)
            · have yv := ((u_cell (u_set (Below.refl q.succ (wr.alloc (.cells #[.int .i64 f.h, .int .i64 f.e, .int .i64 f.b, .int .i64 f.d, .bool true] 45))) (show q.succ ≤ w.heap.size by omega) 1 (.int .i64 (((k : Int) + 1) % 8)))).1 q (k * 5 + 4) (by omega)).trans y4
              have zv := V3.out.frozenAt
              have p0 := box_cell V1.out 0 (v := .slice (some ⟨q, 0, none⟩) 8 d) rfl
              go_wp2
              go_roundw
              case rel =>
                refine ⟨n + 1, gs.set k (unuse f), by omega, by go_num, by rw [HS.out, scan_goes hlt HF.out (look_used MG.out HU.out), ← HK.out], by rw [List.length_set]; exact hg8, EK.out ▸ set_other V1.out (by omega) _ _, set_other V2.out (by omega) _ _, ?_, u_set V4.out hq.1 _ _⟩
                have h := (World.ownsRow.stored V3.out (k * 5 + 4) (.bool false)).1
                rw [frCells_set4 gs k f (by rw [HK.out]; exact HF.out)] at h
                exact h
              case measure => simp [intOf]; omega
        · have hw0 : ¬ f.e = 0 ∧ f.h = house := by unfold overF at ho; simpa using ho
          have he1 : (f.e == 0) = false := by simpa using hw0.1
          have hqh : (f.h == house) = true := by simpa using hw0.2
          have hq2 : (f.h != house) = false := by simp [bne, hqh]
          clear hw0 ho
          by_cases hd : 0 < f.d
          · have MG := hid (show mayGo true house f = false by unfold mayGo; rw [decide_eq_false (by omega)]; simp)
            have hdd : decide (0 < f.d) = true := decide_eq_true hd
            clear hd
            go_wp2
            go_roundw
            case rel => exact ⟨n + 1, gs, by omega, by go_num, NS.out (look_over MG.out), hg8, EK.out ▸ V1.out, V2.out, V3.out, V4.out⟩
            case measure => simp [intOf]; omega
          · have MG := hid (show mayGo true house f = true by unfold mayGo; rw [Bool.eq_false_iff.2 HOV.out, decide_eq_true (show f.d ≤ 0 by omega)]; rfl)
            have hdd : decide (0 < f.d) = false := decide_eq_false hd
            clear hd
            obtain ⟨u, hu⟩ : ∃ u, f.u = u := ⟨_, rfl⟩
            have HU := hid hu
            rw [hu] at c4 y1 zy y4 zq V1 V2 V3 V4
            clear hu
            cases u
            · have p0 := box_cell V1.out 0 (v := .slice (some ⟨q, 0, none⟩) 8 d) rfl
              have p1 := box_cell V1.out 1 (v := .int .i64 (((k : Int) + 1) % 8)) rfl
              have r0 := box_cell V2.out 0 (v := .slice none 0 0) rfl
              have r1 := box_cell V2.out 1 (v := .int .i64 0) rfl
              have zr := box_frozen V2.out
              have X5 := hid (set_block (set_block V2.out 0 (.slice (some ⟨q, 0, none⟩) 8 d)) 1 (.int .i64 (((k : Int) + 1) % 8)))
              have x0 := box_cell X5.out 0 (v := .slice (some ⟨q, 0, none⟩) 8 d) rfl
              have x1 := box_cell X5.out 1 (v := .int .i64 (((k : Int) + 1) % 8)) rfl
              have n6 : ¬ q = w.heap.size + 1 := by omega
              go_wp2
              refine bodyPost_ret (v := .tuple #[.agg #[.slice (some ⟨q, 0, none⟩) 8 d, .int .i64 (((k : Int) + 1) % 8)], .int .i64 k]) ?_ rfl ⟨gs, some k, by rw [HS.out, scan_stop hlt HF.out (look_free MG.out HU.out), ← HK.out], ?_, ?_, u_set (u_set V4.out (by omega) _ _) (by omega) _ _⟩
              · obtain ⟨V, hV⟩ : ∃ V, V = ((wr.alloc (.cells #[.int .i64 f.h, .int .i64 f.e, .int .i64 f.b, .int .i64 f.d, .bool false] 45)).setCell ⟨w.heap.size, 1, none⟩ (.int .i64 (((k : Int) + 1) % 8))) := ⟨_, rfl⟩
                rw [← hV] at x0 x1 ⊢
                clear hV
                simp [results, Try.results47, go_sem, x0, x1]
              · simp only []
                rw [show (((k + 1) % 8 : Nat) : Int) = ((k : Int) + 1) % 8 by omega]
              · exact u_owns V3.out (fun k hk => by cases hk; exact set_other (set_other rfl n6 _ _) n6 _ _)
            · have yv := ((u_cell (u_set (Below.refl q.succ (wr.alloc (.cells #[.int .i64 f.h, .int .i64 f.e, .int .i64 f.b, .int .i64 f.d, .bool true] 45))) (show q.succ ≤ w.heap.size by omega) 1 (.int .i64 (((k : Int) + 1) % 8)))).1 q (k * 5 + 4) (by omega)).trans y4
              have zv := V3.out.frozenAt
              have p0 := box_cell V1.out 0 (v := .slice (some ⟨q, 0, none⟩) 8 d) rfl
              go_wp2
              go_roundw
              case rel =>
                refine ⟨n + 1, gs.set k (unuse f), by omega, by go_num, by rw [HS.out, scan_goes hlt HF.out (look_used MG.out HU.out), ← HK.out], by rw [List.length_set]; exact hg8, EK.out ▸ set_other V1.out (by omega) _ _, set_other V2.out (by omega) _ _, ?_, u_set V4.out hq.1 _ _⟩
                have h := (World.ownsRow.stored V3.out (k * 5 + 4) (.bool false)).1
                rw [frCells_set4 gs k f (by rw [HK.out]; exact HF.out)] at h
                exact h
              case measure => simp [intOf]; omega
    · obtain rfl : n = 17 := by omega
      have r0 := box_cell R 0 (v := .slice none 0 0) rfl
      have r1 := box_cell R 1 (v := .int .i64 0) rfl
      have zr := box_frozen R
      have X5 := hid (set_block (set_block R 0 (.slice (some ⟨q, 0, none⟩) 8 d)) 1 (.int .i64 k))
      have x0 := box_cell X5.out 0 (v := .slice (some ⟨q, 0, none⟩) 8 d) rfl
      have x1 := box_cell X5.out 1 (v := .int .i64 k) rfl
      have n6 : ¬ q = w.heap.size + 1 := by omega
      clear X R O B hsc hk
      go_wp2
      refine bodyPost_ret (v := .tuple #[.agg #[.slice (some ⟨q, 0, none⟩) 8 d, .int .i64 k], .int .i64 (-1)]) ?_ rfl ⟨gs, none, by rw [HS.out]; rfl, ?_, ?_, u_set (u_set HB.out (by omega) _ _) (by omega) _ _⟩
      · simp [results, Try.results47, go_sem, x0, x1]
      · simp only [HK.out]
      · exact u_owns HO.out (fun k hk => by cases hk; exact set_other (set_other rfl n6 _ _) n6 _ _)
end Go.Proofs.Ytnfjplmpaeiagaa
