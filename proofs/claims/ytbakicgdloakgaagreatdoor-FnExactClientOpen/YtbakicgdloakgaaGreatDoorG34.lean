/- A client that asks for a thing, by the model and by the program. -/
import Derived.Test.YtbakicgdloakgaaGreatDoorG33
namespace Go.Proofs.YtbakicgdloakgaaGreatDoor
open Go.ChangeShapes Go.WideShapes Go.ChangeAt Go.RowKit Go.Sort Go.Shelf
attribute [local go_sem] Oper.semAt_some

theorem name_le {a : ByteArray} (h : nameB a = true) : a.size ≤ 6 := by
  unfold nameB at h
  simp only [Bool.and_eq_true, decide_eq_true_eq] at h
  omega

set_option maxHeartbeats 8000000 in
set_option maxRecDepth 100000 in
theorem specOpen_no (i t s ed : Int) (nm : ByteArray) (L S : Int) (a1 a2 : Option Addr) (c1 c2 : Nat) (ws gs : List Int) (C Z : Int) (a : Option Addr) (cap : Nat) (es : List EqV) (w : World) (name : ByteArray) (hA : GAt w a1 a2 a ws gs es) (hx : ws.length ≤ 1048576) (hy : gs.length ≤ 1048576) (hl : es.length ≤ 1048576) (hsm : SmallE es) (hnm : nm.size ≤ maxLen) (_hnl : name.size ≤ 1048576) (_hcap : ∀ e ∈ es, e.a = none → e.c = 0) (hp : ¬ (cliP i t s ed nm (nonP L S ws.length gs.length C Z es.length) (getP L S ws gs C Z es) (getP L S ws gs C Z es ∧ (es.length : Int) = C))) :
    Calls Tryz.prog 8 #[.agg #[.int .i64 i, .int .i64 t, .int .i64 s, .string nm, .int .i64 ed, .int .i64 L, .int .i64 S, .slice a1 ws.length c1, .slice a2 gs.length c2, .int .i64 C, .int .i64 Z, .slice a es.length cap], .string name] w fun e w' => CliO w' w.heap.size 0 0 0 0 ⟨#[]⟩ 0 0 0 0 [] [] [] none false e ∧ Below w.heap.size w w' := by
  have HP := hid (decide_eq_false hp)
  clear _hcap
  have HA := hid hA
  have HS := hid hsm
  clear hA hsm
  obtain ⟨W0, hW0⟩ : ∃ W0, W0 = (w.alloc (.cells #[.int .i64 i, .int .i64 t, .int .i64 s, .string nm, .int .i64 ed, .int .i64 L, .int .i64 S, .slice a1 ws.length c1, .slice a2 gs.length c2, .int .i64 C, .int .i64 Z, .slice a es.length cap] 40)).alloc (.cells #[.int .i64 0, .int .i64 0, .int .i64 0, .string ⟨#[]⟩, .int .i64 0, .int .i64 0, .int .i64 0, .slice none 0 0, .slice none 0 0, .int .i64 0, .int .i64 0, .slice none 0 0] 40) := ⟨_, rfl⟩
  obtain ⟨X0, X1, B0⟩ := u_box2 (w := w) (c := #[.int .i64 i, .int .i64 t, .int .i64 s, .string nm, .int .i64 ed, .int .i64 L, .int .i64 S, .slice a1 ws.length c1, .slice a2 gs.length c2, .int .i64 C, .int .i64 Z, .slice a es.length cap]) (t := 40) (d := #[.int .i64 0, .int .i64 0, .int .i64 0, .string ⟨#[]⟩, .int .i64 0, .int .i64 0, .int .i64 0, .slice none 0 0, .slice none 0 0, .int .i64 0, .int .i64 0, .slice none 0 0]) (s := 40) (w1 := W0) (by rw [hW0]; exact Below.refl _ _)
  have hs0 : w.heap.size + 2 ≤ W0.heap.size := by rw [hW0]; simp
  have X := hid X0
  have RR := hid X1
  have B := hid B0
  clear X0 X1 B0
  go_enter Tryz.func8, Tryz.ntmps8
  repeat ((fail_if_success (with_reducible show Code.wp _ (Code.region 1 _ _) _ _ _)); (first | go_values | go_skip | go_guarded | go_step | go_upon | go_back | go_simp))
  rw [← hW0]
  clear hW0
  have y0 := (box_cell X.out 0 (v := .int .i64 i) rfl)
  have y1 := (box_cell X.out 1 (v := .int .i64 t) rfl)
  have y2 := (box_cell X.out 2 (v := .int .i64 s) rfl)
  have y3 := (box_cell X.out 3 (v := .string nm) rfl)
  have y4 := (box_cell X.out 4 (v := .int .i64 ed) rfl)
  have y5 := (box_cell X.out 5 (v := .int .i64 L) rfl)
  have y6 := (box_cell X.out 6 (v := .int .i64 S) rfl)
  have y7 := (box_cell X.out 7 (v := .slice a1 ws.length c1) rfl)
  have y8 := (box_cell X.out 8 (v := .slice a2 gs.length c2) rfl)
  have y9 := (box_cell X.out 9 (v := .int .i64 C) rfl)
  have y10 := (box_cell X.out 10 (v := .int .i64 Z) rfl)
  have y11 := (box_cell X.out 11 (v := .slice a es.length cap) rfl)
  go_wp2_with fail
  refine (specCli_any i t s ed nm L S a1 a2 c1 c2 ws gs C Z a cap es _ (HA.out.below B.out).i1 (HA.out.below B.out).i2 hx hy (HA.out.below B.out).eq hl HS.out hnm).mono ?_
  rintro e w1 ⟨rfl, b1⟩
  rw [HP.out]
  have X := hid (kept X.out b1)
  have RR := hid (kept RR.out b1)
  have B := hid (u_cat B.out b1)
  have hs1 := b1.size
  clear b1 y0 y1 y2 y3 y4 y5 y6 y7 y8 y9 y10 y11
  have r0 := (box_cell RR.out 0 (v := .int .i64 0) rfl)
  have r1 := (box_cell RR.out 1 (v := .int .i64 0) rfl)
  have r2 := (box_cell RR.out 2 (v := .int .i64 0) rfl)
  have r3 := (box_cell RR.out 3 (v := .string ⟨#[]⟩) rfl)
  have r4 := (box_cell RR.out 4 (v := .int .i64 0) rfl)
  have r5 := (box_cell RR.out 5 (v := .int .i64 0) rfl)
  have r6 := (box_cell RR.out 6 (v := .int .i64 0) rfl)
  have r7 := (box_cell RR.out 7 (v := .slice none 0 0) rfl)
  have r8 := (box_cell RR.out 8 (v := .slice none 0 0) rfl)
  have r9 := (box_cell RR.out 9 (v := .int .i64 0) rfl)
  have r10 := (box_cell RR.out 10 (v := .int .i64 0) rfl)
  have r11 := (box_cell RR.out 11 (v := .slice none 0 0) rfl)
  have zf := box_frozen RR.out
  have lr := lt_of_block RR.out
  go_wp2_with fail
  clear r0 r1 r2 r3 r4 r5 r6 r7 r8 r9 r10 r11 zf
  obtain ⟨V5, hV5⟩ : ∃ V5, V5 = ((((((((((((w1.setCell ⟨w.heap.size + 1, 0, none⟩ (.int .i64 0)).setCell ⟨w.heap.size + 1, 1, none⟩ (.int .i64 0)).setCell ⟨w.heap.size + 1, 2, none⟩ (.int .i64 0)).setCell ⟨w.heap.size + 1, 3, none⟩ (.string ⟨#[]⟩)).setCell ⟨w.heap.size + 1, 4, none⟩ (.int .i64 0)).setCell ⟨w.heap.size + 1, 5, none⟩ (.int .i64 0)).setCell ⟨w.heap.size + 1, 6, none⟩ (.int .i64 0)).setCell ⟨w.heap.size + 1, 7, none⟩ (.slice none 0 0)).setCell ⟨w.heap.size + 1, 8, none⟩ (.slice none 0 0)).setCell ⟨w.heap.size + 1, 9, none⟩ (.int .i64 0)).setCell ⟨w.heap.size + 1, 10, none⟩ (.int .i64 0)).setCell ⟨w.heap.size + 1, 11, none⟩ (.slice none 0 0)) := ⟨_, rfl⟩
  have hq : V5 = setsC w1 (w.heap.size + 1) [.int .i64 0, .int .i64 0, .int .i64 0, .string ⟨#[]⟩, .int .i64 0, .int .i64 0, .int .i64 0, .slice none 0 0, .slice none 0 0, .int .i64 0, .int .i64 0, .slice none 0 0] 0 := hV5
  have R5 := (show V5.heap[w.heap.size + 1]? = some (.cells #[.int .i64 0, .int .i64 0, .int .i64 0, .string ⟨#[]⟩, .int .i64 0, .int .i64 0, .int .i64 0, .slice none 0 0, .slice none 0 0, .int .i64 0, .int .i64 0, .slice none 0 0] 40 (0, 0)) by rw [hq, sets_block [.int .i64 0, .int .i64 0, .int .i64 0, .string ⟨#[]⟩, .int .i64 0, .int .i64 0, .int .i64 0, .slice none 0 0, .slice none 0 0, .int .i64 0, .int .i64 0, .slice none 0 0] 0 w1 _ RR.out]; simp [setsA])
  have B5 : Below w.heap.size w V5 := by rw [hq]; exact sets_below (by omega) _ _ _ B.out
  have hz5 : w1.heap.size ≤ V5.heap.size := by rw [hq]; exact sets_size _ _ _ _
  rw [← hV5]
  clear hV5 hq
  obtain ⟨V6, hV6⟩ : ∃ V6, V6 = V5.alloc (.cells #[] 64) := ⟨_, rfl⟩
  have bb : Below V5.heap.size V5 V6 := by rw [hV6]; exact u_b1 _ _
  have hz6 : V5.heap.size < V6.heap.size := by rw [hV6]; simp
  have R5 := kept R5 bb
  have B5 := u_cat B5 bb
  rw [← hV6]
  have hzz : w.heap.size ≤ w1.heap.size := by omega
  have y0 := box_cell R5 0 (v := .int .i64 0) rfl
  have y1 := box_cell R5 1 (v := .int .i64 0) rfl
  have y2 := box_cell R5 2 (v := .int .i64 0) rfl
  have y3 := box_cell R5 3 (v := .string ⟨#[]⟩) rfl
  have y4 := box_cell R5 4 (v := .int .i64 0) rfl
  have y5 := box_cell R5 5 (v := .int .i64 0) rfl
  have y6 := box_cell R5 6 (v := .int .i64 0) rfl
  have y7 := box_cell R5 7 (v := .slice none 0 0) rfl
  have y8 := box_cell R5 8 (v := .slice none 0 0) rfl
  have y9 := box_cell R5 9 (v := .int .i64 0) rfl
  have y10 := box_cell R5 10 (v := .int .i64 0) rfl
  have y11 := box_cell R5 11 (v := .slice none 0 0) rfl
  refine bodyPost_ret (v := .tuple #[.agg #[.int .i64 0, .int .i64 0, .int .i64 0, .string ⟨#[]⟩, .int .i64 0, .int .i64 0, .int .i64 0, .slice none 0 0, .slice none 0 0, .int .i64 0, .int .i64 0, .slice none 0 0], .slice (some ⟨w1.heap.size, 0, none⟩) 0 0]) ?_ rfl ⟨cliO_nil B5 (.none _ _ (fun g hg => by cases hg; exact ⟨hzz, Nat.lt_of_le_of_lt hz5 hz6⟩)), B5⟩
  unfold results; rw [Tryz.results8]; simp [go_sem, y0, y1, y2, y3, y4, y5, y6, y7, y8, y9, y10, y11]
set_option maxHeartbeats 8000000 in
set_option maxRecDepth 100000 in
theorem implOpen_no (i t s ed : Int) (nm : ByteArray) (L S : Int) (a1 a2 : Option Addr) (c1 c2 : Nat) (ws gs : List Int) (C Z : Int) (a : Option Addr) (cap : Nat) (es : List EqV) (w : World) (name : ByteArray) (hA : GAt w a1 a2 a ws gs es) (hx : ws.length ≤ 1048576) (hy : gs.length ≤ 1048576) (hl : es.length ≤ 1048576) (hsm : SmallE es) (hnm : nm.size ≤ maxLen) (_hnl : name.size ≤ 1048576) (hT : Tab w) (hp : ¬ (cliP i t s ed nm (nonP L S ws.length gs.length C Z es.length) (getP L S ws gs C Z es) (getP L S ws gs C Z es ∧ (es.length : Int) = C))) :
    Calls Tryz.prog 10 #[.agg #[.int .i64 i, .int .i64 t, .int .i64 s, .string nm, .int .i64 ed, .int .i64 L, .int .i64 S, .slice a1 ws.length c1, .slice a2 gs.length c2, .int .i64 C, .int .i64 Z, .slice a es.length cap], .string name] w fun e w' => CliO w' w.heap.size 0 0 0 0 ⟨#[]⟩ 0 0 0 0 [] [] [] none true e ∧ Below w.heap.size w w' := by
  have HP := hid (decide_eq_false hp)
  have HA := hid hA
  have HS := hid hsm
  have HT := hid hT
  clear hA hsm hT
  obtain ⟨W0, hW0⟩ : ∃ W0, W0 = (w.alloc (.cells #[.int .i64 i, .int .i64 t, .int .i64 s, .string nm, .int .i64 ed, .int .i64 L, .int .i64 S, .slice a1 ws.length c1, .slice a2 gs.length c2, .int .i64 C, .int .i64 Z, .slice a es.length cap] 40)).alloc (.cells #[.int .i64 0, .int .i64 0, .int .i64 0, .string ⟨#[]⟩, .int .i64 0, .int .i64 0, .int .i64 0, .slice none 0 0, .slice none 0 0, .int .i64 0, .int .i64 0, .slice none 0 0] 40) := ⟨_, rfl⟩
  obtain ⟨X0, X1, B0⟩ := u_box2 (w := w) (c := #[.int .i64 i, .int .i64 t, .int .i64 s, .string nm, .int .i64 ed, .int .i64 L, .int .i64 S, .slice a1 ws.length c1, .slice a2 gs.length c2, .int .i64 C, .int .i64 Z, .slice a es.length cap]) (t := 40) (d := #[.int .i64 0, .int .i64 0, .int .i64 0, .string ⟨#[]⟩, .int .i64 0, .int .i64 0, .int .i64 0, .slice none 0 0, .slice none 0 0, .int .i64 0, .int .i64 0, .slice none 0 0]) (s := 40) (w1 := W0) (by rw [hW0]; exact Below.refl _ _)
  have hs0 : w.heap.size + 2 ≤ W0.heap.size := by rw [hW0]; simp
  have X := hid X0
  have RR := hid X1
  have B := hid B0
  clear X0 X1 B0
  go_enter Tryz.func10, Tryz.ntmps10
  repeat ((fail_if_success (with_reducible show Code.wp _ (Code.region 1 _ _) _ _ _)); (first | go_values | go_skip | go_guarded | go_step | go_upon | go_back | go_simp))
  rw [← hW0]
  clear hW0
  have y0 := (box_cell X.out 0 (v := .int .i64 i) rfl)
  have y1 := (box_cell X.out 1 (v := .int .i64 t) rfl)
  have y2 := (box_cell X.out 2 (v := .int .i64 s) rfl)
  have y3 := (box_cell X.out 3 (v := .string nm) rfl)
  have y4 := (box_cell X.out 4 (v := .int .i64 ed) rfl)
  have y5 := (box_cell X.out 5 (v := .int .i64 L) rfl)
  have y6 := (box_cell X.out 6 (v := .int .i64 S) rfl)
  have y7 := (box_cell X.out 7 (v := .slice a1 ws.length c1) rfl)
  have y8 := (box_cell X.out 8 (v := .slice a2 gs.length c2) rfl)
  have y9 := (box_cell X.out 9 (v := .int .i64 C) rfl)
  have y10 := (box_cell X.out 10 (v := .int .i64 Z) rfl)
  have y11 := (box_cell X.out 11 (v := .slice a es.length cap) rfl)
  go_wp2_with fail
  refine (implCli_any i t s ed nm L S a1 a2 c1 c2 ws gs C Z a cap es _ (HA.out.below B.out).i1 (HA.out.below B.out).i2 hx hy (HA.out.below B.out).eq hl HS.out hnm (HT.out.below B.out)).mono ?_
  rintro e w1 ⟨rfl, b1⟩
  rw [HP.out]
  have X := hid (kept X.out b1)
  have RR := hid (kept RR.out b1)
  have B := hid (u_cat B.out b1)
  have hs1 := b1.size
  clear b1 y0 y1 y2 y3 y4 y5 y6 y7 y8 y9 y10 y11
  have r0 := (box_cell RR.out 0 (v := .int .i64 0) rfl)
  have r1 := (box_cell RR.out 1 (v := .int .i64 0) rfl)
  have r2 := (box_cell RR.out 2 (v := .int .i64 0) rfl)
  have r3 := (box_cell RR.out 3 (v := .string ⟨#[]⟩) rfl)
  have r4 := (box_cell RR.out 4 (v := .int .i64 0) rfl)
  have r5 := (box_cell RR.out 5 (v := .int .i64 0) rfl)
  have r6 := (box_cell RR.out 6 (v := .int .i64 0) rfl)
  have r7 := (box_cell RR.out 7 (v := .slice none 0 0) rfl)
  have r8 := (box_cell RR.out 8 (v := .slice none 0 0) rfl)
  have r9 := (box_cell RR.out 9 (v := .int .i64 0) rfl)
  have r10 := (box_cell RR.out 10 (v := .int .i64 0) rfl)
  have r11 := (box_cell RR.out 11 (v := .slice none 0 0) rfl)
  have zf := box_frozen RR.out
  have lr := lt_of_block RR.out
  go_wp2_with fail
  clear r0 r1 r2 r3 r4 r5 r6 r7 r8 r9 r10 r11 zf
  obtain ⟨V5, hV5⟩ : ∃ V5, V5 = ((((((((((((w1.setCell ⟨w.heap.size + 1, 0, none⟩ (.int .i64 0)).setCell ⟨w.heap.size + 1, 1, none⟩ (.int .i64 0)).setCell ⟨w.heap.size + 1, 2, none⟩ (.int .i64 0)).setCell ⟨w.heap.size + 1, 3, none⟩ (.string ⟨#[]⟩)).setCell ⟨w.heap.size + 1, 4, none⟩ (.int .i64 0)).setCell ⟨w.heap.size + 1, 5, none⟩ (.int .i64 0)).setCell ⟨w.heap.size + 1, 6, none⟩ (.int .i64 0)).setCell ⟨w.heap.size + 1, 7, none⟩ (.slice none 0 0)).setCell ⟨w.heap.size + 1, 8, none⟩ (.slice none 0 0)).setCell ⟨w.heap.size + 1, 9, none⟩ (.int .i64 0)).setCell ⟨w.heap.size + 1, 10, none⟩ (.int .i64 0)).setCell ⟨w.heap.size + 1, 11, none⟩ (.slice none 0 0)) := ⟨_, rfl⟩
  have hq : V5 = setsC w1 (w.heap.size + 1) [.int .i64 0, .int .i64 0, .int .i64 0, .string ⟨#[]⟩, .int .i64 0, .int .i64 0, .int .i64 0, .slice none 0 0, .slice none 0 0, .int .i64 0, .int .i64 0, .slice none 0 0] 0 := hV5
  have R5 := (show V5.heap[w.heap.size + 1]? = some (.cells #[.int .i64 0, .int .i64 0, .int .i64 0, .string ⟨#[]⟩, .int .i64 0, .int .i64 0, .int .i64 0, .slice none 0 0, .slice none 0 0, .int .i64 0, .int .i64 0, .slice none 0 0] 40 (0, 0)) by rw [hq, sets_block [.int .i64 0, .int .i64 0, .int .i64 0, .string ⟨#[]⟩, .int .i64 0, .int .i64 0, .int .i64 0, .slice none 0 0, .slice none 0 0, .int .i64 0, .int .i64 0, .slice none 0 0] 0 w1 _ RR.out]; simp [setsA])
  have B5 : Below w.heap.size w V5 := by rw [hq]; exact sets_below (by omega) _ _ _ B.out
  have hz5 : w1.heap.size ≤ V5.heap.size := by rw [hq]; exact sets_size _ _ _ _
  rw [← hV5]
  clear hV5 hq
  have y0 := box_cell R5 0 (v := .int .i64 0) rfl
  have y1 := box_cell R5 1 (v := .int .i64 0) rfl
  have y2 := box_cell R5 2 (v := .int .i64 0) rfl
  have y3 := box_cell R5 3 (v := .string ⟨#[]⟩) rfl
  have y4 := box_cell R5 4 (v := .int .i64 0) rfl
  have y5 := box_cell R5 5 (v := .int .i64 0) rfl
  have y6 := box_cell R5 6 (v := .int .i64 0) rfl
  have y7 := box_cell R5 7 (v := .slice none 0 0) rfl
  have y8 := box_cell R5 8 (v := .slice none 0 0) rfl
  have y9 := box_cell R5 9 (v := .int .i64 0) rfl
  have y10 := box_cell R5 10 (v := .int .i64 0) rfl
  have y11 := box_cell R5 11 (v := .slice none 0 0) rfl
  refine bodyPost_ret (v := .tuple #[.agg #[.int .i64 0, .int .i64 0, .int .i64 0, .string ⟨#[]⟩, .int .i64 0, .int .i64 0, .int .i64 0, .slice none 0 0, .slice none 0 0, .int .i64 0, .int .i64 0, .slice none 0 0], .slice none 0 0]) ?_ rfl ⟨cliO_nil B5 (.none _ _ (fun g hg => by cases hg)), B5⟩
  unfold results; rw [Tryz.results10]; simp [go_sem, y0, y1, y2, y3, y4, y5, y6, y7, y8, y9, y10, y11]
set_option maxHeartbeats 8000000 in
set_option maxRecDepth 100000 in
theorem specOpen_full (i s ed : Int) (nm : ByteArray) (L S : Int) (a1 a2 : Option Addr) (c1 c2 : Nat) (ws gs : List Int) (C Z : Int) (a : Option Addr) (cap : Nat) (es : List EqV) (w : World) (name : ByteArray) (hA : GAt w a1 a2 a ws gs es) (hx : ws.length ≤ 1048576) (hy : gs.length ≤ 1048576) (hl : es.length ≤ 1048576) (hsm : SmallE es) (hnm : nm.size ≤ maxLen) (_hnl : name.size ≤ 1048576) (hcap : ∀ e ∈ es, e.a = none → e.c = 0) (hp : cliP i 99999 s ed nm (nonP L S ws.length gs.length C Z es.length) (getP L S ws gs C Z es) (getP L S ws gs C Z es ∧ (es.length : Int) = C)) :
    Calls Tryz.prog 8 #[.agg #[.int .i64 i, .int .i64 99999, .int .i64 s, .string nm, .int .i64 ed, .int .i64 L, .int .i64 S, .slice a1 ws.length c1, .slice a2 gs.length c2, .int .i64 C, .int .i64 Z, .slice a es.length cap], .string name] w fun e w' => CliO w' w.heap.size i 99999 s ed nm L S C Z ws gs (valsE es) none false e ∧ Below w.heap.size w w' := by
  have HP := hid (decide_eq_true hp)
  have hn6 := cli_name hp
  have ht0 := hp.2.1
  have HC := hid hcap
  clear hcap
  have HA := hid hA
  have HS := hid hsm
  clear hA hsm
  obtain ⟨W0, hW0⟩ : ∃ W0, W0 = (w.alloc (.cells #[.int .i64 i, .int .i64 99999, .int .i64 s, .string nm, .int .i64 ed, .int .i64 L, .int .i64 S, .slice a1 ws.length c1, .slice a2 gs.length c2, .int .i64 C, .int .i64 Z, .slice a es.length cap] 40)).alloc (.cells #[.int .i64 0, .int .i64 0, .int .i64 0, .string ⟨#[]⟩, .int .i64 0, .int .i64 0, .int .i64 0, .slice none 0 0, .slice none 0 0, .int .i64 0, .int .i64 0, .slice none 0 0] 40) := ⟨_, rfl⟩
  obtain ⟨X0, X1, B0⟩ := u_box2 (w := w) (c := #[.int .i64 i, .int .i64 99999, .int .i64 s, .string nm, .int .i64 ed, .int .i64 L, .int .i64 S, .slice a1 ws.length c1, .slice a2 gs.length c2, .int .i64 C, .int .i64 Z, .slice a es.length cap]) (t := 40) (d := #[.int .i64 0, .int .i64 0, .int .i64 0, .string ⟨#[]⟩, .int .i64 0, .int .i64 0, .int .i64 0, .slice none 0 0, .slice none 0 0, .int .i64 0, .int .i64 0, .slice none 0 0]) (s := 40) (w1 := W0) (by rw [hW0]; exact Below.refl _ _)
  have hs0 : w.heap.size + 2 ≤ W0.heap.size := by rw [hW0]; simp
  have X := hid X0
  have RR := hid X1
  have B := hid B0
  clear X0 X1 B0
  have hpp := hid hp
  clear hp
  go_enter Tryz.func8, Tryz.ntmps8
  repeat ((fail_if_success (with_reducible show Code.wp _ (Code.region 1 _ _) _ _ _)); (first | go_values | go_skip | go_guarded | go_step | go_upon | go_back | go_simp))
  rw [← hW0]
  clear hW0
  have y0 := (box_cell X.out 0 (v := .int .i64 i) rfl)
  have y1 := (box_cell X.out 1 (v := .int .i64 99999) rfl)
  have y2 := (box_cell X.out 2 (v := .int .i64 s) rfl)
  have y3 := (box_cell X.out 3 (v := .string nm) rfl)
  have y4 := (box_cell X.out 4 (v := .int .i64 ed) rfl)
  have y5 := (box_cell X.out 5 (v := .int .i64 L) rfl)
  have y6 := (box_cell X.out 6 (v := .int .i64 S) rfl)
  have y7 := (box_cell X.out 7 (v := .slice a1 ws.length c1) rfl)
  have y8 := (box_cell X.out 8 (v := .slice a2 gs.length c2) rfl)
  have y9 := (box_cell X.out 9 (v := .int .i64 C) rfl)
  have y10 := (box_cell X.out 10 (v := .int .i64 Z) rfl)
  have y11 := (box_cell X.out 11 (v := .slice a es.length cap) rfl)
  go_wp2_with fail
  refine (specCli_any i 99999 s ed nm L S a1 a2 c1 c2 ws gs C Z a cap es _ (HA.out.below B.out).i1 (HA.out.below B.out).i2 hx hy (HA.out.below B.out).eq hl HS.out hnm).mono ?_
  rintro e w1 ⟨rfl, b1⟩
  rw [HP.out]
  have hs1 := b1.size
  have X := hid (kept X.out b1)
  have RR := hid (kept RR.out b1)
  have B := hid (u_cat B.out b1)
  clear b1 y0 y1 y2 y3 y4 y5 y6 y7 y8 y9 y10 y11
  have y0 := (box_cell X.out 0 (v := .int .i64 i) rfl)
  have y1 := (box_cell X.out 1 (v := .int .i64 99999) rfl)
  have y2 := (box_cell X.out 2 (v := .int .i64 s) rfl)
  have y3 := (box_cell X.out 3 (v := .string nm) rfl)
  have y4 := (box_cell X.out 4 (v := .int .i64 ed) rfl)
  have y5 := (box_cell X.out 5 (v := .int .i64 L) rfl)
  have y6 := (box_cell X.out 6 (v := .int .i64 S) rfl)
  have y7 := (box_cell X.out 7 (v := .slice a1 ws.length c1) rfl)
  have y8 := (box_cell X.out 8 (v := .slice a2 gs.length c2) rfl)
  have y9 := (box_cell X.out 9 (v := .int .i64 C) rfl)
  have y10 := (box_cell X.out 10 (v := .int .i64 Z) rfl)
  have y11 := (box_cell X.out 11 (v := .slice a es.length cap) rfl)
  have r0 := (box_cell RR.out 0 (v := .int .i64 0) rfl)
  have r1 := (box_cell RR.out 1 (v := .int .i64 0) rfl)
  have r2 := (box_cell RR.out 2 (v := .int .i64 0) rfl)
  have r3 := (box_cell RR.out 3 (v := .string ⟨#[]⟩) rfl)
  have r4 := (box_cell RR.out 4 (v := .int .i64 0) rfl)
  have r5 := (box_cell RR.out 5 (v := .int .i64 0) rfl)
  have r6 := (box_cell RR.out 6 (v := .int .i64 0) rfl)
  have r7 := (box_cell RR.out 7 (v := .slice none 0 0) rfl)
  have r8 := (box_cell RR.out 8 (v := .slice none 0 0) rfl)
  have r9 := (box_cell RR.out 9 (v := .int .i64 0) rfl)
  have r10 := (box_cell RR.out 10 (v := .int .i64 0) rfl)
  have r11 := (box_cell RR.out 11 (v := .slice none 0 0) rfl)
  have zf := box_frozen RR.out
  have lr := lt_of_block RR.out
  go_wp2_with fail
  refine (l13Copy_any i 99999 s ed nm L S a1 a2 c1 c2 ws gs C Z a cap es _ (HA.out.below B.out) hx hy hl HS.out hpp.out HC.out).mono ?_
  rintro _ w2 ⟨b1', d1, b2', d2, a', c', fs, rfl, o2, v2, b2⟩
  have hs2 := b2.size
  have hi2 := hid (gin_mono o2.in' (lo' := w.heap.size) (by omega))
  have O := hid (o2.mono (base' := w.heap.size + 2) (by omega))
  have VV := hid (vals_same.2 v2)
  have X := hid (kept X.out b2)
  have RR := hid (kept RR.out b2)
  have B := hid (u_cat B.out b2)
  clear b2 o2 v2
  clear y0 y1 y2 y3 y4 y5 y6 y7 y8 y9 y10 y11 r0 r1 r2 r3 r4 r5 r6 r7 r8 r9 r10 r11 zf lr
  have r0 := (box_cell RR.out 0 (v := .int .i64 0) rfl)
  have r1 := (box_cell RR.out 1 (v := .int .i64 0) rfl)
  have r2 := (box_cell RR.out 2 (v := .int .i64 0) rfl)
  have r3 := (box_cell RR.out 3 (v := .string ⟨#[]⟩) rfl)
  have r4 := (box_cell RR.out 4 (v := .int .i64 0) rfl)
  have r5 := (box_cell RR.out 5 (v := .int .i64 0) rfl)
  have r6 := (box_cell RR.out 6 (v := .int .i64 0) rfl)
  have r7 := (box_cell RR.out 7 (v := .slice none 0 0) rfl)
  have r8 := (box_cell RR.out 8 (v := .slice none 0 0) rfl)
  have r9 := (box_cell RR.out 9 (v := .int .i64 0) rfl)
  have r10 := (box_cell RR.out 10 (v := .int .i64 0) rfl)
  have r11 := (box_cell RR.out 11 (v := .slice none 0 0) rfl)
  have zf := box_frozen RR.out
  have lr := lt_of_block RR.out
  go_wp2_with fail
  clear r0 r1 r2 r3 r4 r5 r6 r7 r8 r9 r10 r11 zf lr
  obtain ⟨V5, hV5⟩ : ∃ V5, V5 = ((((((((((((w2.setCell ⟨w.heap.size + 1, 0, none⟩ (.int .i64 i)).setCell ⟨w.heap.size + 1, 1, none⟩ (.int .i64 99999)).setCell ⟨w.heap.size + 1, 2, none⟩ (.int .i64 s)).setCell ⟨w.heap.size + 1, 3, none⟩ (.string nm)).setCell ⟨w.heap.size + 1, 4, none⟩ (.int .i64 ed)).setCell ⟨w.heap.size + 1, 5, none⟩ (.int .i64 L)).setCell ⟨w.heap.size + 1, 6, none⟩ (.int .i64 S)).setCell ⟨w.heap.size + 1, 7, none⟩ (.slice b1' ws.length d1)).setCell ⟨w.heap.size + 1, 8, none⟩ (.slice b2' gs.length d2)).setCell ⟨w.heap.size + 1, 9, none⟩ (.int .i64 C)).setCell ⟨w.heap.size + 1, 10, none⟩ (.int .i64 Z)).setCell ⟨w.heap.size + 1, 11, none⟩ (.slice a' fs.length c')) := ⟨_, rfl⟩
  have hq : V5 = setsC w2 (w.heap.size + 1) [.int .i64 i, .int .i64 99999, .int .i64 s, .string nm, .int .i64 ed, .int .i64 L, .int .i64 S, .slice b1' ws.length d1, .slice b2' gs.length d2, .int .i64 C, .int .i64 Z, .slice a' fs.length c'] 0 := hV5
  have R5 := (show V5.heap[w.heap.size + 1]? = some (.cells #[.int .i64 i, .int .i64 99999, .int .i64 s, .string nm, .int .i64 ed, .int .i64 L, .int .i64 S, .slice b1' ws.length d1, .slice b2' gs.length d2, .int .i64 C, .int .i64 Z, .slice a' fs.length c'] 40 (0, 0)) by rw [hq, sets_block [.int .i64 i, .int .i64 99999, .int .i64 s, .string nm, .int .i64 ed, .int .i64 L, .int .i64 S, .slice b1' ws.length d1, .slice b2' gs.length d2, .int .i64 C, .int .i64 Z, .slice a' fs.length c'] 0 w2 _ RR.out]; simp [setsA])
  have B5 : Below w.heap.size w V5 := by rw [hq]; exact sets_below (by omega) _ _ _ B.out
  have hz5 : w2.heap.size ≤ V5.heap.size := by rw [hq]; exact sets_size _ _ _ _
  have O5 : GetOwn V5 (w.heap.size + 2) ws gs b1' b2' d1 d2 a' c' fs := by rw [hq]; exact sets_own (by omega) _ _ _ O.out
  rw [← hV5]
  clear hV5 hq
  obtain ⟨V6, hV6⟩ : ∃ V6, V6 = V5.alloc (.cells #[] 64) := ⟨_, rfl⟩
  have bb : Below V5.heap.size V5 V6 := by rw [hV6]; exact u_b1 _ _
  have hz6 : V5.heap.size < V6.heap.size := by rw [hV6]; simp
  have R5 := kept R5 bb
  have B5 := u_cat B5 bb
  rw [← hV6]
  have O5 := O5.below bb
  have hzz : w2.heap.size ≤ w2.heap.size := Nat.le_refl _
  have y0 := box_cell R5 0 (v := .int .i64 i) rfl
  have y1 := box_cell R5 1 (v := .int .i64 99999) rfl
  have y2 := box_cell R5 2 (v := .int .i64 s) rfl
  have y3 := box_cell R5 3 (v := .string nm) rfl
  have y4 := box_cell R5 4 (v := .int .i64 ed) rfl
  have y5 := box_cell R5 5 (v := .int .i64 L) rfl
  have y6 := box_cell R5 6 (v := .int .i64 S) rfl
  have y7 := box_cell R5 7 (v := .slice b1' ws.length d1) rfl
  have y8 := box_cell R5 8 (v := .slice b2' gs.length d2) rfl
  have y9 := box_cell R5 9 (v := .int .i64 C) rfl
  have y10 := box_cell R5 10 (v := .int .i64 Z) rfl
  have y11 := box_cell R5 11 (v := .slice a' fs.length c') rfl
  refine bodyPost_ret (v := .tuple #[.agg #[.int .i64 i, .int .i64 99999, .int .i64 s, .string nm, .int .i64 ed, .int .i64 L, .int .i64 S, .slice b1' ws.length d1, .slice b2' gs.length d2, .int .i64 C, .int .i64 Z, .slice a' fs.length c'], .slice (some ⟨w2.heap.size, 0, none⟩) 0 0]) ?_ rfl ⟨⟨b1', d1, b2', d2, a', c', fs, .slice (some ⟨w2.heap.size, 0, none⟩) 0 0, w2.heap.size, rfl, O5.mono (by omega), hi2.out, .none _ _ (fun g hg => by cases hg; exact ⟨hzz, Nat.lt_of_le_of_lt hz5 hz6⟩), by omega, by omega, VV.out, (fun h => by cases h)⟩, B5⟩
  unfold results; rw [Tryz.results8]; simp [go_sem, y0, y1, y2, y3, y4, y5, y6, y7, y8, y9, y10, y11]
set_option maxHeartbeats 8000000 in
set_option maxRecDepth 100000 in
theorem specOpen_bad (i t s ed : Int) (nm : ByteArray) (L S : Int) (a1 a2 : Option Addr) (c1 c2 : Nat) (ws gs : List Int) (C Z : Int) (a : Option Addr) (cap : Nat) (es : List EqV) (w : World) (name : ByteArray) (hA : GAt w a1 a2 a ws gs es) (hx : ws.length ≤ 1048576) (hy : gs.length ≤ 1048576) (hl : es.length ≤ 1048576) (hsm : SmallE es) (hnm : nm.size ≤ maxLen) (hnl : name.size ≤ 1048576) (hcap : ∀ e ∈ es, e.a = none → e.c = 0) (hp : cliP i t s ed nm (nonP L S ws.length gs.length C Z es.length) (getP L S ws gs C Z es) (getP L S ws gs C Z es ∧ (es.length : Int) = C)) (ht : t < 99999) (hn : nameB name = false) :
    Calls Tryz.prog 8 #[.agg #[.int .i64 i, .int .i64 t, .int .i64 s, .string nm, .int .i64 ed, .int .i64 L, .int .i64 S, .slice a1 ws.length c1, .slice a2 gs.length c2, .int .i64 C, .int .i64 Z, .slice a es.length cap], .string name] w fun e w' => CliO w' w.heap.size i t s ed nm L S C Z ws gs (valsE es) none false e ∧ Below w.heap.size w w' := by
  have HP := hid (decide_eq_true hp)
  have hn6 := cli_name hp
  have ht0 := hp.2.1
  have HN := hid hn
  have HC := hid hcap
  clear hcap
  have HA := hid hA
  have HS := hid hsm
  clear hA hsm
  obtain ⟨W0, hW0⟩ : ∃ W0, W0 = (w.alloc (.cells #[.int .i64 i, .int .i64 t, .int .i64 s, .string nm, .int .i64 ed, .int .i64 L, .int .i64 S, .slice a1 ws.length c1, .slice a2 gs.length c2, .int .i64 C, .int .i64 Z, .slice a es.length cap] 40)).alloc (.cells #[.int .i64 0, .int .i64 0, .int .i64 0, .string ⟨#[]⟩, .int .i64 0, .int .i64 0, .int .i64 0, .slice none 0 0, .slice none 0 0, .int .i64 0, .int .i64 0, .slice none 0 0] 40) := ⟨_, rfl⟩
  obtain ⟨X0, X1, B0⟩ := u_box2 (w := w) (c := #[.int .i64 i, .int .i64 t, .int .i64 s, .string nm, .int .i64 ed, .int .i64 L, .int .i64 S, .slice a1 ws.length c1, .slice a2 gs.length c2, .int .i64 C, .int .i64 Z, .slice a es.length cap]) (t := 40) (d := #[.int .i64 0, .int .i64 0, .int .i64 0, .string ⟨#[]⟩, .int .i64 0, .int .i64 0, .int .i64 0, .slice none 0 0, .slice none 0 0, .int .i64 0, .int .i64 0, .slice none 0 0]) (s := 40) (w1 := W0) (by rw [hW0]; exact Below.refl _ _)
  have hs0 : w.heap.size + 2 ≤ W0.heap.size := by rw [hW0]; simp
  have X := hid X0
  have RR := hid X1
  have B := hid B0
  clear X0 X1 B0
  have hpp := hid hp
  clear hp
  go_enter Tryz.func8, Tryz.ntmps8
  repeat ((fail_if_success (with_reducible show Code.wp _ (Code.region 1 _ _) _ _ _)); (first | go_values | go_skip | go_guarded | go_step | go_upon | go_back | go_simp))
  rw [← hW0]
  clear hW0
  have y0 := (box_cell X.out 0 (v := .int .i64 i) rfl)
  have y1 := (box_cell X.out 1 (v := .int .i64 t) rfl)
  have y2 := (box_cell X.out 2 (v := .int .i64 s) rfl)
  have y3 := (box_cell X.out 3 (v := .string nm) rfl)
  have y4 := (box_cell X.out 4 (v := .int .i64 ed) rfl)
  have y5 := (box_cell X.out 5 (v := .int .i64 L) rfl)
  have y6 := (box_cell X.out 6 (v := .int .i64 S) rfl)
  have y7 := (box_cell X.out 7 (v := .slice a1 ws.length c1) rfl)
  have y8 := (box_cell X.out 8 (v := .slice a2 gs.length c2) rfl)
  have y9 := (box_cell X.out 9 (v := .int .i64 C) rfl)
  have y10 := (box_cell X.out 10 (v := .int .i64 Z) rfl)
  have y11 := (box_cell X.out 11 (v := .slice a es.length cap) rfl)
  go_wp2_with fail
  refine (specCli_any i t s ed nm L S a1 a2 c1 c2 ws gs C Z a cap es _ (HA.out.below B.out).i1 (HA.out.below B.out).i2 hx hy (HA.out.below B.out).eq hl HS.out hnm).mono ?_
  rintro e w1 ⟨rfl, b1⟩
  rw [HP.out]
  have hs1 := b1.size
  have X := hid (kept X.out b1)
  have RR := hid (kept RR.out b1)
  have B := hid (u_cat B.out b1)
  clear b1 y0 y1 y2 y3 y4 y5 y6 y7 y8 y9 y10 y11
  have y0 := (box_cell X.out 0 (v := .int .i64 i) rfl)
  have y1 := (box_cell X.out 1 (v := .int .i64 t) rfl)
  have y2 := (box_cell X.out 2 (v := .int .i64 s) rfl)
  have y3 := (box_cell X.out 3 (v := .string nm) rfl)
  have y4 := (box_cell X.out 4 (v := .int .i64 ed) rfl)
  have y5 := (box_cell X.out 5 (v := .int .i64 L) rfl)
  have y6 := (box_cell X.out 6 (v := .int .i64 S) rfl)
  have y7 := (box_cell X.out 7 (v := .slice a1 ws.length c1) rfl)
  have y8 := (box_cell X.out 8 (v := .slice a2 gs.length c2) rfl)
  have y9 := (box_cell X.out 9 (v := .int .i64 C) rfl)
  have y10 := (box_cell X.out 10 (v := .int .i64 Z) rfl)
  have y11 := (box_cell X.out 11 (v := .slice a es.length cap) rfl)
  have r0 := (box_cell RR.out 0 (v := .int .i64 0) rfl)
  have r1 := (box_cell RR.out 1 (v := .int .i64 0) rfl)
  have r2 := (box_cell RR.out 2 (v := .int .i64 0) rfl)
  have r3 := (box_cell RR.out 3 (v := .string ⟨#[]⟩) rfl)
  have r4 := (box_cell RR.out 4 (v := .int .i64 0) rfl)
  have r5 := (box_cell RR.out 5 (v := .int .i64 0) rfl)
  have r6 := (box_cell RR.out 6 (v := .int .i64 0) rfl)
  have r7 := (box_cell RR.out 7 (v := .slice none 0 0) rfl)
  have r8 := (box_cell RR.out 8 (v := .slice none 0 0) rfl)
  have r9 := (box_cell RR.out 9 (v := .int .i64 0) rfl)
  have r10 := (box_cell RR.out 10 (v := .int .i64 0) rfl)
  have r11 := (box_cell RR.out 11 (v := .slice none 0 0) rfl)
  have zf := box_frozen RR.out
  have lr := lt_of_block RR.out
  go_wp2_with (go_at_call 25; refine (specNameOk name _ (by unfold maxLen; omega)).mono ?_; rintro e wa ⟨rfl, hq⟩; replace hq := hq.symm; subst hq; rw [HN.out])
  refine (l13Copy_any i t s ed nm L S a1 a2 c1 c2 ws gs C Z a cap es _ (HA.out.below B.out) hx hy hl HS.out hpp.out HC.out).mono ?_
  rintro _ w2 ⟨b1', d1, b2', d2, a', c', fs, rfl, o2, v2, b2⟩
  have hs2 := b2.size
  have hi2 := hid (gin_mono o2.in' (lo' := w.heap.size) (by omega))
  have O := hid (o2.mono (base' := w.heap.size + 2) (by omega))
  have VV := hid (vals_same.2 v2)
  have X := hid (kept X.out b2)
  have RR := hid (kept RR.out b2)
  have B := hid (u_cat B.out b2)
  clear b2 o2 v2
  clear y0 y1 y2 y3 y4 y5 y6 y7 y8 y9 y10 y11 r0 r1 r2 r3 r4 r5 r6 r7 r8 r9 r10 r11 zf lr
  have r0 := (box_cell RR.out 0 (v := .int .i64 0) rfl)
  have r1 := (box_cell RR.out 1 (v := .int .i64 0) rfl)
  have r2 := (box_cell RR.out 2 (v := .int .i64 0) rfl)
  have r3 := (box_cell RR.out 3 (v := .string ⟨#[]⟩) rfl)
  have r4 := (box_cell RR.out 4 (v := .int .i64 0) rfl)
  have r5 := (box_cell RR.out 5 (v := .int .i64 0) rfl)
  have r6 := (box_cell RR.out 6 (v := .int .i64 0) rfl)
  have r7 := (box_cell RR.out 7 (v := .slice none 0 0) rfl)
  have r8 := (box_cell RR.out 8 (v := .slice none 0 0) rfl)
  have r9 := (box_cell RR.out 9 (v := .int .i64 0) rfl)
  have r10 := (box_cell RR.out 10 (v := .int .i64 0) rfl)
  have r11 := (box_cell RR.out 11 (v := .slice none 0 0) rfl)
  have zf := box_frozen RR.out
  have lr := lt_of_block RR.out
  go_wp2_with fail
  clear r0 r1 r2 r3 r4 r5 r6 r7 r8 r9 r10 r11 zf lr
  obtain ⟨V5, hV5⟩ : ∃ V5, V5 = ((((((((((((w2.setCell ⟨w.heap.size + 1, 0, none⟩ (.int .i64 i)).setCell ⟨w.heap.size + 1, 1, none⟩ (.int .i64 t)).setCell ⟨w.heap.size + 1, 2, none⟩ (.int .i64 s)).setCell ⟨w.heap.size + 1, 3, none⟩ (.string nm)).setCell ⟨w.heap.size + 1, 4, none⟩ (.int .i64 ed)).setCell ⟨w.heap.size + 1, 5, none⟩ (.int .i64 L)).setCell ⟨w.heap.size + 1, 6, none⟩ (.int .i64 S)).setCell ⟨w.heap.size + 1, 7, none⟩ (.slice b1' ws.length d1)).setCell ⟨w.heap.size + 1, 8, none⟩ (.slice b2' gs.length d2)).setCell ⟨w.heap.size + 1, 9, none⟩ (.int .i64 C)).setCell ⟨w.heap.size + 1, 10, none⟩ (.int .i64 Z)).setCell ⟨w.heap.size + 1, 11, none⟩ (.slice a' fs.length c')) := ⟨_, rfl⟩
  have hq : V5 = setsC w2 (w.heap.size + 1) [.int .i64 i, .int .i64 t, .int .i64 s, .string nm, .int .i64 ed, .int .i64 L, .int .i64 S, .slice b1' ws.length d1, .slice b2' gs.length d2, .int .i64 C, .int .i64 Z, .slice a' fs.length c'] 0 := hV5
  have R5 := (show V5.heap[w.heap.size + 1]? = some (.cells #[.int .i64 i, .int .i64 t, .int .i64 s, .string nm, .int .i64 ed, .int .i64 L, .int .i64 S, .slice b1' ws.length d1, .slice b2' gs.length d2, .int .i64 C, .int .i64 Z, .slice a' fs.length c'] 40 (0, 0)) by rw [hq, sets_block [.int .i64 i, .int .i64 t, .int .i64 s, .string nm, .int .i64 ed, .int .i64 L, .int .i64 S, .slice b1' ws.length d1, .slice b2' gs.length d2, .int .i64 C, .int .i64 Z, .slice a' fs.length c'] 0 w2 _ RR.out]; simp [setsA])
  have B5 : Below w.heap.size w V5 := by rw [hq]; exact sets_below (by omega) _ _ _ B.out
  have hz5 : w2.heap.size ≤ V5.heap.size := by rw [hq]; exact sets_size _ _ _ _
  have O5 : GetOwn V5 (w.heap.size + 2) ws gs b1' b2' d1 d2 a' c' fs := by rw [hq]; exact sets_own (by omega) _ _ _ O.out
  rw [← hV5]
  clear hV5 hq
  obtain ⟨V6, hV6⟩ : ∃ V6, V6 = V5.alloc (.cells #[] 64) := ⟨_, rfl⟩
  have bb : Below V5.heap.size V5 V6 := by rw [hV6]; exact u_b1 _ _
  have hz6 : V5.heap.size < V6.heap.size := by rw [hV6]; simp
  have R5 := kept R5 bb
  have B5 := u_cat B5 bb
  rw [← hV6]
  have O5 := O5.below bb
  have hzz : w2.heap.size ≤ w2.heap.size := Nat.le_refl _
  have y0 := box_cell R5 0 (v := .int .i64 i) rfl
  have y1 := box_cell R5 1 (v := .int .i64 t) rfl
  have y2 := box_cell R5 2 (v := .int .i64 s) rfl
  have y3 := box_cell R5 3 (v := .string nm) rfl
  have y4 := box_cell R5 4 (v := .int .i64 ed) rfl
  have y5 := box_cell R5 5 (v := .int .i64 L) rfl
  have y6 := box_cell R5 6 (v := .int .i64 S) rfl
  have y7 := box_cell R5 7 (v := .slice b1' ws.length d1) rfl
  have y8 := box_cell R5 8 (v := .slice b2' gs.length d2) rfl
  have y9 := box_cell R5 9 (v := .int .i64 C) rfl
  have y10 := box_cell R5 10 (v := .int .i64 Z) rfl
  have y11 := box_cell R5 11 (v := .slice a' fs.length c') rfl
  refine bodyPost_ret (v := .tuple #[.agg #[.int .i64 i, .int .i64 t, .int .i64 s, .string nm, .int .i64 ed, .int .i64 L, .int .i64 S, .slice b1' ws.length d1, .slice b2' gs.length d2, .int .i64 C, .int .i64 Z, .slice a' fs.length c'], .slice (some ⟨w2.heap.size, 0, none⟩) 0 0]) ?_ rfl ⟨⟨b1', d1, b2', d2, a', c', fs, .slice (some ⟨w2.heap.size, 0, none⟩) 0 0, w2.heap.size, rfl, O5.mono (by omega), hi2.out, .none _ _ (fun g hg => by cases hg; exact ⟨hzz, Nat.lt_of_le_of_lt hz5 hz6⟩), by omega, by omega, VV.out, (fun h => by cases h)⟩, B5⟩
  unfold results; rw [Tryz.results8]; simp [go_sem, y0, y1, y2, y3, y4, y5, y6, y7, y8, y9, y10, y11]
set_option maxHeartbeats 8000000 in
set_option maxRecDepth 100000 in
theorem implOpen_bad (i t s ed : Int) (nm : ByteArray) (L S : Int) (a1 a2 : Option Addr) (c1 c2 : Nat) (ws gs : List Int) (C Z : Int) (a : Option Addr) (cap : Nat) (es : List EqV) (w : World) (name : ByteArray) (hA : GAt w a1 a2 a ws gs es) (hx : ws.length ≤ 1048576) (hy : gs.length ≤ 1048576) (hl : es.length ≤ 1048576) (hsm : SmallE es) (hnm : nm.size ≤ maxLen) (hnl : name.size ≤ 1048576) (hT : Tab w) (hp : cliP i t s ed nm (nonP L S ws.length gs.length C Z es.length) (getP L S ws gs C Z es) (getP L S ws gs C Z es ∧ (es.length : Int) = C)) (hn : nameB name = false) :
    Calls Tryz.prog 10 #[.agg #[.int .i64 i, .int .i64 t, .int .i64 s, .string nm, .int .i64 ed, .int .i64 L, .int .i64 S, .slice a1 ws.length c1, .slice a2 gs.length c2, .int .i64 C, .int .i64 Z, .slice a es.length cap], .string name] w fun e w' => CliO w' w.heap.size i t s ed nm L S C Z ws gs (valsE es) none true e ∧ Below w.heap.size w w' := by
  have HP := hid (decide_eq_true hp)
  have hn6 := cli_name hp
  have ht0 := hp.2.1
  have HN := hid hn
  have HA := hid hA
  have HS := hid hsm
  have HT := hid hT
  clear hA hsm hT
  obtain ⟨W0, hW0⟩ : ∃ W0, W0 = (w.alloc (.cells #[.int .i64 i, .int .i64 t, .int .i64 s, .string nm, .int .i64 ed, .int .i64 L, .int .i64 S, .slice a1 ws.length c1, .slice a2 gs.length c2, .int .i64 C, .int .i64 Z, .slice a es.length cap] 40)).alloc (.cells #[.int .i64 0, .int .i64 0, .int .i64 0, .string ⟨#[]⟩, .int .i64 0, .int .i64 0, .int .i64 0, .slice none 0 0, .slice none 0 0, .int .i64 0, .int .i64 0, .slice none 0 0] 40) := ⟨_, rfl⟩
  obtain ⟨X0, X1, B0⟩ := u_box2 (w := w) (c := #[.int .i64 i, .int .i64 t, .int .i64 s, .string nm, .int .i64 ed, .int .i64 L, .int .i64 S, .slice a1 ws.length c1, .slice a2 gs.length c2, .int .i64 C, .int .i64 Z, .slice a es.length cap]) (t := 40) (d := #[.int .i64 0, .int .i64 0, .int .i64 0, .string ⟨#[]⟩, .int .i64 0, .int .i64 0, .int .i64 0, .slice none 0 0, .slice none 0 0, .int .i64 0, .int .i64 0, .slice none 0 0]) (s := 40) (w1 := W0) (by rw [hW0]; exact Below.refl _ _)
  have hs0 : w.heap.size + 2 ≤ W0.heap.size := by rw [hW0]; simp
  have X := hid X0
  have RR := hid X1
  have B := hid B0
  clear X0 X1 B0
  have hpp := hid hp
  clear hp
  go_enter Tryz.func10, Tryz.ntmps10
  repeat ((fail_if_success (with_reducible show Code.wp _ (Code.region 1 _ _) _ _ _)); (first | go_values | go_skip | go_guarded | go_step | go_upon | go_back | go_simp))
  rw [← hW0]
  clear hW0
  have y0 := (box_cell X.out 0 (v := .int .i64 i) rfl)
  have y1 := (box_cell X.out 1 (v := .int .i64 t) rfl)
  have y2 := (box_cell X.out 2 (v := .int .i64 s) rfl)
  have y3 := (box_cell X.out 3 (v := .string nm) rfl)
  have y4 := (box_cell X.out 4 (v := .int .i64 ed) rfl)
  have y5 := (box_cell X.out 5 (v := .int .i64 L) rfl)
  have y6 := (box_cell X.out 6 (v := .int .i64 S) rfl)
  have y7 := (box_cell X.out 7 (v := .slice a1 ws.length c1) rfl)
  have y8 := (box_cell X.out 8 (v := .slice a2 gs.length c2) rfl)
  have y9 := (box_cell X.out 9 (v := .int .i64 C) rfl)
  have y10 := (box_cell X.out 10 (v := .int .i64 Z) rfl)
  have y11 := (box_cell X.out 11 (v := .slice a es.length cap) rfl)
  go_wp2_with fail
  refine (implCli_any i t s ed nm L S a1 a2 c1 c2 ws gs C Z a cap es _ (HA.out.below B.out).i1 (HA.out.below B.out).i2 hx hy (HA.out.below B.out).eq hl HS.out hnm (HT.out.below B.out)).mono ?_
  rintro e w1 ⟨rfl, b1⟩
  rw [HP.out]
  have hs1 := b1.size
  have X := hid (kept X.out b1)
  have RR := hid (kept RR.out b1)
  have B := hid (u_cat B.out b1)
  clear b1 y0 y1 y2 y3 y4 y5 y6 y7 y8 y9 y10 y11
  have y0 := (box_cell X.out 0 (v := .int .i64 i) rfl)
  have y1 := (box_cell X.out 1 (v := .int .i64 t) rfl)
  have y2 := (box_cell X.out 2 (v := .int .i64 s) rfl)
  have y3 := (box_cell X.out 3 (v := .string nm) rfl)
  have y4 := (box_cell X.out 4 (v := .int .i64 ed) rfl)
  have y5 := (box_cell X.out 5 (v := .int .i64 L) rfl)
  have y6 := (box_cell X.out 6 (v := .int .i64 S) rfl)
  have y7 := (box_cell X.out 7 (v := .slice a1 ws.length c1) rfl)
  have y8 := (box_cell X.out 8 (v := .slice a2 gs.length c2) rfl)
  have y9 := (box_cell X.out 9 (v := .int .i64 C) rfl)
  have y10 := (box_cell X.out 10 (v := .int .i64 Z) rfl)
  have y11 := (box_cell X.out 11 (v := .slice a es.length cap) rfl)
  have r0 := (box_cell RR.out 0 (v := .int .i64 0) rfl)
  have r1 := (box_cell RR.out 1 (v := .int .i64 0) rfl)
  have r2 := (box_cell RR.out 2 (v := .int .i64 0) rfl)
  have r3 := (box_cell RR.out 3 (v := .string ⟨#[]⟩) rfl)
  have r4 := (box_cell RR.out 4 (v := .int .i64 0) rfl)
  have r5 := (box_cell RR.out 5 (v := .int .i64 0) rfl)
  have r6 := (box_cell RR.out 6 (v := .int .i64 0) rfl)
  have r7 := (box_cell RR.out 7 (v := .slice none 0 0) rfl)
  have r8 := (box_cell RR.out 8 (v := .slice none 0 0) rfl)
  have r9 := (box_cell RR.out 9 (v := .int .i64 0) rfl)
  have r10 := (box_cell RR.out 10 (v := .int .i64 0) rfl)
  have r11 := (box_cell RR.out 11 (v := .slice none 0 0) rfl)
  have zf := box_frozen RR.out
  have lr := lt_of_block RR.out
  go_wp2_with (go_at_call 30; refine (implNameOk name _ (by unfold maxLen; omega)).mono ?_; rintro e wa ⟨rfl, hq⟩; replace hq := hq.symm; subst hq; rw [HN.out])
  refine (ccopied_any i t s ed nm L S a1 a2 c1 c2 ws gs C Z a cap es _ (HA.out.below B.out) hx hy hl HS.out hpp.out (HT.out.below B.out)).mono ?_
  rintro _ w2 ⟨b1', d1, b2', d2, a', c', fs, rfl, o2, v2, p2, b2⟩
  have hs2 := b2.size
  have hi2 := hid (gin_mono o2.in' (lo' := w.heap.size) (by omega))
  have O := hid (o2.mono (base' := w.heap.size + 2) (by omega))
  have VV := hid (vals_same.2 v2)
  have PP := hid p2
  have X := hid (kept X.out b2)
  have RR := hid (kept RR.out b2)
  have B := hid (u_cat B.out b2)
  clear b2 o2 v2 p2
  clear y0 y1 y2 y3 y4 y5 y6 y7 y8 y9 y10 y11 r0 r1 r2 r3 r4 r5 r6 r7 r8 r9 r10 r11 zf lr
  have r0 := (box_cell RR.out 0 (v := .int .i64 0) rfl)
  have r1 := (box_cell RR.out 1 (v := .int .i64 0) rfl)
  have r2 := (box_cell RR.out 2 (v := .int .i64 0) rfl)
  have r3 := (box_cell RR.out 3 (v := .string ⟨#[]⟩) rfl)
  have r4 := (box_cell RR.out 4 (v := .int .i64 0) rfl)
  have r5 := (box_cell RR.out 5 (v := .int .i64 0) rfl)
  have r6 := (box_cell RR.out 6 (v := .int .i64 0) rfl)
  have r7 := (box_cell RR.out 7 (v := .slice none 0 0) rfl)
  have r8 := (box_cell RR.out 8 (v := .slice none 0 0) rfl)
  have r9 := (box_cell RR.out 9 (v := .int .i64 0) rfl)
  have r10 := (box_cell RR.out 10 (v := .int .i64 0) rfl)
  have r11 := (box_cell RR.out 11 (v := .slice none 0 0) rfl)
  have zf := box_frozen RR.out
  have lr := lt_of_block RR.out
  go_wp2_with fail
  clear r0 r1 r2 r3 r4 r5 r6 r7 r8 r9 r10 r11 zf lr
  obtain ⟨V5, hV5⟩ : ∃ V5, V5 = ((((((((((((w2.setCell ⟨w.heap.size + 1, 0, none⟩ (.int .i64 i)).setCell ⟨w.heap.size + 1, 1, none⟩ (.int .i64 t)).setCell ⟨w.heap.size + 1, 2, none⟩ (.int .i64 s)).setCell ⟨w.heap.size + 1, 3, none⟩ (.string nm)).setCell ⟨w.heap.size + 1, 4, none⟩ (.int .i64 ed)).setCell ⟨w.heap.size + 1, 5, none⟩ (.int .i64 L)).setCell ⟨w.heap.size + 1, 6, none⟩ (.int .i64 S)).setCell ⟨w.heap.size + 1, 7, none⟩ (.slice b1' ws.length d1)).setCell ⟨w.heap.size + 1, 8, none⟩ (.slice b2' gs.length d2)).setCell ⟨w.heap.size + 1, 9, none⟩ (.int .i64 C)).setCell ⟨w.heap.size + 1, 10, none⟩ (.int .i64 Z)).setCell ⟨w.heap.size + 1, 11, none⟩ (.slice a' fs.length c')) := ⟨_, rfl⟩
  have hq : V5 = setsC w2 (w.heap.size + 1) [.int .i64 i, .int .i64 t, .int .i64 s, .string nm, .int .i64 ed, .int .i64 L, .int .i64 S, .slice b1' ws.length d1, .slice b2' gs.length d2, .int .i64 C, .int .i64 Z, .slice a' fs.length c'] 0 := hV5
  have R5 := (show V5.heap[w.heap.size + 1]? = some (.cells #[.int .i64 i, .int .i64 t, .int .i64 s, .string nm, .int .i64 ed, .int .i64 L, .int .i64 S, .slice b1' ws.length d1, .slice b2' gs.length d2, .int .i64 C, .int .i64 Z, .slice a' fs.length c'] 40 (0, 0)) by rw [hq, sets_block [.int .i64 i, .int .i64 t, .int .i64 s, .string nm, .int .i64 ed, .int .i64 L, .int .i64 S, .slice b1' ws.length d1, .slice b2' gs.length d2, .int .i64 C, .int .i64 Z, .slice a' fs.length c'] 0 w2 _ RR.out]; simp [setsA])
  have B5 : Below w.heap.size w V5 := by rw [hq]; exact sets_below (by omega) _ _ _ B.out
  have hz5 : w2.heap.size ≤ V5.heap.size := by rw [hq]; exact sets_size _ _ _ _
  have O5 : GetOwn V5 (w.heap.size + 2) ws gs b1' b2' d1 d2 a' c' fs := by rw [hq]; exact sets_own (by omega) _ _ _ O.out
  rw [← hV5]
  clear hV5 hq
  have y0 := box_cell R5 0 (v := .int .i64 i) rfl
  have y1 := box_cell R5 1 (v := .int .i64 t) rfl
  have y2 := box_cell R5 2 (v := .int .i64 s) rfl
  have y3 := box_cell R5 3 (v := .string nm) rfl
  have y4 := box_cell R5 4 (v := .int .i64 ed) rfl
  have y5 := box_cell R5 5 (v := .int .i64 L) rfl
  have y6 := box_cell R5 6 (v := .int .i64 S) rfl
  have y7 := box_cell R5 7 (v := .slice b1' ws.length d1) rfl
  have y8 := box_cell R5 8 (v := .slice b2' gs.length d2) rfl
  have y9 := box_cell R5 9 (v := .int .i64 C) rfl
  have y10 := box_cell R5 10 (v := .int .i64 Z) rfl
  have y11 := box_cell R5 11 (v := .slice a' fs.length c') rfl
  refine bodyPost_ret (v := .tuple #[.agg #[.int .i64 i, .int .i64 t, .int .i64 s, .string nm, .int .i64 ed, .int .i64 L, .int .i64 S, .slice b1' ws.length d1, .slice b2' gs.length d2, .int .i64 C, .int .i64 Z, .slice a' fs.length c'], .slice none 0 0]) ?_ rfl ⟨⟨b1', d1, b2', d2, a', c', fs, .slice none 0 0, w2.heap.size, rfl, O5.mono (by omega), hi2.out, .none _ _ (fun g hg => by cases hg), by omega, by omega, VV.out, (fun _ => PP.out)⟩, B5⟩
  unfold results; rw [Tryz.results10]; simp [go_sem, y0, y1, y2, y3, y4, y5, y6, y7, y8, y9, y10, y11]
set_option maxHeartbeats 8000000 in
set_option maxRecDepth 100000 in
theorem implOpen_full (i s ed : Int) (nm : ByteArray) (L S : Int) (a1 a2 : Option Addr) (c1 c2 : Nat) (ws gs : List Int) (C Z : Int) (a : Option Addr) (cap : Nat) (es : List EqV) (w : World) (name : ByteArray) (hA : GAt w a1 a2 a ws gs es) (hx : ws.length ≤ 1048576) (hy : gs.length ≤ 1048576) (hl : es.length ≤ 1048576) (hsm : SmallE es) (hnm : nm.size ≤ maxLen) (hnl : name.size ≤ 1048576) (hT : Tab w) (hp : cliP i 99999 s ed nm (nonP L S ws.length gs.length C Z es.length) (getP L S ws gs C Z es) (getP L S ws gs C Z es ∧ (es.length : Int) = C)) (hn : nameB name = true) :
    Calls Tryz.prog 10 #[.agg #[.int .i64 i, .int .i64 99999, .int .i64 s, .string nm, .int .i64 ed, .int .i64 L, .int .i64 S, .slice a1 ws.length c1, .slice a2 gs.length c2, .int .i64 C, .int .i64 Z, .slice a es.length cap], .string name] w fun e w' => CliO w' w.heap.size i 99999 s ed nm L S C Z ws gs (valsE es) none true e ∧ Below w.heap.size w w' := by
  have HP := hid (decide_eq_true hp)
  have hn6 := cli_name hp
  have ht0 := hp.2.1
  have HN := hid hn
  have HA := hid hA
  have HS := hid hsm
  have HT := hid hT
  clear hA hsm hT
  obtain ⟨W0, hW0⟩ : ∃ W0, W0 = (w.alloc (.cells #[.int .i64 i, .int .i64 99999, .int .i64 s, .string nm, .int .i64 ed, .int .i64 L, .int .i64 S, .slice a1 ws.length c1, .slice a2 gs.length c2, .int .i64 C, .int .i64 Z, .slice a es.length cap] 40)).alloc (.cells #[.int .i64 0, .int .i64 0, .int .i64 0, .string ⟨#[]⟩, .int .i64 0, .int .i64 0, .int .i64 0, .slice none 0 0, .slice none 0 0, .int .i64 0, .int .i64 0, .slice none 0 0] 40) := ⟨_, rfl⟩
  obtain ⟨X0, X1, B0⟩ := u_box2 (w := w) (c := #[.int .i64 i, .int .i64 99999, .int .i64 s, .string nm, .int .i64 ed, .int .i64 L, .int .i64 S, .slice a1 ws.length c1, .slice a2 gs.length c2, .int .i64 C, .int .i64 Z, .slice a es.length cap]) (t := 40) (d := #[.int .i64 0, .int .i64 0, .int .i64 0, .string ⟨#[]⟩, .int .i64 0, .int .i64 0, .int .i64 0, .slice none 0 0, .slice none 0 0, .int .i64 0, .int .i64 0, .slice none 0 0]) (s := 40) (w1 := W0) (by rw [hW0]; exact Below.refl _ _)
  have hs0 : w.heap.size + 2 ≤ W0.heap.size := by rw [hW0]; simp
  have X := hid X0
  have RR := hid X1
  have B := hid B0
  clear X0 X1 B0
  have hpp := hid hp
  clear hp
  go_enter Tryz.func10, Tryz.ntmps10
  repeat ((fail_if_success (with_reducible show Code.wp _ (Code.region 1 _ _) _ _ _)); (first | go_values | go_skip | go_guarded | go_step | go_upon | go_back | go_simp))
  rw [← hW0]
  clear hW0
  have y0 := (box_cell X.out 0 (v := .int .i64 i) rfl)
  have y1 := (box_cell X.out 1 (v := .int .i64 99999) rfl)
  have y2 := (box_cell X.out 2 (v := .int .i64 s) rfl)
  have y3 := (box_cell X.out 3 (v := .string nm) rfl)
  have y4 := (box_cell X.out 4 (v := .int .i64 ed) rfl)
  have y5 := (box_cell X.out 5 (v := .int .i64 L) rfl)
  have y6 := (box_cell X.out 6 (v := .int .i64 S) rfl)
  have y7 := (box_cell X.out 7 (v := .slice a1 ws.length c1) rfl)
  have y8 := (box_cell X.out 8 (v := .slice a2 gs.length c2) rfl)
  have y9 := (box_cell X.out 9 (v := .int .i64 C) rfl)
  have y10 := (box_cell X.out 10 (v := .int .i64 Z) rfl)
  have y11 := (box_cell X.out 11 (v := .slice a es.length cap) rfl)
  go_wp2_with fail
  refine (implCli_any i 99999 s ed nm L S a1 a2 c1 c2 ws gs C Z a cap es _ (HA.out.below B.out).i1 (HA.out.below B.out).i2 hx hy (HA.out.below B.out).eq hl HS.out hnm (HT.out.below B.out)).mono ?_
  rintro e w1 ⟨rfl, b1⟩
  rw [HP.out]
  have hs1 := b1.size
  have X := hid (kept X.out b1)
  have RR := hid (kept RR.out b1)
  have B := hid (u_cat B.out b1)
  clear b1 y0 y1 y2 y3 y4 y5 y6 y7 y8 y9 y10 y11
  have y0 := (box_cell X.out 0 (v := .int .i64 i) rfl)
  have y1 := (box_cell X.out 1 (v := .int .i64 99999) rfl)
  have y2 := (box_cell X.out 2 (v := .int .i64 s) rfl)
  have y3 := (box_cell X.out 3 (v := .string nm) rfl)
  have y4 := (box_cell X.out 4 (v := .int .i64 ed) rfl)
  have y5 := (box_cell X.out 5 (v := .int .i64 L) rfl)
  have y6 := (box_cell X.out 6 (v := .int .i64 S) rfl)
  have y7 := (box_cell X.out 7 (v := .slice a1 ws.length c1) rfl)
  have y8 := (box_cell X.out 8 (v := .slice a2 gs.length c2) rfl)
  have y9 := (box_cell X.out 9 (v := .int .i64 C) rfl)
  have y10 := (box_cell X.out 10 (v := .int .i64 Z) rfl)
  have y11 := (box_cell X.out 11 (v := .slice a es.length cap) rfl)
  have r0 := (box_cell RR.out 0 (v := .int .i64 0) rfl)
  have r1 := (box_cell RR.out 1 (v := .int .i64 0) rfl)
  have r2 := (box_cell RR.out 2 (v := .int .i64 0) rfl)
  have r3 := (box_cell RR.out 3 (v := .string ⟨#[]⟩) rfl)
  have r4 := (box_cell RR.out 4 (v := .int .i64 0) rfl)
  have r5 := (box_cell RR.out 5 (v := .int .i64 0) rfl)
  have r6 := (box_cell RR.out 6 (v := .int .i64 0) rfl)
  have r7 := (box_cell RR.out 7 (v := .slice none 0 0) rfl)
  have r8 := (box_cell RR.out 8 (v := .slice none 0 0) rfl)
  have r9 := (box_cell RR.out 9 (v := .int .i64 0) rfl)
  have r10 := (box_cell RR.out 10 (v := .int .i64 0) rfl)
  have r11 := (box_cell RR.out 11 (v := .slice none 0 0) rfl)
  have zf := box_frozen RR.out
  have lr := lt_of_block RR.out
  go_wp2_with (go_at_call 30; refine (implNameOk name _ (by unfold maxLen; omega)).mono ?_; rintro e wa ⟨rfl, hq⟩; replace hq := hq.symm; subst hq; rw [HN.out])
  refine (ccopied_any i 99999 s ed nm L S a1 a2 c1 c2 ws gs C Z a cap es _ (HA.out.below B.out) hx hy hl HS.out hpp.out (HT.out.below B.out)).mono ?_
  rintro _ w2 ⟨b1', d1, b2', d2, a', c', fs, rfl, o2, v2, p2, b2⟩
  have hs2 := b2.size
  have hi2 := hid (gin_mono o2.in' (lo' := w.heap.size) (by omega))
  have O := hid (o2.mono (base' := w.heap.size + 2) (by omega))
  have VV := hid (vals_same.2 v2)
  have PP := hid p2
  have X := hid (kept X.out b2)
  have RR := hid (kept RR.out b2)
  have B := hid (u_cat B.out b2)
  clear b2 o2 v2 p2
  clear y0 y1 y2 y3 y4 y5 y6 y7 y8 y9 y10 y11 r0 r1 r2 r3 r4 r5 r6 r7 r8 r9 r10 r11 zf lr
  have r0 := (box_cell RR.out 0 (v := .int .i64 0) rfl)
  have r1 := (box_cell RR.out 1 (v := .int .i64 0) rfl)
  have r2 := (box_cell RR.out 2 (v := .int .i64 0) rfl)
  have r3 := (box_cell RR.out 3 (v := .string ⟨#[]⟩) rfl)
  have r4 := (box_cell RR.out 4 (v := .int .i64 0) rfl)
  have r5 := (box_cell RR.out 5 (v := .int .i64 0) rfl)
  have r6 := (box_cell RR.out 6 (v := .int .i64 0) rfl)
  have r7 := (box_cell RR.out 7 (v := .slice none 0 0) rfl)
  have r8 := (box_cell RR.out 8 (v := .slice none 0 0) rfl)
  have r9 := (box_cell RR.out 9 (v := .int .i64 0) rfl)
  have r10 := (box_cell RR.out 10 (v := .int .i64 0) rfl)
  have r11 := (box_cell RR.out 11 (v := .slice none 0 0) rfl)
  have zf := box_frozen RR.out
  have lr := lt_of_block RR.out
  go_wp2_with fail
  clear r0 r1 r2 r3 r4 r5 r6 r7 r8 r9 r10 r11 zf lr
  obtain ⟨V5, hV5⟩ : ∃ V5, V5 = ((((((((((((w2.setCell ⟨w.heap.size + 1, 0, none⟩ (.int .i64 i)).setCell ⟨w.heap.size + 1, 1, none⟩ (.int .i64 99999)).setCell ⟨w.heap.size + 1, 2, none⟩ (.int .i64 s)).setCell ⟨w.heap.size + 1, 3, none⟩ (.string nm)).setCell ⟨w.heap.size + 1, 4, none⟩ (.int .i64 ed)).setCell ⟨w.heap.size + 1, 5, none⟩ (.int .i64 L)).setCell ⟨w.heap.size + 1, 6, none⟩ (.int .i64 S)).setCell ⟨w.heap.size + 1, 7, none⟩ (.slice b1' ws.length d1)).setCell ⟨w.heap.size + 1, 8, none⟩ (.slice b2' gs.length d2)).setCell ⟨w.heap.size + 1, 9, none⟩ (.int .i64 C)).setCell ⟨w.heap.size + 1, 10, none⟩ (.int .i64 Z)).setCell ⟨w.heap.size + 1, 11, none⟩ (.slice a' fs.length c')) := ⟨_, rfl⟩
  have hq : V5 = setsC w2 (w.heap.size + 1) [.int .i64 i, .int .i64 99999, .int .i64 s, .string nm, .int .i64 ed, .int .i64 L, .int .i64 S, .slice b1' ws.length d1, .slice b2' gs.length d2, .int .i64 C, .int .i64 Z, .slice a' fs.length c'] 0 := hV5
  have R5 := (show V5.heap[w.heap.size + 1]? = some (.cells #[.int .i64 i, .int .i64 99999, .int .i64 s, .string nm, .int .i64 ed, .int .i64 L, .int .i64 S, .slice b1' ws.length d1, .slice b2' gs.length d2, .int .i64 C, .int .i64 Z, .slice a' fs.length c'] 40 (0, 0)) by rw [hq, sets_block [.int .i64 i, .int .i64 99999, .int .i64 s, .string nm, .int .i64 ed, .int .i64 L, .int .i64 S, .slice b1' ws.length d1, .slice b2' gs.length d2, .int .i64 C, .int .i64 Z, .slice a' fs.length c'] 0 w2 _ RR.out]; simp [setsA])
  have B5 : Below w.heap.size w V5 := by rw [hq]; exact sets_below (by omega) _ _ _ B.out
  have hz5 : w2.heap.size ≤ V5.heap.size := by rw [hq]; exact sets_size _ _ _ _
  have O5 : GetOwn V5 (w.heap.size + 2) ws gs b1' b2' d1 d2 a' c' fs := by rw [hq]; exact sets_own (by omega) _ _ _ O.out
  rw [← hV5]
  clear hV5 hq
  have y0 := box_cell R5 0 (v := .int .i64 i) rfl
  have y1 := box_cell R5 1 (v := .int .i64 99999) rfl
  have y2 := box_cell R5 2 (v := .int .i64 s) rfl
  have y3 := box_cell R5 3 (v := .string nm) rfl
  have y4 := box_cell R5 4 (v := .int .i64 ed) rfl
  have y5 := box_cell R5 5 (v := .int .i64 L) rfl
  have y6 := box_cell R5 6 (v := .int .i64 S) rfl
  have y7 := box_cell R5 7 (v := .slice b1' ws.length d1) rfl
  have y8 := box_cell R5 8 (v := .slice b2' gs.length d2) rfl
  have y9 := box_cell R5 9 (v := .int .i64 C) rfl
  have y10 := box_cell R5 10 (v := .int .i64 Z) rfl
  have y11 := box_cell R5 11 (v := .slice a' fs.length c') rfl
  refine bodyPost_ret (v := .tuple #[.agg #[.int .i64 i, .int .i64 99999, .int .i64 s, .string nm, .int .i64 ed, .int .i64 L, .int .i64 S, .slice b1' ws.length d1, .slice b2' gs.length d2, .int .i64 C, .int .i64 Z, .slice a' fs.length c'], .slice none 0 0]) ?_ rfl ⟨⟨b1', d1, b2', d2, a', c', fs, .slice none 0 0, w2.heap.size, rfl, O5.mono (by omega), hi2.out, .none _ _ (fun g hg => by cases hg), by omega, by omega, VV.out, (fun _ => PP.out)⟩, B5⟩
  unfold results; rw [Tryz.results10]; simp [go_sem, y0, y1, y2, y3, y4, y5, y6, y7, y8, y9, y10, y11]
set_option maxHeartbeats 8000000 in
set_option maxRecDepth 100000 in
theorem specOpen_new (i t s ed : Int) (nm : ByteArray) (L S : Int) (a1 a2 : Option Addr) (c1 c2 : Nat) (ws gs : List Int) (C Z : Int) (a : Option Addr) (cap : Nat) (es : List EqV) (w : World) (name : ByteArray) (hA : GAt w a1 a2 a ws gs es) (hx : ws.length ≤ 1048576) (hy : gs.length ≤ 1048576) (hl : es.length ≤ 1048576) (hsm : SmallE es) (hnm : nm.size ≤ maxLen) (hnl : name.size ≤ 1048576) (hcap : ∀ e ∈ es, e.a = none → e.c = 0) (hp : cliP i t s ed nm (nonP L S ws.length gs.length C Z es.length) (getP L S ws gs C Z es) (getP L S ws gs C Z es ∧ (es.length : Int) = C)) (ht : t < 99999) (hn : nameB name = true) :
    Calls Tryz.prog 8 #[.agg #[.int .i64 i, .int .i64 t, .int .i64 s, .string nm, .int .i64 ed, .int .i64 L, .int .i64 S, .slice a1 ws.length c1, .slice a2 gs.length c2, .int .i64 C, .int .i64 Z, .slice a es.length cap], .string name] w fun e w' => CliO w' w.heap.size i (t + 1) 1 0 name 0 0 0 0 [] [] [] (some ⟨1, i, (t + 1), 0, 0, name, ⟨#[]⟩⟩) false e ∧ Below w.heap.size w w' := by
  have HP := hid (decide_eq_true hp)
  have hn6 := cli_name hp
  have ht0 := hp.2.1
  have HN := hid hn
  have hn9 := name_le hn
  have HC := hid hcap
  clear hcap
  have HA := hid hA
  have HS := hid hsm
  clear hA hsm
  obtain ⟨W0, hW0⟩ : ∃ W0, W0 = (w.alloc (.cells #[.int .i64 i, .int .i64 t, .int .i64 s, .string nm, .int .i64 ed, .int .i64 L, .int .i64 S, .slice a1 ws.length c1, .slice a2 gs.length c2, .int .i64 C, .int .i64 Z, .slice a es.length cap] 40)).alloc (.cells #[.int .i64 0, .int .i64 0, .int .i64 0, .string ⟨#[]⟩, .int .i64 0, .int .i64 0, .int .i64 0, .slice none 0 0, .slice none 0 0, .int .i64 0, .int .i64 0, .slice none 0 0] 40) := ⟨_, rfl⟩
  obtain ⟨X0, X1, B0⟩ := u_box2 (w := w) (c := #[.int .i64 i, .int .i64 t, .int .i64 s, .string nm, .int .i64 ed, .int .i64 L, .int .i64 S, .slice a1 ws.length c1, .slice a2 gs.length c2, .int .i64 C, .int .i64 Z, .slice a es.length cap]) (t := 40) (d := #[.int .i64 0, .int .i64 0, .int .i64 0, .string ⟨#[]⟩, .int .i64 0, .int .i64 0, .int .i64 0, .slice none 0 0, .slice none 0 0, .int .i64 0, .int .i64 0, .slice none 0 0]) (s := 40) (w1 := W0) (by rw [hW0]; exact Below.refl _ _)
  have hs0 : w.heap.size + 2 ≤ W0.heap.size := by rw [hW0]; simp
  have X := hid X0
  have RR := hid X1
  have B := hid B0
  clear X0 X1 B0
  have hpp := hid hp
  clear hp
  go_enter Tryz.func8, Tryz.ntmps8
  repeat ((fail_if_success (with_reducible show Code.wp _ (Code.region 1 _ _) _ _ _)); (first | go_values | go_skip | go_guarded | go_step | go_upon | go_back | go_simp))
  rw [← hW0]
  clear hW0
  have y0 := (box_cell X.out 0 (v := .int .i64 i) rfl)
  have y1 := (box_cell X.out 1 (v := .int .i64 t) rfl)
  have y2 := (box_cell X.out 2 (v := .int .i64 s) rfl)
  have y3 := (box_cell X.out 3 (v := .string nm) rfl)
  have y4 := (box_cell X.out 4 (v := .int .i64 ed) rfl)
  have y5 := (box_cell X.out 5 (v := .int .i64 L) rfl)
  have y6 := (box_cell X.out 6 (v := .int .i64 S) rfl)
  have y7 := (box_cell X.out 7 (v := .slice a1 ws.length c1) rfl)
  have y8 := (box_cell X.out 8 (v := .slice a2 gs.length c2) rfl)
  have y9 := (box_cell X.out 9 (v := .int .i64 C) rfl)
  have y10 := (box_cell X.out 10 (v := .int .i64 Z) rfl)
  have y11 := (box_cell X.out 11 (v := .slice a es.length cap) rfl)
  go_wp2_with fail
  refine (specCli_any i t s ed nm L S a1 a2 c1 c2 ws gs C Z a cap es _ (HA.out.below B.out).i1 (HA.out.below B.out).i2 hx hy (HA.out.below B.out).eq hl HS.out hnm).mono ?_
  rintro e w1 ⟨rfl, b1⟩
  rw [HP.out]
  have hs1 := b1.size
  have X := hid (kept X.out b1)
  have RR := hid (kept RR.out b1)
  have B := hid (u_cat B.out b1)
  clear b1 y0 y1 y2 y3 y4 y5 y6 y7 y8 y9 y10 y11
  have y0 := (box_cell X.out 0 (v := .int .i64 i) rfl)
  have y1 := (box_cell X.out 1 (v := .int .i64 t) rfl)
  have y2 := (box_cell X.out 2 (v := .int .i64 s) rfl)
  have y3 := (box_cell X.out 3 (v := .string nm) rfl)
  have y4 := (box_cell X.out 4 (v := .int .i64 ed) rfl)
  have y5 := (box_cell X.out 5 (v := .int .i64 L) rfl)
  have y6 := (box_cell X.out 6 (v := .int .i64 S) rfl)
  have y7 := (box_cell X.out 7 (v := .slice a1 ws.length c1) rfl)
  have y8 := (box_cell X.out 8 (v := .slice a2 gs.length c2) rfl)
  have y9 := (box_cell X.out 9 (v := .int .i64 C) rfl)
  have y10 := (box_cell X.out 10 (v := .int .i64 Z) rfl)
  have y11 := (box_cell X.out 11 (v := .slice a es.length cap) rfl)
  repeat ((fail_if_success (with_reducible show Code.wp _ (Code.region 6 _ _) _ _ _)); (first | (go_at_call 25; refine (specNameOk name _ (by unfold maxLen; omega)).mono ?_; rintro e wa ⟨rfl, hq⟩; replace hq := hq.symm; subst hq; rw [HN.out]) | go_values | go_skip | go_guarded | go_step | go_upon | go_back | go_simp))
  obtain ⟨g, hg⟩ : ∃ g, g = w1.heap.size := ⟨_, rfl⟩
  obtain ⟨V2, hV2⟩ : ∃ V2, V2 = w1.alloc (.cells #[.int .i64 i, .int .i64 (t + 1), .int .i64 1, .string name, .int .i64 0, .int .i64 0, .int .i64 0, .slice none 0 0, .slice none 0 0, .int .i64 0, .int .i64 0, .slice none 0 0] 40) := ⟨_, rfl⟩
  have NN := hid (show V2.heap[g]? = some (.cells #[.int .i64 i, .int .i64 (t + 1), .int .i64 1, .string name, .int .i64 0, .int .i64 0, .int .i64 0, .slice none 0 0, .slice none 0 0, .int .i64 0, .int .i64 0, .slice none 0 0] 40 (0, 0)) by rw [hV2, hg]; exact laid _ _ _)
  have bb : Below w1.heap.size w1 V2 := by rw [hV2]; exact u_b1 _ _
  have RR := hid (kept RR.out bb)
  have B := hid (u_cat B.out bb)
  have hs2 := bb.size
  rw [← hV2, ← hg]
  clear hV2 bb hg y0 y1 y2 y3 y4 y5 y6 y7 y8 y9 y10 y11
  have n0 := cell_regrown (box_cell NN.out 0 (v := .int .i64 i) rfl)
  have n1 := cell_regrown (box_cell NN.out 1 (v := .int .i64 (t + 1)) rfl)
  have n2 := cell_regrown (box_cell NN.out 2 (v := .int .i64 1) rfl)
  have n3 := cell_regrown (box_cell NN.out 3 (v := .string name) rfl)
  have n4 := cell_regrown (box_cell NN.out 4 (v := .int .i64 0) rfl)
  have n5 := cell_regrown (box_cell NN.out 5 (v := .int .i64 0) rfl)
  have n6 := cell_regrown (box_cell NN.out 6 (v := .int .i64 0) rfl)
  have n7 := cell_regrown (box_cell NN.out 7 (v := .slice none 0 0) rfl)
  have n8 := cell_regrown (box_cell NN.out 8 (v := .slice none 0 0) rfl)
  have n9 := cell_regrown (box_cell NN.out 9 (v := .int .i64 0) rfl)
  have n10 := cell_regrown (box_cell NN.out 10 (v := .int .i64 0) rfl)
  have n11 := cell_regrown (box_cell NN.out 11 (v := .slice none 0 0) rfl)
  refine wp_planz 3 (.pull [(0, 2)] (.step 2 (.step 3 (.step 4 .done)))) (by kernel_rfl) (by kernel_rfl) ?_
  intro V0 hw0
  have hbq := of_class hw0
  refine plz_pull ?_
  simp only [cutOut, List.take_succ_cons, List.take_zero, List.drop_zero, List.append_nil]
  repeat (first | go_big_quiet_step (fail) | quiet_step (fail))
  try refine wpQuiet_nil ?_
  clear n0 n1 n2 n3 n4 n5 n6 n7 n8 n9 n10 n11 hw0
  refine plz_step rfl (by omega) (fun K hK => ?_)
  go_simp
  with_reducible refine (l13Asks_any i (t + 1) 1 0 name 0 0 0 0 none none none 0 0 0 0 0 0 V0).mono ?_
  rintro _ w2 ⟨v, rfl, hv, b2⟩
  refine hK _ _ (class_of (u_cat hbq b2)) ?_
  clear hK K
  have b3 := u_cat hbq b2
  have RR := hid (kept RR.out b3)
  have WW := hid (hv.mono (lo' := w.heap.size + 2) (by have := hbq.size; omega))
  have B := hid (u_cat B.out b3)
  clear hv b2 b3 hbq X NN
  have r0 := (box_cell RR.out 0 (v := .int .i64 0) rfl)
  have r1 := (box_cell RR.out 1 (v := .int .i64 0) rfl)
  have r2 := (box_cell RR.out 2 (v := .int .i64 0) rfl)
  have r3 := (box_cell RR.out 3 (v := .string ⟨#[]⟩) rfl)
  have r4 := (box_cell RR.out 4 (v := .int .i64 0) rfl)
  have r5 := (box_cell RR.out 5 (v := .int .i64 0) rfl)
  have r6 := (box_cell RR.out 6 (v := .int .i64 0) rfl)
  have r7 := (box_cell RR.out 7 (v := .slice none 0 0) rfl)
  have r8 := (box_cell RR.out 8 (v := .slice none 0 0) rfl)
  have r9 := (box_cell RR.out 9 (v := .int .i64 0) rfl)
  have r10 := (box_cell RR.out 10 (v := .int .i64 0) rfl)
  have r11 := (box_cell RR.out 11 (v := .slice none 0 0) rfl)
  have zf := box_frozen RR.out
  refine plz_last rfl (by omega) (fun K hK => ?_)
  go_simp
  refine hK _ _ ?_
  clear hK K
  refine plz_last rfl (by omega) (fun K hK => ?_)
  go_simp
  refine hK _ _ ?_
  clear hK K
  refine plz_done ?_
  clear r0 r1 r2 r3 r4 r5 r6 r7 r8 r9 r10 r11 zf
  obtain ⟨V5, hV5⟩ : ∃ V5, V5 = ((((((((((((w2.setCell ⟨w.heap.size + 1, 0, none⟩ (.int .i64 i)).setCell ⟨w.heap.size + 1, 1, none⟩ (.int .i64 (t + 1))).setCell ⟨w.heap.size + 1, 2, none⟩ (.int .i64 1)).setCell ⟨w.heap.size + 1, 3, none⟩ (.string name)).setCell ⟨w.heap.size + 1, 4, none⟩ (.int .i64 0)).setCell ⟨w.heap.size + 1, 5, none⟩ (.int .i64 0)).setCell ⟨w.heap.size + 1, 6, none⟩ (.int .i64 0)).setCell ⟨w.heap.size + 1, 7, none⟩ (.slice none 0 0)).setCell ⟨w.heap.size + 1, 8, none⟩ (.slice none 0 0)).setCell ⟨w.heap.size + 1, 9, none⟩ (.int .i64 0)).setCell ⟨w.heap.size + 1, 10, none⟩ (.int .i64 0)).setCell ⟨w.heap.size + 1, 11, none⟩ (.slice none 0 0)) := ⟨_, rfl⟩
  have hq : V5 = setsC w2 (w.heap.size + 1) [.int .i64 i, .int .i64 (t + 1), .int .i64 1, .string name, .int .i64 0, .int .i64 0, .int .i64 0, .slice none 0 0, .slice none 0 0, .int .i64 0, .int .i64 0, .slice none 0 0] 0 := hV5
  have R5 := (show V5.heap[w.heap.size + 1]? = some (.cells #[.int .i64 i, .int .i64 (t + 1), .int .i64 1, .string name, .int .i64 0, .int .i64 0, .int .i64 0, .slice none 0 0, .slice none 0 0, .int .i64 0, .int .i64 0, .slice none 0 0] 40 (0, 0)) by rw [hq, sets_block [.int .i64 i, .int .i64 (t + 1), .int .i64 1, .string name, .int .i64 0, .int .i64 0, .int .i64 0, .slice none 0 0, .slice none 0 0, .int .i64 0, .int .i64 0, .slice none 0 0] 0 w2 _ RR.out]; simp [setsA])
  have B5 : Below w.heap.size w V5 := by rw [hq]; exact sets_below (by omega) _ _ _ B.out
  have hz5 : w2.heap.size ≤ V5.heap.size := by rw [hq]; exact sets_size _ _ _ _
  have W5 : WsAt V5 (w.heap.size + 2) v (some ⟨1, i, (t + 1), 0, 0, name, ⟨#[]⟩⟩) := by rw [hq]; exact ws_sets (by omega) _ _ _ WW.out
  rw [← hV5]
  clear hV5 hq
  go_wp2_with fail
  have y0 := box_cell R5 0 (v := .int .i64 i) rfl
  have y1 := box_cell R5 1 (v := .int .i64 (t + 1)) rfl
  have y2 := box_cell R5 2 (v := .int .i64 1) rfl
  have y3 := box_cell R5 3 (v := .string name) rfl
  have y4 := box_cell R5 4 (v := .int .i64 0) rfl
  have y5 := box_cell R5 5 (v := .int .i64 0) rfl
  have y6 := box_cell R5 6 (v := .int .i64 0) rfl
  have y7 := box_cell R5 7 (v := .slice none 0 0) rfl
  have y8 := box_cell R5 8 (v := .slice none 0 0) rfl
  have y9 := box_cell R5 9 (v := .int .i64 0) rfl
  have y10 := box_cell R5 10 (v := .int .i64 0) rfl
  have y11 := box_cell R5 11 (v := .slice none 0 0) rfl
  refine bodyPost_ret (v := .tuple #[.agg #[.int .i64 i, .int .i64 (t + 1), .int .i64 1, .string name, .int .i64 0, .int .i64 0, .int .i64 0, .slice none 0 0, .slice none 0 0, .int .i64 0, .int .i64 0, .slice none 0 0], v]) ?_ rfl ⟨cliO_nil B5 (W5.mono (by omega)), B5⟩
  unfold results; rw [Tryz.results8]; simp [go_sem, y0, y1, y2, y3, y4, y5, y6, y7, y8, y9, y10, y11]
set_option maxHeartbeats 8000000 in
set_option maxRecDepth 100000 in
theorem implOpen_new (i t s ed : Int) (nm : ByteArray) (L S : Int) (a1 a2 : Option Addr) (c1 c2 : Nat) (ws gs : List Int) (C Z : Int) (a : Option Addr) (cap : Nat) (es : List EqV) (w : World) (name : ByteArray) (hA : GAt w a1 a2 a ws gs es) (hx : ws.length ≤ 1048576) (hy : gs.length ≤ 1048576) (hl : es.length ≤ 1048576) (hsm : SmallE es) (hnm : nm.size ≤ maxLen) (hnl : name.size ≤ 1048576) (hT : Tab w) (hp : cliP i t s ed nm (nonP L S ws.length gs.length C Z es.length) (getP L S ws gs C Z es) (getP L S ws gs C Z es ∧ (es.length : Int) = C)) (ht : t < 99999) (hn : nameB name = true) :
    Calls Tryz.prog 10 #[.agg #[.int .i64 i, .int .i64 t, .int .i64 s, .string nm, .int .i64 ed, .int .i64 L, .int .i64 S, .slice a1 ws.length c1, .slice a2 gs.length c2, .int .i64 C, .int .i64 Z, .slice a es.length cap], .string name] w fun e w' => CliO w' w.heap.size i (t + 1) 1 0 name 0 0 0 0 [] [] [] (some ⟨1, i, (t + 1), 0, 0, name, ⟨#[]⟩⟩) true e ∧ Below w.heap.size w w' := by
  have HP := hid (decide_eq_true hp)
  have hn6 := cli_name hp
  have ht0 := hp.2.1
  have HN := hid hn
  have hn9 := name_le hn
  have bt9 : (t == 99999) = false := beq_eq_false_iff_ne.2 (by omega)
  have HA := hid hA
  have HS := hid hsm
  have HT := hid hT
  clear hA hsm hT
  obtain ⟨W0, hW0⟩ : ∃ W0, W0 = (w.alloc (.cells #[.int .i64 i, .int .i64 t, .int .i64 s, .string nm, .int .i64 ed, .int .i64 L, .int .i64 S, .slice a1 ws.length c1, .slice a2 gs.length c2, .int .i64 C, .int .i64 Z, .slice a es.length cap] 40)).alloc (.cells #[.int .i64 0, .int .i64 0, .int .i64 0, .string ⟨#[]⟩, .int .i64 0, .int .i64 0, .int .i64 0, .slice none 0 0, .slice none 0 0, .int .i64 0, .int .i64 0, .slice none 0 0] 40) := ⟨_, rfl⟩
  obtain ⟨X0, X1, B0⟩ := u_box2 (w := w) (c := #[.int .i64 i, .int .i64 t, .int .i64 s, .string nm, .int .i64 ed, .int .i64 L, .int .i64 S, .slice a1 ws.length c1, .slice a2 gs.length c2, .int .i64 C, .int .i64 Z, .slice a es.length cap]) (t := 40) (d := #[.int .i64 0, .int .i64 0, .int .i64 0, .string ⟨#[]⟩, .int .i64 0, .int .i64 0, .int .i64 0, .slice none 0 0, .slice none 0 0, .int .i64 0, .int .i64 0, .slice none 0 0]) (s := 40) (w1 := W0) (by rw [hW0]; exact Below.refl _ _)
  have hs0 : w.heap.size + 2 ≤ W0.heap.size := by rw [hW0]; simp
  have X := hid X0
  have RR := hid X1
  have B := hid B0
  clear X0 X1 B0
  have hpp := hid hp
  clear hp
  go_enter Tryz.func10, Tryz.ntmps10
  repeat ((fail_if_success (with_reducible show Code.wp _ (Code.region 1 _ _) _ _ _)); (first | go_values | go_skip | go_guarded | go_step | go_upon | go_back | go_simp))
  rw [← hW0]
  clear hW0
  have y0 := (box_cell X.out 0 (v := .int .i64 i) rfl)
  have y1 := (box_cell X.out 1 (v := .int .i64 t) rfl)
  have y2 := (box_cell X.out 2 (v := .int .i64 s) rfl)
  have y3 := (box_cell X.out 3 (v := .string nm) rfl)
  have y4 := (box_cell X.out 4 (v := .int .i64 ed) rfl)
  have y5 := (box_cell X.out 5 (v := .int .i64 L) rfl)
  have y6 := (box_cell X.out 6 (v := .int .i64 S) rfl)
  have y7 := (box_cell X.out 7 (v := .slice a1 ws.length c1) rfl)
  have y8 := (box_cell X.out 8 (v := .slice a2 gs.length c2) rfl)
  have y9 := (box_cell X.out 9 (v := .int .i64 C) rfl)
  have y10 := (box_cell X.out 10 (v := .int .i64 Z) rfl)
  have y11 := (box_cell X.out 11 (v := .slice a es.length cap) rfl)
  go_wp2_with fail
  refine (implCli_any i t s ed nm L S a1 a2 c1 c2 ws gs C Z a cap es _ (HA.out.below B.out).i1 (HA.out.below B.out).i2 hx hy (HA.out.below B.out).eq hl HS.out hnm (HT.out.below B.out)).mono ?_
  rintro e w1 ⟨rfl, b1⟩
  rw [HP.out]
  have hs1 := b1.size
  have X := hid (kept X.out b1)
  have RR := hid (kept RR.out b1)
  have B := hid (u_cat B.out b1)
  clear b1 y0 y1 y2 y3 y4 y5 y6 y7 y8 y9 y10 y11
  have y0 := (box_cell X.out 0 (v := .int .i64 i) rfl)
  have y1 := (box_cell X.out 1 (v := .int .i64 t) rfl)
  have y2 := (box_cell X.out 2 (v := .int .i64 s) rfl)
  have y3 := (box_cell X.out 3 (v := .string nm) rfl)
  have y4 := (box_cell X.out 4 (v := .int .i64 ed) rfl)
  have y5 := (box_cell X.out 5 (v := .int .i64 L) rfl)
  have y6 := (box_cell X.out 6 (v := .int .i64 S) rfl)
  have y7 := (box_cell X.out 7 (v := .slice a1 ws.length c1) rfl)
  have y8 := (box_cell X.out 8 (v := .slice a2 gs.length c2) rfl)
  have y9 := (box_cell X.out 9 (v := .int .i64 C) rfl)
  have y10 := (box_cell X.out 10 (v := .int .i64 Z) rfl)
  have y11 := (box_cell X.out 11 (v := .slice a es.length cap) rfl)
  repeat ((fail_if_success (with_reducible show Code.wp _ (Code.region 5 _ _) _ _ _)); (first | (go_at_call 30; refine (implNameOk name _ (by unfold maxLen; omega)).mono ?_; rintro e wa ⟨rfl, hq⟩; replace hq := hq.symm; subst hq; rw [HN.out]) | go_values | go_skip | go_guarded | go_step | go_upon | go_back | go_simp))
  clear y0 y1 y2 y3 y4 y5 y6 y7 y8 y9 y10 y11
  have y0 := cell_regrown (box_cell X.out 0 (v := .int .i64 i) rfl)
  have y1 := cell_regrown (box_cell X.out 1 (v := .int .i64 t) rfl)
  have y2 := cell_regrown (box_cell X.out 2 (v := .int .i64 s) rfl)
  have y3 := cell_regrown (box_cell X.out 3 (v := .string nm) rfl)
  have y4 := cell_regrown (box_cell X.out 4 (v := .int .i64 ed) rfl)
  have y5 := cell_regrown (box_cell X.out 5 (v := .int .i64 L) rfl)
  have y6 := cell_regrown (box_cell X.out 6 (v := .int .i64 S) rfl)
  have y7 := cell_regrown (box_cell X.out 7 (v := .slice a1 ws.length c1) rfl)
  have y8 := cell_regrown (box_cell X.out 8 (v := .slice a2 gs.length c2) rfl)
  have y9 := cell_regrown (box_cell X.out 9 (v := .int .i64 C) rfl)
  have y10 := cell_regrown (box_cell X.out 10 (v := .int .i64 Z) rfl)
  have y11 := cell_regrown (box_cell X.out 11 (v := .slice a es.length cap) rfl)
  refine wp_planz 8 (.pull [(0, 5)] (.fork 5 (.pull [(6, 1)] (.step 7 (.step 8 .done))) 7 (.step 5 (.pull [(6, 1)] (.step 8 .done))))) (by kernel_rfl) (by kernel_rfl) ?_
  intro V0 hw0
  have hbq := of_class hw0
  refine plz_pull ?_
  simp only [cutOut, List.take_succ_cons, List.take_zero, List.drop_zero, List.append_nil]
  repeat (first | go_big_quiet_step (fail) | quiet_step (fail))
  try refine wpQuiet_nil ?_
  clear y0 y1 y2 y3 y4 y5 y6 y7 y8 y9 y10 y11 hw0
  refine plz_fork ?_ ?_
  · skip
    refine plz_step rfl (by omega) (fun K hK => ?_)
    go_simp
    with_reducible refine (clone_all name V0 (by omega)).mono ?_
    rintro _ w2 ⟨rfl, b2⟩
    refine hK _ _ (class_of (u_cat hbq b2)) ?_
    clear hK K
    refine plz_pull ?_
    simp only [cutOut, List.take_succ_cons, List.take_zero, List.drop_succ_cons, List.drop_zero, List.append_nil]
    repeat (first | go_big_quiet_step (fail) | quiet_step (fail))
    try refine wpQuiet_nil ?_
    refine plz_step rfl (by omega) (fun K hK => ?_)
    go_simp
    refine hK _ _ (class_of (u_cat (u_cat hbq b2) (u_b1 _ _))) ?_
    clear hK K
    obtain ⟨V1, hV1⟩ : ∃ V1, V1 = w2.alloc (.cells #[.int .i64 0, .int .i64 0, .int .i64 0, .string ⟨#[]⟩, .int .i64 0, .int .i64 0, .int .i64 0, .slice none 0 0, .slice none 0 0, .int .i64 0, .int .i64 0, .slice none 0 0] 40) := ⟨_, rfl⟩
    obtain ⟨g, hg⟩ : ∃ g, g = w2.heap.size := ⟨_, rfl⟩
    have NN := hid (show V1.heap[g]? = some (.cells #[.int .i64 0, .int .i64 0, .int .i64 0, .string ⟨#[]⟩, .int .i64 0, .int .i64 0, .int .i64 0, .slice none 0 0, .slice none 0 0, .int .i64 0, .int .i64 0, .slice none 0 0] 40 (0, 0)) by rw [hV1, hg]; exact laid _ _ _)
    have bt : Below V0.heap.size V0 V1 := by rw [hV1]; exact u_cat b2 (u_b1 _ _)
    have hg0 : V0.heap.size ≤ g := by rw [hg]; exact b2.size
    rw [← hV1, ← hg]
    clear hV1 hg b2
    have X := hid (kept X.out (u_cat hbq bt))
    have RR := hid (kept RR.out (u_cat hbq bt))
    have B := hid (u_cat B.out (u_cat hbq bt))
    have hsg : w.heap.size + 2 ≤ g := by have := hbq.size; omega
    have hsV := lt_of_block NN.out
    clear bt hbq hg0
    have r0 := (box_cell NN.out 0 (v := .int .i64 0) rfl)
    have r1 := (box_cell NN.out 1 (v := .int .i64 0) rfl)
    have r2 := (box_cell NN.out 2 (v := .int .i64 0) rfl)
    have r3 := (box_cell NN.out 3 (v := .string ⟨#[]⟩) rfl)
    have r4 := (box_cell NN.out 4 (v := .int .i64 0) rfl)
    have r5 := (box_cell NN.out 5 (v := .int .i64 0) rfl)
    have r6 := (box_cell NN.out 6 (v := .int .i64 0) rfl)
    have r7 := (box_cell NN.out 7 (v := .slice none 0 0) rfl)
    have r8 := (box_cell NN.out 8 (v := .slice none 0 0) rfl)
    have r9 := (box_cell NN.out 9 (v := .int .i64 0) rfl)
    have r10 := (box_cell NN.out 10 (v := .int .i64 0) rfl)
    have r11 := (box_cell NN.out 11 (v := .slice none 0 0) rfl)
    have zf := box_frozen NN.out
    refine plz_last rfl (by omega) (fun K hK => ?_)
    go_simp
    refine hK _ _ ?_
    clear hK K
    refine plz_done ?_
    clear r0 r1 r2 r3 r4 r5 r6 r7 r8 r9 r10 r11 zf
    obtain ⟨V2, hV2⟩ : ∃ V2, V2 = ((((((((((((V1.setCell ⟨g, 0, none⟩ (.int .i64 i)).setCell ⟨g, 1, none⟩ (.int .i64 t)).setCell ⟨g, 2, none⟩ (.int .i64 0)).setCell ⟨g, 3, none⟩ (.string name)).setCell ⟨g, 4, none⟩ (.int .i64 0)).setCell ⟨g, 5, none⟩ (.int .i64 0)).setCell ⟨g, 6, none⟩ (.int .i64 0)).setCell ⟨g, 7, none⟩ (.slice none 0 0)).setCell ⟨g, 8, none⟩ (.slice none 0 0)).setCell ⟨g, 9, none⟩ (.int .i64 0)).setCell ⟨g, 10, none⟩ (.int .i64 0)).setCell ⟨g, 11, none⟩ (.slice none 0 0)) := ⟨_, rfl⟩
    have hq : V2 = setsC V1 g [.int .i64 i, .int .i64 t, .int .i64 0, .string name, .int .i64 0, .int .i64 0, .int .i64 0, .slice none 0 0, .slice none 0 0, .int .i64 0, .int .i64 0, .slice none 0 0] 0 := hV2
    have NN := hid (show V2.heap[g]? = some (.cells #[.int .i64 i, .int .i64 t, .int .i64 0, .string name, .int .i64 0, .int .i64 0, .int .i64 0, .slice none 0 0, .slice none 0 0, .int .i64 0, .int .i64 0, .slice none 0 0] 40 (0, 0)) by rw [hq, sets_block [.int .i64 i, .int .i64 t, .int .i64 0, .string name, .int .i64 0, .int .i64 0, .int .i64 0, .slice none 0 0, .slice none 0 0, .int .i64 0, .int .i64 0, .slice none 0 0] 0 V1 _ NN.out]; simp [setsA])
    have X := hid (show V2.heap[w.heap.size]? = some (.cells #[.int .i64 i, .int .i64 t, .int .i64 s, .string nm, .int .i64 ed, .int .i64 L, .int .i64 S, .slice a1 ws.length c1, .slice a2 gs.length c2, .int .i64 C, .int .i64 Z, .slice a es.length cap] 40 (0, 0)) by rw [hq]; exact sets_other (by omega) _ _ _ X.out)
    have RR := hid (show V2.heap[w.heap.size + 1]? = some (.cells #[.int .i64 0, .int .i64 0, .int .i64 0, .string ⟨#[]⟩, .int .i64 0, .int .i64 0, .int .i64 0, .slice none 0 0, .slice none 0 0, .int .i64 0, .int .i64 0, .slice none 0 0] 40 (0, 0)) by rw [hq]; exact sets_other (by omega) _ _ _ RR.out)
    have B := hid (show Below w.heap.size w V2 by rw [hq]; exact sets_below (by omega) _ _ _ B.out)
    have hs2 : w.heap.size + 2 ≤ V2.heap.size := by have := lt_of_block NN.out; omega
    rw [← hV2]
    clear hV2 hq hsV
    have n0 := (box_cell NN.out 0 (v := .int .i64 i) rfl)
    have n1 := (box_cell NN.out 1 (v := .int .i64 t) rfl)
    have n2 := (box_cell NN.out 2 (v := .int .i64 0) rfl)
    have n3 := (box_cell NN.out 3 (v := .string name) rfl)
    have n4 := (box_cell NN.out 4 (v := .int .i64 0) rfl)
    have n5 := (box_cell NN.out 5 (v := .int .i64 0) rfl)
    have n6 := (box_cell NN.out 6 (v := .int .i64 0) rfl)
    have n7 := (box_cell NN.out 7 (v := .slice none 0 0) rfl)
    have n8 := (box_cell NN.out 8 (v := .slice none 0 0) rfl)
    have n9 := (box_cell NN.out 9 (v := .int .i64 0) rfl)
    have n10 := (box_cell NN.out 10 (v := .int .i64 0) rfl)
    have n11 := (box_cell NN.out 11 (v := .slice none 0 0) rfl)
    go_wp2_with fail
    refine (askAnew_any i t 0 0 name 0 0 0 0 none none none 0 0 0 0 0 0 _ (by omega) (by omega) (by omega)).mono ?_
    rintro _ w3 ⟨v, rfl, hv, b3⟩
    have WW := hid (hv.mono (lo' := w.heap.size + 2) hs2)
    have RR := hid (kept RR.out b3)
    have B := hid (u_cat B.out b3)
    clear hv b3 X NN n0 n1 n2 n3 n4 n5 n6 n7 n8 n9 n10 n11
    have r0 := (box_cell RR.out 0 (v := .int .i64 0) rfl)
    have r1 := (box_cell RR.out 1 (v := .int .i64 0) rfl)
    have r2 := (box_cell RR.out 2 (v := .int .i64 0) rfl)
    have r3 := (box_cell RR.out 3 (v := .string ⟨#[]⟩) rfl)
    have r4 := (box_cell RR.out 4 (v := .int .i64 0) rfl)
    have r5 := (box_cell RR.out 5 (v := .int .i64 0) rfl)
    have r6 := (box_cell RR.out 6 (v := .int .i64 0) rfl)
    have r7 := (box_cell RR.out 7 (v := .slice none 0 0) rfl)
    have r8 := (box_cell RR.out 8 (v := .slice none 0 0) rfl)
    have r9 := (box_cell RR.out 9 (v := .int .i64 0) rfl)
    have r10 := (box_cell RR.out 10 (v := .int .i64 0) rfl)
    have r11 := (box_cell RR.out 11 (v := .slice none 0 0) rfl)
    have zf := box_frozen RR.out
    have lr := lt_of_block RR.out
    go_wp2_with fail
    clear r0 r1 r2 r3 r4 r5 r6 r7 r8 r9 r10 r11 zf lr
    obtain ⟨V5, hV5⟩ : ∃ V5, V5 = ((((((((((((w3.setCell ⟨w.heap.size + 1, 0, none⟩ (.int .i64 i)).setCell ⟨w.heap.size + 1, 1, none⟩ (.int .i64 (t + 1))).setCell ⟨w.heap.size + 1, 2, none⟩ (.int .i64 1)).setCell ⟨w.heap.size + 1, 3, none⟩ (.string name)).setCell ⟨w.heap.size + 1, 4, none⟩ (.int .i64 0)).setCell ⟨w.heap.size + 1, 5, none⟩ (.int .i64 0)).setCell ⟨w.heap.size + 1, 6, none⟩ (.int .i64 0)).setCell ⟨w.heap.size + 1, 7, none⟩ (.slice none 0 0)).setCell ⟨w.heap.size + 1, 8, none⟩ (.slice none 0 0)).setCell ⟨w.heap.size + 1, 9, none⟩ (.int .i64 0)).setCell ⟨w.heap.size + 1, 10, none⟩ (.int .i64 0)).setCell ⟨w.heap.size + 1, 11, none⟩ (.slice none 0 0)) := ⟨_, rfl⟩
    have hq : V5 = setsC w3 (w.heap.size + 1) [.int .i64 i, .int .i64 (t + 1), .int .i64 1, .string name, .int .i64 0, .int .i64 0, .int .i64 0, .slice none 0 0, .slice none 0 0, .int .i64 0, .int .i64 0, .slice none 0 0] 0 := hV5
    have R5 := (show V5.heap[w.heap.size + 1]? = some (.cells #[.int .i64 i, .int .i64 (t + 1), .int .i64 1, .string name, .int .i64 0, .int .i64 0, .int .i64 0, .slice none 0 0, .slice none 0 0, .int .i64 0, .int .i64 0, .slice none 0 0] 40 (0, 0)) by rw [hq, sets_block [.int .i64 i, .int .i64 (t + 1), .int .i64 1, .string name, .int .i64 0, .int .i64 0, .int .i64 0, .slice none 0 0, .slice none 0 0, .int .i64 0, .int .i64 0, .slice none 0 0] 0 w3 _ RR.out]; simp [setsA])
    have B5 : Below w.heap.size w V5 := by rw [hq]; exact sets_below (by omega) _ _ _ B.out
    have hz5 : w3.heap.size ≤ V5.heap.size := by rw [hq]; exact sets_size _ _ _ _
    have W5 : WsAt V5 (w.heap.size + 2) v (some ⟨1, i, (t + 1), 0, 0, name, ⟨#[]⟩⟩) := by rw [hq]; exact ws_sets (by omega) _ _ _ WW.out
    rw [← hV5]
    clear hV5 hq
    have y0 := box_cell R5 0 (v := .int .i64 i) rfl
    have y1 := box_cell R5 1 (v := .int .i64 (t + 1)) rfl
    have y2 := box_cell R5 2 (v := .int .i64 1) rfl
    have y3 := box_cell R5 3 (v := .string name) rfl
    have y4 := box_cell R5 4 (v := .int .i64 0) rfl
    have y5 := box_cell R5 5 (v := .int .i64 0) rfl
    have y6 := box_cell R5 6 (v := .int .i64 0) rfl
    have y7 := box_cell R5 7 (v := .slice none 0 0) rfl
    have y8 := box_cell R5 8 (v := .slice none 0 0) rfl
    have y9 := box_cell R5 9 (v := .int .i64 0) rfl
    have y10 := box_cell R5 10 (v := .int .i64 0) rfl
    have y11 := box_cell R5 11 (v := .slice none 0 0) rfl
    refine bodyPost_ret (v := .tuple #[.agg #[.int .i64 i, .int .i64 (t + 1), .int .i64 1, .string name, .int .i64 0, .int .i64 0, .int .i64 0, .slice none 0 0, .slice none 0 0, .int .i64 0, .int .i64 0, .slice none 0 0], v]) ?_ rfl ⟨cliO_nil B5 (W5.mono (by omega)), B5⟩
    unfold results; rw [Tryz.results10]; simp [go_sem, y0, y1, y2, y3, y4, y5, y6, y7, y8, y9, y10, y11]
  · skip
    refine plz_step rfl (by omega) (fun K hK => ?_)
    go_simp
    refine hK _ _ (class_of (u_cat hbq (u_b1 _ _))) ?_
    clear hK K
    obtain ⟨U1, hU1⟩ : ∃ V1, V1 = V0.alloc (.cells #[.int .i64 0, .int .i64 0, .int .i64 0, .string ⟨#[]⟩, .int .i64 0, .int .i64 0, .int .i64 0, .slice none 0 0, .slice none 0 0, .int .i64 0, .int .i64 0, .slice none 0 0] 40) := ⟨_, rfl⟩
    obtain ⟨g, hg⟩ : ∃ g, g = V0.heap.size := ⟨_, rfl⟩
    have NN := hid (show U1.heap[g]? = some (.cells #[.int .i64 0, .int .i64 0, .int .i64 0, .string ⟨#[]⟩, .int .i64 0, .int .i64 0, .int .i64 0, .slice none 0 0, .slice none 0 0, .int .i64 0, .int .i64 0, .slice none 0 0] 40 (0, 0)) by rw [hU1, hg]; exact laid _ _ _)
    have bt : Below V0.heap.size V0 U1 := by rw [hU1]; exact u_b1 _ _
    have hg0 : V0.heap.size ≤ g := by omega
    rw [← hU1, ← hg]
    clear hU1 hg
    refine plz_step rfl (by omega) (fun K hK => ?_)
    go_simp
    with_reducible refine (clone_all name U1 (by omega)).mono ?_
    rintro _ V1 ⟨rfl, b2⟩
    refine hK _ _ (class_of (u_cat (u_cat hbq bt) b2)) ?_
    clear hK K
    have NN := hid (kept NN.out b2)
    have bt := u_cat bt b2
    clear b2
    refine plz_pull ?_
    simp only [cutOut, List.take_succ_cons, List.take_zero, List.drop_succ_cons, List.drop_zero, List.append_nil]
    repeat (first | go_big_quiet_step (fail) | quiet_step (fail))
    try refine wpQuiet_nil ?_
    have X := hid (kept X.out (u_cat hbq bt))
    have RR := hid (kept RR.out (u_cat hbq bt))
    have B := hid (u_cat B.out (u_cat hbq bt))
    have hsg : w.heap.size + 2 ≤ g := by have := hbq.size; omega
    have hsV := lt_of_block NN.out
    clear bt hbq hg0
    have r0 := (box_cell NN.out 0 (v := .int .i64 0) rfl)
    have r1 := (box_cell NN.out 1 (v := .int .i64 0) rfl)
    have r2 := (box_cell NN.out 2 (v := .int .i64 0) rfl)
    have r3 := (box_cell NN.out 3 (v := .string ⟨#[]⟩) rfl)
    have r4 := (box_cell NN.out 4 (v := .int .i64 0) rfl)
    have r5 := (box_cell NN.out 5 (v := .int .i64 0) rfl)
    have r6 := (box_cell NN.out 6 (v := .int .i64 0) rfl)
    have r7 := (box_cell NN.out 7 (v := .slice none 0 0) rfl)
    have r8 := (box_cell NN.out 8 (v := .slice none 0 0) rfl)
    have r9 := (box_cell NN.out 9 (v := .int .i64 0) rfl)
    have r10 := (box_cell NN.out 10 (v := .int .i64 0) rfl)
    have r11 := (box_cell NN.out 11 (v := .slice none 0 0) rfl)
    have zf := box_frozen NN.out
    refine plz_last rfl (by omega) (fun K hK => ?_)
    go_simp
    refine hK _ _ ?_
    clear hK K
    refine plz_done ?_
    clear r0 r1 r2 r3 r4 r5 r6 r7 r8 r9 r10 r11 zf
    obtain ⟨V2, hV2⟩ : ∃ V2, V2 = ((((((((((((V1.setCell ⟨g, 0, none⟩ (.int .i64 i)).setCell ⟨g, 1, none⟩ (.int .i64 t)).setCell ⟨g, 2, none⟩ (.int .i64 0)).setCell ⟨g, 3, none⟩ (.string name)).setCell ⟨g, 4, none⟩ (.int .i64 0)).setCell ⟨g, 5, none⟩ (.int .i64 0)).setCell ⟨g, 6, none⟩ (.int .i64 0)).setCell ⟨g, 7, none⟩ (.slice none 0 0)).setCell ⟨g, 8, none⟩ (.slice none 0 0)).setCell ⟨g, 9, none⟩ (.int .i64 0)).setCell ⟨g, 10, none⟩ (.int .i64 0)).setCell ⟨g, 11, none⟩ (.slice none 0 0)) := ⟨_, rfl⟩
    have hq : V2 = setsC V1 g [.int .i64 i, .int .i64 t, .int .i64 0, .string name, .int .i64 0, .int .i64 0, .int .i64 0, .slice none 0 0, .slice none 0 0, .int .i64 0, .int .i64 0, .slice none 0 0] 0 := hV2
    have NN := hid (show V2.heap[g]? = some (.cells #[.int .i64 i, .int .i64 t, .int .i64 0, .string name, .int .i64 0, .int .i64 0, .int .i64 0, .slice none 0 0, .slice none 0 0, .int .i64 0, .int .i64 0, .slice none 0 0] 40 (0, 0)) by rw [hq, sets_block [.int .i64 i, .int .i64 t, .int .i64 0, .string name, .int .i64 0, .int .i64 0, .int .i64 0, .slice none 0 0, .slice none 0 0, .int .i64 0, .int .i64 0, .slice none 0 0] 0 V1 _ NN.out]; simp [setsA])
    have X := hid (show V2.heap[w.heap.size]? = some (.cells #[.int .i64 i, .int .i64 t, .int .i64 s, .string nm, .int .i64 ed, .int .i64 L, .int .i64 S, .slice a1 ws.length c1, .slice a2 gs.length c2, .int .i64 C, .int .i64 Z, .slice a es.length cap] 40 (0, 0)) by rw [hq]; exact sets_other (by omega) _ _ _ X.out)
    have RR := hid (show V2.heap[w.heap.size + 1]? = some (.cells #[.int .i64 0, .int .i64 0, .int .i64 0, .string ⟨#[]⟩, .int .i64 0, .int .i64 0, .int .i64 0, .slice none 0 0, .slice none 0 0, .int .i64 0, .int .i64 0, .slice none 0 0] 40 (0, 0)) by rw [hq]; exact sets_other (by omega) _ _ _ RR.out)
    have B := hid (show Below w.heap.size w V2 by rw [hq]; exact sets_below (by omega) _ _ _ B.out)
    have hs2 : w.heap.size + 2 ≤ V2.heap.size := by have := lt_of_block NN.out; omega
    rw [← hV2]
    clear hV2 hq hsV
    have n0 := (box_cell NN.out 0 (v := .int .i64 i) rfl)
    have n1 := (box_cell NN.out 1 (v := .int .i64 t) rfl)
    have n2 := (box_cell NN.out 2 (v := .int .i64 0) rfl)
    have n3 := (box_cell NN.out 3 (v := .string name) rfl)
    have n4 := (box_cell NN.out 4 (v := .int .i64 0) rfl)
    have n5 := (box_cell NN.out 5 (v := .int .i64 0) rfl)
    have n6 := (box_cell NN.out 6 (v := .int .i64 0) rfl)
    have n7 := (box_cell NN.out 7 (v := .slice none 0 0) rfl)
    have n8 := (box_cell NN.out 8 (v := .slice none 0 0) rfl)
    have n9 := (box_cell NN.out 9 (v := .int .i64 0) rfl)
    have n10 := (box_cell NN.out 10 (v := .int .i64 0) rfl)
    have n11 := (box_cell NN.out 11 (v := .slice none 0 0) rfl)
    go_wp2_with fail
    refine (askAnew_any i t 0 0 name 0 0 0 0 none none none 0 0 0 0 0 0 _ (by omega) (by omega) (by omega)).mono ?_
    rintro _ w3 ⟨v, rfl, hv, b3⟩
    have WW := hid (hv.mono (lo' := w.heap.size + 2) hs2)
    have RR := hid (kept RR.out b3)
    have B := hid (u_cat B.out b3)
    clear hv b3 X NN n0 n1 n2 n3 n4 n5 n6 n7 n8 n9 n10 n11
    have r0 := (box_cell RR.out 0 (v := .int .i64 0) rfl)
    have r1 := (box_cell RR.out 1 (v := .int .i64 0) rfl)
    have r2 := (box_cell RR.out 2 (v := .int .i64 0) rfl)
    have r3 := (box_cell RR.out 3 (v := .string ⟨#[]⟩) rfl)
    have r4 := (box_cell RR.out 4 (v := .int .i64 0) rfl)
    have r5 := (box_cell RR.out 5 (v := .int .i64 0) rfl)
    have r6 := (box_cell RR.out 6 (v := .int .i64 0) rfl)
    have r7 := (box_cell RR.out 7 (v := .slice none 0 0) rfl)
    have r8 := (box_cell RR.out 8 (v := .slice none 0 0) rfl)
    have r9 := (box_cell RR.out 9 (v := .int .i64 0) rfl)
    have r10 := (box_cell RR.out 10 (v := .int .i64 0) rfl)
    have r11 := (box_cell RR.out 11 (v := .slice none 0 0) rfl)
    have zf := box_frozen RR.out
    have lr := lt_of_block RR.out
    go_wp2_with fail
    clear r0 r1 r2 r3 r4 r5 r6 r7 r8 r9 r10 r11 zf lr
    obtain ⟨V5, hV5⟩ : ∃ V5, V5 = ((((((((((((w3.setCell ⟨w.heap.size + 1, 0, none⟩ (.int .i64 i)).setCell ⟨w.heap.size + 1, 1, none⟩ (.int .i64 (t + 1))).setCell ⟨w.heap.size + 1, 2, none⟩ (.int .i64 1)).setCell ⟨w.heap.size + 1, 3, none⟩ (.string name)).setCell ⟨w.heap.size + 1, 4, none⟩ (.int .i64 0)).setCell ⟨w.heap.size + 1, 5, none⟩ (.int .i64 0)).setCell ⟨w.heap.size + 1, 6, none⟩ (.int .i64 0)).setCell ⟨w.heap.size + 1, 7, none⟩ (.slice none 0 0)).setCell ⟨w.heap.size + 1, 8, none⟩ (.slice none 0 0)).setCell ⟨w.heap.size + 1, 9, none⟩ (.int .i64 0)).setCell ⟨w.heap.size + 1, 10, none⟩ (.int .i64 0)).setCell ⟨w.heap.size + 1, 11, none⟩ (.slice none 0 0)) := ⟨_, rfl⟩
    have hq : V5 = setsC w3 (w.heap.size + 1) [.int .i64 i, .int .i64 (t + 1), .int .i64 1, .string name, .int .i64 0, .int .i64 0, .int .i64 0, .slice none 0 0, .slice none 0 0, .int .i64 0, .int .i64 0, .slice none 0 0] 0 := hV5
    have R5 := (show V5.heap[w.heap.size + 1]? = some (.cells #[.int .i64 i, .int .i64 (t + 1), .int .i64 1, .string name, .int .i64 0, .int .i64 0, .int .i64 0, .slice none 0 0, .slice none 0 0, .int .i64 0, .int .i64 0, .slice none 0 0] 40 (0, 0)) by rw [hq, sets_block [.int .i64 i, .int .i64 (t + 1), .int .i64 1, .string name, .int .i64 0, .int .i64 0, .int .i64 0, .slice none 0 0, .slice none 0 0, .int .i64 0, .int .i64 0, .slice none 0 0] 0 w3 _ RR.out]; simp [setsA])
    have B5 : Below w.heap.size w V5 := by rw [hq]; exact sets_below (by omega) _ _ _ B.out
    have hz5 : w3.heap.size ≤ V5.heap.size := by rw [hq]; exact sets_size _ _ _ _
    have W5 : WsAt V5 (w.heap.size + 2) v (some ⟨1, i, (t + 1), 0, 0, name, ⟨#[]⟩⟩) := by rw [hq]; exact ws_sets (by omega) _ _ _ WW.out
    rw [← hV5]
    clear hV5 hq
    have y0 := box_cell R5 0 (v := .int .i64 i) rfl
    have y1 := box_cell R5 1 (v := .int .i64 (t + 1)) rfl
    have y2 := box_cell R5 2 (v := .int .i64 1) rfl
    have y3 := box_cell R5 3 (v := .string name) rfl
    have y4 := box_cell R5 4 (v := .int .i64 0) rfl
    have y5 := box_cell R5 5 (v := .int .i64 0) rfl
    have y6 := box_cell R5 6 (v := .int .i64 0) rfl
    have y7 := box_cell R5 7 (v := .slice none 0 0) rfl
    have y8 := box_cell R5 8 (v := .slice none 0 0) rfl
    have y9 := box_cell R5 9 (v := .int .i64 0) rfl
    have y10 := box_cell R5 10 (v := .int .i64 0) rfl
    have y11 := box_cell R5 11 (v := .slice none 0 0) rfl
    refine bodyPost_ret (v := .tuple #[.agg #[.int .i64 i, .int .i64 (t + 1), .int .i64 1, .string name, .int .i64 0, .int .i64 0, .int .i64 0, .slice none 0 0, .slice none 0 0, .int .i64 0, .int .i64 0, .slice none 0 0], v]) ?_ rfl ⟨cliO_nil B5 (W5.mono (by omega)), B5⟩
    unfold results; rw [Tryz.results10]; simp [go_sem, y0, y1, y2, y3, y4, y5, y6, y7, y8, y9, y10, y11]
end Go.Proofs.YtbakicgdloakgaaGreatDoor
