/- Clients copied by the model; who asks anew. -/
import Derived.Test.YtbakicgdloakgaaGreatDoorG31
namespace Go.Proofs.YtbakicgdloakgaaGreatDoor
open Go.ChangeShapes Go.WideShapes Go.ChangeAt Go.RowKit Go.Sort Go.Shelf
attribute [local go_sem] Oper.semAt_some

set_option maxHeartbeats 8000000 in
set_option maxRecDepth 100000 in
theorem l13Copy_any (i t s ed : Int) (nm : ByteArray) (L S : Int) (a1 a2 : Option Addr) (c1 c2 : Nat) (ws gs : List Int) (C Z : Int) (a : Option Addr) (cap : Nat) (es : List EqV) (w : World) (hA : GAt w a1 a2 a ws gs es) (hx : ws.length ≤ 1048576) (hy : gs.length ≤ 1048576) (hl : es.length ≤ 1048576) (hsm : SmallE es) (hp : cliP i t s ed nm (nonP L S ws.length gs.length C Z es.length) (getP L S ws gs C Z es) (getP L S ws gs C Z es ∧ (es.length : Int) = C)) (hcap : ∀ e ∈ es, e.a = none → e.c = 0) :
    Calls Tryz.prog 26 #[.agg #[.int .i64 i, .int .i64 t, .int .i64 s, .string nm, .int .i64 ed, .int .i64 L, .int .i64 S, .slice a1 ws.length c1, .slice a2 gs.length c2, .int .i64 C, .int .i64 Z, .slice a es.length cap]] w fun e w' => ∃ b1 d1 b2 d2 a' c' fs, e = .returned (.agg #[.int .i64 i, .int .i64 t, .int .i64 s, .string nm, .int .i64 ed, .int .i64 L, .int .i64 S, .slice b1 ws.length d1, .slice b2 gs.length d2, .int .i64 C, .int .i64 Z, .slice a' fs.length c']) ∧ GetOwn w' w.heap.size ws gs b1 b2 d1 d2 a' c' fs ∧ SamV fs es ∧ Below w.heap.size w w' := by
  by_cases hg : getP L S ws gs C Z es
  · skip
    have he0 := cli_ed hp hg
    have p1 : 1 ≤ ws.length := hg.1.2.1.1
    have m1 : ws.length ≤ 3 := hg.1.2.1.2.1
    have m2 : gs.length ≤ 3 := by have := hg.1.2.2.2; omega
    have p2 : 1 ≤ gs.length := by have := hg.1.2.2.2; omega
    obtain ⟨x1, xo1, rfl, g1⟩ := hA.i1 (by intro e; rw [e] at p1; simp at p1)
    obtain ⟨x2, xo2, rfl, g2⟩ := hA.i2 (by intro e; rw [e] at p2; simp at p2)
    have l1 := block_lt_of_cell (g1 0 (by omega))
    have l2 := block_lt_of_cell (g2 0 (by omega))
    have HK := hid (fun W (b : Below w.heap.size w W) => l6Copy_any L S x1 xo1 x2 xo2 c1 c2 ws gs C Z a cap es W (fun i hi => (b.cell (p := ⟨x1, xo1 + i, none⟩) l1).trans (g1 i hi)) (fun i hi => (b.cell (p := ⟨x2, xo2 + i, none⟩) l2).trans (g2 i hi)) (by omega) (by omega) p1 p2 (hA.eq.below b) hl hsm hcap)
    clear g1 g2 l1 l2
    obtain ⟨W0, hW0⟩ : ∃ W0, W0 = (w.alloc (.cells #[.int .i64 i, .int .i64 t, .int .i64 s, .string nm, .int .i64 ed, .int .i64 L, .int .i64 S, .slice (some ⟨x1, xo1, none⟩) ws.length c1, .slice (some ⟨x2, xo2, none⟩) gs.length c2, .int .i64 C, .int .i64 Z, .slice a es.length cap] 40)).alloc (.cells #[.int .i64 0, .int .i64 0, .int .i64 0, .string ⟨#[]⟩, .int .i64 0, .int .i64 0, .int .i64 0, .slice none 0 0, .slice none 0 0, .int .i64 0, .int .i64 0, .slice none 0 0] 40) := ⟨_, rfl⟩
    obtain ⟨X0, X1, B0⟩ := u_box2 (w := w) (c := #[.int .i64 i, .int .i64 t, .int .i64 s, .string nm, .int .i64 ed, .int .i64 L, .int .i64 S, .slice (some ⟨x1, xo1, none⟩) ws.length c1, .slice (some ⟨x2, xo2, none⟩) gs.length c2, .int .i64 C, .int .i64 Z, .slice a es.length cap]) (t := 40) (d := #[.int .i64 0, .int .i64 0, .int .i64 0, .string ⟨#[]⟩, .int .i64 0, .int .i64 0, .int .i64 0, .slice none 0 0, .slice none 0 0, .int .i64 0, .int .i64 0, .slice none 0 0]) (s := 40) (w1 := W0) (by rw [hW0]; exact Below.refl _ _)
    have hs0 : w.heap.size + 2 ≤ W0.heap.size := by rw [hW0]; simp
    have X := hid X0
    have R := hid X1
    have B := hid B0
    clear X0 X1 B0 hA hsm hp hg hcap
    have y0 := (box_cell X.out 0 (v := .int .i64 i) rfl)
    have y1 := (box_cell X.out 1 (v := .int .i64 t) rfl)
    have y2 := (box_cell X.out 2 (v := .int .i64 s) rfl)
    have y3 := (box_cell X.out 3 (v := .string nm) rfl)
    have y4 := (box_cell X.out 4 (v := .int .i64 ed) rfl)
    have y5 := (box_cell X.out 5 (v := .int .i64 L) rfl)
    have y6 := (box_cell X.out 6 (v := .int .i64 S) rfl)
    have y7 := (box_cell X.out 7 (v := .slice (some ⟨x1, xo1, none⟩) ws.length c1) rfl)
    have y8 := (box_cell X.out 8 (v := .slice (some ⟨x2, xo2, none⟩) gs.length c2) rfl)
    have y9 := (box_cell X.out 9 (v := .int .i64 C) rfl)
    have y10 := (box_cell X.out 10 (v := .int .i64 Z) rfl)
    have y11 := (box_cell X.out 11 (v := .slice a es.length cap) rfl)
    go_enter Tryz.func26, Tryz.ntmps26
    repeat ((fail_if_success (with_reducible show Code.wp _ (Code.region 1 _ _) _ _ _)); (first | go_values | go_skip | go_guarded | go_step | go_upon | go_back | go_simp))
    rw [← hW0]
    clear hW0
    go_wp2_with fail
    refine (HK.out W0 B.out).mono ?_
    rintro _ V2 ⟨b1', d1, b2', d2, a', c', fs, rfl, o2, v2, b2⟩
    have X := hid (kept X.out b2)
    have R := hid (kept R.out b2)
    have B := hid (u_cat B.out b2)
    have O := hid (o2.mono (base' := W0.heap.size) (by omega))
    have VV := hid v2
    have hs2 := b2.size
    clear o2 v2 b2 HK y0 y1 y2 y3 y4 y5 y6 y7 y8 y9 y10 y11
    have y0 := (box_cell X.out 0 (v := .int .i64 i) rfl)
    have y1 := (box_cell X.out 1 (v := .int .i64 t) rfl)
    have y2 := (box_cell X.out 2 (v := .int .i64 s) rfl)
    have y3 := (box_cell X.out 3 (v := .string nm) rfl)
    have y4 := (box_cell X.out 4 (v := .int .i64 ed) rfl)
    have y5 := (box_cell X.out 5 (v := .int .i64 L) rfl)
    have y6 := (box_cell X.out 6 (v := .int .i64 S) rfl)
    have y7 := (box_cell X.out 7 (v := .slice (some ⟨x1, xo1, none⟩) ws.length c1) rfl)
    have y8 := (box_cell X.out 8 (v := .slice (some ⟨x2, xo2, none⟩) gs.length c2) rfl)
    have y9 := (box_cell X.out 9 (v := .int .i64 C) rfl)
    have y10 := (box_cell X.out 10 (v := .int .i64 Z) rfl)
    have y11 := (box_cell X.out 11 (v := .slice a es.length cap) rfl)
    have zf := box_frozen X.out
    repeat ((fail_if_success (with_reducible show Code.wp _ (Code.region 4 _ _) _ _ _)); (first | go_values | go_skip | go_guarded | go_step | go_upon | go_back | go_simp))
    obtain ⟨V3, hV3⟩ : ∃ V3, V3 = (((((((V2.setCell ⟨w.heap.size, 5, none⟩ (.int .i64 L)).setCell ⟨w.heap.size, 6, none⟩ (.int .i64 S)).setCell ⟨w.heap.size, 7, none⟩ (.slice b1' ws.length d1)).setCell ⟨w.heap.size, 8, none⟩ (.slice b2' gs.length d2)).setCell ⟨w.heap.size, 9, none⟩ (.int .i64 C)).setCell ⟨w.heap.size, 10, none⟩ (.int .i64 Z)).setCell ⟨w.heap.size, 11, none⟩ (.slice a' fs.length c')) := ⟨_, rfl⟩
    have hq : V3 = setsC V2 (w.heap.size) [.int .i64 L, .int .i64 S, .slice b1' ws.length d1, .slice b2' gs.length d2, .int .i64 C, .int .i64 Z, .slice a' fs.length c'] 5 := hV3
    have X3 := hid (show V3.heap[w.heap.size]? = some (.cells #[.int .i64 i, .int .i64 t, .int .i64 s, .string nm, .int .i64 ed, .int .i64 L, .int .i64 S, .slice b1' ws.length d1, .slice b2' gs.length d2, .int .i64 C, .int .i64 Z, .slice a' fs.length c'] 40 (0, 0)) by rw [hq, sets_block [.int .i64 L, .int .i64 S, .slice b1' ws.length d1, .slice b2' gs.length d2, .int .i64 C, .int .i64 Z, .slice a' fs.length c'] 5 V2 _ X.out]; simp [setsA])
    have R3 := hid (show V3.heap[w.heap.size + 1]? = some (.cells #[.int .i64 0, .int .i64 0, .int .i64 0, .string ⟨#[]⟩, .int .i64 0, .int .i64 0, .int .i64 0, .slice none 0 0, .slice none 0 0, .int .i64 0, .int .i64 0, .slice none 0 0] 40 (0, 0)) by rw [hq]; exact sets_other (by omega) _ _ _ R.out)
    have B3 := hid (show Below w.heap.size w V3 by rw [hq]; exact sets_below (by omega) _ _ _ B.out)
    have O3 := hid (show GetOwn V3 W0.heap.size ws gs b1' b2' d1 d2 a' c' fs by rw [hq]; exact sets_own (by omega) _ _ _ O.out)
    rw [← hV3]
    clear hV3 hq X R B O zf y0 y1 y2 y3 y4 y5 y6 y7 y8 y9 y10 y11
    have y0 := (box_cell X3.out 0 (v := .int .i64 i) rfl)
    have y1 := (box_cell X3.out 1 (v := .int .i64 t) rfl)
    have y2 := (box_cell X3.out 2 (v := .int .i64 s) rfl)
    have y3 := (box_cell X3.out 3 (v := .string nm) rfl)
    have y4 := (box_cell X3.out 4 (v := .int .i64 ed) rfl)
    have y5 := (box_cell X3.out 5 (v := .int .i64 L) rfl)
    have y6 := (box_cell X3.out 6 (v := .int .i64 S) rfl)
    have y7 := (box_cell X3.out 7 (v := .slice b1' ws.length d1) rfl)
    have y8 := (box_cell X3.out 8 (v := .slice b2' gs.length d2) rfl)
    have y9 := (box_cell X3.out 9 (v := .int .i64 C) rfl)
    have y10 := (box_cell X3.out 10 (v := .int .i64 Z) rfl)
    have y11 := (box_cell X3.out 11 (v := .slice a' fs.length c') rfl)
    have r0 := (box_cell R3.out 0 (v := .int .i64 0) rfl)
    have r1 := (box_cell R3.out 1 (v := .int .i64 0) rfl)
    have r2 := (box_cell R3.out 2 (v := .int .i64 0) rfl)
    have r3 := (box_cell R3.out 3 (v := .string ⟨#[]⟩) rfl)
    have r4 := (box_cell R3.out 4 (v := .int .i64 0) rfl)
    have r5 := (box_cell R3.out 5 (v := .int .i64 0) rfl)
    have r6 := (box_cell R3.out 6 (v := .int .i64 0) rfl)
    have r7 := (box_cell R3.out 7 (v := .slice none 0 0) rfl)
    have r8 := (box_cell R3.out 8 (v := .slice none 0 0) rfl)
    have r9 := (box_cell R3.out 9 (v := .int .i64 0) rfl)
    have r10 := (box_cell R3.out 10 (v := .int .i64 0) rfl)
    have r11 := (box_cell R3.out 11 (v := .slice none 0 0) rfl)
    have zf := box_frozen R3.out
    go_wp2_with fail
    obtain ⟨V4, hV4⟩ : ∃ V4, V4 = ((((((((((((V3.setCell ⟨w.heap.size + 1, 0, none⟩ (.int .i64 i)).setCell ⟨w.heap.size + 1, 1, none⟩ (.int .i64 t)).setCell ⟨w.heap.size + 1, 2, none⟩ (.int .i64 s)).setCell ⟨w.heap.size + 1, 3, none⟩ (.string nm)).setCell ⟨w.heap.size + 1, 4, none⟩ (.int .i64 ed)).setCell ⟨w.heap.size + 1, 5, none⟩ (.int .i64 L)).setCell ⟨w.heap.size + 1, 6, none⟩ (.int .i64 S)).setCell ⟨w.heap.size + 1, 7, none⟩ (.slice b1' ws.length d1)).setCell ⟨w.heap.size + 1, 8, none⟩ (.slice b2' gs.length d2)).setCell ⟨w.heap.size + 1, 9, none⟩ (.int .i64 C)).setCell ⟨w.heap.size + 1, 10, none⟩ (.int .i64 Z)).setCell ⟨w.heap.size + 1, 11, none⟩ (.slice a' fs.length c')) := ⟨_, rfl⟩
    have hq : V4 = setsC V3 (w.heap.size + 1) [.int .i64 i, .int .i64 t, .int .i64 s, .string nm, .int .i64 ed, .int .i64 L, .int .i64 S, .slice b1' ws.length d1, .slice b2' gs.length d2, .int .i64 C, .int .i64 Z, .slice a' fs.length c'] 0 := hV4
    have R4 := (show V4.heap[w.heap.size + 1]? = some (.cells #[.int .i64 i, .int .i64 t, .int .i64 s, .string nm, .int .i64 ed, .int .i64 L, .int .i64 S, .slice b1' ws.length d1, .slice b2' gs.length d2, .int .i64 C, .int .i64 Z, .slice a' fs.length c'] 40 (0, 0)) by rw [hq, sets_block [.int .i64 i, .int .i64 t, .int .i64 s, .string nm, .int .i64 ed, .int .i64 L, .int .i64 S, .slice b1' ws.length d1, .slice b2' gs.length d2, .int .i64 C, .int .i64 Z, .slice a' fs.length c'] 0 V3 _ R3.out]; simp [setsA])
    have B4 : Below w.heap.size w V4 := by rw [hq]; exact sets_below (by omega) _ _ _ B3.out
    have O4 : GetOwn V4 W0.heap.size ws gs b1' b2' d1 d2 a' c' fs := by rw [hq]; exact sets_own (by omega) _ _ _ O3.out
    rw [← hV4]
    clear hV4 hq zf y0 y1 y2 y3 y4 y5 y6 y7 y8 y9 y10 y11 r0 r1 r2 r3 r4 r5 r6 r7 r8 r9 r10 r11
    have y0 := box_cell R4 0 (v := .int .i64 i) rfl
    have y1 := box_cell R4 1 (v := .int .i64 t) rfl
    have y2 := box_cell R4 2 (v := .int .i64 s) rfl
    have y3 := box_cell R4 3 (v := .string nm) rfl
    have y4 := box_cell R4 4 (v := .int .i64 ed) rfl
    have y5 := box_cell R4 5 (v := .int .i64 L) rfl
    have y6 := box_cell R4 6 (v := .int .i64 S) rfl
    have y7 := box_cell R4 7 (v := .slice b1' ws.length d1) rfl
    have y8 := box_cell R4 8 (v := .slice b2' gs.length d2) rfl
    have y9 := box_cell R4 9 (v := .int .i64 C) rfl
    have y10 := box_cell R4 10 (v := .int .i64 Z) rfl
    have y11 := box_cell R4 11 (v := .slice a' fs.length c') rfl
    refine bodyPost_ret (v := .agg #[.int .i64 i, .int .i64 t, .int .i64 s, .string nm, .int .i64 ed, .int .i64 L, .int .i64 S, .slice b1' ws.length d1, .slice b2' gs.length d2, .int .i64 C, .int .i64 Z, .slice a' fs.length c']) ?_ rfl ⟨b1', d1, b2', d2, a', c', fs, rfl, O4.mono (by omega), VV.out, B4⟩
    unfold results; rw [Tryz.results26]; simp [go_sem, y0, y1, y2, y3, y4, y5, y6, y7, y8, y9, y10, y11]
  · skip
    obtain ⟨rfl, rfl, rfl, rfl, rfl, rfl, rfl, rfl⟩ := cli_rows hp hg
    obtain ⟨W0, hW0⟩ : ∃ W0, W0 = (w.alloc (.cells #[.int .i64 i, .int .i64 t, .int .i64 s, .string nm, .int .i64 0, .int .i64 0, .int .i64 0, .slice a1 0 c1, .slice a2 0 c2, .int .i64 0, .int .i64 0, .slice a 0 cap] 40)).alloc (.cells #[.int .i64 0, .int .i64 0, .int .i64 0, .string ⟨#[]⟩, .int .i64 0, .int .i64 0, .int .i64 0, .slice none 0 0, .slice none 0 0, .int .i64 0, .int .i64 0, .slice none 0 0] 40) := ⟨_, rfl⟩
    obtain ⟨X0, X1, B0⟩ := u_box2 (w := w) (c := #[.int .i64 i, .int .i64 t, .int .i64 s, .string nm, .int .i64 0, .int .i64 0, .int .i64 0, .slice a1 0 c1, .slice a2 0 c2, .int .i64 0, .int .i64 0, .slice a 0 cap]) (t := 40) (d := #[.int .i64 0, .int .i64 0, .int .i64 0, .string ⟨#[]⟩, .int .i64 0, .int .i64 0, .int .i64 0, .slice none 0 0, .slice none 0 0, .int .i64 0, .int .i64 0, .slice none 0 0]) (s := 40) (w1 := W0) (by rw [hW0]; exact Below.refl _ _)
    have hs0 : w.heap.size + 2 ≤ W0.heap.size := by rw [hW0]; simp
    have X := hid X0
    have R := hid X1
    have B := hid B0
    clear X0 X1 B0 hA hsm hp hg
    have y0 := (box_cell X.out 0 (v := .int .i64 i) rfl)
    have y1 := (box_cell X.out 1 (v := .int .i64 t) rfl)
    have y2 := (box_cell X.out 2 (v := .int .i64 s) rfl)
    have y3 := (box_cell X.out 3 (v := .string nm) rfl)
    have y4 := (box_cell X.out 4 (v := .int .i64 0) rfl)
    have y5 := (box_cell X.out 5 (v := .int .i64 0) rfl)
    have y6 := (box_cell X.out 6 (v := .int .i64 0) rfl)
    have y7 := (box_cell X.out 7 (v := .slice a1 0 c1) rfl)
    have y8 := (box_cell X.out 8 (v := .slice a2 0 c2) rfl)
    have y9 := (box_cell X.out 9 (v := .int .i64 0) rfl)
    have y10 := (box_cell X.out 10 (v := .int .i64 0) rfl)
    have y11 := (box_cell X.out 11 (v := .slice a 0 cap) rfl)
    have zf := box_frozen X.out
    simp only [List.length_nil]
    go_enter Tryz.func26, Tryz.ntmps26
    repeat ((fail_if_success (with_reducible show Code.wp _ (Code.region 1 _ _) _ _ _)); (first | go_values | go_skip | go_guarded | go_step | go_upon | go_back | go_simp))
    rw [← hW0]
    clear hW0
    obtain ⟨V3, hV3⟩ : ∃ V3, V3 = (((((((W0.setCell ⟨w.heap.size, 5, none⟩ (.int .i64 0)).setCell ⟨w.heap.size, 6, none⟩ (.int .i64 0)).setCell ⟨w.heap.size, 7, none⟩ (.slice none 0 0)).setCell ⟨w.heap.size, 8, none⟩ (.slice none 0 0)).setCell ⟨w.heap.size, 9, none⟩ (.int .i64 0)).setCell ⟨w.heap.size, 10, none⟩ (.int .i64 0)).setCell ⟨w.heap.size, 11, none⟩ (.slice none 0 0)) := ⟨_, rfl⟩
    have hq : V3 = setsC W0 (w.heap.size) [.int .i64 0, .int .i64 0, .slice none 0 0, .slice none 0 0, .int .i64 0, .int .i64 0, .slice none 0 0] 5 := hV3
    have X3 := hid (show V3.heap[w.heap.size]? = some (.cells #[.int .i64 i, .int .i64 t, .int .i64 s, .string nm, .int .i64 0, .int .i64 0, .int .i64 0, .slice none 0 0, .slice none 0 0, .int .i64 0, .int .i64 0, .slice none 0 0] 40 (0, 0)) by rw [hq, sets_block [.int .i64 0, .int .i64 0, .slice none 0 0, .slice none 0 0, .int .i64 0, .int .i64 0, .slice none 0 0] 5 W0 _ X.out]; simp [setsA])
    have R3 := hid (show V3.heap[w.heap.size + 1]? = some (.cells #[.int .i64 0, .int .i64 0, .int .i64 0, .string ⟨#[]⟩, .int .i64 0, .int .i64 0, .int .i64 0, .slice none 0 0, .slice none 0 0, .int .i64 0, .int .i64 0, .slice none 0 0] 40 (0, 0)) by rw [hq]; exact sets_other (by omega) _ _ _ R.out)
    have B3 := hid (show Below w.heap.size w V3 by rw [hq]; exact sets_below (by omega) _ _ _ B.out)
    repeat ((fail_if_success (with_reducible show Code.wp _ (Code.region 4 _ _) _ _ _)); (first | go_values | go_skip | go_guarded | go_step | go_upon | go_back | go_simp))
    rw [← hV3]
    clear hV3 hq X R B zf y0 y1 y2 y3 y4 y5 y6 y7 y8 y9 y10 y11
    have y0 := (box_cell X3.out 0 (v := .int .i64 i) rfl)
    have y1 := (box_cell X3.out 1 (v := .int .i64 t) rfl)
    have y2 := (box_cell X3.out 2 (v := .int .i64 s) rfl)
    have y3 := (box_cell X3.out 3 (v := .string nm) rfl)
    have y4 := (box_cell X3.out 4 (v := .int .i64 0) rfl)
    have y5 := (box_cell X3.out 5 (v := .int .i64 0) rfl)
    have y6 := (box_cell X3.out 6 (v := .int .i64 0) rfl)
    have y7 := (box_cell X3.out 7 (v := .slice none 0 0) rfl)
    have y8 := (box_cell X3.out 8 (v := .slice none 0 0) rfl)
    have y9 := (box_cell X3.out 9 (v := .int .i64 0) rfl)
    have y10 := (box_cell X3.out 10 (v := .int .i64 0) rfl)
    have y11 := (box_cell X3.out 11 (v := .slice none 0 0) rfl)
    have r0 := (box_cell R3.out 0 (v := .int .i64 0) rfl)
    have r1 := (box_cell R3.out 1 (v := .int .i64 0) rfl)
    have r2 := (box_cell R3.out 2 (v := .int .i64 0) rfl)
    have r3 := (box_cell R3.out 3 (v := .string ⟨#[]⟩) rfl)
    have r4 := (box_cell R3.out 4 (v := .int .i64 0) rfl)
    have r5 := (box_cell R3.out 5 (v := .int .i64 0) rfl)
    have r6 := (box_cell R3.out 6 (v := .int .i64 0) rfl)
    have r7 := (box_cell R3.out 7 (v := .slice none 0 0) rfl)
    have r8 := (box_cell R3.out 8 (v := .slice none 0 0) rfl)
    have r9 := (box_cell R3.out 9 (v := .int .i64 0) rfl)
    have r10 := (box_cell R3.out 10 (v := .int .i64 0) rfl)
    have r11 := (box_cell R3.out 11 (v := .slice none 0 0) rfl)
    have zf := box_frozen R3.out
    go_wp2_with fail
    obtain ⟨V4, hV4⟩ : ∃ V4, V4 = ((((((((((((V3.setCell ⟨w.heap.size + 1, 0, none⟩ (.int .i64 i)).setCell ⟨w.heap.size + 1, 1, none⟩ (.int .i64 t)).setCell ⟨w.heap.size + 1, 2, none⟩ (.int .i64 s)).setCell ⟨w.heap.size + 1, 3, none⟩ (.string nm)).setCell ⟨w.heap.size + 1, 4, none⟩ (.int .i64 0)).setCell ⟨w.heap.size + 1, 5, none⟩ (.int .i64 0)).setCell ⟨w.heap.size + 1, 6, none⟩ (.int .i64 0)).setCell ⟨w.heap.size + 1, 7, none⟩ (.slice none 0 0)).setCell ⟨w.heap.size + 1, 8, none⟩ (.slice none 0 0)).setCell ⟨w.heap.size + 1, 9, none⟩ (.int .i64 0)).setCell ⟨w.heap.size + 1, 10, none⟩ (.int .i64 0)).setCell ⟨w.heap.size + 1, 11, none⟩ (.slice none 0 0)) := ⟨_, rfl⟩
    have hq : V4 = setsC V3 (w.heap.size + 1) [.int .i64 i, .int .i64 t, .int .i64 s, .string nm, .int .i64 0, .int .i64 0, .int .i64 0, .slice none 0 0, .slice none 0 0, .int .i64 0, .int .i64 0, .slice none 0 0] 0 := hV4
    have R4 := (show V4.heap[w.heap.size + 1]? = some (.cells #[.int .i64 i, .int .i64 t, .int .i64 s, .string nm, .int .i64 0, .int .i64 0, .int .i64 0, .slice none 0 0, .slice none 0 0, .int .i64 0, .int .i64 0, .slice none 0 0] 40 (0, 0)) by rw [hq, sets_block [.int .i64 i, .int .i64 t, .int .i64 s, .string nm, .int .i64 0, .int .i64 0, .int .i64 0, .slice none 0 0, .slice none 0 0, .int .i64 0, .int .i64 0, .slice none 0 0] 0 V3 _ R3.out]; simp [setsA])
    have B4 : Below w.heap.size w V4 := by rw [hq]; exact sets_below (by omega) _ _ _ B3.out
    rw [← hV4]
    clear hV4 hq zf y0 y1 y2 y3 y4 y5 y6 y7 y8 y9 y10 y11 r0 r1 r2 r3 r4 r5 r6 r7 r8 r9 r10 r11
    have y0 := box_cell R4 0 (v := .int .i64 i) rfl
    have y1 := box_cell R4 1 (v := .int .i64 t) rfl
    have y2 := box_cell R4 2 (v := .int .i64 s) rfl
    have y3 := box_cell R4 3 (v := .string nm) rfl
    have y4 := box_cell R4 4 (v := .int .i64 0) rfl
    have y5 := box_cell R4 5 (v := .int .i64 0) rfl
    have y6 := box_cell R4 6 (v := .int .i64 0) rfl
    have y7 := box_cell R4 7 (v := .slice none 0 0) rfl
    have y8 := box_cell R4 8 (v := .slice none 0 0) rfl
    have y9 := box_cell R4 9 (v := .int .i64 0) rfl
    have y10 := box_cell R4 10 (v := .int .i64 0) rfl
    have y11 := box_cell R4 11 (v := .slice none 0 0) rfl
    refine bodyPost_ret (v := .agg #[.int .i64 i, .int .i64 t, .int .i64 s, .string nm, .int .i64 0, .int .i64 0, .int .i64 0, .slice none 0 0, .slice none 0 0, .int .i64 0, .int .i64 0, .slice none 0 0]) ?_ rfl ⟨none, 0, none, 0, none, 0, [], rfl, own_nil _ _, ⟨rfl, rfl⟩, B4⟩
    unfold results; rw [Tryz.results26]; simp [go_sem, y0, y1, y2, y3, y4, y5, y6, y7, y8, y9, y10, y11]
theorem ws_set {w : World} {lo g : Nat} {v : Value} {o : Option WV} (hg : g < lo) (i : Nat) (u : Value) (h : WsAt w lo v o) : WsAt (w.setCell ⟨g, i, none⟩ u) lo v o := by
  cases h with
  | none a c h => exact .none a c fun j hj => ⟨(h j hj).1, by simpa [World.setCell] using (h j hj).2⟩
  | one b c k cl t e n nm dt hb hx => exact .one b c k cl t e n nm dt hb (set_other hx (by omega) _ _)
theorem ws_sets {lo g : Nat} {v : Value} {o : Option WV} (hg : g < lo) : ∀ (vs : List Value) (k : Nat) (w : World), WsAt w lo v o → WsAt (setsC w g vs k) lo v o
  | [], _, _, h => h
  | u :: r, k, w, h => ws_sets hg r (k + 1) (w.setCell ⟨g, k, none⟩ u) (ws_set hg k u h)
theorem asksNum_any (w : World) : Calls Tryz.prog 58 #[.agg #[]] w fun e w' => e = .returned (.int .i64 1) ∧ Below w.heap.size w w' := by
  go_enter Tryz.func58, Tryz.ntmps58
  go_wp2_with fail
  go_ret
  exact ⟨rfl, u_b1 _ _⟩
set_option maxHeartbeats 8000000 in
set_option maxRecDepth 100000 in
theorem askAnew_any (i t s ed : Int) (nm : ByteArray) (L S C Z : Int) (p1 p2 p3 : Option Addr) (n1 n2 n3 k1 k2 k3 : Nat) (w : World) (hn : nm.size ≤ 281474976710656) (h0 : 0 ≤ t) (h1 : t < 99999) :
    Calls Tryz.prog 33 #[.agg #[.int .i64 i, .int .i64 t, .int .i64 s, .string nm, .int .i64 ed, .int .i64 L, .int .i64 S, .slice p1 n1 k1, .slice p2 n2 k2, .int .i64 C, .int .i64 Z, .slice p3 n3 k3]] w fun e w' => ∃ v, e = .returned (.tuple #[.agg #[.int .i64 i, .int .i64 (t + 1), .int .i64 1, .string nm, .int .i64 ed, .int .i64 L, .int .i64 S, .slice p1 n1 k1, .slice p2 n2 k2, .int .i64 C, .int .i64 Z, .slice p3 n3 k3], v]) ∧ WsAt w' w.heap.size v (some ⟨1, i, t + 1, ed, 0, nm, ⟨#[]⟩⟩) ∧ Below w.heap.size w w' := by
  obtain ⟨W0, hW0⟩ : ∃ W0, W0 = (w.alloc (.cells #[.int .i64 i, .int .i64 t, .int .i64 s, .string nm, .int .i64 ed, .int .i64 L, .int .i64 S, .slice p1 n1 k1, .slice p2 n2 k2, .int .i64 C, .int .i64 Z, .slice p3 n3 k3] 40)).alloc (.cells #[.int .i64 0, .int .i64 0, .int .i64 0, .string ⟨#[]⟩, .int .i64 0, .int .i64 0, .int .i64 0, .slice none 0 0, .slice none 0 0, .int .i64 0, .int .i64 0, .slice none 0 0] 40) := ⟨_, rfl⟩
  obtain ⟨X0, X1, B0⟩ := u_box2 (w := w) (c := #[.int .i64 i, .int .i64 t, .int .i64 s, .string nm, .int .i64 ed, .int .i64 L, .int .i64 S, .slice p1 n1 k1, .slice p2 n2 k2, .int .i64 C, .int .i64 Z, .slice p3 n3 k3]) (t := 40) (d := #[.int .i64 0, .int .i64 0, .int .i64 0, .string ⟨#[]⟩, .int .i64 0, .int .i64 0, .int .i64 0, .slice none 0 0, .slice none 0 0, .int .i64 0, .int .i64 0, .slice none 0 0]) (s := 40) (w1 := W0) (by rw [hW0]; exact Below.refl _ _)
  have hs0 : w.heap.size + 2 ≤ W0.heap.size := by rw [hW0]; simp
  have X := hid X0
  have R := hid X1
  have B := hid B0
  clear X0 X1 B0
  have y0 := (box_cell X.out 0 (v := .int .i64 i) rfl)
  have y1 := (box_cell X.out 1 (v := .int .i64 t) rfl)
  have y2 := (box_cell X.out 2 (v := .int .i64 s) rfl)
  have y3 := (box_cell X.out 3 (v := .string nm) rfl)
  have y4 := (box_cell X.out 4 (v := .int .i64 ed) rfl)
  have y5 := (box_cell X.out 5 (v := .int .i64 L) rfl)
  have y6 := (box_cell X.out 6 (v := .int .i64 S) rfl)
  have y7 := (box_cell X.out 7 (v := .slice p1 n1 k1) rfl)
  have y8 := (box_cell X.out 8 (v := .slice p2 n2 k2) rfl)
  have y9 := (box_cell X.out 9 (v := .int .i64 C) rfl)
  have y10 := (box_cell X.out 10 (v := .int .i64 Z) rfl)
  have y11 := (box_cell X.out 11 (v := .slice p3 n3 k3) rfl)
  have zf := box_frozen X.out
  go_enter Tryz.func33, Tryz.ntmps33
  repeat ((fail_if_success (with_reducible show Code.wp _ (Code.region 1 _ _) _ _ _)); (first | go_values | go_skip | go_guarded | go_step | go_upon | go_back | go_simp))
  rw [← hW0]
  clear hW0
  repeat ((fail_if_success (with_reducible show Code.wp _ (Code.region 2 _ _) _ _ _)); (first | go_values | go_skip | go_guarded | go_step | go_upon | go_back | go_simp))
  obtain ⟨V1, hV1⟩ : ∃ V1, V1 = W0.setCell ⟨w.heap.size, 1, none⟩ (.int .i64 (t + 1)) := ⟨_, rfl⟩
  have X := hid (show V1.heap[w.heap.size]? = some (.cells #[.int .i64 i, .int .i64 (t + 1), .int .i64 s, .string nm, .int .i64 ed, .int .i64 L, .int .i64 S, .slice p1 n1 k1, .slice p2 n2 k2, .int .i64 C, .int .i64 Z, .slice p3 n3 k3] 40 (0, 0)) by rw [hV1]; exact set_block X.out 1 _)
  have R := hid (show V1.heap[w.heap.size + 1]? = some (.cells #[.int .i64 0, .int .i64 0, .int .i64 0, .string ⟨#[]⟩, .int .i64 0, .int .i64 0, .int .i64 0, .slice none 0 0, .slice none 0 0, .int .i64 0, .int .i64 0, .slice none 0 0] 40 (0, 0)) by rw [hV1]; exact set_other R.out (by omega) _ _)
  have B := hid (show Below w.heap.size w V1 by rw [hV1]; exact u_set B.out (Nat.le_refl _) _ _)
  have hs1 : w.heap.size + 2 ≤ V1.heap.size := by rw [hV1]; simp [World.setCell]; exact hs0
  rw [← hV1]
  clear hV1 zf hs0 y0 y1 y2 y3 y4 y5 y6 y7 y8 y9 y10 y11
  go_wp2_with fail
  refine (asksNum_any _).mono ?_
  rintro e V2 ⟨rfl, b2⟩
  have X := hid (kept X.out b2)
  have R := hid (kept R.out b2)
  have B := hid (u_cat B.out b2)
  have hs2 : w.heap.size + 2 ≤ V2.heap.size := by have := b2.size; omega
  clear b2 hs1
  have y0 := (box_cell X.out 0 (v := .int .i64 i) rfl)
  have y1 := (box_cell X.out 1 (v := .int .i64 (t + 1)) rfl)
  have y2 := (box_cell X.out 2 (v := .int .i64 s) rfl)
  have y3 := (box_cell X.out 3 (v := .string nm) rfl)
  have y4 := (box_cell X.out 4 (v := .int .i64 ed) rfl)
  have y5 := (box_cell X.out 5 (v := .int .i64 L) rfl)
  have y6 := (box_cell X.out 6 (v := .int .i64 S) rfl)
  have y7 := (box_cell X.out 7 (v := .slice p1 n1 k1) rfl)
  have y8 := (box_cell X.out 8 (v := .slice p2 n2 k2) rfl)
  have y9 := (box_cell X.out 9 (v := .int .i64 C) rfl)
  have y10 := (box_cell X.out 10 (v := .int .i64 Z) rfl)
  have y11 := (box_cell X.out 11 (v := .slice p3 n3 k3) rfl)
  have zf := box_frozen X.out
  repeat ((fail_if_success (with_reducible show Code.wp _ (Code.region 3 _ _) _ _ _)); (first | go_values | go_skip | go_guarded | go_step | go_upon | go_back | go_simp))
  obtain ⟨V3, hV3⟩ : ∃ V3, V3 = V2.setCell ⟨w.heap.size, 2, none⟩ (.int .i64 1) := ⟨_, rfl⟩
  have X := hid (show V3.heap[w.heap.size]? = some (.cells #[.int .i64 i, .int .i64 (t + 1), .int .i64 1, .string nm, .int .i64 ed, .int .i64 L, .int .i64 S, .slice p1 n1 k1, .slice p2 n2 k2, .int .i64 C, .int .i64 Z, .slice p3 n3 k3] 40 (0, 0)) by rw [hV3]; exact set_block X.out 2 _)
  have R := hid (show V3.heap[w.heap.size + 1]? = some (.cells #[.int .i64 0, .int .i64 0, .int .i64 0, .string ⟨#[]⟩, .int .i64 0, .int .i64 0, .int .i64 0, .slice none 0 0, .slice none 0 0, .int .i64 0, .int .i64 0, .slice none 0 0] 40 (0, 0)) by rw [hV3]; exact set_other R.out (by omega) _ _)
  have B := hid (show Below w.heap.size w V3 by rw [hV3]; exact u_set B.out (Nat.le_refl _) _ _)
  have hs3 : w.heap.size + 2 ≤ V3.heap.size := by rw [hV3]; simp [World.setCell]; exact hs2
  rw [← hV3]
  clear hV3 zf hs2 y0 y1 y2 y3 y4 y5 y6 y7 y8 y9 y10 y11
  have y0 := cell_regrown (box_cell X.out 0 (v := .int .i64 i) rfl)
  have y1 := cell_regrown (box_cell X.out 1 (v := .int .i64 (t + 1)) rfl)
  have y2 := cell_regrown (box_cell X.out 2 (v := .int .i64 1) rfl)
  have y3 := cell_regrown (box_cell X.out 3 (v := .string nm) rfl)
  have y4 := cell_regrown (box_cell X.out 4 (v := .int .i64 ed) rfl)
  have y5 := cell_regrown (box_cell X.out 5 (v := .int .i64 L) rfl)
  have y6 := cell_regrown (box_cell X.out 6 (v := .int .i64 S) rfl)
  have y7 := cell_regrown (box_cell X.out 7 (v := .slice p1 n1 k1) rfl)
  have y8 := cell_regrown (box_cell X.out 8 (v := .slice p2 n2 k2) rfl)
  have y9 := cell_regrown (box_cell X.out 9 (v := .int .i64 C) rfl)
  have y10 := cell_regrown (box_cell X.out 10 (v := .int .i64 Z) rfl)
  have y11 := cell_regrown (box_cell X.out 11 (v := .slice p3 n3 k3) rfl)
  refine wp_planz 3 (.pull [(0, 2)] (.step 2 (.step 3 (.step 4 .done)))) (by kernel_rfl) (by kernel_rfl) ?_
  intro V0 hw0
  have hbq := of_class hw0
  refine plz_pull ?_
  simp only [cutOut, List.take_succ_cons, List.take_zero, List.drop_zero, List.append_nil]
  repeat (first | go_big_quiet_step (fail) | quiet_step (fail))
  try refine wpQuiet_nil ?_
  clear y0 y1 y2 y3 y4 y5 y6 y7 y8 y9 y10 y11 hw0
  refine plz_step rfl (by omega) (fun K hK => ?_)
  go_simp
  with_reducible refine (ask_any i (t + 1) 1 ed nm L S C Z p1 p2 p3 n1 n2 n3 k1 k2 k3 V0 hn).mono ?_
  rintro _ V4 ⟨v, rfl, hv, b4⟩
  refine hK _ _ (class_of (u_cat hbq b4)) ?_
  clear hK K
  have R := hid (kept R.out (u_cat hbq b4))
  have B := hid (u_cat B.out (u_cat hbq b4))
  have WW := hid (hv.mono (lo' := w.heap.size + 2) (by have := hbq.size; omega))
  clear hv b4 hbq X
  have r0 := (box_cell R.out 0 (v := .int .i64 0) rfl)
  have r1 := (box_cell R.out 1 (v := .int .i64 0) rfl)
  have r2 := (box_cell R.out 2 (v := .int .i64 0) rfl)
  have r3 := (box_cell R.out 3 (v := .string ⟨#[]⟩) rfl)
  have r4 := (box_cell R.out 4 (v := .int .i64 0) rfl)
  have r5 := (box_cell R.out 5 (v := .int .i64 0) rfl)
  have r6 := (box_cell R.out 6 (v := .int .i64 0) rfl)
  have r7 := (box_cell R.out 7 (v := .slice none 0 0) rfl)
  have r8 := (box_cell R.out 8 (v := .slice none 0 0) rfl)
  have r9 := (box_cell R.out 9 (v := .int .i64 0) rfl)
  have r10 := (box_cell R.out 10 (v := .int .i64 0) rfl)
  have r11 := (box_cell R.out 11 (v := .slice none 0 0) rfl)
  have zf := box_frozen R.out
  refine plz_last rfl (by omega) (fun K hK => ?_)
  go_simp
  refine hK _ _ ?_
  clear hK K
  refine plz_last rfl (by omega) (fun K hK => ?_)
  go_simp
  refine hK _ _ ?_
  clear hK K
  refine plz_done ?_
  obtain ⟨V5, hV5⟩ : ∃ V5, V5 = ((((((((((((V4.setCell ⟨w.heap.size + 1, 0, none⟩ (.int .i64 i)).setCell ⟨w.heap.size + 1, 1, none⟩ (.int .i64 (t + 1))).setCell ⟨w.heap.size + 1, 2, none⟩ (.int .i64 1)).setCell ⟨w.heap.size + 1, 3, none⟩ (.string nm)).setCell ⟨w.heap.size + 1, 4, none⟩ (.int .i64 ed)).setCell ⟨w.heap.size + 1, 5, none⟩ (.int .i64 L)).setCell ⟨w.heap.size + 1, 6, none⟩ (.int .i64 S)).setCell ⟨w.heap.size + 1, 7, none⟩ (.slice p1 n1 k1)).setCell ⟨w.heap.size + 1, 8, none⟩ (.slice p2 n2 k2)).setCell ⟨w.heap.size + 1, 9, none⟩ (.int .i64 C)).setCell ⟨w.heap.size + 1, 10, none⟩ (.int .i64 Z)).setCell ⟨w.heap.size + 1, 11, none⟩ (.slice p3 n3 k3)) := ⟨_, rfl⟩
  have hq : V5 = setsC V4 (w.heap.size + 1) [.int .i64 i, .int .i64 (t + 1), .int .i64 1, .string nm, .int .i64 ed, .int .i64 L, .int .i64 S, .slice p1 n1 k1, .slice p2 n2 k2, .int .i64 C, .int .i64 Z, .slice p3 n3 k3] 0 := hV5
  have R5 := (show V5.heap[w.heap.size + 1]? = some (.cells #[.int .i64 i, .int .i64 (t + 1), .int .i64 1, .string nm, .int .i64 ed, .int .i64 L, .int .i64 S, .slice p1 n1 k1, .slice p2 n2 k2, .int .i64 C, .int .i64 Z, .slice p3 n3 k3] 40 (0, 0)) by rw [hq, sets_block [.int .i64 i, .int .i64 (t + 1), .int .i64 1, .string nm, .int .i64 ed, .int .i64 L, .int .i64 S, .slice p1 n1 k1, .slice p2 n2 k2, .int .i64 C, .int .i64 Z, .slice p3 n3 k3] 0 V4 _ R.out]; simp [setsA])
  have B5 : Below w.heap.size w V5 := by rw [hq]; exact sets_below (by omega) _ _ _ B.out
  have W5 : WsAt V5 (w.heap.size + 2) v (some ⟨1, i, t + 1, ed, 0, nm, ⟨#[]⟩⟩) := by rw [hq]; exact ws_sets (by omega) _ _ _ WW.out
  rw [← hV5]
  clear hV5 hq zf r0 r1 r2 r3 r4 r5 r6 r7 r8 r9 r10 r11
  go_wp2_with fail
  have y0 := box_cell R5 0 (v := .int .i64 i) rfl
  have y1 := box_cell R5 1 (v := .int .i64 (t + 1)) rfl
  have y2 := box_cell R5 2 (v := .int .i64 1) rfl
  have y3 := box_cell R5 3 (v := .string nm) rfl
  have y4 := box_cell R5 4 (v := .int .i64 ed) rfl
  have y5 := box_cell R5 5 (v := .int .i64 L) rfl
  have y6 := box_cell R5 6 (v := .int .i64 S) rfl
  have y7 := box_cell R5 7 (v := .slice p1 n1 k1) rfl
  have y8 := box_cell R5 8 (v := .slice p2 n2 k2) rfl
  have y9 := box_cell R5 9 (v := .int .i64 C) rfl
  have y10 := box_cell R5 10 (v := .int .i64 Z) rfl
  have y11 := box_cell R5 11 (v := .slice p3 n3 k3) rfl
  refine bodyPost_ret (v := .tuple #[.agg #[.int .i64 i, .int .i64 (t + 1), .int .i64 1, .string nm, .int .i64 ed, .int .i64 L, .int .i64 S, .slice p1 n1 k1, .slice p2 n2 k2, .int .i64 C, .int .i64 Z, .slice p3 n3 k3], v]) ?_ rfl ⟨v, rfl, W5.mono (by omega), B5⟩
  unfold results; rw [Tryz.results33]; simp [go_sem, y0, y1, y2, y3, y4, y5, y6, y7, y8, y9, y10, y11]
end Go.Proofs.YtbakicgdloakgaaGreatDoor
