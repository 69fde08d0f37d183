/- Clients laid anew, their rows apart, as the laws do it. -/
import Derived.Test.YtbakicgdloakgaaGreatDoorG27
import Derived.Test.YtbakicgdloakgaaGreatDoorG26
import Derived.Test.YtbakicgdloakgaaGreatDoorG32
namespace Go.Proofs.YtbakicgdloakgaaGreatDoor
open Go.ChangeShapes Go.WideShapes Go.ChangeAt Go.RowKit Go.Sort Go.Shelf
attribute [local go_sem] Oper.semAt_some

set_option maxRecDepth 100000 in
set_option maxHeartbeats 4000000 in
theorem toClient_ap (i t s ed : Int) (nm : ByteArray) (L S : Int) (a1 a2 : Option Addr) (c1 c2 : Nat) (ws gs : List Int) (C Z : Int) (a : Option Addr) (cap : Nat) (es : List EqV) (w : World) (ha1 : IntsAt w a1 ws) (ha2 : IntsAt w a2 gs) (hx : ws.length ≤ 1048576) (hy : gs.length ≤ 1048576) (ha : EqsAt w a es) (hz : es.length ≤ 1048576) (hsm : SmallE es) :
    Calls Tryz.prog 9 #[.agg #[.int .i64 i, .int .i64 t, .int .i64 s, .string nm, .int .i64 ed, .int .i64 L, .int .i64 S, .slice a1 ws.length c1, .slice a2 gs.length c2, .int .i64 C, .int .i64 Z, .slice a es.length cap]] w fun e w' => ∃ b1 d1 b2 d2 a' c' fs, e = .returned (.agg #[.int .i64 i, .int .i64 t, .int .i64 s, .string nm, .int .i64 ed, .int .i64 L, .int .i64 S, .slice b1 ws.length d1, .slice b2 gs.length d2, .int .i64 C, .int .i64 Z, .slice a' fs.length c']) ∧ GetOwn w' w.heap.size ws gs b1 b2 d1 d2 a' c' fs ∧ SamV fs es ∧ RowsAp fs ∧ Below w.heap.size w w' := by
  have HA := hid ha
  have HS := hid hsm
  have H1 := hid ha1
  have H2 := hid ha2
  clear ha hsm ha1 ha2
  obtain ⟨W0, hW0⟩ : ∃ W0, W0 = ((w.alloc (.cells #[.int .i64 i, .int .i64 t, .int .i64 s, .string nm, .int .i64 ed, .int .i64 L, .int .i64 S, .slice a1 ws.length c1, .slice a2 gs.length c2, .int .i64 C, .int .i64 Z, .slice a es.length cap] 31)).alloc (.cells #[.int .i64 0, .int .i64 0, .int .i64 0, .string ⟨#[]⟩, .int .i64 0, .int .i64 0, .int .i64 0, .slice none 0 0, .slice none 0 0, .int .i64 0, .int .i64 0, .slice none 0 0] 40)).alloc (.cells #[.int .i64 i, .int .i64 t, .int .i64 s, .string nm, .int .i64 ed, .int .i64 0, .int .i64 0, .slice none 0 0, .slice none 0 0, .int .i64 0, .int .i64 0, .slice none 0 0] 40) := ⟨_, rfl⟩
  have B0 := hid (show Below w.heap.size w W0 by rw [hW0]; exact u_cat (u_b2 _ _ _) (u_b1 _ _))
  have hs0 : W0.heap.size = w.heap.size + 3 := by rw [hW0]; simp
  have X1 := hid (show W0.heap[w.heap.size + 1]? = some (.cells #[.int .i64 0, .int .i64 0, .int .i64 0, .string ⟨#[]⟩, .int .i64 0, .int .i64 0, .int .i64 0, .slice none 0 0, .slice none 0 0, .int .i64 0, .int .i64 0, .slice none 0 0] 40 (0, 0)) by rw [hW0]; exact kept (u_laid _ _ _ (by simp)) (u_b1 _ _))
  have X2 := hid (show W0.heap[w.heap.size + 1 + 1]? = some (.cells #[.int .i64 i, .int .i64 t, .int .i64 s, .string nm, .int .i64 ed, .int .i64 0, .int .i64 0, .slice none 0 0, .slice none 0 0, .int .i64 0, .int .i64 0, .slice none 0 0] 40 (0, 0)) by rw [hW0]; exact u_laid _ _ _ (by simp))
  go_enter Tryz.func9, Tryz.ntmps9
  go_wp2_with fail
  rw [← hW0]
  clear hW0
  refine (toGetting_ap L S a1 a2 c1 c2 ws gs C Z a cap es _ (H1.out.below B0.out) (H2.out.below B0.out) hx hy (HA.out.below B0.out) hz HS.out).mono ?_
  rintro e w1 ⟨b1, d1, b2, d2, a', c', fs, rfl, o, sm, ap, bb⟩
  have O := hid o
  have AP := hid ap
  have SM := hid sm
  have hs1 := bb.size
  replace X2 := hid (kept X2.out bb)
  replace X1 := hid (kept X1.out bb)
  have B := hid (u_cat B0.out bb)
  clear o sm ap bb
  have r0 := box_cell X2.out 0 (v := .int .i64 i) rfl
  have r1 := box_cell X2.out 1 (v := .int .i64 t) rfl
  have r2 := box_cell X2.out 2 (v := .int .i64 s) rfl
  have r3 := box_cell X2.out 3 (v := .string nm) rfl
  have r4 := box_cell X2.out 4 (v := .int .i64 ed) rfl
  have r5 := box_cell X2.out 5 (v := .int .i64 0) rfl
  have r6 := box_cell X2.out 6 (v := .int .i64 0) rfl
  have r7 := box_cell X2.out 7 (v := .slice none 0 0) rfl
  have r8 := box_cell X2.out 8 (v := .slice none 0 0) rfl
  have r9 := box_cell X2.out 9 (v := .int .i64 0) rfl
  have r10 := box_cell X2.out 10 (v := .int .i64 0) rfl
  have r11 := box_cell X2.out 11 (v := .slice none 0 0) rfl
  have z2 := box_frozen X2.out
  repeat ((fail_if_success (with_reducible show Code.wp _ (Code.region 8 _ _) _ _ _)); (first | go_values | go_skip | go_guarded | go_step | go_upon | go_back | go_simp))
  obtain ⟨V1, hV1⟩ : ∃ V1, V1 = (((((((w1.setCell ⟨w.heap.size + 1 + 1, 5, none⟩ (.int .i64 L)).setCell ⟨w.heap.size + 1 + 1, 6, none⟩ (.int .i64 S)).setCell ⟨w.heap.size + 1 + 1, 7, none⟩ (.slice b1 ws.length d1)).setCell ⟨w.heap.size + 1 + 1, 8, none⟩ (.slice b2 gs.length d2)).setCell ⟨w.heap.size + 1 + 1, 9, none⟩ (.int .i64 C)).setCell ⟨w.heap.size + 1 + 1, 10, none⟩ (.int .i64 Z)).setCell ⟨w.heap.size + 1 + 1, 11, none⟩ (.slice a' fs.length c')) := ⟨_, rfl⟩
  have hq : V1 = setsC w1 (w.heap.size + 1 + 1) [.int .i64 L, .int .i64 S, .slice b1 ws.length d1, .slice b2 gs.length d2, .int .i64 C, .int .i64 Z, .slice a' fs.length c'] 5 := hV1
  have Y2 := hid (show V1.heap[w.heap.size + 1 + 1]? = some (.cells #[.int .i64 i, .int .i64 t, .int .i64 s, .string nm, .int .i64 ed, .int .i64 L, .int .i64 S, .slice b1 ws.length d1, .slice b2 gs.length d2, .int .i64 C, .int .i64 Z, .slice a' fs.length c'] 40 (0, 0)) by rw [hq, sets_block [.int .i64 L, .int .i64 S, .slice b1 ws.length d1, .slice b2 gs.length d2, .int .i64 C, .int .i64 Z, .slice a' fs.length c'] 5 w1 #[.int .i64 i, .int .i64 t, .int .i64 s, .string nm, .int .i64 ed, .int .i64 0, .int .i64 0, .slice none 0 0, .slice none 0 0, .int .i64 0, .int .i64 0, .slice none 0 0] X2.out]; simp [setsA])
  have Y1 := hid (show V1.heap[w.heap.size + 1]? = some (.cells #[.int .i64 0, .int .i64 0, .int .i64 0, .string ⟨#[]⟩, .int .i64 0, .int .i64 0, .int .i64 0, .slice none 0 0, .slice none 0 0, .int .i64 0, .int .i64 0, .slice none 0 0] 40 (0, 0)) by rw [hq]; exact sets_other (by omega) _ _ _ X1.out)
  have YB := hid (show Below w.heap.size w V1 by rw [hq]; exact sets_below (by omega) _ _ _ B.out)
  have YO := hid (show GetOwn V1 W0.heap.size ws gs b1 b2 d1 d2 a' c' fs by rw [hq]; exact sets_own (by omega) _ _ _ O.out)
  rw [← hV1]
  clear hV1 hq X1 X2 B O r0 r1 r2 r3 r4 r5 r6 r7 r8 r9 r10 r11 z2
  have r0 := box_cell Y2.out 0 (v := .int .i64 i) rfl
  have r1 := box_cell Y2.out 1 (v := .int .i64 t) rfl
  have r2 := box_cell Y2.out 2 (v := .int .i64 s) rfl
  have r3 := box_cell Y2.out 3 (v := .string nm) rfl
  have r4 := box_cell Y2.out 4 (v := .int .i64 ed) rfl
  have r5 := box_cell Y2.out 5 (v := .int .i64 L) rfl
  have r6 := box_cell Y2.out 6 (v := .int .i64 S) rfl
  have r7 := box_cell Y2.out 7 (v := .slice b1 ws.length d1) rfl
  have r8 := box_cell Y2.out 8 (v := .slice b2 gs.length d2) rfl
  have r9 := box_cell Y2.out 9 (v := .int .i64 C) rfl
  have r10 := box_cell Y2.out 10 (v := .int .i64 Z) rfl
  have r11 := box_cell Y2.out 11 (v := .slice a' fs.length c') rfl
  have s0 := box_cell Y1.out 0 (v := .int .i64 0) rfl
  have s1 := box_cell Y1.out 1 (v := .int .i64 0) rfl
  have s2 := box_cell Y1.out 2 (v := .int .i64 0) rfl
  have s3 := box_cell Y1.out 3 (v := .string ⟨#[]⟩) rfl
  have s4 := box_cell Y1.out 4 (v := .int .i64 0) rfl
  have s5 := box_cell Y1.out 5 (v := .int .i64 0) rfl
  have s6 := box_cell Y1.out 6 (v := .int .i64 0) rfl
  have s7 := box_cell Y1.out 7 (v := .slice none 0 0) rfl
  have s8 := box_cell Y1.out 8 (v := .slice none 0 0) rfl
  have s9 := box_cell Y1.out 9 (v := .int .i64 0) rfl
  have s10 := box_cell Y1.out 10 (v := .int .i64 0) rfl
  have s11 := box_cell Y1.out 11 (v := .slice none 0 0) rfl
  have z1 := box_frozen Y1.out
  go_wp2_with fail
  obtain ⟨V3, hV3⟩ : ∃ V3, V3 = ((((((((((((V1.setCell ⟨w.heap.size + 1, 0, none⟩ (.int .i64 i)).setCell ⟨w.heap.size + 1, 1, none⟩ (.int .i64 t)).setCell ⟨w.heap.size + 1, 2, none⟩ (.int .i64 s)).setCell ⟨w.heap.size + 1, 3, none⟩ (.string nm)).setCell ⟨w.heap.size + 1, 4, none⟩ (.int .i64 ed)).setCell ⟨w.heap.size + 1, 5, none⟩ (.int .i64 L)).setCell ⟨w.heap.size + 1, 6, none⟩ (.int .i64 S)).setCell ⟨w.heap.size + 1, 7, none⟩ (.slice b1 ws.length d1)).setCell ⟨w.heap.size + 1, 8, none⟩ (.slice b2 gs.length d2)).setCell ⟨w.heap.size + 1, 9, none⟩ (.int .i64 C)).setCell ⟨w.heap.size + 1, 10, none⟩ (.int .i64 Z)).setCell ⟨w.heap.size + 1, 11, none⟩ (.slice a' fs.length c')) := ⟨_, rfl⟩
  have hq : V3 = setsC V1 (w.heap.size + 1) [.int .i64 i, .int .i64 t, .int .i64 s, .string nm, .int .i64 ed, .int .i64 L, .int .i64 S, .slice b1 ws.length d1, .slice b2 gs.length d2, .int .i64 C, .int .i64 Z, .slice a' fs.length c'] 0 := hV3
  have Z1 : V3.heap[w.heap.size + 1]? = some (.cells #[.int .i64 i, .int .i64 t, .int .i64 s, .string nm, .int .i64 ed, .int .i64 L, .int .i64 S, .slice b1 ws.length d1, .slice b2 gs.length d2, .int .i64 C, .int .i64 Z, .slice a' fs.length c'] 40 (0, 0)) := by rw [hq, sets_block [.int .i64 i, .int .i64 t, .int .i64 s, .string nm, .int .i64 ed, .int .i64 L, .int .i64 S, .slice b1 ws.length d1, .slice b2 gs.length d2, .int .i64 C, .int .i64 Z, .slice a' fs.length c'] 0 V1 #[.int .i64 0, .int .i64 0, .int .i64 0, .string ⟨#[]⟩, .int .i64 0, .int .i64 0, .int .i64 0, .slice none 0 0, .slice none 0 0, .int .i64 0, .int .i64 0, .slice none 0 0] Y1.out]; simp [setsA]
  have B3 : Below w.heap.size w V3 := by rw [hq]; exact sets_below (by omega) _ _ _ YB.out
  have O3 : GetOwn V3 W0.heap.size ws gs b1 b2 d1 d2 a' c' fs := by rw [hq]; exact sets_own (by omega) _ _ _ YO.out
  rw [← hV3]
  clear hV3 hq
  have y0 := box_cell Z1 0 (v := .int .i64 i) rfl
  have y1 := box_cell Z1 1 (v := .int .i64 t) rfl
  have y2 := box_cell Z1 2 (v := .int .i64 s) rfl
  have y3 := box_cell Z1 3 (v := .string nm) rfl
  have y4 := box_cell Z1 4 (v := .int .i64 ed) rfl
  have y5 := box_cell Z1 5 (v := .int .i64 L) rfl
  have y6 := box_cell Z1 6 (v := .int .i64 S) rfl
  have y7 := box_cell Z1 7 (v := .slice b1 ws.length d1) rfl
  have y8 := box_cell Z1 8 (v := .slice b2 gs.length d2) rfl
  have y9 := box_cell Z1 9 (v := .int .i64 C) rfl
  have y10 := box_cell Z1 10 (v := .int .i64 Z) rfl
  have y11 := box_cell Z1 11 (v := .slice a' fs.length c') rfl
  refine bodyPost_ret (v := .agg #[.int .i64 i, .int .i64 t, .int .i64 s, .string nm, .int .i64 ed, .int .i64 L, .int .i64 S, .slice b1 ws.length d1, .slice b2 gs.length d2, .int .i64 C, .int .i64 Z, .slice a' fs.length c']) ?_ rfl ⟨b1, d1, b2, d2, a', c', fs, rfl, O3.mono (by omega), SM.out, AP.out, B3⟩
  unfold results; rw [Tryz.results9]; simp [go_sem, y0, y1, y2, y3, y4, y5, y6, y7, y8, y9, y10, y11]
end Go.Proofs.YtbakicgdloakgaaGreatDoor
