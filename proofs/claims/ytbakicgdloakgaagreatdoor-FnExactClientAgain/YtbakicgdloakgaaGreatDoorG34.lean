/- A client that asks for the rest, by the model and by the program. -/
import Derived.Test.YtbakicgdloakgaaGreatDoorG33
namespace Go.Proofs.YtbakicgdloakgaaGreatDoor
open Go.ChangeShapes Go.WideShapes Go.ChangeAt Go.RowKit Go.Sort Go.Shelf
attribute [local go_sem] Oper.semAt_some

theorem GetOwn.setH {w w0 : World} {base lo : Nat} {ws gs : List Int} {b1 b2 : Option Addr} {d1 d2 : Nat} {a : Option Addr} {c : Nat} {fs : List EqV} (h : GetOwn w base ws gs b1 b2 d1 d2 a c fs) (hi : GIn lo w0.heap.size b1 b2 a ws.length gs.length d1 d2 c fs) {g : Nat} (hg : w0.heap.size ≤ g) (i : Nat) (u : Value) : GetOwn (w.setCell ⟨g, i, none⟩ u) base ws gs b1 b2 d1 d2 a c fs := by
  obtain ⟨n, h1, h2, h3, h4, h5⟩ := h.up
  have K : ∀ k, k < w0.heap.size → (w.setCell ⟨g, i, none⟩ u).heap[k]? = w.heap[k]? := fun k hk => set_other rfl (by omega) _ _
  exact ⟨u_owns h.o1 (fun k hk => K k (hi.l1 k hk).2), u_owns h.o2 (fun k hk => K k (hi.l2 k hk).2), h.ap, n, h1, h2, h3, u_owns h4 (fun k hk => K k (hi.le k hk).2), fun f hf => u_owns (h5 f hf) (fun k hk => K k (hi.lr f hf k hk).2)⟩

set_option maxHeartbeats 8000000 in
set_option maxRecDepth 100000 in
theorem specAgain_no (i t s ed : Int) (nm : ByteArray) (L S : Int) (a1 a2 : Option Addr) (c1 c2 : Nat) (ws gs : List Int) (C Z : Int) (a : Option Addr) (cap : Nat) (es : List EqV) (w : World) (hA : GAt w a1 a2 a ws gs es) (hx : ws.length ≤ 1048576) (hy : gs.length ≤ 1048576) (hl : es.length ≤ 1048576) (hsm : SmallE es) (hnm : nm.size ≤ maxLen) (_hcap : ∀ e ∈ es, e.a = none → e.c = 0) (hp : ¬ (cliP i t s ed nm (nonP L S ws.length gs.length C Z es.length) (getP L S ws gs C Z es) (getP L S ws gs C Z es ∧ (es.length : Int) = C))) :
    Calls Tryz.prog 17 #[.agg #[.int .i64 i, .int .i64 t, .int .i64 s, .string nm, .int .i64 ed, .int .i64 L, .int .i64 S, .slice a1 ws.length c1, .slice a2 gs.length c2, .int .i64 C, .int .i64 Z, .slice a es.length cap]] w fun e w' => CliO w' w.heap.size 0 0 0 0 ⟨#[]⟩ 0 0 0 0 [] [] [] none false e ∧ Below w.heap.size w w' := by
  have HP := hid (decide_eq_false hp)
  clear _hcap
  have HA := hid hA
  have HS := hid hsm
  clear hA hsm
  obtain ⟨W0, hW0⟩ : ∃ W0, W0 = (w.alloc (.cells #[.int .i64 i, .int .i64 t, .int .i64 s, .string nm, .int .i64 ed, .int .i64 L, .int .i64 S, .slice a1 ws.length c1, .slice a2 gs.length c2, .int .i64 C, .int .i64 Z, .slice a es.length cap] 40)).alloc (.cells #[.int .i64 0, .int .i64 0, .int .i64 0, .string ⟨#[]⟩, .int .i64 0, .int .i64 0, .int .i64 0, .slice none 0 0, .slice none 0 0, .int .i64 0, .int .i64 0, .slice none 0 0] 40) := ⟨_, rfl⟩
  obtain ⟨X0, X1, B0⟩ := u_box2 (w := w) (c := #[.int .i64 i, .int .i64 t, .int .i64 s, .string nm, .int .i64 ed, .int .i64 L, .int .i64 S, .slice a1 ws.length c1, .slice a2 gs.length c2, .int .i64 C, .int .i64 Z, .slice a es.length cap]) (t := 40) (d := #[.int .i64 0, .int .i64 0, .int .i64 0, .string ⟨#[]⟩, .int .i64 0, .int .i64 0, .int .i64 0, .slice none 0 0, .slice none 0 0, .int .i64 0, .int .i64 0, .slice none 0 0]) (s := 40) (w1 := W0) (by rw [hW0]; exact Below.refl _ _)
  have hs0 : w.heap.size + 2 ≤ W0.heap.size := by rw [hW0]; simp
  have X := hid X0
  have RR := hid X1
  have B := hid B0
  clear X0 X1 B0
  go_enter Tryz.func17, Tryz.ntmps17
  repeat ((fail_if_success (with_reducible show Code.wp _ (Code.region 1 _ _) _ _ _)); (first | go_values | go_skip | go_guarded | go_step | go_upon | go_back | go_simp))
  rw [← hW0]
  clear hW0
  have y0 := (box_cell X.out 0 (v := .int .i64 i) rfl)
  have y1 := (box_cell X.out 1 (v := .int .i64 t) rfl)
  have y2 := (box_cell X.out 2 (v := .int .i64 s) rfl)
  have y3 := (box_cell X.out 3 (v := .string nm) rfl)
  have y4 := (box_cell X.out 4 (v := .int .i64 ed) rfl)
  have y5 := (box_cell X.out 5 (v := .int .i64 L) rfl)
  have y6 := (box_cell X.out 6 (v := .int .i64 S) rfl)
  have y7 := (box_cell X.out 7 (v := .slice a1 ws.length c1) rfl)
  have y8 := (box_cell X.out 8 (v := .slice a2 gs.length c2) rfl)
  have y9 := (box_cell X.out 9 (v := .int .i64 C) rfl)
  have y10 := (box_cell X.out 10 (v := .int .i64 Z) rfl)
  have y11 := (box_cell X.out 11 (v := .slice a es.length cap) rfl)
  go_wp2_with fail
  refine (specCli_any i t s ed nm L S a1 a2 c1 c2 ws gs C Z a cap es _ (HA.out.below B.out).i1 (HA.out.below B.out).i2 hx hy (HA.out.below B.out).eq hl HS.out hnm).mono ?_
  rintro e w1 ⟨rfl, b1⟩
  rw [HP.out]
  have X := hid (kept X.out b1)
  have RR := hid (kept RR.out b1)
  have B := hid (u_cat B.out b1)
  have hs1 := b1.size
  clear b1 y0 y1 y2 y3 y4 y5 y6 y7 y8 y9 y10 y11
  have r0 := (box_cell RR.out 0 (v := .int .i64 0) rfl)
  have r1 := (box_cell RR.out 1 (v := .int .i64 0) rfl)
  have r2 := (box_cell RR.out 2 (v := .int .i64 0) rfl)
  have r3 := (box_cell RR.out 3 (v := .string ⟨#[]⟩) rfl)
  have r4 := (box_cell RR.out 4 (v := .int .i64 0) rfl)
  have r5 := (box_cell RR.out 5 (v := .int .i64 0) rfl)
  have r6 := (box_cell RR.out 6 (v := .int .i64 0) rfl)
  have r7 := (box_cell RR.out 7 (v := .slice none 0 0) rfl)
  have r8 := (box_cell RR.out 8 (v := .slice none 0 0) rfl)
  have r9 := (box_cell RR.out 9 (v := .int .i64 0) rfl)
  have r10 := (box_cell RR.out 10 (v := .int .i64 0) rfl)
  have r11 := (box_cell RR.out 11 (v := .slice none 0 0) rfl)
  have zf := box_frozen RR.out
  have lr := lt_of_block RR.out
  go_wp2_with fail
  clear r0 r1 r2 r3 r4 r5 r6 r7 r8 r9 r10 r11 zf
  obtain ⟨V5, hV5⟩ : ∃ V5, V5 = ((((((((((((w1.setCell ⟨w.heap.size + 1, 0, none⟩ (.int .i64 0)).setCell ⟨w.heap.size + 1, 1, none⟩ (.int .i64 0)).setCell ⟨w.heap.size + 1, 2, none⟩ (.int .i64 0)).setCell ⟨w.heap.size + 1, 3, none⟩ (.string ⟨#[]⟩)).setCell ⟨w.heap.size + 1, 4, none⟩ (.int .i64 0)).setCell ⟨w.heap.size + 1, 5, none⟩ (.int .i64 0)).setCell ⟨w.heap.size + 1, 6, none⟩ (.int .i64 0)).setCell ⟨w.heap.size + 1, 7, none⟩ (.slice none 0 0)).setCell ⟨w.heap.size + 1, 8, none⟩ (.slice none 0 0)).setCell ⟨w.heap.size + 1, 9, none⟩ (.int .i64 0)).setCell ⟨w.heap.size + 1, 10, none⟩ (.int .i64 0)).setCell ⟨w.heap.size + 1, 11, none⟩ (.slice none 0 0)) := ⟨_, rfl⟩
  have hq : V5 = setsC w1 (w.heap.size + 1) [.int .i64 0, .int .i64 0, .int .i64 0, .string ⟨#[]⟩, .int .i64 0, .int .i64 0, .int .i64 0, .slice none 0 0, .slice none 0 0, .int .i64 0, .int .i64 0, .slice none 0 0] 0 := hV5
  have R5 := (show V5.heap[w.heap.size + 1]? = some (.cells #[.int .i64 0, .int .i64 0, .int .i64 0, .string ⟨#[]⟩, .int .i64 0, .int .i64 0, .int .i64 0, .slice none 0 0, .slice none 0 0, .int .i64 0, .int .i64 0, .slice none 0 0] 40 (0, 0)) by rw [hq, sets_block [.int .i64 0, .int .i64 0, .int .i64 0, .string ⟨#[]⟩, .int .i64 0, .int .i64 0, .int .i64 0, .slice none 0 0, .slice none 0 0, .int .i64 0, .int .i64 0, .slice none 0 0] 0 w1 _ RR.out]; simp [setsA])
  have B5 : Below w.heap.size w V5 := by rw [hq]; exact sets_below (by omega) _ _ _ B.out
  have hz5 : w1.heap.size ≤ V5.heap.size := by rw [hq]; exact sets_size _ _ _ _
  rw [← hV5]
  clear hV5 hq
  obtain ⟨V6, hV6⟩ : ∃ V6, V6 = V5.alloc (.cells #[] 64) := ⟨_, rfl⟩
  have bb : Below V5.heap.size V5 V6 := by rw [hV6]; exact u_b1 _ _
  have hz6 : V5.heap.size < V6.heap.size := by rw [hV6]; simp
  have R5 := kept R5 bb
  have B5 := u_cat B5 bb
  rw [← hV6]
  have hzz : w.heap.size ≤ w1.heap.size := by omega
  have y0 := box_cell R5 0 (v := .int .i64 0) rfl
  have y1 := box_cell R5 1 (v := .int .i64 0) rfl
  have y2 := box_cell R5 2 (v := .int .i64 0) rfl
  have y3 := box_cell R5 3 (v := .string ⟨#[]⟩) rfl
  have y4 := box_cell R5 4 (v := .int .i64 0) rfl
  have y5 := box_cell R5 5 (v := .int .i64 0) rfl
  have y6 := box_cell R5 6 (v := .int .i64 0) rfl
  have y7 := box_cell R5 7 (v := .slice none 0 0) rfl
  have y8 := box_cell R5 8 (v := .slice none 0 0) rfl
  have y9 := box_cell R5 9 (v := .int .i64 0) rfl
  have y10 := box_cell R5 10 (v := .int .i64 0) rfl
  have y11 := box_cell R5 11 (v := .slice none 0 0) rfl
  refine bodyPost_ret (v := .tuple #[.agg #[.int .i64 0, .int .i64 0, .int .i64 0, .string ⟨#[]⟩, .int .i64 0, .int .i64 0, .int .i64 0, .slice none 0 0, .slice none 0 0, .int .i64 0, .int .i64 0, .slice none 0 0], .slice (some ⟨w1.heap.size, 0, none⟩) 0 0]) ?_ rfl ⟨cliO_nil B5 (.none _ _ (fun g hg => by cases hg; exact ⟨hzz, Nat.lt_of_le_of_lt hz5 hz6⟩)), B5⟩
  unfold results; rw [Tryz.results17]; simp [go_sem, y0, y1, y2, y3, y4, y5, y6, y7, y8, y9, y10, y11]
set_option maxHeartbeats 8000000 in
set_option maxRecDepth 100000 in
theorem implAgain_no (i t s ed : Int) (nm : ByteArray) (L S : Int) (a1 a2 : Option Addr) (c1 c2 : Nat) (ws gs : List Int) (C Z : Int) (a : Option Addr) (cap : Nat) (es : List EqV) (w : World) (hA : GAt w a1 a2 a ws gs es) (hx : ws.length ≤ 1048576) (hy : gs.length ≤ 1048576) (hl : es.length ≤ 1048576) (hsm : SmallE es) (hnm : nm.size ≤ maxLen) (hT : Tab w) (hp : ¬ (cliP i t s ed nm (nonP L S ws.length gs.length C Z es.length) (getP L S ws gs C Z es) (getP L S ws gs C Z es ∧ (es.length : Int) = C))) :
    Calls Tryz.prog 18 #[.agg #[.int .i64 i, .int .i64 t, .int .i64 s, .string nm, .int .i64 ed, .int .i64 L, .int .i64 S, .slice a1 ws.length c1, .slice a2 gs.length c2, .int .i64 C, .int .i64 Z, .slice a es.length cap]] w fun e w' => CliO w' w.heap.size 0 0 0 0 ⟨#[]⟩ 0 0 0 0 [] [] [] none true e ∧ Below w.heap.size w w' := by
  have HP := hid (decide_eq_false hp)
  have HA := hid hA
  have HS := hid hsm
  have HT := hid hT
  clear hA hsm hT
  obtain ⟨W0, hW0⟩ : ∃ W0, W0 = (w.alloc (.cells #[.int .i64 i, .int .i64 t, .int .i64 s, .string nm, .int .i64 ed, .int .i64 L, .int .i64 S, .slice a1 ws.length c1, .slice a2 gs.length c2, .int .i64 C, .int .i64 Z, .slice a es.length cap] 40)).alloc (.cells #[.int .i64 0, .int .i64 0, .int .i64 0, .string ⟨#[]⟩, .int .i64 0, .int .i64 0, .int .i64 0, .slice none 0 0, .slice none 0 0, .int .i64 0, .int .i64 0, .slice none 0 0] 40) := ⟨_, rfl⟩
  obtain ⟨X0, X1, B0⟩ := u_box2 (w := w) (c := #[.int .i64 i, .int .i64 t, .int .i64 s, .string nm, .int .i64 ed, .int .i64 L, .int .i64 S, .slice a1 ws.length c1, .slice a2 gs.length c2, .int .i64 C, .int .i64 Z, .slice a es.length cap]) (t := 40) (d := #[.int .i64 0, .int .i64 0, .int .i64 0, .string ⟨#[]⟩, .int .i64 0, .int .i64 0, .int .i64 0, .slice none 0 0, .slice none 0 0, .int .i64 0, .int .i64 0, .slice none 0 0]) (s := 40) (w1 := W0) (by rw [hW0]; exact Below.refl _ _)
  have hs0 : w.heap.size + 2 ≤ W0.heap.size := by rw [hW0]; simp
  have X := hid X0
  have RR := hid X1
  have B := hid B0
  clear X0 X1 B0
  go_enter Tryz.func18, Tryz.ntmps18
  repeat ((fail_if_success (with_reducible show Code.wp _ (Code.region 1 _ _) _ _ _)); (first | go_values | go_skip | go_guarded | go_step | go_upon | go_back | go_simp))
  rw [← hW0]
  clear hW0
  have y0 := (box_cell X.out 0 (v := .int .i64 i) rfl)
  have y1 := (box_cell X.out 1 (v := .int .i64 t) rfl)
  have y2 := (box_cell X.out 2 (v := .int .i64 s) rfl)
  have y3 := (box_cell X.out 3 (v := .string nm) rfl)
  have y4 := (box_cell X.out 4 (v := .int .i64 ed) rfl)
  have y5 := (box_cell X.out 5 (v := .int .i64 L) rfl)
  have y6 := (box_cell X.out 6 (v := .int .i64 S) rfl)
  have y7 := (box_cell X.out 7 (v := .slice a1 ws.length c1) rfl)
  have y8 := (box_cell X.out 8 (v := .slice a2 gs.length c2) rfl)
  have y9 := (box_cell X.out 9 (v := .int .i64 C) rfl)
  have y10 := (box_cell X.out 10 (v := .int .i64 Z) rfl)
  have y11 := (box_cell X.out 11 (v := .slice a es.length cap) rfl)
  go_wp2_with fail
  refine (implCli_any i t s ed nm L S a1 a2 c1 c2 ws gs C Z a cap es _ (HA.out.below B.out).i1 (HA.out.below B.out).i2 hx hy (HA.out.below B.out).eq hl HS.out hnm (HT.out.below B.out)).mono ?_
  rintro e w1 ⟨rfl, b1⟩
  rw [HP.out]
  have X := hid (kept X.out b1)
  have RR := hid (kept RR.out b1)
  have B := hid (u_cat B.out b1)
  have hs1 := b1.size
  clear b1 y0 y1 y2 y3 y4 y5 y6 y7 y8 y9 y10 y11
  have r0 := (box_cell RR.out 0 (v := .int .i64 0) rfl)
  have r1 := (box_cell RR.out 1 (v := .int .i64 0) rfl)
  have r2 := (box_cell RR.out 2 (v := .int .i64 0) rfl)
  have r3 := (box_cell RR.out 3 (v := .string ⟨#[]⟩) rfl)
  have r4 := (box_cell RR.out 4 (v := .int .i64 0) rfl)
  have r5 := (box_cell RR.out 5 (v := .int .i64 0) rfl)
  have r6 := (box_cell RR.out 6 (v := .int .i64 0) rfl)
  have r7 := (box_cell RR.out 7 (v := .slice none 0 0) rfl)
  have r8 := (box_cell RR.out 8 (v := .slice none 0 0) rfl)
  have r9 := (box_cell RR.out 9 (v := .int .i64 0) rfl)
  have r10 := (box_cell RR.out 10 (v := .int .i64 0) rfl)
  have r11 := (box_cell RR.out 11 (v := .slice none 0 0) rfl)
  have zf := box_frozen RR.out
  have lr := lt_of_block RR.out
  go_wp2_with fail
  clear r0 r1 r2 r3 r4 r5 r6 r7 r8 r9 r10 r11 zf
  obtain ⟨V5, hV5⟩ : ∃ V5, V5 = ((((((((((((w1.setCell ⟨w.heap.size + 1, 0, none⟩ (.int .i64 0)).setCell ⟨w.heap.size + 1, 1, none⟩ (.int .i64 0)).setCell ⟨w.heap.size + 1, 2, none⟩ (.int .i64 0)).setCell ⟨w.heap.size + 1, 3, none⟩ (.string ⟨#[]⟩)).setCell ⟨w.heap.size + 1, 4, none⟩ (.int .i64 0)).setCell ⟨w.heap.size + 1, 5, none⟩ (.int .i64 0)).setCell ⟨w.heap.size + 1, 6, none⟩ (.int .i64 0)).setCell ⟨w.heap.size + 1, 7, none⟩ (.slice none 0 0)).setCell ⟨w.heap.size + 1, 8, none⟩ (.slice none 0 0)).setCell ⟨w.heap.size + 1, 9, none⟩ (.int .i64 0)).setCell ⟨w.heap.size + 1, 10, none⟩ (.int .i64 0)).setCell ⟨w.heap.size + 1, 11, none⟩ (.slice none 0 0)) := ⟨_, rfl⟩
  have hq : V5 = setsC w1 (w.heap.size + 1) [.int .i64 0, .int .i64 0, .int .i64 0, .string ⟨#[]⟩, .int .i64 0, .int .i64 0, .int .i64 0, .slice none 0 0, .slice none 0 0, .int .i64 0, .int .i64 0, .slice none 0 0] 0 := hV5
  have R5 := (show V5.heap[w.heap.size + 1]? = some (.cells #[.int .i64 0, .int .i64 0, .int .i64 0, .string ⟨#[]⟩, .int .i64 0, .int .i64 0, .int .i64 0, .slice none 0 0, .slice none 0 0, .int .i64 0, .int .i64 0, .slice none 0 0] 40 (0, 0)) by rw [hq, sets_block [.int .i64 0, .int .i64 0, .int .i64 0, .string ⟨#[]⟩, .int .i64 0, .int .i64 0, .int .i64 0, .slice none 0 0, .slice none 0 0, .int .i64 0, .int .i64 0, .slice none 0 0] 0 w1 _ RR.out]; simp [setsA])
  have B5 : Below w.heap.size w V5 := by rw [hq]; exact sets_below (by omega) _ _ _ B.out
  have hz5 : w1.heap.size ≤ V5.heap.size := by rw [hq]; exact sets_size _ _ _ _
  rw [← hV5]
  clear hV5 hq
  have y0 := box_cell R5 0 (v := .int .i64 0) rfl
  have y1 := box_cell R5 1 (v := .int .i64 0) rfl
  have y2 := box_cell R5 2 (v := .int .i64 0) rfl
  have y3 := box_cell R5 3 (v := .string ⟨#[]⟩) rfl
  have y4 := box_cell R5 4 (v := .int .i64 0) rfl
  have y5 := box_cell R5 5 (v := .int .i64 0) rfl
  have y6 := box_cell R5 6 (v := .int .i64 0) rfl
  have y7 := box_cell R5 7 (v := .slice none 0 0) rfl
  have y8 := box_cell R5 8 (v := .slice none 0 0) rfl
  have y9 := box_cell R5 9 (v := .int .i64 0) rfl
  have y10 := box_cell R5 10 (v := .int .i64 0) rfl
  have y11 := box_cell R5 11 (v := .slice none 0 0) rfl
  refine bodyPost_ret (v := .tuple #[.agg #[.int .i64 0, .int .i64 0, .int .i64 0, .string ⟨#[]⟩, .int .i64 0, .int .i64 0, .int .i64 0, .slice none 0 0, .slice none 0 0, .int .i64 0, .int .i64 0, .slice none 0 0], .slice none 0 0]) ?_ rfl ⟨cliO_nil B5 (.none _ _ (fun g hg => by cases hg)), B5⟩
  unfold results; rw [Tryz.results18]; simp [go_sem, y0, y1, y2, y3, y4, y5, y6, y7, y8, y9, y10, y11]
set_option maxHeartbeats 8000000 in
set_option maxRecDepth 100000 in
theorem specAgain_full (i s ed : Int) (nm : ByteArray) (L S : Int) (a1 a2 : Option Addr) (c1 c2 : Nat) (ws gs : List Int) (C Z : Int) (a : Option Addr) (cap : Nat) (es : List EqV) (w : World) (hA : GAt w a1 a2 a ws gs es) (hx : ws.length ≤ 1048576) (hy : gs.length ≤ 1048576) (hl : es.length ≤ 1048576) (hsm : SmallE es) (hnm : nm.size ≤ maxLen) (hcap : ∀ e ∈ es, e.a = none → e.c = 0) (hp : cliP i 99999 s ed nm (nonP L S ws.length gs.length C Z es.length) (getP L S ws gs C Z es) (getP L S ws gs C Z es ∧ (es.length : Int) = C)) :
    Calls Tryz.prog 17 #[.agg #[.int .i64 i, .int .i64 99999, .int .i64 s, .string nm, .int .i64 ed, .int .i64 L, .int .i64 S, .slice a1 ws.length c1, .slice a2 gs.length c2, .int .i64 C, .int .i64 Z, .slice a es.length cap]] w fun e w' => CliO w' w.heap.size i 99999 s ed nm L S C Z ws gs (valsE es) none false e ∧ Below w.heap.size w w' := by
  have HP := hid (decide_eq_true hp)
  have hn6 := cli_name hp
  have ht0 := hp.2.1
  have HC := hid hcap
  clear hcap
  have HA := hid hA
  have HS := hid hsm
  clear hA hsm
  obtain ⟨W0, hW0⟩ : ∃ W0, W0 = (w.alloc (.cells #[.int .i64 i, .int .i64 99999, .int .i64 s, .string nm, .int .i64 ed, .int .i64 L, .int .i64 S, .slice a1 ws.length c1, .slice a2 gs.length c2, .int .i64 C, .int .i64 Z, .slice a es.length cap] 40)).alloc (.cells #[.int .i64 0, .int .i64 0, .int .i64 0, .string ⟨#[]⟩, .int .i64 0, .int .i64 0, .int .i64 0, .slice none 0 0, .slice none 0 0, .int .i64 0, .int .i64 0, .slice none 0 0] 40) := ⟨_, rfl⟩
  obtain ⟨X0, X1, B0⟩ := u_box2 (w := w) (c := #[.int .i64 i, .int .i64 99999, .int .i64 s, .string nm, .int .i64 ed, .int .i64 L, .int .i64 S, .slice a1 ws.length c1, .slice a2 gs.length c2, .int .i64 C, .int .i64 Z, .slice a es.length cap]) (t := 40) (d := #[.int .i64 0, .int .i64 0, .int .i64 0, .string ⟨#[]⟩, .int .i64 0, .int .i64 0, .int .i64 0, .slice none 0 0, .slice none 0 0, .int .i64 0, .int .i64 0, .slice none 0 0]) (s := 40) (w1 := W0) (by rw [hW0]; exact Below.refl _ _)
  have hs0 : w.heap.size + 2 ≤ W0.heap.size := by rw [hW0]; simp
  have X := hid X0
  have RR := hid X1
  have B := hid B0
  clear X0 X1 B0
  have hpp := hid hp
  clear hp
  go_enter Tryz.func17, Tryz.ntmps17
  repeat ((fail_if_success (with_reducible show Code.wp _ (Code.region 1 _ _) _ _ _)); (first | go_values | go_skip | go_guarded | go_step | go_upon | go_back | go_simp))
  rw [← hW0]
  clear hW0
  have y0 := (box_cell X.out 0 (v := .int .i64 i) rfl)
  have y1 := (box_cell X.out 1 (v := .int .i64 99999) rfl)
  have y2 := (box_cell X.out 2 (v := .int .i64 s) rfl)
  have y3 := (box_cell X.out 3 (v := .string nm) rfl)
  have y4 := (box_cell X.out 4 (v := .int .i64 ed) rfl)
  have y5 := (box_cell X.out 5 (v := .int .i64 L) rfl)
  have y6 := (box_cell X.out 6 (v := .int .i64 S) rfl)
  have y7 := (box_cell X.out 7 (v := .slice a1 ws.length c1) rfl)
  have y8 := (box_cell X.out 8 (v := .slice a2 gs.length c2) rfl)
  have y9 := (box_cell X.out 9 (v := .int .i64 C) rfl)
  have y10 := (box_cell X.out 10 (v := .int .i64 Z) rfl)
  have y11 := (box_cell X.out 11 (v := .slice a es.length cap) rfl)
  go_wp2_with fail
  refine (specCli_any i 99999 s ed nm L S a1 a2 c1 c2 ws gs C Z a cap es _ (HA.out.below B.out).i1 (HA.out.below B.out).i2 hx hy (HA.out.below B.out).eq hl HS.out hnm).mono ?_
  rintro e w1 ⟨rfl, b1⟩
  rw [HP.out]
  have hs1 := b1.size
  have X := hid (kept X.out b1)
  have RR := hid (kept RR.out b1)
  have B := hid (u_cat B.out b1)
  clear b1 y0 y1 y2 y3 y4 y5 y6 y7 y8 y9 y10 y11
  have y0 := (box_cell X.out 0 (v := .int .i64 i) rfl)
  have y1 := (box_cell X.out 1 (v := .int .i64 99999) rfl)
  have y2 := (box_cell X.out 2 (v := .int .i64 s) rfl)
  have y3 := (box_cell X.out 3 (v := .string nm) rfl)
  have y4 := (box_cell X.out 4 (v := .int .i64 ed) rfl)
  have y5 := (box_cell X.out 5 (v := .int .i64 L) rfl)
  have y6 := (box_cell X.out 6 (v := .int .i64 S) rfl)
  have y7 := (box_cell X.out 7 (v := .slice a1 ws.length c1) rfl)
  have y8 := (box_cell X.out 8 (v := .slice a2 gs.length c2) rfl)
  have y9 := (box_cell X.out 9 (v := .int .i64 C) rfl)
  have y10 := (box_cell X.out 10 (v := .int .i64 Z) rfl)
  have y11 := (box_cell X.out 11 (v := .slice a es.length cap) rfl)
  go_wp2_with fail
  refine (l13Copy_any i 99999 s ed nm L S a1 a2 c1 c2 ws gs C Z a cap es _ (HA.out.below B.out) hx hy hl HS.out hpp.out HC.out).mono ?_
  rintro _ w2 ⟨b1', d1, b2', d2, a', c', fs, rfl, o2, v2, b2⟩
  have hs2 := b2.size
  have hi2 := hid (gin_mono o2.in' (lo' := w.heap.size) (by omega))
  have O := hid (o2.mono (base' := w.heap.size + 2) (by omega))
  have VV := hid (vals_same.2 v2)
  have X := hid (kept X.out b2)
  have RR := hid (kept RR.out b2)
  have B := hid (u_cat B.out b2)
  clear b2 o2 v2
  clear y0 y1 y2 y3 y4 y5 y6 y7 y8 y9 y10 y11
  have y0 := (box_cell X.out 0 (v := .int .i64 i) rfl)
  have y1 := (box_cell X.out 1 (v := .int .i64 99999) rfl)
  have y2 := (box_cell X.out 2 (v := .int .i64 s) rfl)
  have y3 := (box_cell X.out 3 (v := .string nm) rfl)
  have y4 := (box_cell X.out 4 (v := .int .i64 ed) rfl)
  have y5 := (box_cell X.out 5 (v := .int .i64 L) rfl)
  have y6 := (box_cell X.out 6 (v := .int .i64 S) rfl)
  have y7 := (box_cell X.out 7 (v := .slice a1 ws.length c1) rfl)
  have y8 := (box_cell X.out 8 (v := .slice a2 gs.length c2) rfl)
  have y9 := (box_cell X.out 9 (v := .int .i64 C) rfl)
  have y10 := (box_cell X.out 10 (v := .int .i64 Z) rfl)
  have y11 := (box_cell X.out 11 (v := .slice a es.length cap) rfl)
  obtain ⟨g, hg⟩ : ∃ g, g = w2.heap.size := ⟨_, rfl⟩
  obtain ⟨V2, hV2⟩ : ∃ V2, V2 = w2.alloc (.cells #[.int .i64 i, .int .i64 99999, .int .i64 s, .string nm, .int .i64 ed, .int .i64 L, .int .i64 S, .slice b1' ws.length d1, .slice b2' gs.length d2, .int .i64 C, .int .i64 Z, .slice a' fs.length c'] 40) := ⟨_, rfl⟩
  have NN := hid (show V2.heap[g]? = some (.cells #[.int .i64 i, .int .i64 99999, .int .i64 s, .string nm, .int .i64 ed, .int .i64 L, .int .i64 S, .slice b1' ws.length d1, .slice b2' gs.length d2, .int .i64 C, .int .i64 Z, .slice a' fs.length c'] 40 (0, 0)) by rw [hV2, hg]; exact laid _ _ _)
  have bb : Below w2.heap.size w2 V2 := by rw [hV2]; exact u_b1 _ _
  have RR := hid (kept RR.out bb)
  have X := hid (kept X.out bb)
  have B := hid (u_cat B.out bb)
  have O := hid (O.out.below bb)
  have hg0 : w2.heap.size ≤ g := by omega
  have hs3 : g < V2.heap.size := lt_of_block NN.out
  clear y0 y1 y2 y3 y4 y5 y6 y7 y8 y9 y10 y11
  have y0 := (box_cell X.out 0 (v := .int .i64 i) rfl)
  have y1 := (box_cell X.out 1 (v := .int .i64 99999) rfl)
  have y2 := (box_cell X.out 2 (v := .int .i64 s) rfl)
  have y3 := (box_cell X.out 3 (v := .string nm) rfl)
  have y4 := (box_cell X.out 4 (v := .int .i64 ed) rfl)
  have y5 := (box_cell X.out 5 (v := .int .i64 L) rfl)
  have y6 := (box_cell X.out 6 (v := .int .i64 S) rfl)
  have y7 := (box_cell X.out 7 (v := .slice a1 ws.length c1) rfl)
  have y8 := (box_cell X.out 8 (v := .slice a2 gs.length c2) rfl)
  have y9 := (box_cell X.out 9 (v := .int .i64 C) rfl)
  have y10 := (box_cell X.out 10 (v := .int .i64 Z) rfl)
  have y11 := (box_cell X.out 11 (v := .slice a es.length cap) rfl)
  repeat ((fail_if_success (with_reducible show Code.wp _ (Code.region 4 _ _) _ _ _)); (first | go_values | go_skip | go_guarded | go_step | go_upon | go_back | go_simp))
  rw [← hV2, ← hg]
  clear hV2 bb hg
  have n0 := (box_cell NN.out 0 (v := .int .i64 i) rfl)
  have n1 := (box_cell NN.out 1 (v := .int .i64 99999) rfl)
  have n2 := (box_cell NN.out 2 (v := .int .i64 s) rfl)
  have n3 := (box_cell NN.out 3 (v := .string nm) rfl)
  have n4 := (box_cell NN.out 4 (v := .int .i64 ed) rfl)
  have n5 := (box_cell NN.out 5 (v := .int .i64 L) rfl)
  have n6 := (box_cell NN.out 6 (v := .int .i64 S) rfl)
  have n7 := (box_cell NN.out 7 (v := .slice b1' ws.length d1) rfl)
  have n8 := (box_cell NN.out 8 (v := .slice b2' gs.length d2) rfl)
  have n9 := (box_cell NN.out 9 (v := .int .i64 C) rfl)
  have n10 := (box_cell NN.out 10 (v := .int .i64 Z) rfl)
  have n11 := (box_cell NN.out 11 (v := .slice a' fs.length c') rfl)
  have r0 := (box_cell RR.out 0 (v := .int .i64 0) rfl)
  have r1 := (box_cell RR.out 1 (v := .int .i64 0) rfl)
  have r2 := (box_cell RR.out 2 (v := .int .i64 0) rfl)
  have r3 := (box_cell RR.out 3 (v := .string ⟨#[]⟩) rfl)
  have r4 := (box_cell RR.out 4 (v := .int .i64 0) rfl)
  have r5 := (box_cell RR.out 5 (v := .int .i64 0) rfl)
  have r6 := (box_cell RR.out 6 (v := .int .i64 0) rfl)
  have r7 := (box_cell RR.out 7 (v := .slice none 0 0) rfl)
  have r8 := (box_cell RR.out 8 (v := .slice none 0 0) rfl)
  have r9 := (box_cell RR.out 9 (v := .int .i64 0) rfl)
  have r10 := (box_cell RR.out 10 (v := .int .i64 0) rfl)
  have r11 := (box_cell RR.out 11 (v := .slice none 0 0) rfl)
  have zf := box_frozen RR.out
  have lr := lt_of_block RR.out
  go_wp2_with fail
  clear y0 y1 y2 y3 y4 y5 y6 y7 y8 y9 y10 y11 n0 n1 n2 n3 n4 n5 n6 n7 n8 n9 n10 n11 r0 r1 r2 r3 r4 r5 r6 r7 r8 r9 r10 r11 zf lr
  obtain ⟨V5, hV5⟩ : ∃ V5, V5 = ((((((((((((V2.setCell ⟨w.heap.size + 1, 0, none⟩ (.int .i64 i)).setCell ⟨w.heap.size + 1, 1, none⟩ (.int .i64 99999)).setCell ⟨w.heap.size + 1, 2, none⟩ (.int .i64 s)).setCell ⟨w.heap.size + 1, 3, none⟩ (.string nm)).setCell ⟨w.heap.size + 1, 4, none⟩ (.int .i64 ed)).setCell ⟨w.heap.size + 1, 5, none⟩ (.int .i64 L)).setCell ⟨w.heap.size + 1, 6, none⟩ (.int .i64 S)).setCell ⟨w.heap.size + 1, 7, none⟩ (.slice b1' ws.length d1)).setCell ⟨w.heap.size + 1, 8, none⟩ (.slice b2' gs.length d2)).setCell ⟨w.heap.size + 1, 9, none⟩ (.int .i64 C)).setCell ⟨w.heap.size + 1, 10, none⟩ (.int .i64 Z)).setCell ⟨w.heap.size + 1, 11, none⟩ (.slice a' fs.length c')) := ⟨_, rfl⟩
  have hq : V5 = setsC V2 (w.heap.size + 1) [.int .i64 i, .int .i64 99999, .int .i64 s, .string nm, .int .i64 ed, .int .i64 L, .int .i64 S, .slice b1' ws.length d1, .slice b2' gs.length d2, .int .i64 C, .int .i64 Z, .slice a' fs.length c'] 0 := hV5
  have R5 := (show V5.heap[w.heap.size + 1]? = some (.cells #[.int .i64 i, .int .i64 99999, .int .i64 s, .string nm, .int .i64 ed, .int .i64 L, .int .i64 S, .slice b1' ws.length d1, .slice b2' gs.length d2, .int .i64 C, .int .i64 Z, .slice a' fs.length c'] 40 (0, 0)) by rw [hq, sets_block [.int .i64 i, .int .i64 99999, .int .i64 s, .string nm, .int .i64 ed, .int .i64 L, .int .i64 S, .slice b1' ws.length d1, .slice b2' gs.length d2, .int .i64 C, .int .i64 Z, .slice a' fs.length c'] 0 V2 _ RR.out]; simp [setsA])
  have B5 : Below w.heap.size w V5 := by rw [hq]; exact sets_below (by omega) _ _ _ B.out
  have hz5 : V2.heap.size ≤ V5.heap.size := by rw [hq]; exact sets_size _ _ _ _
  have O5 : GetOwn V5 (w.heap.size + 2) ws gs b1' b2' d1 d2 a' c' fs := by rw [hq]; exact sets_own (by omega) _ _ _ O.out
  rw [← hV5]
  clear hV5 hq
  obtain ⟨V6, hV6⟩ : ∃ V6, V6 = V5.alloc (.cells #[] 64) := ⟨_, rfl⟩
  have bb : Below V5.heap.size V5 V6 := by rw [hV6]; exact u_b1 _ _
  have hz6 : V5.heap.size < V6.heap.size := by rw [hV6]; simp
  have R5 := kept R5 bb
  have B5 := u_cat B5 bb
  rw [← hV6]
  have O5 := O5.below bb
  have hzz : w2.heap.size ≤ V2.heap.size := by omega
  have y0 := box_cell R5 0 (v := .int .i64 i) rfl
  have y1 := box_cell R5 1 (v := .int .i64 99999) rfl
  have y2 := box_cell R5 2 (v := .int .i64 s) rfl
  have y3 := box_cell R5 3 (v := .string nm) rfl
  have y4 := box_cell R5 4 (v := .int .i64 ed) rfl
  have y5 := box_cell R5 5 (v := .int .i64 L) rfl
  have y6 := box_cell R5 6 (v := .int .i64 S) rfl
  have y7 := box_cell R5 7 (v := .slice b1' ws.length d1) rfl
  have y8 := box_cell R5 8 (v := .slice b2' gs.length d2) rfl
  have y9 := box_cell R5 9 (v := .int .i64 C) rfl
  have y10 := box_cell R5 10 (v := .int .i64 Z) rfl
  have y11 := box_cell R5 11 (v := .slice a' fs.length c') rfl
  refine bodyPost_ret (v := .tuple #[.agg #[.int .i64 i, .int .i64 99999, .int .i64 s, .string nm, .int .i64 ed, .int .i64 L, .int .i64 S, .slice b1' ws.length d1, .slice b2' gs.length d2, .int .i64 C, .int .i64 Z, .slice a' fs.length c'], .slice (some ⟨V2.heap.size, 0, none⟩) 0 0]) ?_ rfl ⟨⟨b1', d1, b2', d2, a', c', fs, .slice (some ⟨V2.heap.size, 0, none⟩) 0 0, w2.heap.size, rfl, O5.mono (by omega), hi2.out, .none _ _ (fun g hg => by cases hg; exact ⟨hzz, Nat.lt_of_le_of_lt hz5 hz6⟩), by omega, by omega, VV.out, (fun h => by cases h)⟩, B5⟩
  unfold results; rw [Tryz.results17]; simp [go_sem, y0, y1, y2, y3, y4, y5, y6, y7, y8, y9, y10, y11]
set_option maxHeartbeats 8000000 in
set_option maxRecDepth 100000 in
theorem specAgain_ed (i t s : Int) (nm : ByteArray) (L S : Int) (a1 a2 : Option Addr) (c1 c2 : Nat) (ws gs : List Int) (C Z : Int) (a : Option Addr) (cap : Nat) (es : List EqV) (w : World) (hA : GAt w a1 a2 a ws gs es) (hx : ws.length ≤ 1048576) (hy : gs.length ≤ 1048576) (hl : es.length ≤ 1048576) (hsm : SmallE es) (hnm : nm.size ≤ maxLen) (hcap : ∀ e ∈ es, e.a = none → e.c = 0) (hp : cliP i t s 0 nm (nonP L S ws.length gs.length C Z es.length) (getP L S ws gs C Z es) (getP L S ws gs C Z es ∧ (es.length : Int) = C)) (ht : t < 99999) :
    Calls Tryz.prog 17 #[.agg #[.int .i64 i, .int .i64 t, .int .i64 s, .string nm, .int .i64 0, .int .i64 L, .int .i64 S, .slice a1 ws.length c1, .slice a2 gs.length c2, .int .i64 C, .int .i64 Z, .slice a es.length cap]] w fun e w' => CliO w' w.heap.size i t s 0 nm L S C Z ws gs (valsE es) none false e ∧ Below w.heap.size w w' := by
  have HP := hid (decide_eq_true hp)
  have hn6 := cli_name hp
  have ht0 := hp.2.1
  have HC := hid hcap
  clear hcap
  have HA := hid hA
  have HS := hid hsm
  clear hA hsm
  obtain ⟨W0, hW0⟩ : ∃ W0, W0 = (w.alloc (.cells #[.int .i64 i, .int .i64 t, .int .i64 s, .string nm, .int .i64 0, .int .i64 L, .int .i64 S, .slice a1 ws.length c1, .slice a2 gs.length c2, .int .i64 C, .int .i64 Z, .slice a es.length cap] 40)).alloc (.cells #[.int .i64 0, .int .i64 0, .int .i64 0, .string ⟨#[]⟩, .int .i64 0, .int .i64 0, .int .i64 0, .slice none 0 0, .slice none 0 0, .int .i64 0, .int .i64 0, .slice none 0 0] 40) := ⟨_, rfl⟩
  obtain ⟨X0, X1, B0⟩ := u_box2 (w := w) (c := #[.int .i64 i, .int .i64 t, .int .i64 s, .string nm, .int .i64 0, .int .i64 L, .int .i64 S, .slice a1 ws.length c1, .slice a2 gs.length c2, .int .i64 C, .int .i64 Z, .slice a es.length cap]) (t := 40) (d := #[.int .i64 0, .int .i64 0, .int .i64 0, .string ⟨#[]⟩, .int .i64 0, .int .i64 0, .int .i64 0, .slice none 0 0, .slice none 0 0, .int .i64 0, .int .i64 0, .slice none 0 0]) (s := 40) (w1 := W0) (by rw [hW0]; exact Below.refl _ _)
  have hs0 : w.heap.size + 2 ≤ W0.heap.size := by rw [hW0]; simp
  have X := hid X0
  have RR := hid X1
  have B := hid B0
  clear X0 X1 B0
  have hpp := hid hp
  clear hp
  go_enter Tryz.func17, Tryz.ntmps17
  repeat ((fail_if_success (with_reducible show Code.wp _ (Code.region 1 _ _) _ _ _)); (first | go_values | go_skip | go_guarded | go_step | go_upon | go_back | go_simp))
  rw [← hW0]
  clear hW0
  have y0 := (box_cell X.out 0 (v := .int .i64 i) rfl)
  have y1 := (box_cell X.out 1 (v := .int .i64 t) rfl)
  have y2 := (box_cell X.out 2 (v := .int .i64 s) rfl)
  have y3 := (box_cell X.out 3 (v := .string nm) rfl)
  have y4 := (box_cell X.out 4 (v := .int .i64 0) rfl)
  have y5 := (box_cell X.out 5 (v := .int .i64 L) rfl)
  have y6 := (box_cell X.out 6 (v := .int .i64 S) rfl)
  have y7 := (box_cell X.out 7 (v := .slice a1 ws.length c1) rfl)
  have y8 := (box_cell X.out 8 (v := .slice a2 gs.length c2) rfl)
  have y9 := (box_cell X.out 9 (v := .int .i64 C) rfl)
  have y10 := (box_cell X.out 10 (v := .int .i64 Z) rfl)
  have y11 := (box_cell X.out 11 (v := .slice a es.length cap) rfl)
  go_wp2_with fail
  refine (specCli_any i t s 0 nm L S a1 a2 c1 c2 ws gs C Z a cap es _ (HA.out.below B.out).i1 (HA.out.below B.out).i2 hx hy (HA.out.below B.out).eq hl HS.out hnm).mono ?_
  rintro e w1 ⟨rfl, b1⟩
  rw [HP.out]
  have hs1 := b1.size
  have X := hid (kept X.out b1)
  have RR := hid (kept RR.out b1)
  have B := hid (u_cat B.out b1)
  clear b1 y0 y1 y2 y3 y4 y5 y6 y7 y8 y9 y10 y11
  have y0 := (box_cell X.out 0 (v := .int .i64 i) rfl)
  have y1 := (box_cell X.out 1 (v := .int .i64 t) rfl)
  have y2 := (box_cell X.out 2 (v := .int .i64 s) rfl)
  have y3 := (box_cell X.out 3 (v := .string nm) rfl)
  have y4 := (box_cell X.out 4 (v := .int .i64 0) rfl)
  have y5 := (box_cell X.out 5 (v := .int .i64 L) rfl)
  have y6 := (box_cell X.out 6 (v := .int .i64 S) rfl)
  have y7 := (box_cell X.out 7 (v := .slice a1 ws.length c1) rfl)
  have y8 := (box_cell X.out 8 (v := .slice a2 gs.length c2) rfl)
  have y9 := (box_cell X.out 9 (v := .int .i64 C) rfl)
  have y10 := (box_cell X.out 10 (v := .int .i64 Z) rfl)
  have y11 := (box_cell X.out 11 (v := .slice a es.length cap) rfl)
  go_wp2_with fail
  refine (l13Copy_any i t s 0 nm L S a1 a2 c1 c2 ws gs C Z a cap es _ (HA.out.below B.out) hx hy hl HS.out hpp.out HC.out).mono ?_
  rintro _ w2 ⟨b1', d1, b2', d2, a', c', fs, rfl, o2, v2, b2⟩
  have hs2 := b2.size
  have hi2 := hid (gin_mono o2.in' (lo' := w.heap.size) (by omega))
  have O := hid (o2.mono (base' := w.heap.size + 2) (by omega))
  have VV := hid (vals_same.2 v2)
  have X := hid (kept X.out b2)
  have RR := hid (kept RR.out b2)
  have B := hid (u_cat B.out b2)
  clear b2 o2 v2
  clear y0 y1 y2 y3 y4 y5 y6 y7 y8 y9 y10 y11
  have y0 := (box_cell X.out 0 (v := .int .i64 i) rfl)
  have y1 := (box_cell X.out 1 (v := .int .i64 t) rfl)
  have y2 := (box_cell X.out 2 (v := .int .i64 s) rfl)
  have y3 := (box_cell X.out 3 (v := .string nm) rfl)
  have y4 := (box_cell X.out 4 (v := .int .i64 0) rfl)
  have y5 := (box_cell X.out 5 (v := .int .i64 L) rfl)
  have y6 := (box_cell X.out 6 (v := .int .i64 S) rfl)
  have y7 := (box_cell X.out 7 (v := .slice a1 ws.length c1) rfl)
  have y8 := (box_cell X.out 8 (v := .slice a2 gs.length c2) rfl)
  have y9 := (box_cell X.out 9 (v := .int .i64 C) rfl)
  have y10 := (box_cell X.out 10 (v := .int .i64 Z) rfl)
  have y11 := (box_cell X.out 11 (v := .slice a es.length cap) rfl)
  obtain ⟨g, hg⟩ : ∃ g, g = w2.heap.size := ⟨_, rfl⟩
  obtain ⟨V2, hV2⟩ : ∃ V2, V2 = w2.alloc (.cells #[.int .i64 i, .int .i64 t, .int .i64 s, .string nm, .int .i64 0, .int .i64 L, .int .i64 S, .slice b1' ws.length d1, .slice b2' gs.length d2, .int .i64 C, .int .i64 Z, .slice a' fs.length c'] 40) := ⟨_, rfl⟩
  have NN := hid (show V2.heap[g]? = some (.cells #[.int .i64 i, .int .i64 t, .int .i64 s, .string nm, .int .i64 0, .int .i64 L, .int .i64 S, .slice b1' ws.length d1, .slice b2' gs.length d2, .int .i64 C, .int .i64 Z, .slice a' fs.length c'] 40 (0, 0)) by rw [hV2, hg]; exact laid _ _ _)
  have bb : Below w2.heap.size w2 V2 := by rw [hV2]; exact u_b1 _ _
  have RR := hid (kept RR.out bb)
  have X := hid (kept X.out bb)
  have B := hid (u_cat B.out bb)
  have O := hid (O.out.below bb)
  have hg0 : w2.heap.size ≤ g := by omega
  have hs3 : g < V2.heap.size := lt_of_block NN.out
  clear y0 y1 y2 y3 y4 y5 y6 y7 y8 y9 y10 y11
  have y0 := (box_cell X.out 0 (v := .int .i64 i) rfl)
  have y1 := (box_cell X.out 1 (v := .int .i64 t) rfl)
  have y2 := (box_cell X.out 2 (v := .int .i64 s) rfl)
  have y3 := (box_cell X.out 3 (v := .string nm) rfl)
  have y4 := (box_cell X.out 4 (v := .int .i64 0) rfl)
  have y5 := (box_cell X.out 5 (v := .int .i64 L) rfl)
  have y6 := (box_cell X.out 6 (v := .int .i64 S) rfl)
  have y7 := (box_cell X.out 7 (v := .slice a1 ws.length c1) rfl)
  have y8 := (box_cell X.out 8 (v := .slice a2 gs.length c2) rfl)
  have y9 := (box_cell X.out 9 (v := .int .i64 C) rfl)
  have y10 := (box_cell X.out 10 (v := .int .i64 Z) rfl)
  have y11 := (box_cell X.out 11 (v := .slice a es.length cap) rfl)
  repeat ((fail_if_success (with_reducible show Code.wp _ (Code.region 4 _ _) _ _ _)); (first | go_values | go_skip | go_guarded | go_step | go_upon | go_back | go_simp))
  rw [← hV2, ← hg]
  clear hV2 bb hg
  have n0 := (box_cell NN.out 0 (v := .int .i64 i) rfl)
  have n1 := (box_cell NN.out 1 (v := .int .i64 t) rfl)
  have n2 := (box_cell NN.out 2 (v := .int .i64 s) rfl)
  have n3 := (box_cell NN.out 3 (v := .string nm) rfl)
  have n4 := (box_cell NN.out 4 (v := .int .i64 0) rfl)
  have n5 := (box_cell NN.out 5 (v := .int .i64 L) rfl)
  have n6 := (box_cell NN.out 6 (v := .int .i64 S) rfl)
  have n7 := (box_cell NN.out 7 (v := .slice b1' ws.length d1) rfl)
  have n8 := (box_cell NN.out 8 (v := .slice b2' gs.length d2) rfl)
  have n9 := (box_cell NN.out 9 (v := .int .i64 C) rfl)
  have n10 := (box_cell NN.out 10 (v := .int .i64 Z) rfl)
  have n11 := (box_cell NN.out 11 (v := .slice a' fs.length c') rfl)
  have r0 := (box_cell RR.out 0 (v := .int .i64 0) rfl)
  have r1 := (box_cell RR.out 1 (v := .int .i64 0) rfl)
  have r2 := (box_cell RR.out 2 (v := .int .i64 0) rfl)
  have r3 := (box_cell RR.out 3 (v := .string ⟨#[]⟩) rfl)
  have r4 := (box_cell RR.out 4 (v := .int .i64 0) rfl)
  have r5 := (box_cell RR.out 5 (v := .int .i64 0) rfl)
  have r6 := (box_cell RR.out 6 (v := .int .i64 0) rfl)
  have r7 := (box_cell RR.out 7 (v := .slice none 0 0) rfl)
  have r8 := (box_cell RR.out 8 (v := .slice none 0 0) rfl)
  have r9 := (box_cell RR.out 9 (v := .int .i64 0) rfl)
  have r10 := (box_cell RR.out 10 (v := .int .i64 0) rfl)
  have r11 := (box_cell RR.out 11 (v := .slice none 0 0) rfl)
  have zf := box_frozen RR.out
  have lr := lt_of_block RR.out
  go_wp2_with fail
  clear y0 y1 y2 y3 y4 y5 y6 y7 y8 y9 y10 y11 n0 n1 n2 n3 n4 n5 n6 n7 n8 n9 n10 n11 r0 r1 r2 r3 r4 r5 r6 r7 r8 r9 r10 r11 zf lr
  obtain ⟨V5, hV5⟩ : ∃ V5, V5 = ((((((((((((V2.setCell ⟨w.heap.size + 1, 0, none⟩ (.int .i64 i)).setCell ⟨w.heap.size + 1, 1, none⟩ (.int .i64 t)).setCell ⟨w.heap.size + 1, 2, none⟩ (.int .i64 s)).setCell ⟨w.heap.size + 1, 3, none⟩ (.string nm)).setCell ⟨w.heap.size + 1, 4, none⟩ (.int .i64 0)).setCell ⟨w.heap.size + 1, 5, none⟩ (.int .i64 L)).setCell ⟨w.heap.size + 1, 6, none⟩ (.int .i64 S)).setCell ⟨w.heap.size + 1, 7, none⟩ (.slice b1' ws.length d1)).setCell ⟨w.heap.size + 1, 8, none⟩ (.slice b2' gs.length d2)).setCell ⟨w.heap.size + 1, 9, none⟩ (.int .i64 C)).setCell ⟨w.heap.size + 1, 10, none⟩ (.int .i64 Z)).setCell ⟨w.heap.size + 1, 11, none⟩ (.slice a' fs.length c')) := ⟨_, rfl⟩
  have hq : V5 = setsC V2 (w.heap.size + 1) [.int .i64 i, .int .i64 t, .int .i64 s, .string nm, .int .i64 0, .int .i64 L, .int .i64 S, .slice b1' ws.length d1, .slice b2' gs.length d2, .int .i64 C, .int .i64 Z, .slice a' fs.length c'] 0 := hV5
  have R5 := (show V5.heap[w.heap.size + 1]? = some (.cells #[.int .i64 i, .int .i64 t, .int .i64 s, .string nm, .int .i64 0, .int .i64 L, .int .i64 S, .slice b1' ws.length d1, .slice b2' gs.length d2, .int .i64 C, .int .i64 Z, .slice a' fs.length c'] 40 (0, 0)) by rw [hq, sets_block [.int .i64 i, .int .i64 t, .int .i64 s, .string nm, .int .i64 0, .int .i64 L, .int .i64 S, .slice b1' ws.length d1, .slice b2' gs.length d2, .int .i64 C, .int .i64 Z, .slice a' fs.length c'] 0 V2 _ RR.out]; simp [setsA])
  have B5 : Below w.heap.size w V5 := by rw [hq]; exact sets_below (by omega) _ _ _ B.out
  have hz5 : V2.heap.size ≤ V5.heap.size := by rw [hq]; exact sets_size _ _ _ _
  have O5 : GetOwn V5 (w.heap.size + 2) ws gs b1' b2' d1 d2 a' c' fs := by rw [hq]; exact sets_own (by omega) _ _ _ O.out
  rw [← hV5]
  clear hV5 hq
  obtain ⟨V6, hV6⟩ : ∃ V6, V6 = V5.alloc (.cells #[] 64) := ⟨_, rfl⟩
  have bb : Below V5.heap.size V5 V6 := by rw [hV6]; exact u_b1 _ _
  have hz6 : V5.heap.size < V6.heap.size := by rw [hV6]; simp
  have R5 := kept R5 bb
  have B5 := u_cat B5 bb
  rw [← hV6]
  have O5 := O5.below bb
  have hzz : w2.heap.size ≤ V2.heap.size := by omega
  have y0 := box_cell R5 0 (v := .int .i64 i) rfl
  have y1 := box_cell R5 1 (v := .int .i64 t) rfl
  have y2 := box_cell R5 2 (v := .int .i64 s) rfl
  have y3 := box_cell R5 3 (v := .string nm) rfl
  have y4 := box_cell R5 4 (v := .int .i64 0) rfl
  have y5 := box_cell R5 5 (v := .int .i64 L) rfl
  have y6 := box_cell R5 6 (v := .int .i64 S) rfl
  have y7 := box_cell R5 7 (v := .slice b1' ws.length d1) rfl
  have y8 := box_cell R5 8 (v := .slice b2' gs.length d2) rfl
  have y9 := box_cell R5 9 (v := .int .i64 C) rfl
  have y10 := box_cell R5 10 (v := .int .i64 Z) rfl
  have y11 := box_cell R5 11 (v := .slice a' fs.length c') rfl
  refine bodyPost_ret (v := .tuple #[.agg #[.int .i64 i, .int .i64 t, .int .i64 s, .string nm, .int .i64 0, .int .i64 L, .int .i64 S, .slice b1' ws.length d1, .slice b2' gs.length d2, .int .i64 C, .int .i64 Z, .slice a' fs.length c'], .slice (some ⟨V2.heap.size, 0, none⟩) 0 0]) ?_ rfl ⟨⟨b1', d1, b2', d2, a', c', fs, .slice (some ⟨V2.heap.size, 0, none⟩) 0 0, w2.heap.size, rfl, O5.mono (by omega), hi2.out, .none _ _ (fun g hg => by cases hg; exact ⟨hzz, Nat.lt_of_le_of_lt hz5 hz6⟩), by omega, by omega, VV.out, (fun h => by cases h)⟩, B5⟩
  unfold results; rw [Tryz.results17]; simp [go_sem, y0, y1, y2, y3, y4, y5, y6, y7, y8, y9, y10, y11]
set_option maxHeartbeats 8000000 in
set_option maxRecDepth 100000 in
theorem specAgain_known (i t ed : Int) (nm : ByteArray) (L S : Int) (a1 a2 : Option Addr) (c1 c2 : Nat) (ws gs : List Int) (C Z : Int) (a : Option Addr) (cap : Nat) (es : List EqV) (w : World) (hA : GAt w a1 a2 a ws gs es) (hx : ws.length ≤ 1048576) (hy : gs.length ≤ 1048576) (hl : es.length ≤ 1048576) (hsm : SmallE es) (hnm : nm.size ≤ maxLen) (hcap : ∀ e ∈ es, e.a = none → e.c = 0) (hp : cliP i t 3 ed nm (nonP L S ws.length gs.length C Z es.length) (getP L S ws gs C Z es) (getP L S ws gs C Z es ∧ (es.length : Int) = C)) (ht : t < 99999) (he : ed ≠ 0) :
    Calls Tryz.prog 17 #[.agg #[.int .i64 i, .int .i64 t, .int .i64 3, .string nm, .int .i64 ed, .int .i64 L, .int .i64 S, .slice a1 ws.length c1, .slice a2 gs.length c2, .int .i64 C, .int .i64 Z, .slice a es.length cap]] w fun e w' => CliO w' w.heap.size i t 3 ed nm L S C Z ws gs (valsE es) none false e ∧ Below w.heap.size w w' := by
  have HP := hid (decide_eq_true hp)
  have hn6 := cli_name hp
  have ht0 := hp.2.1
  have be0 : (ed == 0) = false := beq_eq_false_iff_ne.2 he
  have HC := hid hcap
  clear hcap
  have HA := hid hA
  have HS := hid hsm
  clear hA hsm
  obtain ⟨W0, hW0⟩ : ∃ W0, W0 = (w.alloc (.cells #[.int .i64 i, .int .i64 t, .int .i64 3, .string nm, .int .i64 ed, .int .i64 L, .int .i64 S, .slice a1 ws.length c1, .slice a2 gs.length c2, .int .i64 C, .int .i64 Z, .slice a es.length cap] 40)).alloc (.cells #[.int .i64 0, .int .i64 0, .int .i64 0, .string ⟨#[]⟩, .int .i64 0, .int .i64 0, .int .i64 0, .slice none 0 0, .slice none 0 0, .int .i64 0, .int .i64 0, .slice none 0 0] 40) := ⟨_, rfl⟩
  obtain ⟨X0, X1, B0⟩ := u_box2 (w := w) (c := #[.int .i64 i, .int .i64 t, .int .i64 3, .string nm, .int .i64 ed, .int .i64 L, .int .i64 S, .slice a1 ws.length c1, .slice a2 gs.length c2, .int .i64 C, .int .i64 Z, .slice a es.length cap]) (t := 40) (d := #[.int .i64 0, .int .i64 0, .int .i64 0, .string ⟨#[]⟩, .int .i64 0, .int .i64 0, .int .i64 0, .slice none 0 0, .slice none 0 0, .int .i64 0, .int .i64 0, .slice none 0 0]) (s := 40) (w1 := W0) (by rw [hW0]; exact Below.refl _ _)
  have hs0 : w.heap.size + 2 ≤ W0.heap.size := by rw [hW0]; simp
  have X := hid X0
  have RR := hid X1
  have B := hid B0
  clear X0 X1 B0
  have hpp := hid hp
  clear hp
  go_enter Tryz.func17, Tryz.ntmps17
  repeat ((fail_if_success (with_reducible show Code.wp _ (Code.region 1 _ _) _ _ _)); (first | go_values | go_skip | go_guarded | go_step | go_upon | go_back | go_simp))
  rw [← hW0]
  clear hW0
  have y0 := (box_cell X.out 0 (v := .int .i64 i) rfl)
  have y1 := (box_cell X.out 1 (v := .int .i64 t) rfl)
  have y2 := (box_cell X.out 2 (v := .int .i64 3) rfl)
  have y3 := (box_cell X.out 3 (v := .string nm) rfl)
  have y4 := (box_cell X.out 4 (v := .int .i64 ed) rfl)
  have y5 := (box_cell X.out 5 (v := .int .i64 L) rfl)
  have y6 := (box_cell X.out 6 (v := .int .i64 S) rfl)
  have y7 := (box_cell X.out 7 (v := .slice a1 ws.length c1) rfl)
  have y8 := (box_cell X.out 8 (v := .slice a2 gs.length c2) rfl)
  have y9 := (box_cell X.out 9 (v := .int .i64 C) rfl)
  have y10 := (box_cell X.out 10 (v := .int .i64 Z) rfl)
  have y11 := (box_cell X.out 11 (v := .slice a es.length cap) rfl)
  go_wp2_with fail
  refine (specCli_any i t 3 ed nm L S a1 a2 c1 c2 ws gs C Z a cap es _ (HA.out.below B.out).i1 (HA.out.below B.out).i2 hx hy (HA.out.below B.out).eq hl HS.out hnm).mono ?_
  rintro e w1 ⟨rfl, b1⟩
  rw [HP.out]
  have hs1 := b1.size
  have X := hid (kept X.out b1)
  have RR := hid (kept RR.out b1)
  have B := hid (u_cat B.out b1)
  clear b1 y0 y1 y2 y3 y4 y5 y6 y7 y8 y9 y10 y11
  have y0 := (box_cell X.out 0 (v := .int .i64 i) rfl)
  have y1 := (box_cell X.out 1 (v := .int .i64 t) rfl)
  have y2 := (box_cell X.out 2 (v := .int .i64 3) rfl)
  have y3 := (box_cell X.out 3 (v := .string nm) rfl)
  have y4 := (box_cell X.out 4 (v := .int .i64 ed) rfl)
  have y5 := (box_cell X.out 5 (v := .int .i64 L) rfl)
  have y6 := (box_cell X.out 6 (v := .int .i64 S) rfl)
  have y7 := (box_cell X.out 7 (v := .slice a1 ws.length c1) rfl)
  have y8 := (box_cell X.out 8 (v := .slice a2 gs.length c2) rfl)
  have y9 := (box_cell X.out 9 (v := .int .i64 C) rfl)
  have y10 := (box_cell X.out 10 (v := .int .i64 Z) rfl)
  have y11 := (box_cell X.out 11 (v := .slice a es.length cap) rfl)
  go_wp2_with fail
  refine (l13Copy_any i t 3 ed nm L S a1 a2 c1 c2 ws gs C Z a cap es _ (HA.out.below B.out) hx hy hl HS.out hpp.out HC.out).mono ?_
  rintro _ w2 ⟨b1', d1, b2', d2, a', c', fs, rfl, o2, v2, b2⟩
  have hs2 := b2.size
  have hi2 := hid (gin_mono o2.in' (lo' := w.heap.size) (by omega))
  have O := hid (o2.mono (base' := w.heap.size + 2) (by omega))
  have VV := hid (vals_same.2 v2)
  have X := hid (kept X.out b2)
  have RR := hid (kept RR.out b2)
  have B := hid (u_cat B.out b2)
  clear b2 o2 v2
  clear y0 y1 y2 y3 y4 y5 y6 y7 y8 y9 y10 y11
  have y0 := (box_cell X.out 0 (v := .int .i64 i) rfl)
  have y1 := (box_cell X.out 1 (v := .int .i64 t) rfl)
  have y2 := (box_cell X.out 2 (v := .int .i64 3) rfl)
  have y3 := (box_cell X.out 3 (v := .string nm) rfl)
  have y4 := (box_cell X.out 4 (v := .int .i64 ed) rfl)
  have y5 := (box_cell X.out 5 (v := .int .i64 L) rfl)
  have y6 := (box_cell X.out 6 (v := .int .i64 S) rfl)
  have y7 := (box_cell X.out 7 (v := .slice a1 ws.length c1) rfl)
  have y8 := (box_cell X.out 8 (v := .slice a2 gs.length c2) rfl)
  have y9 := (box_cell X.out 9 (v := .int .i64 C) rfl)
  have y10 := (box_cell X.out 10 (v := .int .i64 Z) rfl)
  have y11 := (box_cell X.out 11 (v := .slice a es.length cap) rfl)
  obtain ⟨g, hg⟩ : ∃ g, g = w2.heap.size := ⟨_, rfl⟩
  obtain ⟨V2, hV2⟩ : ∃ V2, V2 = w2.alloc (.cells #[.int .i64 i, .int .i64 t, .int .i64 3, .string nm, .int .i64 ed, .int .i64 L, .int .i64 S, .slice b1' ws.length d1, .slice b2' gs.length d2, .int .i64 C, .int .i64 Z, .slice a' fs.length c'] 40) := ⟨_, rfl⟩
  have NN := hid (show V2.heap[g]? = some (.cells #[.int .i64 i, .int .i64 t, .int .i64 3, .string nm, .int .i64 ed, .int .i64 L, .int .i64 S, .slice b1' ws.length d1, .slice b2' gs.length d2, .int .i64 C, .int .i64 Z, .slice a' fs.length c'] 40 (0, 0)) by rw [hV2, hg]; exact laid _ _ _)
  have bb : Below w2.heap.size w2 V2 := by rw [hV2]; exact u_b1 _ _
  have RR := hid (kept RR.out bb)
  have X := hid (kept X.out bb)
  have B := hid (u_cat B.out bb)
  have O := hid (O.out.below bb)
  have hg0 : w2.heap.size ≤ g := by omega
  have hs3 : g < V2.heap.size := lt_of_block NN.out
  clear y0 y1 y2 y3 y4 y5 y6 y7 y8 y9 y10 y11
  have y0 := (box_cell X.out 0 (v := .int .i64 i) rfl)
  have y1 := (box_cell X.out 1 (v := .int .i64 t) rfl)
  have y2 := (box_cell X.out 2 (v := .int .i64 3) rfl)
  have y3 := (box_cell X.out 3 (v := .string nm) rfl)
  have y4 := (box_cell X.out 4 (v := .int .i64 ed) rfl)
  have y5 := (box_cell X.out 5 (v := .int .i64 L) rfl)
  have y6 := (box_cell X.out 6 (v := .int .i64 S) rfl)
  have y7 := (box_cell X.out 7 (v := .slice a1 ws.length c1) rfl)
  have y8 := (box_cell X.out 8 (v := .slice a2 gs.length c2) rfl)
  have y9 := (box_cell X.out 9 (v := .int .i64 C) rfl)
  have y10 := (box_cell X.out 10 (v := .int .i64 Z) rfl)
  have y11 := (box_cell X.out 11 (v := .slice a es.length cap) rfl)
  repeat ((fail_if_success (with_reducible show Code.wp _ (Code.region 4 _ _) _ _ _)); (first | go_values | go_skip | go_guarded | go_step | go_upon | go_back | go_simp))
  rw [← hV2, ← hg]
  clear hV2 bb hg
  have n0 := (box_cell NN.out 0 (v := .int .i64 i) rfl)
  have n1 := (box_cell NN.out 1 (v := .int .i64 t) rfl)
  have n2 := (box_cell NN.out 2 (v := .int .i64 3) rfl)
  have n3 := (box_cell NN.out 3 (v := .string nm) rfl)
  have n4 := (box_cell NN.out 4 (v := .int .i64 ed) rfl)
  have n5 := (box_cell NN.out 5 (v := .int .i64 L) rfl)
  have n6 := (box_cell NN.out 6 (v := .int .i64 S) rfl)
  have n7 := (box_cell NN.out 7 (v := .slice b1' ws.length d1) rfl)
  have n8 := (box_cell NN.out 8 (v := .slice b2' gs.length d2) rfl)
  have n9 := (box_cell NN.out 9 (v := .int .i64 C) rfl)
  have n10 := (box_cell NN.out 10 (v := .int .i64 Z) rfl)
  have n11 := (box_cell NN.out 11 (v := .slice a' fs.length c') rfl)
  have r0 := (box_cell RR.out 0 (v := .int .i64 0) rfl)
  have r1 := (box_cell RR.out 1 (v := .int .i64 0) rfl)
  have r2 := (box_cell RR.out 2 (v := .int .i64 0) rfl)
  have r3 := (box_cell RR.out 3 (v := .string ⟨#[]⟩) rfl)
  have r4 := (box_cell RR.out 4 (v := .int .i64 0) rfl)
  have r5 := (box_cell RR.out 5 (v := .int .i64 0) rfl)
  have r6 := (box_cell RR.out 6 (v := .int .i64 0) rfl)
  have r7 := (box_cell RR.out 7 (v := .slice none 0 0) rfl)
  have r8 := (box_cell RR.out 8 (v := .slice none 0 0) rfl)
  have r9 := (box_cell RR.out 9 (v := .int .i64 0) rfl)
  have r10 := (box_cell RR.out 10 (v := .int .i64 0) rfl)
  have r11 := (box_cell RR.out 11 (v := .slice none 0 0) rfl)
  have zf := box_frozen RR.out
  have lr := lt_of_block RR.out
  go_wp2_with fail
  clear y0 y1 y2 y3 y4 y5 y6 y7 y8 y9 y10 y11 n0 n1 n2 n3 n4 n5 n6 n7 n8 n9 n10 n11 r0 r1 r2 r3 r4 r5 r6 r7 r8 r9 r10 r11 zf lr
  obtain ⟨V5, hV5⟩ : ∃ V5, V5 = ((((((((((((V2.setCell ⟨w.heap.size + 1, 0, none⟩ (.int .i64 i)).setCell ⟨w.heap.size + 1, 1, none⟩ (.int .i64 t)).setCell ⟨w.heap.size + 1, 2, none⟩ (.int .i64 3)).setCell ⟨w.heap.size + 1, 3, none⟩ (.string nm)).setCell ⟨w.heap.size + 1, 4, none⟩ (.int .i64 ed)).setCell ⟨w.heap.size + 1, 5, none⟩ (.int .i64 L)).setCell ⟨w.heap.size + 1, 6, none⟩ (.int .i64 S)).setCell ⟨w.heap.size + 1, 7, none⟩ (.slice b1' ws.length d1)).setCell ⟨w.heap.size + 1, 8, none⟩ (.slice b2' gs.length d2)).setCell ⟨w.heap.size + 1, 9, none⟩ (.int .i64 C)).setCell ⟨w.heap.size + 1, 10, none⟩ (.int .i64 Z)).setCell ⟨w.heap.size + 1, 11, none⟩ (.slice a' fs.length c')) := ⟨_, rfl⟩
  have hq : V5 = setsC V2 (w.heap.size + 1) [.int .i64 i, .int .i64 t, .int .i64 3, .string nm, .int .i64 ed, .int .i64 L, .int .i64 S, .slice b1' ws.length d1, .slice b2' gs.length d2, .int .i64 C, .int .i64 Z, .slice a' fs.length c'] 0 := hV5
  have R5 := (show V5.heap[w.heap.size + 1]? = some (.cells #[.int .i64 i, .int .i64 t, .int .i64 3, .string nm, .int .i64 ed, .int .i64 L, .int .i64 S, .slice b1' ws.length d1, .slice b2' gs.length d2, .int .i64 C, .int .i64 Z, .slice a' fs.length c'] 40 (0, 0)) by rw [hq, sets_block [.int .i64 i, .int .i64 t, .int .i64 3, .string nm, .int .i64 ed, .int .i64 L, .int .i64 S, .slice b1' ws.length d1, .slice b2' gs.length d2, .int .i64 C, .int .i64 Z, .slice a' fs.length c'] 0 V2 _ RR.out]; simp [setsA])
  have B5 : Below w.heap.size w V5 := by rw [hq]; exact sets_below (by omega) _ _ _ B.out
  have hz5 : V2.heap.size ≤ V5.heap.size := by rw [hq]; exact sets_size _ _ _ _
  have O5 : GetOwn V5 (w.heap.size + 2) ws gs b1' b2' d1 d2 a' c' fs := by rw [hq]; exact sets_own (by omega) _ _ _ O.out
  rw [← hV5]
  clear hV5 hq
  obtain ⟨V6, hV6⟩ : ∃ V6, V6 = V5.alloc (.cells #[] 64) := ⟨_, rfl⟩
  have bb : Below V5.heap.size V5 V6 := by rw [hV6]; exact u_b1 _ _
  have hz6 : V5.heap.size < V6.heap.size := by rw [hV6]; simp
  have R5 := kept R5 bb
  have B5 := u_cat B5 bb
  rw [← hV6]
  have O5 := O5.below bb
  have hzz : w2.heap.size ≤ V2.heap.size := by omega
  have y0 := box_cell R5 0 (v := .int .i64 i) rfl
  have y1 := box_cell R5 1 (v := .int .i64 t) rfl
  have y2 := box_cell R5 2 (v := .int .i64 3) rfl
  have y3 := box_cell R5 3 (v := .string nm) rfl
  have y4 := box_cell R5 4 (v := .int .i64 ed) rfl
  have y5 := box_cell R5 5 (v := .int .i64 L) rfl
  have y6 := box_cell R5 6 (v := .int .i64 S) rfl
  have y7 := box_cell R5 7 (v := .slice b1' ws.length d1) rfl
  have y8 := box_cell R5 8 (v := .slice b2' gs.length d2) rfl
  have y9 := box_cell R5 9 (v := .int .i64 C) rfl
  have y10 := box_cell R5 10 (v := .int .i64 Z) rfl
  have y11 := box_cell R5 11 (v := .slice a' fs.length c') rfl
  refine bodyPost_ret (v := .tuple #[.agg #[.int .i64 i, .int .i64 t, .int .i64 3, .string nm, .int .i64 ed, .int .i64 L, .int .i64 S, .slice b1' ws.length d1, .slice b2' gs.length d2, .int .i64 C, .int .i64 Z, .slice a' fs.length c'], .slice (some ⟨V2.heap.size, 0, none⟩) 0 0]) ?_ rfl ⟨⟨b1', d1, b2', d2, a', c', fs, .slice (some ⟨V2.heap.size, 0, none⟩) 0 0, w2.heap.size, rfl, O5.mono (by omega), hi2.out, .none _ _ (fun g hg => by cases hg; exact ⟨hzz, Nat.lt_of_le_of_lt hz5 hz6⟩), by omega, by omega, VV.out, (fun h => by cases h)⟩, B5⟩
  unfold results; rw [Tryz.results17]; simp [go_sem, y0, y1, y2, y3, y4, y5, y6, y7, y8, y9, y10, y11]
set_option maxHeartbeats 8000000 in
set_option maxRecDepth 100000 in
theorem specAgain_new (i t s ed : Int) (nm : ByteArray) (L S : Int) (a1 a2 : Option Addr) (c1 c2 : Nat) (ws gs : List Int) (C Z : Int) (a : Option Addr) (cap : Nat) (es : List EqV) (w : World) (hA : GAt w a1 a2 a ws gs es) (hx : ws.length ≤ 1048576) (hy : gs.length ≤ 1048576) (hl : es.length ≤ 1048576) (hsm : SmallE es) (hnm : nm.size ≤ maxLen) (hcap : ∀ e ∈ es, e.a = none → e.c = 0) (hp : cliP i t s ed nm (nonP L S ws.length gs.length C Z es.length) (getP L S ws gs C Z es) (getP L S ws gs C Z es ∧ (es.length : Int) = C)) (ht : t < 99999) (he : ed ≠ 0) (h3 : s ≠ 3) :
    Calls Tryz.prog 17 #[.agg #[.int .i64 i, .int .i64 t, .int .i64 s, .string nm, .int .i64 ed, .int .i64 L, .int .i64 S, .slice a1 ws.length c1, .slice a2 gs.length c2, .int .i64 C, .int .i64 Z, .slice a es.length cap]] w fun e w' => CliO w' w.heap.size i (t + 1) 1 ed nm L S C Z ws gs (valsE es) (some ⟨1, i, (t + 1), ed, 0, nm, ⟨#[]⟩⟩) false e ∧ Below w.heap.size w w' := by
  have HP := hid (decide_eq_true hp)
  have hn6 := cli_name hp
  have ht0 := hp.2.1
  have be0 : (ed == 0) = false := beq_eq_false_iff_ne.2 he
  have bs3 : (s == 3) = false := beq_eq_false_iff_ne.2 h3
  have HC := hid hcap
  clear hcap
  have HA := hid hA
  have HS := hid hsm
  clear hA hsm
  obtain ⟨W0, hW0⟩ : ∃ W0, W0 = (w.alloc (.cells #[.int .i64 i, .int .i64 t, .int .i64 s, .string nm, .int .i64 ed, .int .i64 L, .int .i64 S, .slice a1 ws.length c1, .slice a2 gs.length c2, .int .i64 C, .int .i64 Z, .slice a es.length cap] 40)).alloc (.cells #[.int .i64 0, .int .i64 0, .int .i64 0, .string ⟨#[]⟩, .int .i64 0, .int .i64 0, .int .i64 0, .slice none 0 0, .slice none 0 0, .int .i64 0, .int .i64 0, .slice none 0 0] 40) := ⟨_, rfl⟩
  obtain ⟨X0, X1, B0⟩ := u_box2 (w := w) (c := #[.int .i64 i, .int .i64 t, .int .i64 s, .string nm, .int .i64 ed, .int .i64 L, .int .i64 S, .slice a1 ws.length c1, .slice a2 gs.length c2, .int .i64 C, .int .i64 Z, .slice a es.length cap]) (t := 40) (d := #[.int .i64 0, .int .i64 0, .int .i64 0, .string ⟨#[]⟩, .int .i64 0, .int .i64 0, .int .i64 0, .slice none 0 0, .slice none 0 0, .int .i64 0, .int .i64 0, .slice none 0 0]) (s := 40) (w1 := W0) (by rw [hW0]; exact Below.refl _ _)
  have hs0 : w.heap.size + 2 ≤ W0.heap.size := by rw [hW0]; simp
  have X := hid X0
  have RR := hid X1
  have B := hid B0
  clear X0 X1 B0
  have hpp := hid hp
  clear hp
  go_enter Tryz.func17, Tryz.ntmps17
  repeat ((fail_if_success (with_reducible show Code.wp _ (Code.region 1 _ _) _ _ _)); (first | go_values | go_skip | go_guarded | go_step | go_upon | go_back | go_simp))
  rw [← hW0]
  clear hW0
  have y0 := (box_cell X.out 0 (v := .int .i64 i) rfl)
  have y1 := (box_cell X.out 1 (v := .int .i64 t) rfl)
  have y2 := (box_cell X.out 2 (v := .int .i64 s) rfl)
  have y3 := (box_cell X.out 3 (v := .string nm) rfl)
  have y4 := (box_cell X.out 4 (v := .int .i64 ed) rfl)
  have y5 := (box_cell X.out 5 (v := .int .i64 L) rfl)
  have y6 := (box_cell X.out 6 (v := .int .i64 S) rfl)
  have y7 := (box_cell X.out 7 (v := .slice a1 ws.length c1) rfl)
  have y8 := (box_cell X.out 8 (v := .slice a2 gs.length c2) rfl)
  have y9 := (box_cell X.out 9 (v := .int .i64 C) rfl)
  have y10 := (box_cell X.out 10 (v := .int .i64 Z) rfl)
  have y11 := (box_cell X.out 11 (v := .slice a es.length cap) rfl)
  go_wp2_with fail
  refine (specCli_any i t s ed nm L S a1 a2 c1 c2 ws gs C Z a cap es _ (HA.out.below B.out).i1 (HA.out.below B.out).i2 hx hy (HA.out.below B.out).eq hl HS.out hnm).mono ?_
  rintro e w1 ⟨rfl, b1⟩
  rw [HP.out]
  have hs1 := b1.size
  have X := hid (kept X.out b1)
  have RR := hid (kept RR.out b1)
  have B := hid (u_cat B.out b1)
  clear b1 y0 y1 y2 y3 y4 y5 y6 y7 y8 y9 y10 y11
  have y0 := (box_cell X.out 0 (v := .int .i64 i) rfl)
  have y1 := (box_cell X.out 1 (v := .int .i64 t) rfl)
  have y2 := (box_cell X.out 2 (v := .int .i64 s) rfl)
  have y3 := (box_cell X.out 3 (v := .string nm) rfl)
  have y4 := (box_cell X.out 4 (v := .int .i64 ed) rfl)
  have y5 := (box_cell X.out 5 (v := .int .i64 L) rfl)
  have y6 := (box_cell X.out 6 (v := .int .i64 S) rfl)
  have y7 := (box_cell X.out 7 (v := .slice a1 ws.length c1) rfl)
  have y8 := (box_cell X.out 8 (v := .slice a2 gs.length c2) rfl)
  have y9 := (box_cell X.out 9 (v := .int .i64 C) rfl)
  have y10 := (box_cell X.out 10 (v := .int .i64 Z) rfl)
  have y11 := (box_cell X.out 11 (v := .slice a es.length cap) rfl)
  go_wp2_with fail
  refine (l13Copy_any i t s ed nm L S a1 a2 c1 c2 ws gs C Z a cap es _ (HA.out.below B.out) hx hy hl HS.out hpp.out HC.out).mono ?_
  rintro _ w2 ⟨b1', d1, b2', d2, a', c', fs, rfl, o2, v2, b2⟩
  have hs2 := b2.size
  have hi2 := hid (gin_mono o2.in' (lo' := w.heap.size) (by omega))
  have O := hid (o2.mono (base' := w.heap.size + 2) (by omega))
  have VV := hid (vals_same.2 v2)
  have X := hid (kept X.out b2)
  have RR := hid (kept RR.out b2)
  have B := hid (u_cat B.out b2)
  clear b2 o2 v2
  clear y0 y1 y2 y3 y4 y5 y6 y7 y8 y9 y10 y11
  have y0 := (box_cell X.out 0 (v := .int .i64 i) rfl)
  have y1 := (box_cell X.out 1 (v := .int .i64 t) rfl)
  have y2 := (box_cell X.out 2 (v := .int .i64 s) rfl)
  have y3 := (box_cell X.out 3 (v := .string nm) rfl)
  have y4 := (box_cell X.out 4 (v := .int .i64 ed) rfl)
  have y5 := (box_cell X.out 5 (v := .int .i64 L) rfl)
  have y6 := (box_cell X.out 6 (v := .int .i64 S) rfl)
  have y7 := (box_cell X.out 7 (v := .slice a1 ws.length c1) rfl)
  have y8 := (box_cell X.out 8 (v := .slice a2 gs.length c2) rfl)
  have y9 := (box_cell X.out 9 (v := .int .i64 C) rfl)
  have y10 := (box_cell X.out 10 (v := .int .i64 Z) rfl)
  have y11 := (box_cell X.out 11 (v := .slice a es.length cap) rfl)
  obtain ⟨g, hg⟩ : ∃ g, g = w2.heap.size := ⟨_, rfl⟩
  obtain ⟨V2, hV2⟩ : ∃ V2, V2 = w2.alloc (.cells #[.int .i64 i, .int .i64 t, .int .i64 s, .string nm, .int .i64 ed, .int .i64 L, .int .i64 S, .slice b1' ws.length d1, .slice b2' gs.length d2, .int .i64 C, .int .i64 Z, .slice a' fs.length c'] 40) := ⟨_, rfl⟩
  have NN := hid (show V2.heap[g]? = some (.cells #[.int .i64 i, .int .i64 t, .int .i64 s, .string nm, .int .i64 ed, .int .i64 L, .int .i64 S, .slice b1' ws.length d1, .slice b2' gs.length d2, .int .i64 C, .int .i64 Z, .slice a' fs.length c'] 40 (0, 0)) by rw [hV2, hg]; exact laid _ _ _)
  have bb : Below w2.heap.size w2 V2 := by rw [hV2]; exact u_b1 _ _
  have RR := hid (kept RR.out bb)
  have X := hid (kept X.out bb)
  have B := hid (u_cat B.out bb)
  have O := hid (O.out.below bb)
  have hg0 : w2.heap.size ≤ g := by omega
  have hs3 : g < V2.heap.size := lt_of_block NN.out
  clear y0 y1 y2 y3 y4 y5 y6 y7 y8 y9 y10 y11
  have y0 := (box_cell X.out 0 (v := .int .i64 i) rfl)
  have y1 := (box_cell X.out 1 (v := .int .i64 t) rfl)
  have y2 := (box_cell X.out 2 (v := .int .i64 s) rfl)
  have y3 := (box_cell X.out 3 (v := .string nm) rfl)
  have y4 := (box_cell X.out 4 (v := .int .i64 ed) rfl)
  have y5 := (box_cell X.out 5 (v := .int .i64 L) rfl)
  have y6 := (box_cell X.out 6 (v := .int .i64 S) rfl)
  have y7 := (box_cell X.out 7 (v := .slice a1 ws.length c1) rfl)
  have y8 := (box_cell X.out 8 (v := .slice a2 gs.length c2) rfl)
  have y9 := (box_cell X.out 9 (v := .int .i64 C) rfl)
  have y10 := (box_cell X.out 10 (v := .int .i64 Z) rfl)
  have y11 := (box_cell X.out 11 (v := .slice a es.length cap) rfl)
  repeat ((fail_if_success (with_reducible show Code.wp _ (Code.region 4 _ _) _ _ _)); (first | go_values | go_skip | go_guarded | go_step | go_upon | go_back | go_simp))
  rw [← hV2, ← hg]
  clear hV2 bb hg
  have n0 := (box_cell NN.out 0 (v := .int .i64 i) rfl)
  have n1 := (box_cell NN.out 1 (v := .int .i64 t) rfl)
  have n2 := (box_cell NN.out 2 (v := .int .i64 s) rfl)
  have n3 := (box_cell NN.out 3 (v := .string nm) rfl)
  have n4 := (box_cell NN.out 4 (v := .int .i64 ed) rfl)
  have n5 := (box_cell NN.out 5 (v := .int .i64 L) rfl)
  have n6 := (box_cell NN.out 6 (v := .int .i64 S) rfl)
  have n7 := (box_cell NN.out 7 (v := .slice b1' ws.length d1) rfl)
  have n8 := (box_cell NN.out 8 (v := .slice b2' gs.length d2) rfl)
  have n9 := (box_cell NN.out 9 (v := .int .i64 C) rfl)
  have n10 := (box_cell NN.out 10 (v := .int .i64 Z) rfl)
  have n11 := (box_cell NN.out 11 (v := .slice a' fs.length c') rfl)
  have zf := box_frozen NN.out
  repeat ((fail_if_success (with_reducible show Code.wp _ (Code.region 8 _ _) _ _ _)); (first | go_values | go_skip | go_guarded | go_step | go_upon | go_back | go_simp))
  obtain ⟨V3, hV3⟩ : ∃ V3, V3 = (V2.setCell ⟨g, 1, none⟩ (.int .i64 (t + 1))).setCell ⟨g, 2, none⟩ (.int .i64 1) := ⟨_, rfl⟩
  have NN := hid (show V3.heap[g]? = some (.cells #[.int .i64 i, .int .i64 (t + 1), .int .i64 1, .string nm, .int .i64 ed, .int .i64 L, .int .i64 S, .slice b1' ws.length d1, .slice b2' gs.length d2, .int .i64 C, .int .i64 Z, .slice a' fs.length c'] 40 (0, 0)) by rw [hV3, set_block (set_block NN.out 1 _) 2 _]; simp)
  have RR := hid (show V3.heap[w.heap.size + 1]? = some (.cells #[.int .i64 0, .int .i64 0, .int .i64 0, .string ⟨#[]⟩, .int .i64 0, .int .i64 0, .int .i64 0, .slice none 0 0, .slice none 0 0, .int .i64 0, .int .i64 0, .slice none 0 0] 40 (0, 0)) by rw [hV3]; exact set_other (set_other RR.out (by omega) _ _) (by omega) _ _)
  have bg : Below w2.heap.size V2 V3 := by rw [hV3]; exact u_set (u_set (Below.refl _ _) hg0 _ _) hg0 _ _
  have B := hid (B.out.trans (bg.mono (by omega)))
  have O := hid (show GetOwn V3 (w.heap.size + 2) ws gs b1' b2' d1 d2 a' c' fs by rw [hV3]; exact (O.out.setH hi2.out hg0 1 _).setH hi2.out hg0 2 _)
  have hs4 : g < V3.heap.size := lt_of_block NN.out
  rw [← hV3]
  clear hV3 bg zf hs3 X y0 y1 y2 y3 y4 y5 y6 y7 y8 y9 y10 y11 n0 n1 n2 n3 n4 n5 n6 n7 n8 n9 n10 n11
  have n0 := cell_regrown (box_cell NN.out 0 (v := .int .i64 i) rfl)
  have n1 := cell_regrown (box_cell NN.out 1 (v := .int .i64 (t + 1)) rfl)
  have n2 := cell_regrown (box_cell NN.out 2 (v := .int .i64 1) rfl)
  have n3 := cell_regrown (box_cell NN.out 3 (v := .string nm) rfl)
  have n4 := cell_regrown (box_cell NN.out 4 (v := .int .i64 ed) rfl)
  have n5 := cell_regrown (box_cell NN.out 5 (v := .int .i64 L) rfl)
  have n6 := cell_regrown (box_cell NN.out 6 (v := .int .i64 S) rfl)
  have n7 := cell_regrown (box_cell NN.out 7 (v := .slice b1' ws.length d1) rfl)
  have n8 := cell_regrown (box_cell NN.out 8 (v := .slice b2' gs.length d2) rfl)
  have n9 := cell_regrown (box_cell NN.out 9 (v := .int .i64 C) rfl)
  have n10 := cell_regrown (box_cell NN.out 10 (v := .int .i64 Z) rfl)
  have n11 := cell_regrown (box_cell NN.out 11 (v := .slice a' fs.length c') rfl)
  refine wp_planz 3 (.pull [(0, 2)] (.step 2 (.step 3 (.step 4 .done)))) (by kernel_rfl) (by kernel_rfl) ?_
  intro V0 hw0
  have hbq := of_class hw0
  refine plz_pull ?_
  simp only [cutOut, List.take_succ_cons, List.take_zero, List.drop_zero, List.append_nil]
  repeat (first | go_big_quiet_step (fail) | quiet_step (fail))
  try refine wpQuiet_nil ?_
  clear n0 n1 n2 n3 n4 n5 n6 n7 n8 n9 n10 n11 hw0
  refine plz_step rfl (by omega) (fun K hK => ?_)
  go_simp
  with_reducible refine (l13Asks_any i (t + 1) 1 ed nm L S C Z b1' b2' a' ws.length gs.length fs.length d1 d2 c' V0).mono ?_
  rintro _ w3 ⟨v, rfl, hv, b2⟩
  refine hK _ _ (class_of (u_cat hbq b2)) ?_
  clear hK K
  have b3 := u_cat hbq b2
  have RR := hid (kept RR.out b3)
  have WW := hid (hv.mono (lo' := w2.heap.size) (by have := hbq.size; omega))
  have B := hid (u_cat B.out b3)
  have O := hid (O.out.below b3)
  have hs5 : w2.heap.size ≤ w3.heap.size := by have := b3.size; omega
  clear hv b2 b3 hbq NN
  have r0 := (box_cell RR.out 0 (v := .int .i64 0) rfl)
  have r1 := (box_cell RR.out 1 (v := .int .i64 0) rfl)
  have r2 := (box_cell RR.out 2 (v := .int .i64 0) rfl)
  have r3 := (box_cell RR.out 3 (v := .string ⟨#[]⟩) rfl)
  have r4 := (box_cell RR.out 4 (v := .int .i64 0) rfl)
  have r5 := (box_cell RR.out 5 (v := .int .i64 0) rfl)
  have r6 := (box_cell RR.out 6 (v := .int .i64 0) rfl)
  have r7 := (box_cell RR.out 7 (v := .slice none 0 0) rfl)
  have r8 := (box_cell RR.out 8 (v := .slice none 0 0) rfl)
  have r9 := (box_cell RR.out 9 (v := .int .i64 0) rfl)
  have r10 := (box_cell RR.out 10 (v := .int .i64 0) rfl)
  have r11 := (box_cell RR.out 11 (v := .slice none 0 0) rfl)
  have zf := box_frozen RR.out
  refine plz_last rfl (by omega) (fun K hK => ?_)
  go_simp
  refine hK _ _ ?_
  clear hK K
  refine plz_last rfl (by omega) (fun K hK => ?_)
  go_simp
  refine hK _ _ ?_
  clear hK K
  refine plz_done ?_
  clear r0 r1 r2 r3 r4 r5 r6 r7 r8 r9 r10 r11 zf
  obtain ⟨V5, hV5⟩ : ∃ V5, V5 = ((((((((((((w3.setCell ⟨w.heap.size + 1, 0, none⟩ (.int .i64 i)).setCell ⟨w.heap.size + 1, 1, none⟩ (.int .i64 (t + 1))).setCell ⟨w.heap.size + 1, 2, none⟩ (.int .i64 1)).setCell ⟨w.heap.size + 1, 3, none⟩ (.string nm)).setCell ⟨w.heap.size + 1, 4, none⟩ (.int .i64 ed)).setCell ⟨w.heap.size + 1, 5, none⟩ (.int .i64 L)).setCell ⟨w.heap.size + 1, 6, none⟩ (.int .i64 S)).setCell ⟨w.heap.size + 1, 7, none⟩ (.slice b1' ws.length d1)).setCell ⟨w.heap.size + 1, 8, none⟩ (.slice b2' gs.length d2)).setCell ⟨w.heap.size + 1, 9, none⟩ (.int .i64 C)).setCell ⟨w.heap.size + 1, 10, none⟩ (.int .i64 Z)).setCell ⟨w.heap.size + 1, 11, none⟩ (.slice a' fs.length c')) := ⟨_, rfl⟩
  have hq : V5 = setsC w3 (w.heap.size + 1) [.int .i64 i, .int .i64 (t + 1), .int .i64 1, .string nm, .int .i64 ed, .int .i64 L, .int .i64 S, .slice b1' ws.length d1, .slice b2' gs.length d2, .int .i64 C, .int .i64 Z, .slice a' fs.length c'] 0 := hV5
  have R5 := (show V5.heap[w.heap.size + 1]? = some (.cells #[.int .i64 i, .int .i64 (t + 1), .int .i64 1, .string nm, .int .i64 ed, .int .i64 L, .int .i64 S, .slice b1' ws.length d1, .slice b2' gs.length d2, .int .i64 C, .int .i64 Z, .slice a' fs.length c'] 40 (0, 0)) by rw [hq, sets_block [.int .i64 i, .int .i64 (t + 1), .int .i64 1, .string nm, .int .i64 ed, .int .i64 L, .int .i64 S, .slice b1' ws.length d1, .slice b2' gs.length d2, .int .i64 C, .int .i64 Z, .slice a' fs.length c'] 0 w3 _ RR.out]; simp [setsA])
  have B5 : Below w.heap.size w V5 := by rw [hq]; exact sets_below (by omega) _ _ _ B.out
  have hz5 : w3.heap.size ≤ V5.heap.size := by rw [hq]; exact sets_size _ _ _ _
  have O5 : GetOwn V5 (w.heap.size + 2) ws gs b1' b2' d1 d2 a' c' fs := by rw [hq]; exact sets_own (by omega) _ _ _ O.out
  have W5 : WsAt V5 w2.heap.size v (some ⟨1, i, (t + 1), ed, 0, nm, ⟨#[]⟩⟩) := by rw [hq]; exact ws_sets (by omega) _ _ _ WW.out
  rw [← hV5]
  clear hV5 hq
  go_wp2_with fail
  have y0 := box_cell R5 0 (v := .int .i64 i) rfl
  have y1 := box_cell R5 1 (v := .int .i64 (t + 1)) rfl
  have y2 := box_cell R5 2 (v := .int .i64 1) rfl
  have y3 := box_cell R5 3 (v := .string nm) rfl
  have y4 := box_cell R5 4 (v := .int .i64 ed) rfl
  have y5 := box_cell R5 5 (v := .int .i64 L) rfl
  have y6 := box_cell R5 6 (v := .int .i64 S) rfl
  have y7 := box_cell R5 7 (v := .slice b1' ws.length d1) rfl
  have y8 := box_cell R5 8 (v := .slice b2' gs.length d2) rfl
  have y9 := box_cell R5 9 (v := .int .i64 C) rfl
  have y10 := box_cell R5 10 (v := .int .i64 Z) rfl
  have y11 := box_cell R5 11 (v := .slice a' fs.length c') rfl
  refine bodyPost_ret (v := .tuple #[.agg #[.int .i64 i, .int .i64 (t + 1), .int .i64 1, .string nm, .int .i64 ed, .int .i64 L, .int .i64 S, .slice b1' ws.length d1, .slice b2' gs.length d2, .int .i64 C, .int .i64 Z, .slice a' fs.length c'], v]) ?_ rfl ⟨⟨b1', d1, b2', d2, a', c', fs, v, w2.heap.size, rfl, O5.mono (by omega), hi2.out, W5, by omega, by omega, VV.out, (fun h => by cases h)⟩, B5⟩
  unfold results; rw [Tryz.results17]; simp [go_sem, y0, y1, y2, y3, y4, y5, y6, y7, y8, y9, y10, y11]
set_option maxHeartbeats 8000000 in
set_option maxRecDepth 100000 in
theorem implAgain_ed (i t s : Int) (nm : ByteArray) (L S : Int) (a1 a2 : Option Addr) (c1 c2 : Nat) (ws gs : List Int) (C Z : Int) (a : Option Addr) (cap : Nat) (es : List EqV) (w : World) (hA : GAt w a1 a2 a ws gs es) (hx : ws.length ≤ 1048576) (hy : gs.length ≤ 1048576) (hl : es.length ≤ 1048576) (hsm : SmallE es) (hnm : nm.size ≤ maxLen) (hT : Tab w) (hp : cliP i t s 0 nm (nonP L S ws.length gs.length C Z es.length) (getP L S ws gs C Z es) (getP L S ws gs C Z es ∧ (es.length : Int) = C)) :
    Calls Tryz.prog 18 #[.agg #[.int .i64 i, .int .i64 t, .int .i64 s, .string nm, .int .i64 0, .int .i64 L, .int .i64 S, .slice a1 ws.length c1, .slice a2 gs.length c2, .int .i64 C, .int .i64 Z, .slice a es.length cap]] w fun e w' => CliO w' w.heap.size i t s 0 nm L S C Z ws gs (valsE es) none true e ∧ Below w.heap.size w w' := by
  have HP := hid (decide_eq_true hp)
  have hn6 := cli_name hp
  have ht0 := hp.2.1
  have HA := hid hA
  have HS := hid hsm
  have HT := hid hT
  clear hA hsm hT
  obtain ⟨W0, hW0⟩ : ∃ W0, W0 = (w.alloc (.cells #[.int .i64 i, .int .i64 t, .int .i64 s, .string nm, .int .i64 0, .int .i64 L, .int .i64 S, .slice a1 ws.length c1, .slice a2 gs.length c2, .int .i64 C, .int .i64 Z, .slice a es.length cap] 40)).alloc (.cells #[.int .i64 0, .int .i64 0, .int .i64 0, .string ⟨#[]⟩, .int .i64 0, .int .i64 0, .int .i64 0, .slice none 0 0, .slice none 0 0, .int .i64 0, .int .i64 0, .slice none 0 0] 40) := ⟨_, rfl⟩
  obtain ⟨X0, X1, B0⟩ := u_box2 (w := w) (c := #[.int .i64 i, .int .i64 t, .int .i64 s, .string nm, .int .i64 0, .int .i64 L, .int .i64 S, .slice a1 ws.length c1, .slice a2 gs.length c2, .int .i64 C, .int .i64 Z, .slice a es.length cap]) (t := 40) (d := #[.int .i64 0, .int .i64 0, .int .i64 0, .string ⟨#[]⟩, .int .i64 0, .int .i64 0, .int .i64 0, .slice none 0 0, .slice none 0 0, .int .i64 0, .int .i64 0, .slice none 0 0]) (s := 40) (w1 := W0) (by rw [hW0]; exact Below.refl _ _)
  have hs0 : w.heap.size + 2 ≤ W0.heap.size := by rw [hW0]; simp
  have X := hid X0
  have RR := hid X1
  have B := hid B0
  clear X0 X1 B0
  have hpp := hid hp
  clear hp
  go_enter Tryz.func18, Tryz.ntmps18
  repeat ((fail_if_success (with_reducible show Code.wp _ (Code.region 1 _ _) _ _ _)); (first | go_values | go_skip | go_guarded | go_step | go_upon | go_back | go_simp))
  rw [← hW0]
  clear hW0
  have y0 := (box_cell X.out 0 (v := .int .i64 i) rfl)
  have y1 := (box_cell X.out 1 (v := .int .i64 t) rfl)
  have y2 := (box_cell X.out 2 (v := .int .i64 s) rfl)
  have y3 := (box_cell X.out 3 (v := .string nm) rfl)
  have y4 := (box_cell X.out 4 (v := .int .i64 0) rfl)
  have y5 := (box_cell X.out 5 (v := .int .i64 L) rfl)
  have y6 := (box_cell X.out 6 (v := .int .i64 S) rfl)
  have y7 := (box_cell X.out 7 (v := .slice a1 ws.length c1) rfl)
  have y8 := (box_cell X.out 8 (v := .slice a2 gs.length c2) rfl)
  have y9 := (box_cell X.out 9 (v := .int .i64 C) rfl)
  have y10 := (box_cell X.out 10 (v := .int .i64 Z) rfl)
  have y11 := (box_cell X.out 11 (v := .slice a es.length cap) rfl)
  go_wp2_with fail
  refine (implCli_any i t s 0 nm L S a1 a2 c1 c2 ws gs C Z a cap es _ (HA.out.below B.out).i1 (HA.out.below B.out).i2 hx hy (HA.out.below B.out).eq hl HS.out hnm (HT.out.below B.out)).mono ?_
  rintro e w1 ⟨rfl, b1⟩
  rw [HP.out]
  have hs1 := b1.size
  have X := hid (kept X.out b1)
  have RR := hid (kept RR.out b1)
  have B := hid (u_cat B.out b1)
  clear b1 y0 y1 y2 y3 y4 y5 y6 y7 y8 y9 y10 y11
  have y0 := (box_cell X.out 0 (v := .int .i64 i) rfl)
  have y1 := (box_cell X.out 1 (v := .int .i64 t) rfl)
  have y2 := (box_cell X.out 2 (v := .int .i64 s) rfl)
  have y3 := (box_cell X.out 3 (v := .string nm) rfl)
  have y4 := (box_cell X.out 4 (v := .int .i64 0) rfl)
  have y5 := (box_cell X.out 5 (v := .int .i64 L) rfl)
  have y6 := (box_cell X.out 6 (v := .int .i64 S) rfl)
  have y7 := (box_cell X.out 7 (v := .slice a1 ws.length c1) rfl)
  have y8 := (box_cell X.out 8 (v := .slice a2 gs.length c2) rfl)
  have y9 := (box_cell X.out 9 (v := .int .i64 C) rfl)
  have y10 := (box_cell X.out 10 (v := .int .i64 Z) rfl)
  have y11 := (box_cell X.out 11 (v := .slice a es.length cap) rfl)
  have r0 := (box_cell RR.out 0 (v := .int .i64 0) rfl)
  have r1 := (box_cell RR.out 1 (v := .int .i64 0) rfl)
  have r2 := (box_cell RR.out 2 (v := .int .i64 0) rfl)
  have r3 := (box_cell RR.out 3 (v := .string ⟨#[]⟩) rfl)
  have r4 := (box_cell RR.out 4 (v := .int .i64 0) rfl)
  have r5 := (box_cell RR.out 5 (v := .int .i64 0) rfl)
  have r6 := (box_cell RR.out 6 (v := .int .i64 0) rfl)
  have r7 := (box_cell RR.out 7 (v := .slice none 0 0) rfl)
  have r8 := (box_cell RR.out 8 (v := .slice none 0 0) rfl)
  have r9 := (box_cell RR.out 9 (v := .int .i64 0) rfl)
  have r10 := (box_cell RR.out 10 (v := .int .i64 0) rfl)
  have r11 := (box_cell RR.out 11 (v := .slice none 0 0) rfl)
  have zf := box_frozen RR.out
  have lr := lt_of_block RR.out
  go_wp2_with fail
  refine (ccopied_any i t s 0 nm L S a1 a2 c1 c2 ws gs C Z a cap es _ (HA.out.below B.out) hx hy hl HS.out hpp.out (HT.out.below B.out)).mono ?_
  rintro _ w2 ⟨b1', d1, b2', d2, a', c', fs, rfl, o2, v2, p2, b2⟩
  have hs2 := b2.size
  have hi2 := hid (gin_mono o2.in' (lo' := w.heap.size) (by omega))
  have O := hid (o2.mono (base' := w.heap.size + 2) (by omega))
  have VV := hid (vals_same.2 v2)
  have PP := hid p2
  have X := hid (kept X.out b2)
  have RR := hid (kept RR.out b2)
  have B := hid (u_cat B.out b2)
  clear b2 o2 v2 p2
  clear y0 y1 y2 y3 y4 y5 y6 y7 y8 y9 y10 y11 r0 r1 r2 r3 r4 r5 r6 r7 r8 r9 r10 r11 zf lr
  have r0 := (box_cell RR.out 0 (v := .int .i64 0) rfl)
  have r1 := (box_cell RR.out 1 (v := .int .i64 0) rfl)
  have r2 := (box_cell RR.out 2 (v := .int .i64 0) rfl)
  have r3 := (box_cell RR.out 3 (v := .string ⟨#[]⟩) rfl)
  have r4 := (box_cell RR.out 4 (v := .int .i64 0) rfl)
  have r5 := (box_cell RR.out 5 (v := .int .i64 0) rfl)
  have r6 := (box_cell RR.out 6 (v := .int .i64 0) rfl)
  have r7 := (box_cell RR.out 7 (v := .slice none 0 0) rfl)
  have r8 := (box_cell RR.out 8 (v := .slice none 0 0) rfl)
  have r9 := (box_cell RR.out 9 (v := .int .i64 0) rfl)
  have r10 := (box_cell RR.out 10 (v := .int .i64 0) rfl)
  have r11 := (box_cell RR.out 11 (v := .slice none 0 0) rfl)
  have zf := box_frozen RR.out
  have lr := lt_of_block RR.out
  go_wp2_with fail
  clear r0 r1 r2 r3 r4 r5 r6 r7 r8 r9 r10 r11 zf lr
  obtain ⟨V5, hV5⟩ : ∃ V5, V5 = ((((((((((((w2.setCell ⟨w.heap.size + 1, 0, none⟩ (.int .i64 i)).setCell ⟨w.heap.size + 1, 1, none⟩ (.int .i64 t)).setCell ⟨w.heap.size + 1, 2, none⟩ (.int .i64 s)).setCell ⟨w.heap.size + 1, 3, none⟩ (.string nm)).setCell ⟨w.heap.size + 1, 4, none⟩ (.int .i64 0)).setCell ⟨w.heap.size + 1, 5, none⟩ (.int .i64 L)).setCell ⟨w.heap.size + 1, 6, none⟩ (.int .i64 S)).setCell ⟨w.heap.size + 1, 7, none⟩ (.slice b1' ws.length d1)).setCell ⟨w.heap.size + 1, 8, none⟩ (.slice b2' gs.length d2)).setCell ⟨w.heap.size + 1, 9, none⟩ (.int .i64 C)).setCell ⟨w.heap.size + 1, 10, none⟩ (.int .i64 Z)).setCell ⟨w.heap.size + 1, 11, none⟩ (.slice a' fs.length c')) := ⟨_, rfl⟩
  have hq : V5 = setsC w2 (w.heap.size + 1) [.int .i64 i, .int .i64 t, .int .i64 s, .string nm, .int .i64 0, .int .i64 L, .int .i64 S, .slice b1' ws.length d1, .slice b2' gs.length d2, .int .i64 C, .int .i64 Z, .slice a' fs.length c'] 0 := hV5
  have R5 := (show V5.heap[w.heap.size + 1]? = some (.cells #[.int .i64 i, .int .i64 t, .int .i64 s, .string nm, .int .i64 0, .int .i64 L, .int .i64 S, .slice b1' ws.length d1, .slice b2' gs.length d2, .int .i64 C, .int .i64 Z, .slice a' fs.length c'] 40 (0, 0)) by rw [hq, sets_block [.int .i64 i, .int .i64 t, .int .i64 s, .string nm, .int .i64 0, .int .i64 L, .int .i64 S, .slice b1' ws.length d1, .slice b2' gs.length d2, .int .i64 C, .int .i64 Z, .slice a' fs.length c'] 0 w2 _ RR.out]; simp [setsA])
  have B5 : Below w.heap.size w V5 := by rw [hq]; exact sets_below (by omega) _ _ _ B.out
  have hz5 : w2.heap.size ≤ V5.heap.size := by rw [hq]; exact sets_size _ _ _ _
  have O5 : GetOwn V5 (w.heap.size + 2) ws gs b1' b2' d1 d2 a' c' fs := by rw [hq]; exact sets_own (by omega) _ _ _ O.out
  rw [← hV5]
  clear hV5 hq
  have y0 := box_cell R5 0 (v := .int .i64 i) rfl
  have y1 := box_cell R5 1 (v := .int .i64 t) rfl
  have y2 := box_cell R5 2 (v := .int .i64 s) rfl
  have y3 := box_cell R5 3 (v := .string nm) rfl
  have y4 := box_cell R5 4 (v := .int .i64 0) rfl
  have y5 := box_cell R5 5 (v := .int .i64 L) rfl
  have y6 := box_cell R5 6 (v := .int .i64 S) rfl
  have y7 := box_cell R5 7 (v := .slice b1' ws.length d1) rfl
  have y8 := box_cell R5 8 (v := .slice b2' gs.length d2) rfl
  have y9 := box_cell R5 9 (v := .int .i64 C) rfl
  have y10 := box_cell R5 10 (v := .int .i64 Z) rfl
  have y11 := box_cell R5 11 (v := .slice a' fs.length c') rfl
  refine bodyPost_ret (v := .tuple #[.agg #[.int .i64 i, .int .i64 t, .int .i64 s, .string nm, .int .i64 0, .int .i64 L, .int .i64 S, .slice b1' ws.length d1, .slice b2' gs.length d2, .int .i64 C, .int .i64 Z, .slice a' fs.length c'], .slice none 0 0]) ?_ rfl ⟨⟨b1', d1, b2', d2, a', c', fs, .slice none 0 0, w2.heap.size, rfl, O5.mono (by omega), hi2.out, .none _ _ (fun g hg => by cases hg), by omega, by omega, VV.out, (fun _ => PP.out)⟩, B5⟩
  unfold results; rw [Tryz.results18]; simp [go_sem, y0, y1, y2, y3, y4, y5, y6, y7, y8, y9, y10, y11]
set_option maxHeartbeats 8000000 in
set_option maxRecDepth 100000 in
theorem implAgain_known (i t ed : Int) (nm : ByteArray) (L S : Int) (a1 a2 : Option Addr) (c1 c2 : Nat) (ws gs : List Int) (C Z : Int) (a : Option Addr) (cap : Nat) (es : List EqV) (w : World) (hA : GAt w a1 a2 a ws gs es) (hx : ws.length ≤ 1048576) (hy : gs.length ≤ 1048576) (hl : es.length ≤ 1048576) (hsm : SmallE es) (hnm : nm.size ≤ maxLen) (hT : Tab w) (hp : cliP i t 3 ed nm (nonP L S ws.length gs.length C Z es.length) (getP L S ws gs C Z es) (getP L S ws gs C Z es ∧ (es.length : Int) = C)) (he : ed ≠ 0) :
    Calls Tryz.prog 18 #[.agg #[.int .i64 i, .int .i64 t, .int .i64 3, .string nm, .int .i64 ed, .int .i64 L, .int .i64 S, .slice a1 ws.length c1, .slice a2 gs.length c2, .int .i64 C, .int .i64 Z, .slice a es.length cap]] w fun e w' => CliO w' w.heap.size i t 3 ed nm L S C Z ws gs (valsE es) none true e ∧ Below w.heap.size w w' := by
  have HP := hid (decide_eq_true hp)
  have hn6 := cli_name hp
  have ht0 := hp.2.1
  have be0 : (ed == 0) = false := beq_eq_false_iff_ne.2 he
  have HA := hid hA
  have HS := hid hsm
  have HT := hid hT
  clear hA hsm hT
  obtain ⟨W0, hW0⟩ : ∃ W0, W0 = (w.alloc (.cells #[.int .i64 i, .int .i64 t, .int .i64 3, .string nm, .int .i64 ed, .int .i64 L, .int .i64 S, .slice a1 ws.length c1, .slice a2 gs.length c2, .int .i64 C, .int .i64 Z, .slice a es.length cap] 40)).alloc (.cells #[.int .i64 0, .int .i64 0, .int .i64 0, .string ⟨#[]⟩, .int .i64 0, .int .i64 0, .int .i64 0, .slice none 0 0, .slice none 0 0, .int .i64 0, .int .i64 0, .slice none 0 0] 40) := ⟨_, rfl⟩
  obtain ⟨X0, X1, B0⟩ := u_box2 (w := w) (c := #[.int .i64 i, .int .i64 t, .int .i64 3, .string nm, .int .i64 ed, .int .i64 L, .int .i64 S, .slice a1 ws.length c1, .slice a2 gs.length c2, .int .i64 C, .int .i64 Z, .slice a es.length cap]) (t := 40) (d := #[.int .i64 0, .int .i64 0, .int .i64 0, .string ⟨#[]⟩, .int .i64 0, .int .i64 0, .int .i64 0, .slice none 0 0, .slice none 0 0, .int .i64 0, .int .i64 0, .slice none 0 0]) (s := 40) (w1 := W0) (by rw [hW0]; exact Below.refl _ _)
  have hs0 : w.heap.size + 2 ≤ W0.heap.size := by rw [hW0]; simp
  have X := hid X0
  have RR := hid X1
  have B := hid B0
  clear X0 X1 B0
  have hpp := hid hp
  clear hp
  go_enter Tryz.func18, Tryz.ntmps18
  repeat ((fail_if_success (with_reducible show Code.wp _ (Code.region 1 _ _) _ _ _)); (first | go_values | go_skip | go_guarded | go_step | go_upon | go_back | go_simp))
  rw [← hW0]
  clear hW0
  have y0 := (box_cell X.out 0 (v := .int .i64 i) rfl)
  have y1 := (box_cell X.out 1 (v := .int .i64 t) rfl)
  have y2 := (box_cell X.out 2 (v := .int .i64 3) rfl)
  have y3 := (box_cell X.out 3 (v := .string nm) rfl)
  have y4 := (box_cell X.out 4 (v := .int .i64 ed) rfl)
  have y5 := (box_cell X.out 5 (v := .int .i64 L) rfl)
  have y6 := (box_cell X.out 6 (v := .int .i64 S) rfl)
  have y7 := (box_cell X.out 7 (v := .slice a1 ws.length c1) rfl)
  have y8 := (box_cell X.out 8 (v := .slice a2 gs.length c2) rfl)
  have y9 := (box_cell X.out 9 (v := .int .i64 C) rfl)
  have y10 := (box_cell X.out 10 (v := .int .i64 Z) rfl)
  have y11 := (box_cell X.out 11 (v := .slice a es.length cap) rfl)
  go_wp2_with fail
  refine (implCli_any i t 3 ed nm L S a1 a2 c1 c2 ws gs C Z a cap es _ (HA.out.below B.out).i1 (HA.out.below B.out).i2 hx hy (HA.out.below B.out).eq hl HS.out hnm (HT.out.below B.out)).mono ?_
  rintro e w1 ⟨rfl, b1⟩
  rw [HP.out]
  have hs1 := b1.size
  have X := hid (kept X.out b1)
  have RR := hid (kept RR.out b1)
  have B := hid (u_cat B.out b1)
  clear b1 y0 y1 y2 y3 y4 y5 y6 y7 y8 y9 y10 y11
  have y0 := (box_cell X.out 0 (v := .int .i64 i) rfl)
  have y1 := (box_cell X.out 1 (v := .int .i64 t) rfl)
  have y2 := (box_cell X.out 2 (v := .int .i64 3) rfl)
  have y3 := (box_cell X.out 3 (v := .string nm) rfl)
  have y4 := (box_cell X.out 4 (v := .int .i64 ed) rfl)
  have y5 := (box_cell X.out 5 (v := .int .i64 L) rfl)
  have y6 := (box_cell X.out 6 (v := .int .i64 S) rfl)
  have y7 := (box_cell X.out 7 (v := .slice a1 ws.length c1) rfl)
  have y8 := (box_cell X.out 8 (v := .slice a2 gs.length c2) rfl)
  have y9 := (box_cell X.out 9 (v := .int .i64 C) rfl)
  have y10 := (box_cell X.out 10 (v := .int .i64 Z) rfl)
  have y11 := (box_cell X.out 11 (v := .slice a es.length cap) rfl)
  have r0 := (box_cell RR.out 0 (v := .int .i64 0) rfl)
  have r1 := (box_cell RR.out 1 (v := .int .i64 0) rfl)
  have r2 := (box_cell RR.out 2 (v := .int .i64 0) rfl)
  have r3 := (box_cell RR.out 3 (v := .string ⟨#[]⟩) rfl)
  have r4 := (box_cell RR.out 4 (v := .int .i64 0) rfl)
  have r5 := (box_cell RR.out 5 (v := .int .i64 0) rfl)
  have r6 := (box_cell RR.out 6 (v := .int .i64 0) rfl)
  have r7 := (box_cell RR.out 7 (v := .slice none 0 0) rfl)
  have r8 := (box_cell RR.out 8 (v := .slice none 0 0) rfl)
  have r9 := (box_cell RR.out 9 (v := .int .i64 0) rfl)
  have r10 := (box_cell RR.out 10 (v := .int .i64 0) rfl)
  have r11 := (box_cell RR.out 11 (v := .slice none 0 0) rfl)
  have zf := box_frozen RR.out
  have lr := lt_of_block RR.out
  go_wp2_with fail
  refine (ccopied_any i t 3 ed nm L S a1 a2 c1 c2 ws gs C Z a cap es _ (HA.out.below B.out) hx hy hl HS.out hpp.out (HT.out.below B.out)).mono ?_
  rintro _ w2 ⟨b1', d1, b2', d2, a', c', fs, rfl, o2, v2, p2, b2⟩
  have hs2 := b2.size
  have hi2 := hid (gin_mono o2.in' (lo' := w.heap.size) (by omega))
  have O := hid (o2.mono (base' := w.heap.size + 2) (by omega))
  have VV := hid (vals_same.2 v2)
  have PP := hid p2
  have X := hid (kept X.out b2)
  have RR := hid (kept RR.out b2)
  have B := hid (u_cat B.out b2)
  clear b2 o2 v2 p2
  clear y0 y1 y2 y3 y4 y5 y6 y7 y8 y9 y10 y11 r0 r1 r2 r3 r4 r5 r6 r7 r8 r9 r10 r11 zf lr
  have r0 := (box_cell RR.out 0 (v := .int .i64 0) rfl)
  have r1 := (box_cell RR.out 1 (v := .int .i64 0) rfl)
  have r2 := (box_cell RR.out 2 (v := .int .i64 0) rfl)
  have r3 := (box_cell RR.out 3 (v := .string ⟨#[]⟩) rfl)
  have r4 := (box_cell RR.out 4 (v := .int .i64 0) rfl)
  have r5 := (box_cell RR.out 5 (v := .int .i64 0) rfl)
  have r6 := (box_cell RR.out 6 (v := .int .i64 0) rfl)
  have r7 := (box_cell RR.out 7 (v := .slice none 0 0) rfl)
  have r8 := (box_cell RR.out 8 (v := .slice none 0 0) rfl)
  have r9 := (box_cell RR.out 9 (v := .int .i64 0) rfl)
  have r10 := (box_cell RR.out 10 (v := .int .i64 0) rfl)
  have r11 := (box_cell RR.out 11 (v := .slice none 0 0) rfl)
  have zf := box_frozen RR.out
  have lr := lt_of_block RR.out
  go_wp2_with fail
  clear r0 r1 r2 r3 r4 r5 r6 r7 r8 r9 r10 r11 zf lr
  obtain ⟨V5, hV5⟩ : ∃ V5, V5 = ((((((((((((w2.setCell ⟨w.heap.size + 1, 0, none⟩ (.int .i64 i)).setCell ⟨w.heap.size + 1, 1, none⟩ (.int .i64 t)).setCell ⟨w.heap.size + 1, 2, none⟩ (.int .i64 3)).setCell ⟨w.heap.size + 1, 3, none⟩ (.string nm)).setCell ⟨w.heap.size + 1, 4, none⟩ (.int .i64 ed)).setCell ⟨w.heap.size + 1, 5, none⟩ (.int .i64 L)).setCell ⟨w.heap.size + 1, 6, none⟩ (.int .i64 S)).setCell ⟨w.heap.size + 1, 7, none⟩ (.slice b1' ws.length d1)).setCell ⟨w.heap.size + 1, 8, none⟩ (.slice b2' gs.length d2)).setCell ⟨w.heap.size + 1, 9, none⟩ (.int .i64 C)).setCell ⟨w.heap.size + 1, 10, none⟩ (.int .i64 Z)).setCell ⟨w.heap.size + 1, 11, none⟩ (.slice a' fs.length c')) := ⟨_, rfl⟩
  have hq : V5 = setsC w2 (w.heap.size + 1) [.int .i64 i, .int .i64 t, .int .i64 3, .string nm, .int .i64 ed, .int .i64 L, .int .i64 S, .slice b1' ws.length d1, .slice b2' gs.length d2, .int .i64 C, .int .i64 Z, .slice a' fs.length c'] 0 := hV5
  have R5 := (show V5.heap[w.heap.size + 1]? = some (.cells #[.int .i64 i, .int .i64 t, .int .i64 3, .string nm, .int .i64 ed, .int .i64 L, .int .i64 S, .slice b1' ws.length d1, .slice b2' gs.length d2, .int .i64 C, .int .i64 Z, .slice a' fs.length c'] 40 (0, 0)) by rw [hq, sets_block [.int .i64 i, .int .i64 t, .int .i64 3, .string nm, .int .i64 ed, .int .i64 L, .int .i64 S, .slice b1' ws.length d1, .slice b2' gs.length d2, .int .i64 C, .int .i64 Z, .slice a' fs.length c'] 0 w2 _ RR.out]; simp [setsA])
  have B5 : Below w.heap.size w V5 := by rw [hq]; exact sets_below (by omega) _ _ _ B.out
  have hz5 : w2.heap.size ≤ V5.heap.size := by rw [hq]; exact sets_size _ _ _ _
  have O5 : GetOwn V5 (w.heap.size + 2) ws gs b1' b2' d1 d2 a' c' fs := by rw [hq]; exact sets_own (by omega) _ _ _ O.out
  rw [← hV5]
  clear hV5 hq
  have y0 := box_cell R5 0 (v := .int .i64 i) rfl
  have y1 := box_cell R5 1 (v := .int .i64 t) rfl
  have y2 := box_cell R5 2 (v := .int .i64 3) rfl
  have y3 := box_cell R5 3 (v := .string nm) rfl
  have y4 := box_cell R5 4 (v := .int .i64 ed) rfl
  have y5 := box_cell R5 5 (v := .int .i64 L) rfl
  have y6 := box_cell R5 6 (v := .int .i64 S) rfl
  have y7 := box_cell R5 7 (v := .slice b1' ws.length d1) rfl
  have y8 := box_cell R5 8 (v := .slice b2' gs.length d2) rfl
  have y9 := box_cell R5 9 (v := .int .i64 C) rfl
  have y10 := box_cell R5 10 (v := .int .i64 Z) rfl
  have y11 := box_cell R5 11 (v := .slice a' fs.length c') rfl
  refine bodyPost_ret (v := .tuple #[.agg #[.int .i64 i, .int .i64 t, .int .i64 3, .string nm, .int .i64 ed, .int .i64 L, .int .i64 S, .slice b1' ws.length d1, .slice b2' gs.length d2, .int .i64 C, .int .i64 Z, .slice a' fs.length c'], .slice none 0 0]) ?_ rfl ⟨⟨b1', d1, b2', d2, a', c', fs, .slice none 0 0, w2.heap.size, rfl, O5.mono (by omega), hi2.out, .none _ _ (fun g hg => by cases hg), by omega, by omega, VV.out, (fun _ => PP.out)⟩, B5⟩
  unfold results; rw [Tryz.results18]; simp [go_sem, y0, y1, y2, y3, y4, y5, y6, y7, y8, y9, y10, y11]
set_option maxHeartbeats 8000000 in
set_option maxRecDepth 100000 in
theorem implAgain_full (i s ed : Int) (nm : ByteArray) (L S : Int) (a1 a2 : Option Addr) (c1 c2 : Nat) (ws gs : List Int) (C Z : Int) (a : Option Addr) (cap : Nat) (es : List EqV) (w : World) (hA : GAt w a1 a2 a ws gs es) (hx : ws.length ≤ 1048576) (hy : gs.length ≤ 1048576) (hl : es.length ≤ 1048576) (hsm : SmallE es) (hnm : nm.size ≤ maxLen) (hT : Tab w) (hp : cliP i 99999 s ed nm (nonP L S ws.length gs.length C Z es.length) (getP L S ws gs C Z es) (getP L S ws gs C Z es ∧ (es.length : Int) = C)) (he : ed ≠ 0) (h3 : s ≠ 3) :
    Calls Tryz.prog 18 #[.agg #[.int .i64 i, .int .i64 99999, .int .i64 s, .string nm, .int .i64 ed, .int .i64 L, .int .i64 S, .slice a1 ws.length c1, .slice a2 gs.length c2, .int .i64 C, .int .i64 Z, .slice a es.length cap]] w fun e w' => CliO w' w.heap.size i 99999 s ed nm L S C Z ws gs (valsE es) none true e ∧ Below w.heap.size w w' := by
  have HP := hid (decide_eq_true hp)
  have hn6 := cli_name hp
  have ht0 := hp.2.1
  have be0 : (ed == 0) = false := beq_eq_false_iff_ne.2 he
  have bs3 : (s == 3) = false := beq_eq_false_iff_ne.2 h3
  have HA := hid hA
  have HS := hid hsm
  have HT := hid hT
  clear hA hsm hT
  obtain ⟨W0, hW0⟩ : ∃ W0, W0 = (w.alloc (.cells #[.int .i64 i, .int .i64 99999, .int .i64 s, .string nm, .int .i64 ed, .int .i64 L, .int .i64 S, .slice a1 ws.length c1, .slice a2 gs.length c2, .int .i64 C, .int .i64 Z, .slice a es.length cap] 40)).alloc (.cells #[.int .i64 0, .int .i64 0, .int .i64 0, .string ⟨#[]⟩, .int .i64 0, .int .i64 0, .int .i64 0, .slice none 0 0, .slice none 0 0, .int .i64 0, .int .i64 0, .slice none 0 0] 40) := ⟨_, rfl⟩
  obtain ⟨X0, X1, B0⟩ := u_box2 (w := w) (c := #[.int .i64 i, .int .i64 99999, .int .i64 s, .string nm, .int .i64 ed, .int .i64 L, .int .i64 S, .slice a1 ws.length c1, .slice a2 gs.length c2, .int .i64 C, .int .i64 Z, .slice a es.length cap]) (t := 40) (d := #[.int .i64 0, .int .i64 0, .int .i64 0, .string ⟨#[]⟩, .int .i64 0, .int .i64 0, .int .i64 0, .slice none 0 0, .slice none 0 0, .int .i64 0, .int .i64 0, .slice none 0 0]) (s := 40) (w1 := W0) (by rw [hW0]; exact Below.refl _ _)
  have hs0 : w.heap.size + 2 ≤ W0.heap.size := by rw [hW0]; simp
  have X := hid X0
  have RR := hid X1
  have B := hid B0
  clear X0 X1 B0
  have hpp := hid hp
  clear hp
  go_enter Tryz.func18, Tryz.ntmps18
  repeat ((fail_if_success (with_reducible show Code.wp _ (Code.region 1 _ _) _ _ _)); (first | go_values | go_skip | go_guarded | go_step | go_upon | go_back | go_simp))
  rw [← hW0]
  clear hW0
  have y0 := (box_cell X.out 0 (v := .int .i64 i) rfl)
  have y1 := (box_cell X.out 1 (v := .int .i64 99999) rfl)
  have y2 := (box_cell X.out 2 (v := .int .i64 s) rfl)
  have y3 := (box_cell X.out 3 (v := .string nm) rfl)
  have y4 := (box_cell X.out 4 (v := .int .i64 ed) rfl)
  have y5 := (box_cell X.out 5 (v := .int .i64 L) rfl)
  have y6 := (box_cell X.out 6 (v := .int .i64 S) rfl)
  have y7 := (box_cell X.out 7 (v := .slice a1 ws.length c1) rfl)
  have y8 := (box_cell X.out 8 (v := .slice a2 gs.length c2) rfl)
  have y9 := (box_cell X.out 9 (v := .int .i64 C) rfl)
  have y10 := (box_cell X.out 10 (v := .int .i64 Z) rfl)
  have y11 := (box_cell X.out 11 (v := .slice a es.length cap) rfl)
  go_wp2_with fail
  refine (implCli_any i 99999 s ed nm L S a1 a2 c1 c2 ws gs C Z a cap es _ (HA.out.below B.out).i1 (HA.out.below B.out).i2 hx hy (HA.out.below B.out).eq hl HS.out hnm (HT.out.below B.out)).mono ?_
  rintro e w1 ⟨rfl, b1⟩
  rw [HP.out]
  have hs1 := b1.size
  have X := hid (kept X.out b1)
  have RR := hid (kept RR.out b1)
  have B := hid (u_cat B.out b1)
  clear b1 y0 y1 y2 y3 y4 y5 y6 y7 y8 y9 y10 y11
  have y0 := (box_cell X.out 0 (v := .int .i64 i) rfl)
  have y1 := (box_cell X.out 1 (v := .int .i64 99999) rfl)
  have y2 := (box_cell X.out 2 (v := .int .i64 s) rfl)
  have y3 := (box_cell X.out 3 (v := .string nm) rfl)
  have y4 := (box_cell X.out 4 (v := .int .i64 ed) rfl)
  have y5 := (box_cell X.out 5 (v := .int .i64 L) rfl)
  have y6 := (box_cell X.out 6 (v := .int .i64 S) rfl)
  have y7 := (box_cell X.out 7 (v := .slice a1 ws.length c1) rfl)
  have y8 := (box_cell X.out 8 (v := .slice a2 gs.length c2) rfl)
  have y9 := (box_cell X.out 9 (v := .int .i64 C) rfl)
  have y10 := (box_cell X.out 10 (v := .int .i64 Z) rfl)
  have y11 := (box_cell X.out 11 (v := .slice a es.length cap) rfl)
  have r0 := (box_cell RR.out 0 (v := .int .i64 0) rfl)
  have r1 := (box_cell RR.out 1 (v := .int .i64 0) rfl)
  have r2 := (box_cell RR.out 2 (v := .int .i64 0) rfl)
  have r3 := (box_cell RR.out 3 (v := .string ⟨#[]⟩) rfl)
  have r4 := (box_cell RR.out 4 (v := .int .i64 0) rfl)
  have r5 := (box_cell RR.out 5 (v := .int .i64 0) rfl)
  have r6 := (box_cell RR.out 6 (v := .int .i64 0) rfl)
  have r7 := (box_cell RR.out 7 (v := .slice none 0 0) rfl)
  have r8 := (box_cell RR.out 8 (v := .slice none 0 0) rfl)
  have r9 := (box_cell RR.out 9 (v := .int .i64 0) rfl)
  have r10 := (box_cell RR.out 10 (v := .int .i64 0) rfl)
  have r11 := (box_cell RR.out 11 (v := .slice none 0 0) rfl)
  have zf := box_frozen RR.out
  have lr := lt_of_block RR.out
  go_wp2_with fail
  refine (ccopied_any i 99999 s ed nm L S a1 a2 c1 c2 ws gs C Z a cap es _ (HA.out.below B.out) hx hy hl HS.out hpp.out (HT.out.below B.out)).mono ?_
  rintro _ w2 ⟨b1', d1, b2', d2, a', c', fs, rfl, o2, v2, p2, b2⟩
  have hs2 := b2.size
  have hi2 := hid (gin_mono o2.in' (lo' := w.heap.size) (by omega))
  have O := hid (o2.mono (base' := w.heap.size + 2) (by omega))
  have VV := hid (vals_same.2 v2)
  have PP := hid p2
  have X := hid (kept X.out b2)
  have RR := hid (kept RR.out b2)
  have B := hid (u_cat B.out b2)
  clear b2 o2 v2 p2
  clear y0 y1 y2 y3 y4 y5 y6 y7 y8 y9 y10 y11 r0 r1 r2 r3 r4 r5 r6 r7 r8 r9 r10 r11 zf lr
  have r0 := (box_cell RR.out 0 (v := .int .i64 0) rfl)
  have r1 := (box_cell RR.out 1 (v := .int .i64 0) rfl)
  have r2 := (box_cell RR.out 2 (v := .int .i64 0) rfl)
  have r3 := (box_cell RR.out 3 (v := .string ⟨#[]⟩) rfl)
  have r4 := (box_cell RR.out 4 (v := .int .i64 0) rfl)
  have r5 := (box_cell RR.out 5 (v := .int .i64 0) rfl)
  have r6 := (box_cell RR.out 6 (v := .int .i64 0) rfl)
  have r7 := (box_cell RR.out 7 (v := .slice none 0 0) rfl)
  have r8 := (box_cell RR.out 8 (v := .slice none 0 0) rfl)
  have r9 := (box_cell RR.out 9 (v := .int .i64 0) rfl)
  have r10 := (box_cell RR.out 10 (v := .int .i64 0) rfl)
  have r11 := (box_cell RR.out 11 (v := .slice none 0 0) rfl)
  have zf := box_frozen RR.out
  have lr := lt_of_block RR.out
  go_wp2_with fail
  clear r0 r1 r2 r3 r4 r5 r6 r7 r8 r9 r10 r11 zf lr
  obtain ⟨V5, hV5⟩ : ∃ V5, V5 = ((((((((((((w2.setCell ⟨w.heap.size + 1, 0, none⟩ (.int .i64 i)).setCell ⟨w.heap.size + 1, 1, none⟩ (.int .i64 99999)).setCell ⟨w.heap.size + 1, 2, none⟩ (.int .i64 s)).setCell ⟨w.heap.size + 1, 3, none⟩ (.string nm)).setCell ⟨w.heap.size + 1, 4, none⟩ (.int .i64 ed)).setCell ⟨w.heap.size + 1, 5, none⟩ (.int .i64 L)).setCell ⟨w.heap.size + 1, 6, none⟩ (.int .i64 S)).setCell ⟨w.heap.size + 1, 7, none⟩ (.slice b1' ws.length d1)).setCell ⟨w.heap.size + 1, 8, none⟩ (.slice b2' gs.length d2)).setCell ⟨w.heap.size + 1, 9, none⟩ (.int .i64 C)).setCell ⟨w.heap.size + 1, 10, none⟩ (.int .i64 Z)).setCell ⟨w.heap.size + 1, 11, none⟩ (.slice a' fs.length c')) := ⟨_, rfl⟩
  have hq : V5 = setsC w2 (w.heap.size + 1) [.int .i64 i, .int .i64 99999, .int .i64 s, .string nm, .int .i64 ed, .int .i64 L, .int .i64 S, .slice b1' ws.length d1, .slice b2' gs.length d2, .int .i64 C, .int .i64 Z, .slice a' fs.length c'] 0 := hV5
  have R5 := (show V5.heap[w.heap.size + 1]? = some (.cells #[.int .i64 i, .int .i64 99999, .int .i64 s, .string nm, .int .i64 ed, .int .i64 L, .int .i64 S, .slice b1' ws.length d1, .slice b2' gs.length d2, .int .i64 C, .int .i64 Z, .slice a' fs.length c'] 40 (0, 0)) by rw [hq, sets_block [.int .i64 i, .int .i64 99999, .int .i64 s, .string nm, .int .i64 ed, .int .i64 L, .int .i64 S, .slice b1' ws.length d1, .slice b2' gs.length d2, .int .i64 C, .int .i64 Z, .slice a' fs.length c'] 0 w2 _ RR.out]; simp [setsA])
  have B5 : Below w.heap.size w V5 := by rw [hq]; exact sets_below (by omega) _ _ _ B.out
  have hz5 : w2.heap.size ≤ V5.heap.size := by rw [hq]; exact sets_size _ _ _ _
  have O5 : GetOwn V5 (w.heap.size + 2) ws gs b1' b2' d1 d2 a' c' fs := by rw [hq]; exact sets_own (by omega) _ _ _ O.out
  rw [← hV5]
  clear hV5 hq
  have y0 := box_cell R5 0 (v := .int .i64 i) rfl
  have y1 := box_cell R5 1 (v := .int .i64 99999) rfl
  have y2 := box_cell R5 2 (v := .int .i64 s) rfl
  have y3 := box_cell R5 3 (v := .string nm) rfl
  have y4 := box_cell R5 4 (v := .int .i64 ed) rfl
  have y5 := box_cell R5 5 (v := .int .i64 L) rfl
  have y6 := box_cell R5 6 (v := .int .i64 S) rfl
  have y7 := box_cell R5 7 (v := .slice b1' ws.length d1) rfl
  have y8 := box_cell R5 8 (v := .slice b2' gs.length d2) rfl
  have y9 := box_cell R5 9 (v := .int .i64 C) rfl
  have y10 := box_cell R5 10 (v := .int .i64 Z) rfl
  have y11 := box_cell R5 11 (v := .slice a' fs.length c') rfl
  refine bodyPost_ret (v := .tuple #[.agg #[.int .i64 i, .int .i64 99999, .int .i64 s, .string nm, .int .i64 ed, .int .i64 L, .int .i64 S, .slice b1' ws.length d1, .slice b2' gs.length d2, .int .i64 C, .int .i64 Z, .slice a' fs.length c'], .slice none 0 0]) ?_ rfl ⟨⟨b1', d1, b2', d2, a', c', fs, .slice none 0 0, w2.heap.size, rfl, O5.mono (by omega), hi2.out, .none _ _ (fun g hg => by cases hg), by omega, by omega, VV.out, (fun _ => PP.out)⟩, B5⟩
  unfold results; rw [Tryz.results18]; simp [go_sem, y0, y1, y2, y3, y4, y5, y6, y7, y8, y9, y10, y11]
set_option maxHeartbeats 8000000 in
set_option maxRecDepth 100000 in
theorem implAgain_new (i t s ed : Int) (nm : ByteArray) (L S : Int) (a1 a2 : Option Addr) (c1 c2 : Nat) (ws gs : List Int) (C Z : Int) (a : Option Addr) (cap : Nat) (es : List EqV) (w : World) (hA : GAt w a1 a2 a ws gs es) (hx : ws.length ≤ 1048576) (hy : gs.length ≤ 1048576) (hl : es.length ≤ 1048576) (hsm : SmallE es) (hnm : nm.size ≤ maxLen) (hT : Tab w) (hp : cliP i t s ed nm (nonP L S ws.length gs.length C Z es.length) (getP L S ws gs C Z es) (getP L S ws gs C Z es ∧ (es.length : Int) = C)) (ht : t < 99999) (he : ed ≠ 0) (h3 : s ≠ 3) :
    Calls Tryz.prog 18 #[.agg #[.int .i64 i, .int .i64 t, .int .i64 s, .string nm, .int .i64 ed, .int .i64 L, .int .i64 S, .slice a1 ws.length c1, .slice a2 gs.length c2, .int .i64 C, .int .i64 Z, .slice a es.length cap]] w fun e w' => CliO w' w.heap.size i (t + 1) 1 ed nm L S C Z ws gs (valsE es) (some ⟨1, i, (t + 1), ed, 0, nm, ⟨#[]⟩⟩) true e ∧ Below w.heap.size w w' := by
  have HP := hid (decide_eq_true hp)
  have hn6 := cli_name hp
  have ht0 := hp.2.1
  have bt9 : (t == 99999) = false := beq_eq_false_iff_ne.2 (by omega)
  have be0 : (ed == 0) = false := beq_eq_false_iff_ne.2 he
  have bs3 : (s == 3) = false := beq_eq_false_iff_ne.2 h3
  have HA := hid hA
  have HS := hid hsm
  have HT := hid hT
  clear hA hsm hT
  obtain ⟨W0, hW0⟩ : ∃ W0, W0 = (w.alloc (.cells #[.int .i64 i, .int .i64 t, .int .i64 s, .string nm, .int .i64 ed, .int .i64 L, .int .i64 S, .slice a1 ws.length c1, .slice a2 gs.length c2, .int .i64 C, .int .i64 Z, .slice a es.length cap] 40)).alloc (.cells #[.int .i64 0, .int .i64 0, .int .i64 0, .string ⟨#[]⟩, .int .i64 0, .int .i64 0, .int .i64 0, .slice none 0 0, .slice none 0 0, .int .i64 0, .int .i64 0, .slice none 0 0] 40) := ⟨_, rfl⟩
  obtain ⟨X0, X1, B0⟩ := u_box2 (w := w) (c := #[.int .i64 i, .int .i64 t, .int .i64 s, .string nm, .int .i64 ed, .int .i64 L, .int .i64 S, .slice a1 ws.length c1, .slice a2 gs.length c2, .int .i64 C, .int .i64 Z, .slice a es.length cap]) (t := 40) (d := #[.int .i64 0, .int .i64 0, .int .i64 0, .string ⟨#[]⟩, .int .i64 0, .int .i64 0, .int .i64 0, .slice none 0 0, .slice none 0 0, .int .i64 0, .int .i64 0, .slice none 0 0]) (s := 40) (w1 := W0) (by rw [hW0]; exact Below.refl _ _)
  have hs0 : w.heap.size + 2 ≤ W0.heap.size := by rw [hW0]; simp
  have X := hid X0
  have RR := hid X1
  have B := hid B0
  clear X0 X1 B0
  have hpp := hid hp
  clear hp
  go_enter Tryz.func18, Tryz.ntmps18
  repeat ((fail_if_success (with_reducible show Code.wp _ (Code.region 1 _ _) _ _ _)); (first | go_values | go_skip | go_guarded | go_step | go_upon | go_back | go_simp))
  rw [← hW0]
  clear hW0
  have y0 := (box_cell X.out 0 (v := .int .i64 i) rfl)
  have y1 := (box_cell X.out 1 (v := .int .i64 t) rfl)
  have y2 := (box_cell X.out 2 (v := .int .i64 s) rfl)
  have y3 := (box_cell X.out 3 (v := .string nm) rfl)
  have y4 := (box_cell X.out 4 (v := .int .i64 ed) rfl)
  have y5 := (box_cell X.out 5 (v := .int .i64 L) rfl)
  have y6 := (box_cell X.out 6 (v := .int .i64 S) rfl)
  have y7 := (box_cell X.out 7 (v := .slice a1 ws.length c1) rfl)
  have y8 := (box_cell X.out 8 (v := .slice a2 gs.length c2) rfl)
  have y9 := (box_cell X.out 9 (v := .int .i64 C) rfl)
  have y10 := (box_cell X.out 10 (v := .int .i64 Z) rfl)
  have y11 := (box_cell X.out 11 (v := .slice a es.length cap) rfl)
  go_wp2_with fail
  refine (implCli_any i t s ed nm L S a1 a2 c1 c2 ws gs C Z a cap es _ (HA.out.below B.out).i1 (HA.out.below B.out).i2 hx hy (HA.out.below B.out).eq hl HS.out hnm (HT.out.below B.out)).mono ?_
  rintro e w1 ⟨rfl, b1⟩
  rw [HP.out]
  have hs1 := b1.size
  have X := hid (kept X.out b1)
  have RR := hid (kept RR.out b1)
  have B := hid (u_cat B.out b1)
  clear b1 y0 y1 y2 y3 y4 y5 y6 y7 y8 y9 y10 y11
  have y0 := (box_cell X.out 0 (v := .int .i64 i) rfl)
  have y1 := (box_cell X.out 1 (v := .int .i64 t) rfl)
  have y2 := (box_cell X.out 2 (v := .int .i64 s) rfl)
  have y3 := (box_cell X.out 3 (v := .string nm) rfl)
  have y4 := (box_cell X.out 4 (v := .int .i64 ed) rfl)
  have y5 := (box_cell X.out 5 (v := .int .i64 L) rfl)
  have y6 := (box_cell X.out 6 (v := .int .i64 S) rfl)
  have y7 := (box_cell X.out 7 (v := .slice a1 ws.length c1) rfl)
  have y8 := (box_cell X.out 8 (v := .slice a2 gs.length c2) rfl)
  have y9 := (box_cell X.out 9 (v := .int .i64 C) rfl)
  have y10 := (box_cell X.out 10 (v := .int .i64 Z) rfl)
  have y11 := (box_cell X.out 11 (v := .slice a es.length cap) rfl)
  go_wp2_with fail
  refine (ccopied_any i t s ed nm L S a1 a2 c1 c2 ws gs C Z a cap es _ (HA.out.below B.out) hx hy hl HS.out hpp.out (HT.out.below B.out)).mono ?_
  rintro _ w2 ⟨b1', d1, b2', d2, a', c', fs, rfl, o2, v2, p2, b2⟩
  have hs2 := b2.size
  have hi2 := hid (gin_mono o2.in' (lo' := w.heap.size) (by omega))
  have O := hid (o2.mono (base' := w.heap.size + 2) (by omega))
  have VV := hid (vals_same.2 v2)
  have PP := hid p2
  have X := hid (kept X.out b2)
  have RR := hid (kept RR.out b2)
  have B := hid (u_cat B.out b2)
  clear b2 o2 v2 p2
  clear y0 y1 y2 y3 y4 y5 y6 y7 y8 y9 y10 y11
  go_wp2_with fail
  refine (askAnew_any i t s ed nm L S C Z b1' b2' a' ws.length gs.length fs.length d1 d2 c' _ (by omega) (by omega) (by omega)).mono ?_
  rintro _ w3 ⟨v, rfl, hv, b3⟩
  have WW := hid (hv)
  have RR := hid (kept RR.out b3)
  have B := hid (u_cat B.out b3)
  have O := hid (O.out.below b3)
  have hs3 : w2.heap.size ≤ w3.heap.size := b3.size
  clear hv b3 X
  have r0 := (box_cell RR.out 0 (v := .int .i64 0) rfl)
  have r1 := (box_cell RR.out 1 (v := .int .i64 0) rfl)
  have r2 := (box_cell RR.out 2 (v := .int .i64 0) rfl)
  have r3 := (box_cell RR.out 3 (v := .string ⟨#[]⟩) rfl)
  have r4 := (box_cell RR.out 4 (v := .int .i64 0) rfl)
  have r5 := (box_cell RR.out 5 (v := .int .i64 0) rfl)
  have r6 := (box_cell RR.out 6 (v := .int .i64 0) rfl)
  have r7 := (box_cell RR.out 7 (v := .slice none 0 0) rfl)
  have r8 := (box_cell RR.out 8 (v := .slice none 0 0) rfl)
  have r9 := (box_cell RR.out 9 (v := .int .i64 0) rfl)
  have r10 := (box_cell RR.out 10 (v := .int .i64 0) rfl)
  have r11 := (box_cell RR.out 11 (v := .slice none 0 0) rfl)
  have zf := box_frozen RR.out
  have lr := lt_of_block RR.out
  go_wp2_with fail
  clear r0 r1 r2 r3 r4 r5 r6 r7 r8 r9 r10 r11 zf lr
  obtain ⟨V5, hV5⟩ : ∃ V5, V5 = ((((((((((((w3.setCell ⟨w.heap.size + 1, 0, none⟩ (.int .i64 i)).setCell ⟨w.heap.size + 1, 1, none⟩ (.int .i64 (t + 1))).setCell ⟨w.heap.size + 1, 2, none⟩ (.int .i64 1)).setCell ⟨w.heap.size + 1, 3, none⟩ (.string nm)).setCell ⟨w.heap.size + 1, 4, none⟩ (.int .i64 ed)).setCell ⟨w.heap.size + 1, 5, none⟩ (.int .i64 L)).setCell ⟨w.heap.size + 1, 6, none⟩ (.int .i64 S)).setCell ⟨w.heap.size + 1, 7, none⟩ (.slice b1' ws.length d1)).setCell ⟨w.heap.size + 1, 8, none⟩ (.slice b2' gs.length d2)).setCell ⟨w.heap.size + 1, 9, none⟩ (.int .i64 C)).setCell ⟨w.heap.size + 1, 10, none⟩ (.int .i64 Z)).setCell ⟨w.heap.size + 1, 11, none⟩ (.slice a' fs.length c')) := ⟨_, rfl⟩
  have hq : V5 = setsC w3 (w.heap.size + 1) [.int .i64 i, .int .i64 (t + 1), .int .i64 1, .string nm, .int .i64 ed, .int .i64 L, .int .i64 S, .slice b1' ws.length d1, .slice b2' gs.length d2, .int .i64 C, .int .i64 Z, .slice a' fs.length c'] 0 := hV5
  have R5 := (show V5.heap[w.heap.size + 1]? = some (.cells #[.int .i64 i, .int .i64 (t + 1), .int .i64 1, .string nm, .int .i64 ed, .int .i64 L, .int .i64 S, .slice b1' ws.length d1, .slice b2' gs.length d2, .int .i64 C, .int .i64 Z, .slice a' fs.length c'] 40 (0, 0)) by rw [hq, sets_block [.int .i64 i, .int .i64 (t + 1), .int .i64 1, .string nm, .int .i64 ed, .int .i64 L, .int .i64 S, .slice b1' ws.length d1, .slice b2' gs.length d2, .int .i64 C, .int .i64 Z, .slice a' fs.length c'] 0 w3 _ RR.out]; simp [setsA])
  have B5 : Below w.heap.size w V5 := by rw [hq]; exact sets_below (by omega) _ _ _ B.out
  have hz5 : w3.heap.size ≤ V5.heap.size := by rw [hq]; exact sets_size _ _ _ _
  have O5 : GetOwn V5 (w.heap.size + 2) ws gs b1' b2' d1 d2 a' c' fs := by rw [hq]; exact sets_own (by omega) _ _ _ O.out
  have W5 : WsAt V5 w2.heap.size v (some ⟨1, i, (t + 1), ed, 0, nm, ⟨#[]⟩⟩) := by rw [hq]; exact ws_sets (by omega) _ _ _ WW.out
  rw [← hV5]
  clear hV5 hq
  have y0 := box_cell R5 0 (v := .int .i64 i) rfl
  have y1 := box_cell R5 1 (v := .int .i64 (t + 1)) rfl
  have y2 := box_cell R5 2 (v := .int .i64 1) rfl
  have y3 := box_cell R5 3 (v := .string nm) rfl
  have y4 := box_cell R5 4 (v := .int .i64 ed) rfl
  have y5 := box_cell R5 5 (v := .int .i64 L) rfl
  have y6 := box_cell R5 6 (v := .int .i64 S) rfl
  have y7 := box_cell R5 7 (v := .slice b1' ws.length d1) rfl
  have y8 := box_cell R5 8 (v := .slice b2' gs.length d2) rfl
  have y9 := box_cell R5 9 (v := .int .i64 C) rfl
  have y10 := box_cell R5 10 (v := .int .i64 Z) rfl
  have y11 := box_cell R5 11 (v := .slice a' fs.length c') rfl
  refine bodyPost_ret (v := .tuple #[.agg #[.int .i64 i, .int .i64 (t + 1), .int .i64 1, .string nm, .int .i64 ed, .int .i64 L, .int .i64 S, .slice b1' ws.length d1, .slice b2' gs.length d2, .int .i64 C, .int .i64 Z, .slice a' fs.length c'], v]) ?_ rfl ⟨⟨b1', d1, b2', d2, a', c', fs, v, w2.heap.size, rfl, O5.mono (by omega), hi2.out, W5, by omega, by omega, VV.out, (fun _ => PP.out)⟩, B5⟩
  unfold results; rw [Tryz.results18]; simp [go_sem, y0, y1, y2, y3, y4, y5, y6, y7, y8, y9, y10, y11]
end Go.Proofs.YtbakicgdloakgaaGreatDoor
