/- A frame that may be of what is wanted, looked for by the program. -/
import Derived.Test.YtnfjplmpaeiagaaPtN
import Derived.Test.YtnfjplmpaeiagaaInrL
import Derived.Deep.RegionHeld3
import Derived.Deep.Cut
namespace Go.Proofs.Ytnfjplmpaeiagaa
open Go.ChangeShapes Go.WideShapes Go.ChangeAt Go.RowKit Go.Sort Go.Shelf
attribute [local go_sem] Oper.semAt_some

/-- The frame of what is taken. -/
def newF (q : Fr) : Fr := ⟨q.h, q.e, q.b, 1, true⟩

theorem set_same {gs : List Fr} {k : Nat} {f : Fr} (h : gs[k]? = some f) : gs.set k f = gs := by
  obtain ⟨hl, he⟩ := List.getElem?_eq_some_iff.1 h
  rw [← he]
  exact List.set_getElem_self hl
theorem step_over {full : Bool} {house : Int} {x : Fin 8} {pre : List (Fin 8)} {fs gs : List Fr} {f : Fr} (H : scanL full house (pre ++ [x]) fs = match look full house f with
    | none => (gs, some x)
    | some f => (gs.set x.val f, none)) (hat : gs[x.val]? = some f) (hm : mayGo full house f = false) : scanL full house (pre ++ [x]) fs = (gs, none) := by
  rw [H]
  unfold look
  rw [if_neg (by rw [hm]; simp)]
  simp only [set_same hat]
theorem step_used {full : Bool} {house : Int} {x : Fin 8} {pre : List (Fin 8)} {fs gs : List Fr} {f : Fr} (H : scanL full house (pre ++ [x]) fs = match look full house f with
    | none => (gs, some x)
    | some f => (gs.set x.val f, none)) (hm : mayGo full house f = true) (hu : f.u = true) : scanL full house (pre ++ [x]) fs = (gs.set x.val (unuse f), none) := by
  rw [H]
  unfold look
  rw [if_pos hm, if_pos hu]
theorem look_free {full : Bool} {house : Int} {f : Fr} (hm : mayGo full house f = true) (hu : f.u = false) : look full house f = none := by
  unfold look
  rw [if_pos hm, if_neg (by rw [hu]; simp)]

set_option maxHeartbeats 4000000 in
theorem get_any (g base rb hand : Nat) (fs : List Fr) (q : Fr) (w : World) (hN : NdsAt w base g (ring g fs)) (hrb : w.heap[rb]? = some (.cells #[.pointer (some ⟨g, 0, none⟩), .pointer (some ⟨g, hand * 7, none⟩)] 49 (0, 0))) (hh : hand < 8) (hb : base ≤ rb) (hne : rb ≠ g) :
    Calls Try.prog 51 #[.pointer (some ⟨rb, 0, none⟩), .agg #[.int .i64 q.h, .int .i64 q.e, .int .i64 q.b, .int .i64 q.d, .bool q.u]] w fun e w' =>
      ((∃ gs v, scan (decide (frOf fs q.h = 5)) q.h 17 hand fs = (gs, some v) ∧ v < 8 ∧ e = .returned (.tuple #[.int .i64 v, .int .i64 1]) ∧ NdsAt w' base g (ring g (gs.set v (newF q))) ∧ w'.heap[rb]? = some (.cells #[.pointer (some ⟨g, 0, none⟩), .pointer (some ⟨g, (v + 1) % 8 * 7, none⟩)] 49 (0, 0))) ∨
       (∃ gs, scan (decide (frOf fs q.h = 5)) q.h 17 hand fs = (gs, none) ∧ e = .returned (.tuple #[.int .i64 0, .int .i64 2]) ∧ NdsAt w' base g (ring g gs) ∧ w'.heap[rb]? = some (.cells #[.pointer (some ⟨g, 0, none⟩), .pointer (some ⟨g, hand * 7, none⟩)] 49 (0, 0)))) ∧ Below base w w' := by
  have h8 : fs.length = 8 := by have := hN.len; rwa [ring_len] at this
  have hgw := hN.lt
  have hrw := lt_of_block hrb
  have p0 := box_cell hrb 0 (v := .pointer (some ⟨g, 0, none⟩)) rfl
  have p1 := box_cell hrb 1 (v := .pointer (some ⟨g, hand * 7, none⟩)) rfl
  have HN := hid hN
  have HRB := hid hrb
  clear hN hrb
  refine (callsIn_wide (n := 9)).1 ?_
  refine callsIn_of_wp_marks Try.func51 rfl trivial ?_ rfl
  simp only [Try.ntmps51, List.size_toArray, List.length_cons, List.length_nil, Nat.reduceAdd, Nat.reduceSub, Array.replicate_succ, Array.replicate_zero, List.push_toArray, List.append_toArray, List.nil_append, List.cons_append]
  gi_wp2_with fail
  refine wpIn_wide.2 ?_
  obtain ⟨W0, hW0⟩ : ∃ W0, W0 = (((w.alloc (.cells #[.pointer (some ⟨rb, 0, none⟩)] 75)).alloc (.cells #[.int .i64 q.h, .int .i64 q.e, .int .i64 q.b, .int .i64 q.d, .bool q.u] 45)).alloc (.cells #[.int .i64 0] 3)).alloc (.cells #[.int .i64 0] 3) := ⟨_, rfl⟩
  rw [← hW0]
  have B0 : Below w.heap.size w W0 := by
    rw [hW0]; exact (((((Below.refl _ _).alloc (Nat.le_refl _) _).alloc (by simp) _).alloc (by simp; omega) _).alloc (by simp; omega) _)
  have Z0 : W0.heap.size = w.heap.size + 4 := by rw [hW0]; simp
  have X0 : W0.heap[w.heap.size]? = some (.cells #[.pointer (some ⟨rb, 0, none⟩)] 75 (0, 0)) := by
    rw [hW0, Below.heap_alloc _ _ _ (by simp; omega), Below.heap_alloc _ _ _ (by simp; omega), Below.heap_alloc _ _ _ (by simp)]
    exact u_laid _ _ _ (by simp)
  have X1 : W0.heap[w.heap.size + 1]? = some (.cells #[.int .i64 q.h, .int .i64 q.e, .int .i64 q.b, .int .i64 q.d, .bool q.u] 45 (0, 0)) := by
    rw [hW0, Below.heap_alloc _ _ _ (by simp), Below.heap_alloc _ _ _ (by simp)]
    exact u_laid _ _ _ (by simp)
  have X2 : W0.heap[w.heap.size + 1 + 1]? = some (.cells #[.int .i64 0] 3 (0, 0)) := by
    rw [hW0, Below.heap_alloc _ _ _ (by simp)]
    exact u_laid _ _ _ (by simp)
  have X3 : W0.heap[w.heap.size + 1 + 1 + 1]? = some (.cells #[.int .i64 0] 3 (0, 0)) := by
    rw [hW0]
    exact u_laid _ _ _ (by simp)
  clear hW0 p0 p1
  have HN := hid (HN.out.below B0 hgw.2)
  have HRB := hid (kept HRB.out B0)
  have q0 := box_cell X0 0 (v := .pointer (some ⟨rb, 0, none⟩)) rfl
  have q1 := box_cell X1 0 (v := .int .i64 q.h) rfl
  have p0 := box_cell HRB.out 0 (v := .pointer (some ⟨g, 0, none⟩)) rfl
  have p1 := box_cell HRB.out 1 (v := .pointer (some ⟨g, hand * 7, none⟩)) rfl
  have key0 : ∀ W : World, Below W0.heap.size W0 W → W.cell? ⟨w.heap.size, 0, none⟩ = some (.pointer (some ⟨rb, 0, none⟩)) ∧ W.cell? ⟨w.heap.size + 1, 0, none⟩ = some (.int .i64 q.h) ∧ W.cell? ⟨rb, 0, none⟩ = some (.pointer (some ⟨g, 0, none⟩)) ∧ W.cell? ⟨rb, 1, none⟩ = some (.pointer (some ⟨g, hand * 7, none⟩)) := by
    intro W hb
    have hc := (u_cell hb).1
    refine ⟨?_, ?_, ?_, ?_⟩
    · rw [hc _ _ (by omega)]; exact q0
    · rw [hc _ _ (by omega)]; exact q1
    · rw [hc _ _ (by omega)]; exact p0
    · rw [hc _ _ (by omega)]; exact p1
  have n1 : ¬ w.heap.size + 4 = rb := by omega
  have n2 : ¬ rb = w.heap.size + 4 := by omega
  go_cut [6] from 8 (fun s6 W => ∃ fb, s6 = .pointer (some ⟨fb, 0, none⟩) ∧ w.heap.size + 4 ≤ fb ∧ W.heap[fb]? = some (.cells #[.bool ((frOf fs q.h : Int) == 5)] 4 (0, 0)) ∧ Below W0.heap.size W0 W)
  case first =>
    go_region_held3 (fun w' => w'.cell? ⟨w.heap.size, 0, none⟩ = some (.pointer (some ⟨rb, 0, none⟩)) ∧ w'.cell? ⟨w.heap.size + 1, 0, none⟩ = some (.int .i64 q.h) ∧ w'.cell? ⟨rb, 0, none⟩ = some (.pointer (some ⟨g, 0, none⟩)) ∧ w'.cell? ⟨rb, 1, none⟩ = some (.pointer (some ⟨g, hand * 7, none⟩))) (first | (with_reducible exact key5) | (with_reducible exact ⟨q0, q1, p0, p1⟩) | go_keep) (first | (go_at_call 40; refine (of_any g base _ fs q.h _ (by exact HN.out.drew)).mono ?_; rintro e w5 ⟨rfl, b5⟩; have key5 := key0 _ (u_cat (u_drew (Below.refl _ _)) b5); have B5 := hid b5; clear b5) | (go_at_call 40; refine (of_any g base _ fs q.h _ (by exact HN.out.below (n := W0.heap.size) (u_drew (u_b1 _ _)) (by omega))).mono ?_; rintro e w5 ⟨rfl, b5⟩; have key5 := key0 _ (u_cat (u_drew (u_b1 _ _)) b5); have l6 : w5.heap[W0.heap.size]? = some (.cells #[.bool false] 4 (0, 0)) := kept (w := (W0.alloc (.cells #[.bool false] 4)).drew) (by exact laid W0 _ _) b5; rw [Z0] at l6; have c6 := box_cell l6 0 (v := .bool false) rfl; have f6 := box_frozen l6 0; have L6 := hid l6; clear l6; have B5 := hid b5; clear b5))
    · go_wp2
      go_meet
      case rel => exact ⟨_, rfl, by have := B5.out.size; simp at this; omega, laid _ _ _, u_cat (u_cat (u_drew (Below.refl _ _)) B5.out) (u_b1 _ _)⟩
    · go_wp2
      go_meet
      case rel => exact ⟨_, rfl, Nat.le_refl _, set_block L6.out 0 _, u_set (u_cat (u_drew (u_b1 _ _)) B5.out) (by omega) _ _⟩
  case rest =>
    obtain ⟨fb, rfl, hfb, F6, bc⟩ := hcut
    have bW := u_cat B0 bc
    obtain ⟨k0, k1, k2, k3⟩ := key0 _ bc
    have E0 := kept X0 bc
    have E1 := kept X1 bc
    have E2 := kept X2 bc
    have E3 := kept X3 bc
    have ER := kept HRB.out bc
    have EN := HN.out.below bc (by omega)
    have hzc := bc.size
    clear X0 X1 X2 X3 HRB HN q0 q1 p0 p1 key0 n1 n2
    gi_wp2_with (refine ⟨trivial, ?_⟩; gi_at_call 39; refine (callsIn_wide.2 (round_in _ _ _)).mono ?_; rintro e w' ⟨rfl, rfl⟩)
    obtain ⟨full, hfull⟩ : ∃ full, full = ((frOf fs q.h : Int) == 5) := ⟨_, rfl⟩
    rw [← hfull] at F6
    have HDE := hid (show full = decide (frOf fs q.h = 5) by rw [hfull]; apply Bool.eq_iff_iff.2; simp; omega)
    clear hfull
    obtain ⟨W1, hW1⟩ : ∃ W1, W1 = (wc.alloc (.cells #[.pointer (some ⟨g, hand * 7, none⟩)] 47)).alloc (.cells #[.int .i64 17] 3) := ⟨_, rfl⟩
    rw [← hW1]
    obtain ⟨X4, X5, b1⟩ := u_box2 (w := wc) (c := #[.pointer (some ⟨g, hand * 7, none⟩)]) (t := 47) (d := #[.int .i64 17]) (s := 3) (w1 := W1) (by rw [hW1]; exact Below.refl _ _)
    have Z1 : W1.heap.size = wc.heap.size + 2 := by rw [hW1]; simp
    clear hW1
    have hfw := lt_of_block F6
    have E0 := kept E0 b1
    have E1 := kept E1 b1
    have E2 := kept E2 b1
    have E3 := kept E3 b1
    have ER := kept ER b1
    have F6 := kept F6 b1
    have EN := EN.below b1 (by omega)
    have bW := (u_cat bW b1).mono (show base ≤ w.heap.size by omega)
    have X4 : W1.heap[wc.heap.size]? = some (.cells #[.pointer (some ⟨g, hand % 8 * 7, none⟩)] 47 (0, 0)) := by rw [Nat.mod_eq_of_lt hh]; exact X4
    clear k0 k1 k2 k3 bc b1 B0
    refine wpIn_rangeFunc_ownG (α := Fin 8) rfl (by omega) (gf := 53) (lb := #[.pointer (some ⟨wc.heap.size, 0, none⟩), .pointer (some ⟨wc.heap.size + 1, 0, none⟩)]) rfl trivial (enters_of Try.func53 (by kernel_rfl) rfl)
      (round_stops (9 - 1) g hand 17 _ _ (by omega) (by omega) (KeepsWay g) (fun W W' h k => k h) W1 (box_cell X4 0 rfl) (box_cell X5 0 rfl) EN.leads)
      keepsWay_t (keepsWay_b (n := W1.heap.size)) (Below.refl _ _) (fun _ => rfl)
      (fun pre W => W.heap[w.heap.size]? = some (.cells #[.pointer (some ⟨rb, 0, none⟩)] 75 (0, 0)) ∧ W.heap[w.heap.size + 1]? = some (.cells #[.int .i64 q.h, .int .i64 q.e, .int .i64 q.b, .int .i64 q.d, .bool q.u] 45 (0, 0)) ∧ W.heap[w.heap.size + 1 + 1]? = some (.cells #[.int .i64 0] 3 (0, 0)) ∧ W.heap[w.heap.size + 1 + 1 + 1]? = some (.cells #[.int .i64 0] 3 (0, 0)) ∧ W.heap[fb]? = some (.cells #[.bool full] 4 (0, 0)) ∧ W.heap[rb]? = some (.cells #[.pointer (some ⟨g, 0, none⟩), .pointer (some ⟨g, hand * 7, none⟩)] 49 (0, 0)) ∧ (∃ gs, scanL full q.h pre fs = (gs, none) ∧ NdsAt W base g (ring g gs)) ∧ Below base w W)
      (fun c pre W => ∃ (p : List (Fin 8)) (x : Fin 8) (gs : List Fr), c = .ret ∧ pre = p ++ [x] ∧ scanL full q.h p fs = (gs, none) ∧ look full q.h (nth gs x) = none ∧ W.heap[w.heap.size + 1 + 1]? = some (.cells #[.int .i64 x.val] 3 (0, 0)) ∧ W.heap[w.heap.size + 1 + 1 + 1]? = some (.cells #[.int .i64 1] 3 (0, 0)) ∧ W.heap[rb]? = some (.cells #[.pointer (some ⟨g, 0, none⟩), .pointer (some ⟨g, (x.val + 1) % 8 * 7, none⟩)] 49 (0, 0)) ∧ NdsAt W base g (ring g (gs.set x.val (newF q))) ∧ Below base w W)
      (fun s A B row hs hg hr => by
        obtain ⟨h1, h2, h3, h4, h5, h6, ⟨gs, h7, h8⟩, h9⟩ := hs
        exact ⟨own_blk h1 hg hr, own_blk h2 hg hr, own_blk h3 hg hr, own_blk h4 hg hr, own_blk h5 hg hr, own_blk h6 hg hr, ⟨gs, h7, own_row h8 hg hr⟩, ownFrom_below (by omega) (by omega) s A B row h9 hg hr⟩)
      (fun c s A B row hs hg hr => by
        obtain ⟨p, x, gs, h1, h2, h3, h4, h5, h6, h7, h8, h9⟩ := hs
        exact ⟨p, x, gs, h1, h2, h3, h4, own_blk h5 hg hr, own_blk h6 hg hr, own_blk h7 hg hr, own_row h8 hg hr, ownFrom_below (by omega) (by omega) s A B row h9 hg hr⟩)
      ⟨E0, E1, E2, E3, F6, ER, ⟨fs, rfl, EN⟩, bW⟩
      (fun x => { tmps := #[.pointer (some ⟨rb, 0, none⟩), .agg #[.int .i64 q.h, .int .i64 q.e, .int .i64 q.b, .int .i64 q.d, .bool q.u], .pointer (some ⟨w.heap.size, 0, none⟩), .pointer (some ⟨w.heap.size + 1, 0, none⟩), .pointer (some ⟨w.heap.size + 1 + 1, 0, none⟩), .pointer (some ⟨w.heap.size + 1 + 1 + 1, 0, none⟩), .pointer (some ⟨fb, 0, none⟩), .pointer (some ⟨g, x.val * 7, none⟩), u8, u9, u10, u11, u12, u13, u14, .pointer (some ⟨rb, 0, none⟩), .pointer (some ⟨rb, 0, none⟩), .pointer (some ⟨rb, 1, none⟩), .pointer (some ⟨g, hand * 7, none⟩),
        .func (.func 53) #[] #[.pointer (some ⟨wc.heap.size, 0, none⟩), .pointer (some ⟨wc.heap.size + 1, 0, none⟩)], .pointer (some ⟨g, x.val * 7, none⟩), u21, u22, u23, u24, u25, u26, u27, u28, u29, u30, u31, u32, u33, u34, u35, u36, u37, u38, u39, u40, u41, u42, u43, u44, u45, u46, u47, u48, u49, u50, u51, u52, u53, u54, u55, u56, u57, u58, u59, u60, u61, u62, u63], defers := [] }) ?assign ?body ?done ?stop
    case assign =>
      intro l x W K hK
      gi_wp2
      exact hK
    case body =>
      rintro l pre x W ⟨Y0, Y1, Y2, Y3, YF, YR, ⟨gs, hs, N1⟩, B1⟩ hlen
      have hl8 : gs.length = 8 := by have := N1.len; rwa [ring_len] at this
      have hx8 := x.isLt
      obtain ⟨c0, c1, c2, c3, c4, c5, c6⟩ := N1.cells x.val _ (ring_at g gs x.val (nth gs x) (nth_at hl8 x))
      have HSN := hid (scanL_snoc full q.h x pre fs gs hs)
      have HS := hid hs
      have hat := hid (nth_at hl8 x)
      obtain ⟨f, hf⟩ : ∃ f, f = nth gs x := ⟨_, rfl⟩
      rw [← hf] at c0 c1 c2 c3 c4 HSN hat
      dsimp only at c0 c1 c2 c3 c4
      have HF := hid hf
      have yf := cell_regrown (box_cell YF 0 (v := .bool full) rfl)
      have y1 := cell_regrown (box_cell Y1 0 (v := .int .i64 q.h) rfl)
      have r0 := cell_regrown c0
      have r1 := cell_regrown c1
      have r2 := cell_regrown c2
      have r3 := cell_regrown c3
      have r4 := cell_regrown c4
      have k1 := hid (rg (w := W) (fun w' _ => empty_any f w'))
      clear c0 c1 c2 c3 c4 c5 c6 hs hf
      gi_wp2
      by_cases ho : overF full q.h f = true
      · have hful : full = true := by unfold overF at ho; simp at ho; exact ho.1
        subst hful
        have HO := hid ho
        have hw0 : f.e = 0 ∨ ¬ f.h = q.h := by unfold overF at ho; simpa using ho
        clear ho
        by_cases he : f.e = 0
        · have he1 := hid (decide_eq_true he)
          rw [he1.out] at k1
          clear he hw0
          refine inR_fore 19 (by kernel_rfl) (by kernel_rfl) (by kernel_rfl) (fun ⟨_, _, h⟩ => h) (fun _ _ d _ _ h => by cases d <;> exact h) ?_
          dsimp only [List.take_succ_cons, List.take_zero, List.drop_succ_cons, List.drop_zero]
          repeat (first
            | go_big_quiet_step ((go_at_call 54; exact k1.out _ _))
            | quiet_step ((go_at_call 54; exact k1.out _ _)))
          refine wpQuiet_nil ?_
          intro w4 hw'
          have hbq := of_class hw'
          have N4 := N1.below hbq N1.lt.2
          clear hw' yf y1 r0 r1 r2 r3 r4 k1
          go_wp2
          gi_wp2
          refine ⟨(keeps_below hbq).from _, fun h => h.below N1.lt.2 hbq, kept Y0 hbq, kept Y1 hbq, kept Y2 hbq, kept Y3 hbq, kept YF hbq, kept YR hbq, ⟨gs, step_over HSN.out hat.out (by unfold mayGo; rw [HO.out]; rfl), N4⟩, B1.trans (hbq.mono (by have := B1.size; omega))⟩
        · have he1 := hid (decide_eq_false he)
          rw [he1.out] at k1
          have hq : (f.h == q.h) = false := by rcases hw0 with h | h; exact absurd h he; simpa using h
          have hq2 : (f.h != q.h) = true := by simp [bne, hq]
          clear he hw0
          refine inR_fore 19 (by kernel_rfl) (by kernel_rfl) (by kernel_rfl) (fun ⟨_, _, h⟩ => h) (fun _ _ d _ _ h => by cases d <;> exact h) ?_
          dsimp only [List.take_succ_cons, List.take_zero, List.drop_succ_cons, List.drop_zero]
          repeat (first
            | go_big_quiet_step ((go_at_call 54; exact k1.out _ _))
            | quiet_step ((go_at_call 54; exact k1.out _ _)))
          refine wpQuiet_nil ?_
          intro w4 hw'
          have hbq := of_class hw'
          have N4 := N1.below hbq N1.lt.2
          clear hw' yf y1 r0 r1 r2 r3 r4 k1
          go_wp2
          gi_wp2
          refine ⟨(keeps_below hbq).from _, fun h => h.below N1.lt.2 hbq, kept Y0 hbq, kept Y1 hbq, kept Y2 hbq, kept Y3 hbq, kept YF hbq, kept YR hbq, ⟨gs, step_over HSN.out hat.out (by unfold mayGo; rw [HO.out]; rfl), N4⟩, B1.trans (hbq.mono (by have := B1.size; omega))⟩
      · have HO := hid ho
        cases full
        · clear ho
          refine inR_fore 19 (by kernel_rfl) (by kernel_rfl) (by kernel_rfl) (fun ⟨_, _, h⟩ => h) (fun _ _ d _ _ h => by cases d <;> exact h) ?_
          dsimp only [List.take_succ_cons, List.take_zero, List.drop_succ_cons, List.drop_zero]
          repeat (first
            | go_big_quiet_step ((go_at_call 54; exact k1.out _ _))
            | quiet_step ((go_at_call 54; exact k1.out _ _)))
          refine wpQuiet_nil ?_
          intro w4 hw'
          have hbq := of_class hw'
          have N4 := N1.below hbq N1.lt.2
          clear hw' yf y1 r0 r1 r2 r3 r4 k1
          by_cases hd : 0 < f.d
          · have ST := hid (stays_held g base x.val gs f w4 N4 hat.out hd)
            have HM := hid (show mayGo false q.h f = false by unfold mayGo; rw [decide_eq_false (by omega)]; simp)
            have HN4 := hid N4
            clear hd N4
            go_wp2_with (go_at_call 56; refine ST.out.mono ?_; rintro e w6 ⟨rfl, rfl⟩)
            gi_wp2
            exact ⟨(keeps_below hbq).from _, fun h => h.below N1.lt.2 hbq, kept Y0 hbq, kept Y1 hbq, kept Y2 hbq, kept Y3 hbq, kept YF hbq, kept YR hbq, ⟨gs, step_over HSN.out hat.out HM.out, HN4.out⟩, B1.trans (hbq.mono (by have := B1.size; omega))⟩
          · have st := stays_free g base x.val gs f w4 N4 hat.out (by omega)
            have HM := hid (show mayGo false q.h f = true by unfold mayGo; rw [Bool.eq_false_iff.2 HO.out, decide_eq_true (show f.d ≤ 0 by omega)]; rfl)
            have N5 := hid (N4.unuse x.val f hat.out false)
            clear hd N4
            obtain ⟨u, hu⟩ : ∃ u, f.u = u := ⟨_, rfl⟩
            have HU := hid hu
            rw [hu] at st
            have ST := hid st
            clear st hu
            cases u
            · have FF := hid (show ∀ w6, w6 = w4.setCell ⟨g, x.val * 7 + 4, none⟩ (.bool false) → NdsAt w6 base g (ring g gs) ∧ w6.heap[w.heap.size]? = some (.cells #[.pointer (some ⟨rb, 0, none⟩)] 75 (0, 0)) ∧ w6.heap[w.heap.size + 1]? = some (.cells #[.int .i64 q.h, .int .i64 q.e, .int .i64 q.b, .int .i64 q.d, .bool q.u] 45 (0, 0)) ∧ w6.heap[w.heap.size + 1 + 1]? = some (.cells #[.int .i64 0] 3 (0, 0)) ∧ w6.heap[w.heap.size + 1 + 1 + 1]? = some (.cells #[.int .i64 0] 3 (0, 0)) ∧ w6.heap[rb]? = some (.cells #[.pointer (some ⟨g, 0, none⟩), .pointer (some ⟨g, hand * 7, none⟩)] 49 (0, 0)) ∧ KeepsOthers W w6 ∧ Below base w w6 by
                intro w6 hw6
                have Hw6 : ∀ k, k ≠ g → w6.heap[k]? = w4.heap[k]? := fun k hk => by rw [hw6, Below.heap_setCell _ _ _ _ (by simpa using hk)]
                refine ⟨?_, (Hw6 _ (by omega)).trans (kept Y0 hbq), (Hw6 _ (by omega)).trans (kept Y1 hbq), (Hw6 _ (by omega)).trans (kept Y2 hbq), (Hw6 _ (by omega)).trans (kept Y3 hbq), (Hw6 _ hne).trans (kept YR hbq), ?_, ?_⟩
                · have h := N5.out
                  have e : (⟨f.h, f.e, f.b, f.d, false⟩ : Fr) = f := by rw [← HU.out]
                  rw [e, set_same hat.out, ← hw6] at h
                  exact h
                · rw [hw6]; exact (keeps_below hbq).trans (KeepsOthers.setCell _ _ _)
                · rw [hw6]; exact u_set (B1.trans (hbq.mono (by have := B1.size; omega))) (by omega) _ _)
              clear Y0 Y1 Y2 Y3 YF YR N1 B1 hbq N5
              go_wp2_with (go_at_call 56; refine ST.out.mono ?_; rintro e w6 ⟨rfl, hw6⟩; obtain ⟨N6, v0, v1, v2, v3, vr, ko, bb⟩ := FF.out w6 hw6; clear hw6 ST FF; have V0 := hid v0; have V2 := hid v2; have V3 := hid v3; have VR := hid vr; have KO := hid ko; have BB := hid bb; clear v0 v2 v3 vr ko bb; have z0 := box_cell v1 0 (v := .int .i64 q.h) rfl; have z1 := box_cell v1 1 (v := .int .i64 q.e) rfl; have z2 := box_cell v1 2 (v := .int .i64 q.b) rfl; obtain ⟨d0, d1, d2, d3, d4, d5, d6⟩ := N6.cells x.val _ (ring_at g gs x.val f hat.out); dsimp only at d0 d1 d2 d3 d4; have hfz := N6.frozen; have HN6 := hid N6; clear N6 v1 d5 d6)
              gi_wp2
              obtain ⟨w7, hw7⟩ : ∃ w7, w7 = ((((w6.setCell ⟨g, x.val * 7, none⟩ (.int .i64 q.h)).setCell ⟨g, x.val * 7 + 1, none⟩ (.int .i64 q.e)).setCell ⟨g, x.val * 7 + 2, none⟩ (.int .i64 q.b)).setCell ⟨g, x.val * 7 + 3, none⟩ (.int .i64 1)).setCell ⟨g, x.val * 7 + 4, none⟩ (.bool true) := ⟨_, rfl⟩
              rw [← hw7]
              have N7 : NdsAt w7 base g (ring g (gs.set x.val (newF q))) := by rw [hw7]; exact HN6.out.storeF x.val hx8 (newF q)
              have Hw7 : ∀ k, k ≠ g → w7.heap[k]? = w6.heap[k]? := fun k hk => by rw [hw7, Below.heap_setCell _ _ _ _ (by simpa using hk), Below.heap_setCell _ _ _ _ (by simpa using hk), Below.heap_setCell _ _ _ _ (by simpa using hk), Below.heap_setCell _ _ _ _ (by simpa using hk), Below.heap_setCell _ _ _ _ (by simpa using hk)]
              have KO := hid (show KeepsOthers W w7 by rw [hw7]; exact ((((KO.out.trans (KeepsOthers.setCell _ _ _)).trans (KeepsOthers.setCell _ _ _)).trans (KeepsOthers.setCell _ _ _)).trans (KeepsOthers.setCell _ _ _)).trans (KeepsOthers.setCell _ _ _))
              have BB := hid (show Below base w w7 by rw [hw7]; exact below_set5 BB.out (by omega) (x.val * 7) (newF q))
              have V0 := (Hw7 _ (by omega)).trans V0.out
              have V2 := hid ((Hw7 _ (by omega)).trans V2.out)
              have V3 := hid ((Hw7 _ (by omega)).trans V3.out)
              have VR := hid ((Hw7 _ hne).trans VR.out)
              obtain ⟨-, -, -, -, -, e5, e6⟩ := N7.cells x.val _ (ring_at g _ x.val (newF q) (by rw [List.getElem?_set_self (by omega)]))
              dsimp only at e5 e6
              have a0 := cell_regrown (box_cell V0 0 (v := .pointer (some ⟨rb, 0, none⟩)) rfl)
              have a6 := cell_regrown e6
              have HN7 := hid N7
              have E5 := hid e5
              clear hw7 Hw7 HN6 hfz z0 z1 z2 d0 d1 d2 d3 d4 N7 e5 e6 V0
              refine inR_fore 7 (by kernel_rfl) (by kernel_rfl) (by kernel_rfl) (fun ⟨_, _, h⟩ => h) (fun _ _ d _ _ h => by cases d <;> exact h) ?_
              dsimp only [List.take_succ_cons, List.take_zero, List.drop_succ_cons, List.drop_zero]
              repeat (first
                | go_big_quiet_step (fail)
                | quiet_step (fail))
              refine wpQuiet_nil ?_
              intro w8 hw'
              have hb8 := of_class hw'
              have e5 := ((u_cell hb8).1 g (x.val * 7 + 5) HN7.out.lt.2).trans E5.out
              have N8 := hid (HN7.out.below hb8 HN7.out.lt.2)
              have V2 := hid (kept V2.out hb8)
              have V3 := hid (kept V3.out hb8)
              have VR := hid (kept VR.out hb8)
              have KO := hid (KO.out.trans (keeps_below hb8))
              have BB := hid (BB.out.trans (hb8.mono (by have := BB.out.size; omega)))
              have pR := box_cell VR.out 1 (v := .pointer (some ⟨g, hand * 7, none⟩)) rfl
              have zR := box_frozen VR.out 1
              have p2 := box_cell V2.out 0 (v := .int .i64 0) rfl
              have z2 := box_frozen V2.out 0
              have p3 := box_cell V3.out 0 (v := .int .i64 0) rfl
              have z3 := box_frozen V3.out 0
              have m1 : ¬ g = rb := fun h => hne h.symm
              have m2 : ¬ w.heap.size + 1 + 1 = rb := by omega
              have m3 : ¬ w.heap.size + 1 + 1 + 1 = rb := by omega
              clear hw' a0 a6 E5 HN7 hb8
              go_wp2
              gi_wp2
              refine ⟨(((KO.out.trans (KeepsOthers.setCell _ _ _)).trans (KeepsOthers.setCell _ _ _)).trans (KeepsOthers.setCell _ _ _)).from _, pre, x, gs, rfl, rfl, HS.out, by rw [← HF.out]; exact look_free HM.out HU.out, ?_, ?_, ?_, ?_, u_set (u_set (u_set BB.out (by omega) _ _) (by omega) _ _) (by omega) _ _⟩
              · exact set_other (set_block (set_other V2.out (by omega) _ _) 0 _) (by omega) _ _
              · exact set_block (set_other (set_other V3.out (by omega) _ _) (by omega) _ _) 0 _
              · exact set_other (set_other (set_block VR.out 1 _) (by omega) _ _) (by omega) _ _
              · have G2 : g ≠ w.heap.size + 1 + 1 := by omega
                have G3 : g ≠ w.heap.size + 1 + 1 + 1 := by omega
                exact u_owns N8.out (fun k hk => by cases hk; exact set_other (set_other (set_other rfl m1 _ _) G2 _ _) G3 _ _)
            · go_wp2_with (go_at_call 56; refine ST.out.mono ?_; rintro e w6 ⟨rfl, rfl⟩)
              gi_wp2
              refine ⟨((keeps_below hbq).trans (KeepsOthers.setCell _ _ _)).from _, fun _ => N5.out.leads, ?_, ?_, ?_, ?_, ?_, ?_, ⟨_, step_used HSN.out HM.out HU.out, N5.out⟩, u_set (B1.trans (hbq.mono (by have := B1.size; omega))) (by omega) _ _⟩
              · rw [Below.heap_setCell _ _ _ _ (by simp; omega)]; exact kept Y0 hbq
              · rw [Below.heap_setCell _ _ _ _ (by simp; omega)]; exact kept Y1 hbq
              · rw [Below.heap_setCell _ _ _ _ (by simp; omega)]; exact kept Y2 hbq
              · rw [Below.heap_setCell _ _ _ _ (by simp; omega)]; exact kept Y3 hbq
              · rw [Below.heap_setCell _ _ _ _ (by simp; omega)]; exact kept YF hbq
              · rw [Below.heap_setCell _ _ _ _ (by simp; omega)]; exact kept YR hbq
        · have hw0 : ¬ f.e = 0 ∧ f.h = q.h := by unfold overF at ho; simpa using ho
          have he1 := hid (decide_eq_false hw0.1)
          rw [he1.out] at k1
          have hq : (f.h == q.h) = true := by simpa using hw0.2
          have hq2 : (f.h != q.h) = false := by simp [bne, hq]
          clear hw0 ho
          refine inR_fore 19 (by kernel_rfl) (by kernel_rfl) (by kernel_rfl) (fun ⟨_, _, h⟩ => h) (fun _ _ d _ _ h => by cases d <;> exact h) ?_
          dsimp only [List.take_succ_cons, List.take_zero, List.drop_succ_cons, List.drop_zero]
          repeat (first
            | go_big_quiet_step ((go_at_call 54; exact k1.out _ _))
            | quiet_step ((go_at_call 54; exact k1.out _ _)))
          refine wpQuiet_nil ?_
          intro w4 hw'
          have hbq := of_class hw'
          have N4 := N1.below hbq N1.lt.2
          clear hw' yf y1 r0 r1 r2 r3 r4 k1
          by_cases hd : 0 < f.d
          · have ST := hid (stays_held g base x.val gs f w4 N4 hat.out hd)
            have HM := hid (show mayGo true q.h f = false by unfold mayGo; rw [decide_eq_false (by omega)]; simp)
            have HN4 := hid N4
            clear hd N4
            go_wp2_with (go_at_call 56; refine ST.out.mono ?_; rintro e w6 ⟨rfl, rfl⟩)
            gi_wp2
            exact ⟨(keeps_below hbq).from _, fun h => h.below N1.lt.2 hbq, kept Y0 hbq, kept Y1 hbq, kept Y2 hbq, kept Y3 hbq, kept YF hbq, kept YR hbq, ⟨gs, step_over HSN.out hat.out HM.out, HN4.out⟩, B1.trans (hbq.mono (by have := B1.size; omega))⟩
          · have st := stays_free g base x.val gs f w4 N4 hat.out (by omega)
            have HM := hid (show mayGo true q.h f = true by unfold mayGo; rw [Bool.eq_false_iff.2 HO.out, decide_eq_true (show f.d ≤ 0 by omega)]; rfl)
            have N5 := hid (N4.unuse x.val f hat.out false)
            clear hd N4
            obtain ⟨u, hu⟩ : ∃ u, f.u = u := ⟨_, rfl⟩
            have HU := hid hu
            rw [hu] at st
            have ST := hid st
            clear st hu
            cases u
            · have FF := hid (show ∀ w6, w6 = w4.setCell ⟨g, x.val * 7 + 4, none⟩ (.bool false) → NdsAt w6 base g (ring g gs) ∧ w6.heap[w.heap.size]? = some (.cells #[.pointer (some ⟨rb, 0, none⟩)] 75 (0, 0)) ∧ w6.heap[w.heap.size + 1]? = some (.cells #[.int .i64 q.h, .int .i64 q.e, .int .i64 q.b, .int .i64 q.d, .bool q.u] 45 (0, 0)) ∧ w6.heap[w.heap.size + 1 + 1]? = some (.cells #[.int .i64 0] 3 (0, 0)) ∧ w6.heap[w.heap.size + 1 + 1 + 1]? = some (.cells #[.int .i64 0] 3 (0, 0)) ∧ w6.heap[rb]? = some (.cells #[.pointer (some ⟨g, 0, none⟩), .pointer (some ⟨g, hand * 7, none⟩)] 49 (0, 0)) ∧ KeepsOthers W w6 ∧ Below base w w6 by
                intro w6 hw6
                have Hw6 : ∀ k, k ≠ g → w6.heap[k]? = w4.heap[k]? := fun k hk => by rw [hw6, Below.heap_setCell _ _ _ _ (by simpa using hk)]
                refine ⟨?_, (Hw6 _ (by omega)).trans (kept Y0 hbq), (Hw6 _ (by omega)).trans (kept Y1 hbq), (Hw6 _ (by omega)).trans (kept Y2 hbq), (Hw6 _ (by omega)).trans (kept Y3 hbq), (Hw6 _ hne).trans (kept YR hbq), ?_, ?_⟩
                · have h := N5.out
                  have e : (⟨f.h, f.e, f.b, f.d, false⟩ : Fr) = f := by rw [← HU.out]
                  rw [e, set_same hat.out, ← hw6] at h
                  exact h
                · rw [hw6]; exact (keeps_below hbq).trans (KeepsOthers.setCell _ _ _)
                · rw [hw6]; exact u_set (B1.trans (hbq.mono (by have := B1.size; omega))) (by omega) _ _)
              clear Y0 Y1 Y2 Y3 YF YR N1 B1 hbq N5
              go_wp2_with (go_at_call 56; refine ST.out.mono ?_; rintro e w6 ⟨rfl, hw6⟩; obtain ⟨N6, v0, v1, v2, v3, vr, ko, bb⟩ := FF.out w6 hw6; clear hw6 ST FF; have V0 := hid v0; have V2 := hid v2; have V3 := hid v3; have VR := hid vr; have KO := hid ko; have BB := hid bb; clear v0 v2 v3 vr ko bb; have z0 := box_cell v1 0 (v := .int .i64 q.h) rfl; have z1 := box_cell v1 1 (v := .int .i64 q.e) rfl; have z2 := box_cell v1 2 (v := .int .i64 q.b) rfl; obtain ⟨d0, d1, d2, d3, d4, d5, d6⟩ := N6.cells x.val _ (ring_at g gs x.val f hat.out); dsimp only at d0 d1 d2 d3 d4; have hfz := N6.frozen; have HN6 := hid N6; clear N6 v1 d5 d6)
              gi_wp2
              obtain ⟨w7, hw7⟩ : ∃ w7, w7 = ((((w6.setCell ⟨g, x.val * 7, none⟩ (.int .i64 q.h)).setCell ⟨g, x.val * 7 + 1, none⟩ (.int .i64 q.e)).setCell ⟨g, x.val * 7 + 2, none⟩ (.int .i64 q.b)).setCell ⟨g, x.val * 7 + 3, none⟩ (.int .i64 1)).setCell ⟨g, x.val * 7 + 4, none⟩ (.bool true) := ⟨_, rfl⟩
              rw [← hw7]
              have N7 : NdsAt w7 base g (ring g (gs.set x.val (newF q))) := by rw [hw7]; exact HN6.out.storeF x.val hx8 (newF q)
              have Hw7 : ∀ k, k ≠ g → w7.heap[k]? = w6.heap[k]? := fun k hk => by rw [hw7, Below.heap_setCell _ _ _ _ (by simpa using hk), Below.heap_setCell _ _ _ _ (by simpa using hk), Below.heap_setCell _ _ _ _ (by simpa using hk), Below.heap_setCell _ _ _ _ (by simpa using hk), Below.heap_setCell _ _ _ _ (by simpa using hk)]
              have KO := hid (show KeepsOthers W w7 by rw [hw7]; exact ((((KO.out.trans (KeepsOthers.setCell _ _ _)).trans (KeepsOthers.setCell _ _ _)).trans (KeepsOthers.setCell _ _ _)).trans (KeepsOthers.setCell _ _ _)).trans (KeepsOthers.setCell _ _ _))
              have BB := hid (show Below base w w7 by rw [hw7]; exact below_set5 BB.out (by omega) (x.val * 7) (newF q))
              have V0 := (Hw7 _ (by omega)).trans V0.out
              have V2 := hid ((Hw7 _ (by omega)).trans V2.out)
              have V3 := hid ((Hw7 _ (by omega)).trans V3.out)
              have VR := hid ((Hw7 _ hne).trans VR.out)
              obtain ⟨-, -, -, -, -, e5, e6⟩ := N7.cells x.val _ (ring_at g _ x.val (newF q) (by rw [List.getElem?_set_self (by omega)]))
              dsimp only at e5 e6
              have a0 := cell_regrown (box_cell V0 0 (v := .pointer (some ⟨rb, 0, none⟩)) rfl)
              have a6 := cell_regrown e6
              have HN7 := hid N7
              have E5 := hid e5
              clear hw7 Hw7 HN6 hfz z0 z1 z2 d0 d1 d2 d3 d4 N7 e5 e6 V0
              refine inR_fore 7 (by kernel_rfl) (by kernel_rfl) (by kernel_rfl) (fun ⟨_, _, h⟩ => h) (fun _ _ d _ _ h => by cases d <;> exact h) ?_
              dsimp only [List.take_succ_cons, List.take_zero, List.drop_succ_cons, List.drop_zero]
              repeat (first
                | go_big_quiet_step (fail)
                | quiet_step (fail))
              refine wpQuiet_nil ?_
              intro w8 hw'
              have hb8 := of_class hw'
              have e5 := ((u_cell hb8).1 g (x.val * 7 + 5) HN7.out.lt.2).trans E5.out
              have N8 := hid (HN7.out.below hb8 HN7.out.lt.2)
              have V2 := hid (kept V2.out hb8)
              have V3 := hid (kept V3.out hb8)
              have VR := hid (kept VR.out hb8)
              have KO := hid (KO.out.trans (keeps_below hb8))
              have BB := hid (BB.out.trans (hb8.mono (by have := BB.out.size; omega)))
              have pR := box_cell VR.out 1 (v := .pointer (some ⟨g, hand * 7, none⟩)) rfl
              have zR := box_frozen VR.out 1
              have p2 := box_cell V2.out 0 (v := .int .i64 0) rfl
              have z2 := box_frozen V2.out 0
              have p3 := box_cell V3.out 0 (v := .int .i64 0) rfl
              have z3 := box_frozen V3.out 0
              have m1 : ¬ g = rb := fun h => hne h.symm
              have m2 : ¬ w.heap.size + 1 + 1 = rb := by omega
              have m3 : ¬ w.heap.size + 1 + 1 + 1 = rb := by omega
              clear hw' a0 a6 E5 HN7 hb8
              go_wp2
              gi_wp2
              refine ⟨(((KO.out.trans (KeepsOthers.setCell _ _ _)).trans (KeepsOthers.setCell _ _ _)).trans (KeepsOthers.setCell _ _ _)).from _, pre, x, gs, rfl, rfl, HS.out, by rw [← HF.out]; exact look_free HM.out HU.out, ?_, ?_, ?_, ?_, u_set (u_set (u_set BB.out (by omega) _ _) (by omega) _ _) (by omega) _ _⟩
              · exact set_other (set_block (set_other V2.out (by omega) _ _) 0 _) (by omega) _ _
              · exact set_block (set_other (set_other V3.out (by omega) _ _) (by omega) _ _) 0 _
              · exact set_other (set_other (set_block VR.out 1 _) (by omega) _ _) (by omega) _ _
              · have G2 : g ≠ w.heap.size + 1 + 1 := by omega
                have G3 : g ≠ w.heap.size + 1 + 1 + 1 := by omega
                exact u_owns N8.out (fun k hk => by cases hk; exact set_other (set_other (set_other rfl m1 _ _) G2 _ _) G3 _ _)
            · go_wp2_with (go_at_call 56; refine ST.out.mono ?_; rintro e w6 ⟨rfl, rfl⟩)
              gi_wp2
              refine ⟨((keeps_below hbq).trans (KeepsOthers.setCell _ _ _)).from _, fun _ => N5.out.leads, ?_, ?_, ?_, ?_, ?_, ?_, ⟨_, step_used HSN.out HM.out HU.out, N5.out⟩, u_set (B1.trans (hbq.mono (by have := B1.size; omega))) (by omega) _ _⟩
              · rw [Below.heap_setCell _ _ _ _ (by simp; omega)]; exact kept Y0 hbq
              · rw [Below.heap_setCell _ _ _ _ (by simp; omega)]; exact kept Y1 hbq
              · rw [Below.heap_setCell _ _ _ _ (by simp; omega)]; exact kept Y2 hbq
              · rw [Below.heap_setCell _ _ _ _ (by simp; omega)]; exact kept Y3 hbq
              · rw [Below.heap_setCell _ _ _ _ (by simp; omega)]; exact kept YF hbq
              · rw [Below.heap_setCell _ _ _ _ (by simp; omega)]; exact kept YR hbq
    case done =>
      rintro D ys W hD rfl ⟨Y0, Y1, Y2, Y3, YF, YR, ⟨gs, hs, N1⟩, B1⟩ hK
      have p2 := box_cell Y2 0 (v := .int .i64 0) rfl
      have z2 := box_frozen Y2 0
      have p3 := box_cell Y3 0 (v := .int .i64 0) rfl
      have z3 := box_frozen Y3 0
      have HSC := hid (show scan (decide (frOf fs q.h = 5)) q.h 17 hand fs = (gs, none) by rw [← HDE.out, scan_way, hs]; rfl)
      have X2 := hid (set_other (set_block Y2 0 (.int .i64 0)) (show w.heap.size + 1 + 1 ≠ w.heap.size + 1 + 1 + 1 by omega) 0 (.int .i64 2))
      have X3 := hid (set_block (set_other Y3 (show w.heap.size + 1 + 1 + 1 ≠ w.heap.size + 1 + 1 by omega) 0 (.int .i64 0)) 0 (.int .i64 2))
      have XR := hid (set_other (set_other YR (show rb ≠ w.heap.size + 1 + 1 by omega) 0 (.int .i64 0)) (show rb ≠ w.heap.size + 1 + 1 + 1 by omega) 0 (.int .i64 2))
      have G2 : g ≠ w.heap.size + 1 + 1 := by omega
      have G3 : g ≠ w.heap.size + 1 + 1 + 1 := by omega
      have XN := hid (u_owns (w' := (W.setCell ⟨w.heap.size + 1 + 1, 0, none⟩ (.int .i64 0)).setCell ⟨w.heap.size + 1 + 1 + 1, 0, none⟩ (.int .i64 2)) N1 (fun k hk => by cases hk; exact set_other (set_other rfl G2 _ _) G3 _ _))
      clear hs N1 YR
      gi_wp2
      have hK' := ((KeepsOthers.setCell W ⟨w.heap.size + 1 + 1, 0, none⟩ (.int .i64 0)).trans (KeepsOthers.setCell _ ⟨w.heap.size + 1 + 1 + 1, 0, none⟩ (.int .i64 2))).same D _ hK rfl
      refine ⟨by simp, .inl ⟨_, _, rfl, run_takeDeferred hK', ?_⟩⟩
      have hc5 := cell_kept (box_cell X2.out 0 (v := .int .i64 0) rfl) (grownBy_putObj' _ D (.deferred none)) (fun r e => by cases e; exact ⟨_, hK', rfl⟩)
      have hc6 := cell_kept (box_cell X3.out 0 (v := .int .i64 2) rfl) (grownBy_putObj' _ D (.deferred none)) (fun r e => by cases e; exact ⟨_, hK', rfl⟩)
      refine ⟨.tuple #[.int .i64 0, .int .i64 2], ?_, Or.inr ⟨gs, HSC.out, rfl, ?_, ?_⟩, ?_⟩
      · simp [results, Try.f51, go_sem, hc5, hc6]
      · exact own_row XN.out (grownBy_putObj' _ D (.deferred none)) (B := D) (fun r e => by cases e; exact ⟨Nat.le_refl _, _, hK', rfl⟩)
      · exact own_blk XR.out (grownBy_putObj' _ D (.deferred none)) (B := D) (fun r e => by cases e; exact ⟨Nat.le_refl _, _, hK', rfl⟩)
      · exact (u_set (u_set B1 (by omega) _ _) (by omega) _ _).trans (Below.mono (belowK_b (w := w) (Nat.le_refl _) _ D _ _ (by omega) hK' rfl rfl) (by omega))
    case stop =>
      rintro D c pre W hD hSp ⟨p, x, gs, rfl, rfl, hs, hlk, Y2, Y3, YR, N1, B1⟩ hK
      have HSC := hid (show scan (decide (frOf fs q.h = 5)) q.h 17 hand fs = (gs, some x.val) by
        obtain ⟨t, ht⟩ := hSp
        rw [← HDE.out, scan_way, ← ht, scanL_found full q.h x p t fs gs hs hlk]; rfl)
      clear hs hlk
      gi_wp2
      refine ⟨by simp, .inl ⟨_, _, rfl, run_takeDeferred hK, ?_⟩⟩
      have hc5 := cell_kept (box_cell Y2 0 (v := .int .i64 x.val) rfl) (grownBy_putObj' _ D (.deferred none)) (fun r e => by cases e; exact ⟨_, hK, rfl⟩)
      have hc6 := cell_kept (box_cell Y3 0 (v := .int .i64 1) rfl) (grownBy_putObj' _ D (.deferred none)) (fun r e => by cases e; exact ⟨_, hK, rfl⟩)
      refine ⟨.tuple #[.int .i64 x.val, .int .i64 1], ?_, Or.inl ⟨gs, x.val, HSC.out, x.isLt, rfl, ?_, ?_⟩, ?_⟩
      · simp [results, Try.f51, go_sem, hc5, hc6]
      · exact own_row N1 (grownBy_putObj' _ D (.deferred none)) (B := D) (fun r e => by cases e; exact ⟨Nat.le_refl _, _, hK, rfl⟩)
      · exact own_blk YR (grownBy_putObj' _ D (.deferred none)) (B := D) (fun r e => by cases e; exact ⟨Nat.le_refl _, _, hK, rfl⟩)
      · exact B1.trans (Below.mono (belowK_b (w := w) (Nat.le_refl _) _ D _ _ (by omega) hK rfl rfl) (by omega))
end Go.Proofs.Ytnfjplmpaeiagaa
