/- A frame taken of the ring by the program. -/
import Derived.Test.YtnfjplmpaeiagaaPtG
import Derived.Test.YtnfjplmpaeiagaaPlL
namespace Go.Proofs.Ytnfjplmpaeiagaa
open Go.ChangeShapes Go.WideShapes Go.ChangeAt Go.RowKit Go.Sort Go.Shelf
attribute [local go_sem] Oper.semAt_some

theorem NdsAt.heldBy {w : World} {base g : Nat} {fs : List Fr} (h : NdsAt w base g (ring g fs)) (k : Nat) (f : Fr) (hf : fs[k]? = some f) (d : Int) : NdsAt (w.setCell ⟨g, k * 7 + 3, none⟩ (.int .i64 d)) base g (ring g (fs.set k ⟨f.h, f.e, f.b, d, f.u⟩)) := by
  unfold NdsAt
  have e := ndCells_set3 (ring g fs) k ⟨f, (k : Int), some ⟨g, (k + 1) % 8 * 7, none⟩⟩ d (ring_at g fs k f hf)
  rw [← ring_set, ← e]
  exact (World.ownsRow.stored h _ _).1
theorem NdsAt.hold {w : World} {base g : Nat} {fs : List Fr} (h : NdsAt w base g (ring g fs)) (k : Nat) (f : Fr) (hf : fs[k]? = some f) (d : Int) : NdsAt ((w.setCell ⟨g, k * 7 + 3, none⟩ (.int .i64 d)).setCell ⟨g, k * 7 + 4, none⟩ (.bool true)) base g (ring g (fs.set k ⟨f.h, f.e, f.b, d, true⟩)) := by
  have hl : k < fs.length := (List.getElem?_eq_some_iff.1 hf).1
  have h1 := (h.heldBy k f hf d).unuse k ⟨f.h, f.e, f.b, d, f.u⟩ (by rw [List.getElem?_set_self hl]) true
  rw [List.set_set] at h1
  exact h1

/-- What is taken: the frames, the hand, the place, the code. -/
def takeR (hand : Nat) (fs : List Fr) (q : Fr) : List Fr × Nat × Nat × Int :=
  match fnd fs q.e q.b with
  | none => match scan (decide (frOf fs q.h = 5)) q.h 17 hand fs with
    | (gs, some v) => (gs.set v (newF q), (v + 1) % 8, v, 1)
    | (gs, none) => (gs, hand, 0, 2)
  | some k => if (fs.getD k Fr.no).h = q.h ∧ (fs.getD k Fr.no).d ≠ 99999 then (fs.set k ⟨(fs.getD k Fr.no).h, (fs.getD k Fr.no).e, (fs.getD k Fr.no).b, (fs.getD k Fr.no).d + 1, true⟩, hand, k, 0) else (fs, hand, 0, 3)

/-- What the program says of what is taken. -/
def TakeO (g base rb : Nat) (w : World) (r : List Fr × Nat × Nat × Int) (e : Ending) (w' : World) : Prop :=
  e = .returned (.tuple #[.int .i64 r.2.2.1, .int .i64 r.2.2.2]) ∧ NdsAt w' base g (ring g r.1) ∧ w'.heap[rb]? = some (.cells #[.pointer (some ⟨g, 0, none⟩), .pointer (some ⟨g, r.2.1 * 7, none⟩)] 49 (0, 0)) ∧ Below base w w'

theorem get_takes {g base rb hand : Nat} {fs : List Fr} {q : Fr} {w : World} (hf : fnd fs q.e q.b = none) (hN : NdsAt w base g (ring g fs)) (hrb : w.heap[rb]? = some (.cells #[.pointer (some ⟨g, 0, none⟩), .pointer (some ⟨g, hand * 7, none⟩)] 49 (0, 0))) (hh : hand < 8) (hb : base ≤ rb) (hne : rb ≠ g) :
    Calls Try.prog 51 #[.pointer (some ⟨rb, 0, none⟩), .agg #[.int .i64 q.h, .int .i64 q.e, .int .i64 q.b, .int .i64 q.d, .bool q.u]] w (TakeO g base rb w (takeR hand fs q)) := by
  refine (get_any g base rb hand fs q w hN hrb hh hb hne).mono ?_
  rintro e w' ⟨h | h, hB⟩
  · obtain ⟨gs, v, h1, -, h3, h4, h5⟩ := h
    have e1 : takeR hand fs q = (gs.set v (newF q), (v + 1) % 8, v, 1) := by unfold takeR; rw [hf]; simp only [h1]
    rw [e1]
    exact ⟨h3, h4, h5, hB⟩
  · obtain ⟨gs, h1, h3, h4, h5⟩ := h
    have e1 : takeR hand fs q = (gs, hand, 0, 2) := by unfold takeR; rw [hf]; simp only [h1]
    rw [e1]
    exact ⟨h3, h4, h5, hB⟩

set_option maxHeartbeats 4000000 in
theorem take_none (g base rb hand : Nat) (fs : List Fr) (q : Fr) (w : World) (hf : fnd fs q.e q.b = none) (hN : NdsAt w base g (ring g fs)) (hrb : w.heap[rb]? = some (.cells #[.pointer (some ⟨g, 0, none⟩), .pointer (some ⟨g, hand * 7, none⟩)] 49 (0, 0))) (hh : hand < 8) (hb : base ≤ rb) (hne : rb ≠ g) :
    Calls Try.prog 34 #[.pointer (some ⟨rb, 0, none⟩), .agg #[.int .i64 q.h, .int .i64 q.e, .int .i64 q.b, .int .i64 q.d, .bool q.u]] w (TakeO g base rb w (takeR hand fs q)) := by
  have hgw := hN.lt
  have hrw := lt_of_block hrb
  have HF := hid hf
  have HN := hid hN
  have HRB := hid hrb
  clear hN hrb hf
  go_enter Try.func34, Try.ntmps34
  go_wp2_with fail
  obtain ⟨W, hW⟩ : ∃ W, W = w.alloc (.cells #[.int .i64 q.h, .int .i64 q.e, .int .i64 q.b, .int .i64 q.d, .bool q.u] 45) := ⟨_, rfl⟩
  have X := laid w #[.int .i64 q.h, .int .i64 q.e, .int .i64 q.b, .int .i64 q.d, .bool q.u] 45
  have bW := u_b1 w (.cells #[.int .i64 q.h, .int .i64 q.e, .int .i64 q.b, .int .i64 q.d, .bool q.u] 45)
  rw [← hW] at X bW ⊢
  clear hW
  have HN := hid (HN.out.below bW hgw.2)
  have HRB := hid (kept HRB.out bW)
  have a0 := cell_regrown (box_cell HRB.out 0 (v := .pointer (some ⟨g, 0, none⟩)) rfl)
  have a1 := cell_regrown (box_cell HRB.out 1 (v := .pointer (some ⟨g, hand * 7, none⟩)) rfl)
  have r0 := cell_regrown (box_cell X 0 (v := .int .i64 q.h) rfl)
  have r1 := cell_regrown (box_cell X 1 (v := .int .i64 q.e) rfl)
  have r2 := cell_regrown (box_cell X 2 (v := .int .i64 q.b) rfl)
  have r3 := cell_regrown (box_cell X 3 (v := .int .i64 q.d) rfl)
  have r4 := cell_regrown (box_cell X 4 (v := .bool q.u) rfl)
  have k1 := rg (w := W) (fun w' hb => find_any g base (some ⟨g, hand * 7, none⟩) fs q w' (HN.out.below hb HN.out.lt.2))
  rw [HF.out] at k1
  simp only [Option.map_none] at k1
  have k1 := hid k1
  have X := hid X
  refine wp_fore 5 (by kernel_rfl) (by kernel_rfl) (fun _ _ d _ _ h => by cases d <;> exact h) ?_
  dsimp only [List.take_succ_cons, List.take_zero, List.drop_succ_cons, List.drop_zero]
  repeat (first
    | go_big_quiet_step ((go_at_call 50; exact k1.out _ _))
    | quiet_step ((go_at_call 50; exact k1.out _ _)))
  refine wpQuiet_nil ?_
  intro w4 hw'
  have hbq := of_class hw'
  have X := hid (kept X.out hbq)
  have q0 := box_cell X.out 0 (v := .int .i64 q.h) rfl
  have q1 := box_cell X.out 1 (v := .int .i64 q.e) rfl
  have q2 := box_cell X.out 2 (v := .int .i64 q.b) rfl
  have q3 := box_cell X.out 3 (v := .int .i64 q.d) rfl
  have q4 := box_cell X.out 4 (v := .bool q.u) rfl
  have G := hid (get_takes HF.out (HN.out.below hbq HN.out.lt.2) (kept HRB.out hbq) hh hb hne)
  have B4 := hid ((u_cat bW hbq).mono (show base ≤ w.heap.size by omega))
  clear hw' a0 a1 r0 r1 r2 r3 r4 k1 hbq bW
  go_wp2_with (go_at_call 51; refine G.out.mono ?_; rintro e w6 ⟨rfl, o1, o2, o3⟩; have O1 := hid o1; have O2 := hid o2; have O3 := hid o3; clear o1 o2 o3)
  refine bodyPost_ret (v := .tuple #[.int .i64 (takeR hand fs q).2.2.1, .int .i64 (takeR hand fs q).2.2.2]) ?_ rfl ⟨rfl, O1.out, O2.out, B4.out.trans O3.out⟩
  simp [results, Try.results34, go_sem]
set_option maxHeartbeats 4000000 in
theorem take_some (g base rb hand : Nat) (fs : List Fr) (q : Fr) (w : World) (k : Nat) (f : Fr) (hf : fnd fs q.e q.b = some k) (hk : fs[k]? = some f) (hfd : 0 ≤ f.d ∧ f.d ≤ 99999) (hN : NdsAt w base g (ring g fs)) (hrb : w.heap[rb]? = some (.cells #[.pointer (some ⟨g, 0, none⟩), .pointer (some ⟨g, hand * 7, none⟩)] 49 (0, 0))) (_hh : hand < 8) (hb : base ≤ rb) (hne : rb ≠ g) :
    Calls Try.prog 34 #[.pointer (some ⟨rb, 0, none⟩), .agg #[.int .i64 q.h, .int .i64 q.e, .int .i64 q.b, .int .i64 q.d, .bool q.u]] w (TakeO g base rb w (takeR hand fs q)) := by
  have hgw := hN.lt
  have hrw := lt_of_block hrb
  have h8 : fs.length = 8 := by have := hN.len; rwa [ring_len] at this
  have HF := hid hf
  have HK := hid hk
  have HN := hid hN
  have HRB := hid hrb
  clear hN hrb hf hk
  go_enter Try.func34, Try.ntmps34
  go_wp2_with fail
  obtain ⟨W, hW⟩ : ∃ W, W = w.alloc (.cells #[.int .i64 q.h, .int .i64 q.e, .int .i64 q.b, .int .i64 q.d, .bool q.u] 45) := ⟨_, rfl⟩
  have X := laid w #[.int .i64 q.h, .int .i64 q.e, .int .i64 q.b, .int .i64 q.d, .bool q.u] 45
  have bW := u_b1 w (.cells #[.int .i64 q.h, .int .i64 q.e, .int .i64 q.b, .int .i64 q.d, .bool q.u] 45)
  rw [← hW] at X bW ⊢
  clear hW
  have HN := hid (HN.out.below bW hgw.2)
  have HRB := hid (kept HRB.out bW)
  have a0 := cell_regrown (box_cell HRB.out 0 (v := .pointer (some ⟨g, 0, none⟩)) rfl)
  have a1 := cell_regrown (box_cell HRB.out 1 (v := .pointer (some ⟨g, hand * 7, none⟩)) rfl)
  have r0 := cell_regrown (box_cell X 0 (v := .int .i64 q.h) rfl)
  have r1 := cell_regrown (box_cell X 1 (v := .int .i64 q.e) rfl)
  have r2 := cell_regrown (box_cell X 2 (v := .int .i64 q.b) rfl)
  have r3 := cell_regrown (box_cell X 3 (v := .int .i64 q.d) rfl)
  have r4 := cell_regrown (box_cell X 4 (v := .bool q.u) rfl)
  have k1 := rg (w := W) (fun w' hb => find_any g base (some ⟨g, hand * 7, none⟩) fs q w' (HN.out.below hb HN.out.lt.2))
  rw [HF.out] at k1
  simp only [Option.map_some] at k1
  have k1 := hid k1
  have X := hid X
  refine wp_fore 5 (by kernel_rfl) (by kernel_rfl) (fun _ _ d _ _ h => by cases d <;> exact h) ?_
  dsimp only [List.take_succ_cons, List.take_zero, List.drop_succ_cons, List.drop_zero]
  repeat (first
    | go_big_quiet_step ((go_at_call 50; exact k1.out _ _))
    | quiet_step ((go_at_call 50; exact k1.out _ _)))
  refine wpQuiet_nil ?_
  intro w4 hw'
  have hbq := of_class hw'
  have X := hid (kept X.out hbq)
  have N4 := hid (HN.out.below hbq HN.out.lt.2)
  have R4 := hid (kept HRB.out hbq)
  have B4 := hid ((u_cat bW hbq).mono (show base ≤ w.heap.size by omega))
  have HD := hid (show fs.getD k Fr.no = f by simp [List.getD, HK.out])
  have hk8 : k < 8 := by have := (List.getElem?_eq_some_iff.1 HK.out).1; omega
  clear hw' a0 a1 r0 r1 r2 r3 r4 k1 hbq bW
  go_wp2_with fail
  obtain ⟨c0, -, -, c3, -, -, -⟩ := N4.out.cells k _ (ring_at g fs k f HK.out)
  dsimp only at c0 c3
  have s0 := cell_regrown c0
  have s3 := cell_regrown c3
  have q0 := cell_regrown (box_cell X.out 0 (v := .int .i64 q.h) rfl)
  clear c0 c3
  refine wp_fore 16 (by kernel_rfl) (by kernel_rfl) (fun _ _ d _ _ h => by cases d <;> exact h) ?_
  dsimp only [List.take_succ_cons, List.take_zero, List.drop_succ_cons, List.drop_zero]
  by_cases h1 : f.h = q.h
  · have t1 : (f.h == q.h) = true := by simpa using h1
    have t2 : (f.h != q.h) = false := by simp [bne, t1]
    have H1 := hid h1
    clear h1
    by_cases h2 : f.d = 99999
    · have t3 : (f.d == 99999) = true := by simpa using h2
      have H2 := hid h2
      clear h2
      repeat (first
        | go_big_quiet_step (fail)
        | quiet_step (fail))
      refine wpQuiet_nil ?_
      intro w5 hw'
      have hb5 := of_class hw'
      have e1 := hid (show takeR hand fs q = (fs, hand, 0, 3) by unfold takeR; rw [HF.out]; simp only [HD.out]; rw [if_neg (by rw [H2.out]; simp)])
      have N5 := hid (N4.out.below hb5 N4.out.lt.2)
      have R5 := hid (kept R4.out hb5)
      have B5 := hid (B4.out.trans (hb5.mono (by have := B4.out.size; omega)))
      clear hw' hb5 s0 s3 q0
      go_wp2
      refine bodyPost_ret (v := .tuple #[.int .i64 0, .int .i64 3]) ?_ rfl ?_
      · simp [results, Try.results34, go_sem]
      · rw [e1.out]
        exact ⟨rfl, N5.out, R5.out, B5.out⟩
    · have t3 : (f.d == 99999) = false := by simpa using h2
      have H2 := hid h2
      clear h2
      repeat (first
        | go_big_quiet_step (fail)
        | quiet_step (fail))
      refine wpQuiet_nil ?_
      intro w5 hw'
      have hb5 := of_class hw'
      have e1 := hid (show takeR hand fs q = (fs.set k ⟨f.h, f.e, f.b, f.d + 1, true⟩, hand, k, 0) by unfold takeR; rw [HF.out]; simp only [HD.out]; rw [if_pos ⟨H1.out, H2.out⟩])
      have N5 := hid (N4.out.below hb5 N4.out.lt.2)
      have R5 := hid (kept R4.out hb5)
      have B5 := hid (B4.out.trans (hb5.mono (by have := B4.out.size; omega)))
      obtain ⟨-, -, -, c3, c4, c5, -⟩ := N5.out.cells k _ (ring_at g fs k f HK.out)
      dsimp only at c3 c4 c5
      have hz := N5.out.frozen
      clear hw' hb5 s0 s3 q0
      go_wp2
      refine bodyPost_ret (v := .tuple #[.int .i64 k, .int .i64 0]) ?_ rfl ?_
      · simp [results, Try.results34, go_sem]
      · rw [e1.out]
        exact ⟨rfl, N5.out.hold k f HK.out _, set_other (set_other R5.out hne _ _) hne _ _, u_set (u_set B5.out hgw.1 _ _) hgw.1 _ _⟩
  · have t1 : (f.h == q.h) = false := by simpa using h1
    have t2 : (f.h != q.h) = true := by simp [bne, t1]
    have H1 := hid h1
    clear h1
    repeat (first
      | go_big_quiet_step (fail)
      | quiet_step (fail))
    refine wpQuiet_nil ?_
    intro w5 hw'
    have hb5 := of_class hw'
    have e1 := hid (show takeR hand fs q = (fs, hand, 0, 3) by unfold takeR; rw [HF.out]; simp only [HD.out]; rw [if_neg (by exact fun h => H1.out h.1)])
    have N5 := hid (N4.out.below hb5 N4.out.lt.2)
    have R5 := hid (kept R4.out hb5)
    have B5 := hid (B4.out.trans (hb5.mono (by have := B4.out.size; omega)))
    clear hw' hb5 s0 s3 q0
    go_wp2
    refine bodyPost_ret (v := .tuple #[.int .i64 0, .int .i64 3]) ?_ rfl ?_
    · simp [results, Try.results34, go_sem]
    · rw [e1.out]
      exact ⟨rfl, N5.out, R5.out, B5.out⟩

theorem take_any (g base rb hand : Nat) (fs : List Fr) (q : Fr) (w : World) (hp : ∀ f ∈ fs, 0 ≤ f.d ∧ f.d ≤ 99999) (hN : NdsAt w base g (ring g fs)) (hrb : w.heap[rb]? = some (.cells #[.pointer (some ⟨g, 0, none⟩), .pointer (some ⟨g, hand * 7, none⟩)] 49 (0, 0))) (hh : hand < 8) (hb : base ≤ rb) (hne : rb ≠ g) :
    Calls Try.prog 34 #[.pointer (some ⟨rb, 0, none⟩), .agg #[.int .i64 q.h, .int .i64 q.e, .int .i64 q.b, .int .i64 q.d, .bool q.u]] w (TakeO g base rb w (takeR hand fs q)) := by
  cases hf : fnd fs q.e q.b with
  | none => exact take_none g base rb hand fs q w hf hN hrb hh hb hne
  | some k =>
    have hk : k < fs.length := (List.findIdx?_eq_some_iff_getElem.1 hf).1
    exact take_some g base rb hand fs q w k fs[k] hf (List.getElem?_eq_getElem hk) (hp _ (List.getElem_mem hk)) hN hrb hh hb hne
end Go.Proofs.Ytnfjplmpaeiagaa
