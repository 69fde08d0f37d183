/- A bucket, a tick and a number, drawn. -/
import Derived.Test.YtgdmhodipjfkoaaDrawBt
import Derived.Test.YtgdmhodipjfkoaaFrw
namespace Go.Proofs.Ytgdmhodipjfkoaa
open Go.ChangeShapes Go.WideShapes Go.ChangeAt Go.RowKit Go.Sort

/-- All is kept but two blocks. -/
structure Kpt (g T : Nat) (w w' : World) : Prop where
  size : w.heap.size ≤ w'.heap.size
  block : ∀ k, k < w.heap.size → k ≠ g → k ≠ T → w'.heap[k]? = w.heap[k]?
structure KW (g T : Nat) (w : World) where
  to : World
  kp : Kpt g T w to
def KWc (g T : Nat) (w w' : World) : Prop := ∃ q : KW g T w, w' = q.to
theorem kw_of {g T : Nat} {w w' : World} (h : Kpt g T w w') : ∃ q : KW g T w, w' = q.to := ⟨⟨w', h⟩, rfl⟩
theorem kw_refl {g T : Nat} (w : World) : ∃ q : KW g T w, w = q.to := kw_of ⟨Nat.le_refl _, fun _ _ _ _ => rfl⟩
theorem kw_ne {g T : Nat} (w : World) : Nonempty (KW g T w) := ⟨⟨w, Nat.le_refl _, fun _ _ _ _ => rfl⟩⟩
theorem kw_trans {g T : Nat} (u v w : World) (h : ∃ q : KW g T u, v = q.to) (k : ∃ q : KW g T v, w = q.to) : ∃ q : KW g T u, w = q.to := by
  obtain ⟨⟨v, h⟩, rfl⟩ := h
  obtain ⟨⟨w, k⟩, rfl⟩ := k
  exact kw_of ⟨Nat.le_trans h.size k.size, fun i hi h1 h2 => (k.block i (Nat.lt_of_lt_of_le hi h.size) h1 h2).trans (h.block i hi h1 h2)⟩

structure Lt (W : World) (g T A : Nat) (cs : Array Value) (t : TypeId) : Prop where
  at' : W.heap[A]? = some (.cells cs t (0, 0))
  ng : A ≠ g
  nt : A ≠ T
theorem Lt.kept {W W' : World} {g T A : Nat} {cs : Array Value} {t : TypeId} (h : Lt W g T A cs t) (k : Kpt g T W W') : Lt W' g T A cs t :=
  ⟨(k.block A (lt_of_block h.at') h.ng h.nt).trans h.at', h.ng, h.nt⟩
theorem kw_cell {W : World} {g T A : Nat} {cs : Array Value} {t : TypeId} (h : Lt W g T A cs t) (i : Nat) {v : Value} (hi : cs[i]? = some v) (q : KW g T W) : q.to.cell? ⟨A, i, none⟩ = some v :=
  box_cell (h.kept q.kp).at' i hi

def put4 (W : World) (T : Nat) (lv mo ra at' : Int) : World := (((W.setCell ⟨T, 0, none⟩ (.int .i64 lv)).setCell ⟨T, 1, none⟩ (.int .i64 mo)).setCell ⟨T, 2, none⟩ (.int .i64 ra)).setCell ⟨T, 3, none⟩ (.int .i64 at')

/-- The draw goes on: the result's block. -/
structure Dt (w W : World) (a b c d : Int) : Prop where
  gl : w.heap.size + 1 < W.heap.size
  bl : Below w.heap.size w W
  res : W.heap[w.heap.size]? = some (.cells #[.int .i64 a, .int .i64 b, .int .i64 c, .int .i64 d] 24 (0, 0))
theorem Dt.touch {w W W' : World} {a b c d : Int} (h : Dt w W a b c d) (ht : Touch (w.heap.size + 1) W W') : Dt w W' a b c d :=
  ⟨by rw [ht.size]; exact h.gl, h.bl.trans (ht.below (by omega)), by rw [ht.block _ (by omega)]; exact h.res⟩
theorem Dt.lit {w W : World} {a b c d : Int} (h : Dt w W a b c d) (o : Obj) : Dt w (W.alloc o) a b c d :=
  have hb : Below W.heap.size W (W.alloc o) := (Below.refl _ _).alloc (Nat.le_refl _) _
  ⟨Nat.lt_of_lt_of_le h.gl hb.size, h.bl.trans (hb.mono h.bl.size), kept h.res hb⟩
theorem Dt.put {w W : World} {a b c d : Int} (h : Dt w W a b c d) (lv mo ra at' : Int) : Dt w (put4 W w.heap.size lv mo ra at') lv mo ra at' := by
  have Z := set_block (set_block (set_block (set_block h.res 0 (.int .i64 lv)) 1 (.int .i64 mo)) 2 (.int .i64 ra)) 3 (.int .i64 at')
  exact ⟨by simpa [put4, World.setCell] using h.gl, (((h.bl.setCell (p := ⟨w.heap.size, 0, none⟩) (Nat.le_refl _) _).setCell (p := ⟨w.heap.size, 1, none⟩) (Nat.le_refl _) _).setCell (p := ⟨w.heap.size, 2, none⟩) (Nat.le_refl _) _).setCell (p := ⟨w.heap.size, 3, none⟩) (Nat.le_refl _) _, Z⟩
theorem Dt.of {w W : World} {q : Nat} (h : BtSt w W (w.heap.size + 1) q) : Dt w W 0 0 0 0 := ⟨h.rd.lt, h.bl, h.res⟩
theorem Dt.ktouch {w W W' : World} {a b c d : Int} (_h : Dt w W a b c d) (ht : Touch (w.heap.size + 1) W W') : Kpt (w.heap.size + 1) w.heap.size W W' :=
  ⟨Nat.le_of_eq ht.size.symm, fun k _ hk _ => ht.block k hk⟩
theorem rdLit {W : World} {g q : Nat} (h : Rd W g q) (o : Obj) : Rd (W.alloc o) g q := h.kept ((Below.refl _ _).alloc (Nat.le_refl _) _)
theorem Dt.klit {w W : World} {a b c d : Int} (_h : Dt w W a b c d) (o : Obj) : Kpt (w.heap.size + 1) w.heap.size W (W.alloc o) :=
  have hb : Below W.heap.size W (W.alloc o) := (Below.refl _ _).alloc (Nat.le_refl _) _
  ⟨hb.size, fun k hk _ _ => hb.block k hk⟩
theorem Dt.kput {w W : World} {a b c d : Int} (_h : Dt w W a b c d) (lv mo ra at' : Int) : Kpt (w.heap.size + 1) w.heap.size W (put4 W w.heap.size lv mo ra at') :=
  ⟨by simp [put4, World.setCell], fun k _ _ hk => by
    unfold put4
    rw [set_other rfl hk, set_other rfl hk, set_other rfl hk, set_other rfl hk]⟩
theorem Dt.litAt {w W : World} {a b c d : Int} (h : Dt w W a b c d) (cs : Array Value) : Lt (W.alloc (.cells cs 3)) (w.heap.size + 1) w.heap.size W.heap.size cs 3 :=
  ⟨laid W _ _, by have := h.gl; omega, by have := lt_of_block h.res; omega⟩
theorem dt_cells {w W : World} {a b c d : Int} (h : Dt w W a b c d) : W.cell? ⟨w.heap.size, 0, none⟩ = some (.int .i64 a) ∧ W.cell? ⟨w.heap.size, 1, none⟩ = some (.int .i64 b) ∧ W.cell? ⟨w.heap.size, 2, none⟩ = some (.int .i64 c) ∧ W.cell? ⟨w.heap.size, 3, none⟩ = some (.int .i64 d) :=
  ⟨box_cell h.res 0 rfl, box_cell h.res 1 rfl, box_cell h.res 2 rfl, box_cell h.res 3 rfl⟩
theorem dt_store {w W : World} {a b c d : Int} (h : Dt w W a b c d) : W.frozen? ⟨w.heap.size, 0, none⟩ = false ∧ W.frozen? ⟨w.heap.size, 1, none⟩ = false ∧ W.frozen? ⟨w.heap.size, 2, none⟩ = false ∧ W.frozen? ⟨w.heap.size, 3, none⟩ = false ∧
    W.cell? ⟨w.heap.size, 0, none⟩ = some (.int .i64 a) ∧ W.cell? ⟨w.heap.size, 1, none⟩ = some (.int .i64 b) ∧ W.cell? ⟨w.heap.size, 2, none⟩ = some (.int .i64 c) ∧ W.cell? ⟨w.heap.size, 3, none⟩ = some (.int .i64 d) ∧ w.heap.size < W.heap.size :=
  ⟨box_frozen h.res 0, box_frozen h.res 1, box_frozen h.res 2, box_frozen h.res 3, box_cell h.res 0 rfl, box_cell h.res 1 rfl, box_cell h.res 2 rfl, box_cell h.res 3 rfl, lt_of_block h.res⟩
theorem numsB3 (a b : Int) (k : Nat) (ha : -1 ≤ a ∧ a ≤ 200000 ∧ -1 ≤ b ∧ b ≤ 200000) (hk : k < 3) : ∃ X : Int, (#[.int .i64 a, .int .i64 b, .int .i64 (-1)] : Array Value)[k]? = some (.int .i64 X) ∧ -1 ≤ X ∧ X ≤ 200000 := by
  have : k = 0 ∨ k = 1 ∨ k = 2 := by omega
  rcases this with rfl | rfl | rfl
  · exact ⟨a, rfl, by omega, by omega⟩
  · exact ⟨b, rfl, by omega, by omega⟩
  · exact ⟨-1, rfl, by omega, by omega⟩

/-- What is drawn: a bucket, a small tick, a small number. -/
def DtOut (w : World) (e : Ending) (w' : World) : Prop :=
  ∃ lv mo ra at' now n : Int, e = .returned (.tuple #[.agg #[.int .i64 lv, .int .i64 mo, .int .i64 ra, .int .i64 at'], .int .i64 now, .int .i64 n]) ∧ -1 ≤ now ∧ now ≤ 200000 ∧ -1 ≤ n ∧ n ≤ 200000 ∧ Below w.heap.size w w'
theorem DtOut.mk {w W : World} {lv mo ra at' X Y : Int} (h : Dt w W lv mo ra at') (h1 : -1 ≤ X) (h2 : X ≤ 200000) (h3 : -1 ≤ Y) (h4 : Y ≤ 200000) :
    DtOut w (.returned (.tuple #[.agg #[.int .i64 lv, .int .i64 mo, .int .i64 ra, .int .i64 at'], .int .i64 X, .int .i64 Y])) W := ⟨lv, mo, ra, at', X, Y, rfl, h1, h2, h3, h4, h.bl⟩

set_option maxHeartbeats 4000000 in
theorem drawBucketTake (a : Option Addr) (len cap : Nat) (zs : List Int) (w : World) (h : Bytes w a len cap zs) :
    Calls Try.prog 5 #[.slice a len cap] w fun e w' => DtOut w e w' := by
  go_enter Try.func5, Try.ntmps5
  repeat ((fail_if_success (with_reducible show Code.wp _ (Code.region 1 _ _) _ _ _)); (first | go_values | go_skip | go_guarded | go_step | go_upon | go_back | go_simp))
  go_wp2_with (go_at_call 14; refine (l1Open_any a len cap zs _ (by exact bytes_below h ((Below.refl _ _).alloc (Nat.le_refl _) _))).mono ?_; rintro e w1 ⟨rfl, hr1, hb1⟩)
  have S1 := hid (BtSt.start rfl hr1 hb1)
  clear h hr1 hb1
  go_wp2_with fail
  refine (l15Bucket_any (w.heap.size + 1) 0 _ S1.out.rd (by omega)).mono ?_
  rintro e w2 ⟨lv, mo, ra, at', q, rfl, hq, ha1, ha2, hr2, hg2⟩
  have S2 := hid (S1.out.grown hg2 hr2)
  clear hr2 hg2 S1
  repeat ((fail_if_success (with_reducible show Code.wp _ (Code.region 3 _ _) _ _ _)); (first | go_values | go_skip | go_guarded | go_step | go_upon | go_back | go_simp))
  obtain ⟨W, hW⟩ : ∃ W, W = w2.alloc (.cells #[.int .i64 lv, .int .i64 mo, .int .i64 ra, .int .i64 at'] 24) := ⟨_, rfl⟩
  obtain ⟨P, hP⟩ : ∃ P, P = w2.heap.size := ⟨_, rfl⟩
  have S3 := hid (S2.out.lit (.cells #[.int .i64 lv, .int .i64 mo, .int .i64 ra, .int .i64 at'] 24))
  have hXB := laid w2 #[.int .i64 lv, .int .i64 mo, .int .i64 ra, .int .i64 at'] 24
  have hp1 : w.heap.size + 1 < P := by rw [hP]; exact S2.out.rd.lt
  rw [← hW] at S3 hXB ⊢
  rw [← hP] at hXB ⊢
  clear hW hP S2
  refine wp_plar (fun u v => ∃ q : KW (w.heap.size + 1) w.heap.size u, v = q.to) kw_refl kw_trans (.pull [(0, 1), (1, 1), (2, 1), (3, 1), (6, 1), (9, 1), (15, 1), (18, 1)] (.step 4 (.pull [(5, 1)] (.step 7 (.fork 8 (.step 10 (.pull [(11, 1), (12, 1), (13, 1), (14, 1)] (.step 16 (.fork 17 (.step 19 (.pull [(20, 1), (21, 1), (22, 1), (23, 1)] (.step 24 (.pull [(25, 1), (26, 1)] .done)))) (.step 19 (.pull [(20, 1), (21, 1)] (.fork 17 (.pull [(22, 1), (23, 1)] (.step 24 (.pull [(25, 1), (26, 1)] .done))) (.step 24 (.pull [(25, 1)] (.step 17 (.pull [(22, 1), (23, 1), (26, 1)] .done))))))))))) (.step 10 (.pull [(11, 1), (12, 1)] (.fork 8 (.pull [(13, 1), (14, 1)] (.step 16 (.fork 17 (.step 19 (.pull [(20, 1), (21, 1), (22, 1), (23, 1)] (.step 24 (.pull [(25, 1), (26, 1)] .done)))) (.step 19 (.pull [(20, 1), (21, 1)] (.fork 17 (.pull [(22, 1), (23, 1)] (.step 24 (.pull [(25, 1), (26, 1)] .done))) (.step 24 (.pull [(25, 1)] (.step 17 (.pull [(22, 1), (23, 1), (26, 1)] .done)))))))))) (.step 16 (.fork 8 (.pull [(13, 1), (14, 1)] (.fork 17 (.step 19 (.pull [(20, 1), (21, 1), (22, 1), (23, 1)] (.step 24 (.pull [(25, 1), (26, 1)] .done)))) (.step 19 (.pull [(20, 1), (21, 1)] (.fork 17 (.pull [(22, 1), (23, 1)] (.step 24 (.pull [(25, 1), (26, 1)] .done))) (.step 24 (.pull [(25, 1)] (.step 17 (.pull [(22, 1), (23, 1), (26, 1)] .done))))))))) (.fork 17 (.fork 8 (.pull [(13, 1), (14, 1)] (.step 19 (.pull [(20, 1), (21, 1), (22, 1), (23, 1)] (.step 24 (.pull [(25, 1), (26, 1)] .done))))) (.step 19 (.pull [(20, 1), (21, 1), (22, 1), (23, 1)] (.fork 8 (.pull [(13, 1), (14, 1)] (.step 24 (.pull [(25, 1), (26, 1)] .done))) (.step 24 (.step 8 (.pull [(13, 1), (14, 1), (25, 1), (26, 1)] .done))))))) (.step 19 (.pull [(20, 1), (21, 1)] (.fork 8 (.pull [(13, 1), (14, 1)] (.fork 17 (.pull [(22, 1), (23, 1)] (.step 24 (.pull [(25, 1), (26, 1)] .done))) (.step 24 (.pull [(25, 1)] (.step 17 (.pull [(22, 1), (23, 1), (26, 1)] .done)))))) (.fork 17 (.pull [(22, 1), (23, 1)] (.fork 8 (.pull [(13, 1), (14, 1)] (.step 24 (.pull [(25, 1), (26, 1)] .done))) (.step 24 (.step 8 (.pull [(13, 1), (14, 1), (25, 1), (26, 1)] .done))))) (.step 24 (.fork 8 (.pull [(13, 1), (14, 1), (25, 1)] (.step 17 (.pull [(22, 1), (23, 1), (26, 1)] .done))) (.step 17 (.pull [(22, 1), (23, 1)] (.step 8 (.pull [(13, 1), (14, 1), (25, 1), (26, 1)] .done))))))))))))))))))))) (by kernel_rfl) (by kernel_rfl) ?_
  intro V0 hw0
  have hb0 := of_class hw0
  have hb0' : Below W.heap.size W V0 := hb0
  have S0 := hid (Dt.of (S3.out.below hb0))
  have R0 := hid (S3.out.rd.kept hb0)
  have LB := hid (Lt.mk (g := w.heap.size + 1) (T := w.heap.size) (kept hXB hb0) (by omega) (by omega))
  clear hw0 hb0 S3 hXB hp1
  have b0 := kw_cell LB.out 0 (v := .int .i64 lv) rfl
  have b1 := kw_cell LB.out 1 (v := .int .i64 mo) rfl
  have b2 := kw_cell LB.out 2 (v := .int .i64 ra) rfl
  have b3 := kw_cell LB.out 3 (v := .int .i64 at') rfl
  clear LB
  have hne : Nonempty (KW (w.heap.size + 1) w.heap.size V0) := kw_ne _
  refine plr_pull ?_
  simp only [cutOut, List.take_succ_cons, List.take_zero, List.drop_succ_cons, List.drop_zero, List.nil_append, List.cons_append, List.append_nil]
  repeat (first | go_big_quiet_step (fail) | quiet_step (fail))
  try refine wpQuiet_nil ?_
  clear hne
  clear b0 b1 b2 b3
  refine plr_step rfl (fun K hK => ?_)
  go_simp
  with_reducible refine (pick_any (w.heap.size + 1) (q + 0) 9 _ R0.out (by omega) (by omega) (by omega)).mono ?_
  rintro _ V1 ⟨r4, rfl, r4a, r4b, hr, ht⟩
  have kp := S0.out.ktouch ht
  refine hK _ _ (kw_of kp) ?_
  clear hK K
  have S1 := hid (S0.out.touch ht)
  have R1 := hid hr
  clear kp ht hr S0 R0 
  have hs1 := wrap_small (at' + r4) (by omega) (by omega)
  have hne : Nonempty (KW (w.heap.size + 1) w.heap.size V1) := kw_ne _
  refine plr_pull ?_
  simp only [cutOut, List.take_succ_cons, List.take_zero, List.drop_succ_cons, List.drop_zero, List.append_nil]
  repeat (first | go_big_quiet_step (fail) | quiet_step (fail))
  try refine wpQuiet_nil ?_
  clear hne
  refine plr_step rfl (fun K hK => ?_)
  go_simp
  with_reducible refine (pick_any (w.heap.size + 1) (q + 1) 80 _ R1.out (by omega) (by omega) (by omega)).mono ?_
  rintro _ V2 ⟨r7, rfl, r7a, r7b, hr, ht⟩
  have kp := S1.out.ktouch ht
  refine hK _ _ (kw_of kp) ?_
  clear hK K
  have S2 := hid (S1.out.touch ht)
  have R2 := hid hr
  clear kp ht hr S1 R1 
  refine plr_fork ?_ ?_
  · refine plr_step rfl (fun K hK => ?_)
    go_simp
    have kp := S2.out.klit (.cells #[.int .i64 (at' + r4), .int .i64 r7, .int .i64 (-1)] 3)
    refine hK _ _ (kw_of kp) ?_
    clear hK K
    have S3 := hid (S2.out.lit (.cells #[.int .i64 (at' + r4), .int .i64 r7, .int .i64 (-1)] 3))
    have R3 := hid (rdLit R2.out (.cells #[.int .i64 (at' + r4), .int .i64 r7, .int .i64 (-1)] 3))
    have F3_8 := hid (S2.out.litAt #[.int .i64 (at' + r4), .int .i64 r7, .int .i64 (-1)])
    obtain ⟨V3, hV3⟩ : ∃ V, V = V2.alloc (.cells #[.int .i64 (at' + r4), .int .i64 r7, .int .i64 (-1)] 3) := ⟨_, rfl⟩
    obtain ⟨A8, hA8⟩ : ∃ A, A = V2.heap.size := ⟨_, rfl⟩
    rw [← hV3] at S3 F3_8 R3
    rw [← hA8] at F3_8
    rw [← hV3, ← hA8]
    clear kp S2 R2  hV3 hA8
    refine plr_step rfl (fun K hK => ?_)
    go_simp
    with_reducible refine (pick_any (w.heap.size + 1) (q + 2) 12 _ R3.out (by omega) (by omega) (by omega)).mono ?_
    rintro _ V4 ⟨r10, rfl, r10a, r10b, hr, ht⟩
    have kp := S3.out.ktouch ht
    refine hK _ _ (kw_of kp) ?_
    clear hK K
    have S4 := hid (S3.out.touch ht)
    have R4 := hid hr
    have F4_8 := hid (F3_8.out.kept kp)
    clear kp ht hr S3 R3 F3_8
    have hq1 : 0 ≤ r10 * 3 / 12 := by omega
    have hq2 : r10 * 3 / 12 < 3 := by omega
    have hm1 := wrap_small (r10 * 3) (by omega) (by omega)
    have hm2 := tdiv_small (r10 * 3) 12 (by omega)
    have hm3 := wrap_small (r10 * 3 / 12) (by omega) (by omega)
    obtain ⟨X, hX0, X1, X2⟩ := numsB3 (at' + r4) r7 (r10 * 3 / 12).toNat (by omega) (by omega)
    have hX := kw_cell F4_8.out _ hX0
    clear hX0
    have hne : Nonempty (KW (w.heap.size + 1) w.heap.size V4) := kw_ne _
    refine plr_pull ?_
    simp only [cutOut, List.take_succ_cons, List.take_zero, List.drop_succ_cons, List.drop_zero, List.nil_append, List.cons_append, List.append_nil]
    repeat (first | go_big_quiet_step (fail) | quiet_step (fail))
    try refine wpQuiet_nil ?_
    clear hne
    clear hX
    refine plr_step rfl (fun K hK => ?_)
    go_simp
    with_reducible refine (pick_any (w.heap.size + 1) (q + 3) 60 _ R4.out (by omega) (by omega) (by omega)).mono ?_
    rintro _ V5 ⟨r16, rfl, r16a, r16b, hr, ht⟩
    have kp := S4.out.ktouch ht
    refine hK _ _ (kw_of kp) ?_
    clear hK K
    have S5 := hid (S4.out.touch ht)
    have R5 := hid hr
    have F5_8 := hid (F4_8.out.kept kp)
    clear kp ht hr S4 R4 F4_8
    refine plr_fork ?_ ?_
    · refine plr_step rfl (fun K hK => ?_)
      go_simp
      have kp := S5.out.klit (.cells #[.int .i64 r16, .int .i64 0, .int .i64 (-1)] 3)
      refine hK _ _ (kw_of kp) ?_
      clear hK K
      have S6 := hid (S5.out.lit (.cells #[.int .i64 r16, .int .i64 0, .int .i64 (-1)] 3))
      have R6 := hid (rdLit R5.out (.cells #[.int .i64 r16, .int .i64 0, .int .i64 (-1)] 3))
      have F6_17 := hid (S5.out.litAt #[.int .i64 r16, .int .i64 0, .int .i64 (-1)])
      have F6_8 := hid (F5_8.out.kept kp)
      obtain ⟨V6, hV6⟩ : ∃ V, V = V5.alloc (.cells #[.int .i64 r16, .int .i64 0, .int .i64 (-1)] 3) := ⟨_, rfl⟩
      obtain ⟨A17, hA17⟩ : ∃ A, A = V5.heap.size := ⟨_, rfl⟩
      rw [← hV6] at S6 F6_17 F6_8 R6
      rw [← hA17] at F6_17
      rw [← hV6, ← hA17]
      clear kp S5 R5 F5_8 hV6 hA17
      refine plr_step rfl (fun K hK => ?_)
      go_simp
      with_reducible refine (pick_any (w.heap.size + 1) (q + 4) 10 _ R6.out (by omega) (by omega) (by omega)).mono ?_
      rintro _ V7 ⟨r19, rfl, r19a, r19b, hr, ht⟩
      have kp := S6.out.ktouch ht
      refine hK _ _ (kw_of kp) ?_
      clear hK K
      have S7 := hid (S6.out.touch ht)
      have R7 := hid hr
      have F7_17 := hid (F6_17.out.kept kp)
      have F7_8 := hid (F6_8.out.kept kp)
      clear kp ht hr S6 R6 F6_17 F6_8
      clear R7
      have hp1 : 0 ≤ r19 * 3 / 10 := by omega
      have hp2 : r19 * 3 / 10 < 3 := by omega
      have hn1 := wrap_small (r19 * 3) (by omega) (by omega)
      have hn2 := tdiv_small (r19 * 3) 10 (by omega)
      have hn3 := wrap_small (r19 * 3 / 10) (by omega) (by omega)
      obtain ⟨Y, hY0, Y1, Y2⟩ := numsB3 r16 0 (r19 * 3 / 10).toNat (by omega) (by omega)
      have hY := kw_cell F7_17.out _ hY0
      clear hY0
      have hne : Nonempty (KW (w.heap.size + 1) w.heap.size V7) := kw_ne _
      refine plr_pull ?_
      simp only [cutOut, List.take_succ_cons, List.take_zero, List.drop_succ_cons, List.drop_zero, List.nil_append, List.cons_append, List.append_nil]
      repeat (first | go_big_quiet_step (fail) | quiet_step (fail))
      try refine wpQuiet_nil ?_
      clear hne
      clear hY
      obtain ⟨z0, z1, z2, z3, q0, q1, q2, q3, tl⟩ := dt_store S7.out
      refine plr_step rfl (fun K hK => ?_)
      go_simp
      have kp := S7.out.kput lv mo ra at'
      refine hK _ _ (kw_of kp) ?_
      clear hK K
      have S8 := hid (S7.out.put lv mo ra at')
      have F8_17 := hid (F7_17.out.kept kp)
      have F8_8 := hid (F7_8.out.kept kp)
      obtain ⟨V8, hV8⟩ : ∃ V, V = put4 V7 w.heap.size lv mo ra at' := ⟨_, rfl⟩
      rw [← hV8] at S8 F8_17 F8_8
      try unfold put4 at hV8
      rw [← hV8]
      clear kp z0 z1 z2 z3 q0 q1 q2 q3 tl S7 F7_17 F7_8 hV8
      have hne : Nonempty (KW (w.heap.size + 1) w.heap.size V8) := kw_ne _
      refine plr_pull ?_
      simp only [cutOut, List.take_succ_cons, List.take_zero, List.drop_succ_cons, List.drop_zero, List.nil_append, List.cons_append, List.append_nil]
      repeat (first | go_big_quiet_step (fail) | quiet_step (fail))
      try refine wpQuiet_nil ?_
      clear hne
      refine plr_done ?_
      have FIN := hid (DtOut.mk S8.out X1 X2 Y1 Y2)
      obtain ⟨v0, v1, v2, v3⟩ := dt_cells S8.out
      clear S8 F8_17 F8_8
      go_wp2_with fail
      refine bodyPost_ret (v := .tuple #[.agg #[.int .i64 lv, .int .i64 mo, .int .i64 ra, .int .i64 at'], .int .i64 X, .int .i64 Y]) ?_ rfl FIN.out
      simp [results, Try.results5, go_sem, v0, v1, v2, v3]
    refine plr_step rfl (fun K hK => ?_)
    go_simp
    with_reducible refine (pick_any (w.heap.size + 1) (q + 4) 10 _ R5.out (by omega) (by omega) (by omega)).mono ?_
    rintro _ V9 ⟨r19, rfl, r19a, r19b, hr, ht⟩
    have kp := S5.out.ktouch ht
    refine hK _ _ (kw_of kp) ?_
    clear hK K
    have S9 := hid (S5.out.touch ht)
    have R9 := hid hr
    have F9_8 := hid (F5_8.out.kept kp)
    clear kp ht hr S5 R5 F5_8
    clear R9
    have hp1 : 0 ≤ r19 * 3 / 10 := by omega
    have hp2 : r19 * 3 / 10 < 3 := by omega
    have hn1 := wrap_small (r19 * 3) (by omega) (by omega)
    have hn2 := tdiv_small (r19 * 3) 10 (by omega)
    have hn3 := wrap_small (r19 * 3 / 10) (by omega) (by omega)
    have hne : Nonempty (KW (w.heap.size + 1) w.heap.size V9) := kw_ne _
    refine plr_pull ?_
    simp only [cutOut, List.take_succ_cons, List.take_zero, List.drop_succ_cons, List.drop_zero, List.nil_append, List.cons_append, List.append_nil]
    repeat (first | go_big_quiet_step (fail) | quiet_step (fail))
    try refine wpQuiet_nil ?_
    clear hne
    refine plr_fork ?_ ?_
    · refine plr_step rfl (fun K hK => ?_)
      go_simp
      have kp := S9.out.klit (.cells #[.int .i64 r16, .int .i64 0, .int .i64 (-1)] 3)
      refine hK _ _ (kw_of kp) ?_
      clear hK K
      have S10 := hid (S9.out.lit (.cells #[.int .i64 r16, .int .i64 0, .int .i64 (-1)] 3))
      have F10_17 := hid (S9.out.litAt #[.int .i64 r16, .int .i64 0, .int .i64 (-1)])
      have F10_8 := hid (F9_8.out.kept kp)
      obtain ⟨V10, hV10⟩ : ∃ V, V = V9.alloc (.cells #[.int .i64 r16, .int .i64 0, .int .i64 (-1)] 3) := ⟨_, rfl⟩
      obtain ⟨A17, hA17⟩ : ∃ A, A = V9.heap.size := ⟨_, rfl⟩
      rw [← hV10] at S10 F10_17 F10_8
      rw [← hA17] at F10_17
      rw [← hV10, ← hA17]
      clear kp S9 F9_8 hV10 hA17
      obtain ⟨Y, hY0, Y1, Y2⟩ := numsB3 r16 0 (r19 * 3 / 10).toNat (by omega) (by omega)
      have hY := kw_cell F10_17.out _ hY0
      clear hY0
      have hne : Nonempty (KW (w.heap.size + 1) w.heap.size V10) := kw_ne _
      refine plr_pull ?_
      simp only [cutOut, List.take_succ_cons, List.take_zero, List.drop_succ_cons, List.drop_zero, List.nil_append, List.cons_append, List.append_nil]
      repeat (first | go_big_quiet_step (fail) | quiet_step (fail))
      try refine wpQuiet_nil ?_
      clear hne
      clear hY
      obtain ⟨z0, z1, z2, z3, q0, q1, q2, q3, tl⟩ := dt_store S10.out
      refine plr_step rfl (fun K hK => ?_)
      go_simp
      have kp := S10.out.kput lv mo ra at'
      refine hK _ _ (kw_of kp) ?_
      clear hK K
      have S11 := hid (S10.out.put lv mo ra at')
      have F11_17 := hid (F10_17.out.kept kp)
      have F11_8 := hid (F10_8.out.kept kp)
      obtain ⟨V11, hV11⟩ : ∃ V, V = put4 V10 w.heap.size lv mo ra at' := ⟨_, rfl⟩
      rw [← hV11] at S11 F11_17 F11_8
      try unfold put4 at hV11
      rw [← hV11]
      clear kp z0 z1 z2 z3 q0 q1 q2 q3 tl S10 F10_17 F10_8 hV11
      have hne : Nonempty (KW (w.heap.size + 1) w.heap.size V11) := kw_ne _
      refine plr_pull ?_
      simp only [cutOut, List.take_succ_cons, List.take_zero, List.drop_succ_cons, List.drop_zero, List.nil_append, List.cons_append, List.append_nil]
      repeat (first | go_big_quiet_step (fail) | quiet_step (fail))
      try refine wpQuiet_nil ?_
      clear hne
      refine plr_done ?_
      have FIN := hid (DtOut.mk S11.out X1 X2 Y1 Y2)
      obtain ⟨v0, v1, v2, v3⟩ := dt_cells S11.out
      clear S11 F11_17 F11_8
      go_wp2_with fail
      refine bodyPost_ret (v := .tuple #[.agg #[.int .i64 lv, .int .i64 mo, .int .i64 ra, .int .i64 at'], .int .i64 X, .int .i64 Y]) ?_ rfl FIN.out
      simp [results, Try.results5, go_sem, v0, v1, v2, v3]
    obtain ⟨z0, z1, z2, z3, q0, q1, q2, q3, tl⟩ := dt_store S9.out
    refine plr_step rfl (fun K hK => ?_)
    go_simp
    have kp := S9.out.kput lv mo ra at'
    refine hK _ _ (kw_of kp) ?_
    clear hK K
    have S12 := hid (S9.out.put lv mo ra at')
    have F12_8 := hid (F9_8.out.kept kp)
    obtain ⟨V12, hV12⟩ : ∃ V, V = put4 V9 w.heap.size lv mo ra at' := ⟨_, rfl⟩
    rw [← hV12] at S12 F12_8
    try unfold put4 at hV12
    rw [← hV12]
    clear kp z0 z1 z2 z3 q0 q1 q2 q3 tl S9 F9_8 hV12
    have hne : Nonempty (KW (w.heap.size + 1) w.heap.size V12) := kw_ne _
    refine plr_pull ?_
    simp only [cutOut, List.take_succ_cons, List.take_zero, List.drop_succ_cons, List.drop_zero, List.append_nil]
    repeat (first | go_big_quiet_step (fail) | quiet_step (fail))
    try refine wpQuiet_nil ?_
    clear hne
    refine plr_step rfl (fun K hK => ?_)
    go_simp
    have kp := S12.out.klit (.cells #[.int .i64 r16, .int .i64 0, .int .i64 (-1)] 3)
    refine hK _ _ (kw_of kp) ?_
    clear hK K
    have S13 := hid (S12.out.lit (.cells #[.int .i64 r16, .int .i64 0, .int .i64 (-1)] 3))
    have F13_17 := hid (S12.out.litAt #[.int .i64 r16, .int .i64 0, .int .i64 (-1)])
    have F13_8 := hid (F12_8.out.kept kp)
    obtain ⟨V13, hV13⟩ : ∃ V, V = V12.alloc (.cells #[.int .i64 r16, .int .i64 0, .int .i64 (-1)] 3) := ⟨_, rfl⟩
    obtain ⟨A17, hA17⟩ : ∃ A, A = V12.heap.size := ⟨_, rfl⟩
    rw [← hV13] at S13 F13_17 F13_8
    rw [← hA17] at F13_17
    rw [← hV13, ← hA17]
    clear kp S12 F12_8 hV13 hA17
    obtain ⟨Y, hY0, Y1, Y2⟩ := numsB3 r16 0 (r19 * 3 / 10).toNat (by omega) (by omega)
    have hY := kw_cell F13_17.out _ hY0
    clear hY0
    have hne : Nonempty (KW (w.heap.size + 1) w.heap.size V13) := kw_ne _
    refine plr_pull ?_
    simp only [cutOut, List.take_succ_cons, List.take_zero, List.drop_succ_cons, List.drop_zero, List.nil_append, List.cons_append, List.append_nil]
    repeat (first | go_big_quiet_step (fail) | quiet_step (fail))
    try refine wpQuiet_nil ?_
    clear hne
    clear hY
    refine plr_done ?_
    have FIN := hid (DtOut.mk S13.out X1 X2 Y1 Y2)
    obtain ⟨v0, v1, v2, v3⟩ := dt_cells S13.out
    clear S13 F13_17 F13_8
    go_wp2_with fail
    refine bodyPost_ret (v := .tuple #[.agg #[.int .i64 lv, .int .i64 mo, .int .i64 ra, .int .i64 at'], .int .i64 X, .int .i64 Y]) ?_ rfl FIN.out
    simp [results, Try.results5, go_sem, v0, v1, v2, v3]
  refine plr_step rfl (fun K hK => ?_)
  go_simp
  with_reducible refine (pick_any (w.heap.size + 1) (q + 2) 12 _ R2.out (by omega) (by omega) (by omega)).mono ?_
  rintro _ V14 ⟨r10, rfl, r10a, r10b, hr, ht⟩
  have kp := S2.out.ktouch ht
  refine hK _ _ (kw_of kp) ?_
  clear hK K
  have S14 := hid (S2.out.touch ht)
  have R14 := hid hr
  clear kp ht hr S2 R2 
  have hq1 : 0 ≤ r10 * 3 / 12 := by omega
  have hq2 : r10 * 3 / 12 < 3 := by omega
  have hm1 := wrap_small (r10 * 3) (by omega) (by omega)
  have hm2 := tdiv_small (r10 * 3) 12 (by omega)
  have hm3 := wrap_small (r10 * 3 / 12) (by omega) (by omega)
  have hne : Nonempty (KW (w.heap.size + 1) w.heap.size V14) := kw_ne _
  refine plr_pull ?_
  simp only [cutOut, List.take_succ_cons, List.take_zero, List.drop_succ_cons, List.drop_zero, List.nil_append, List.cons_append, List.append_nil]
  repeat (first | go_big_quiet_step (fail) | quiet_step (fail))
  try refine wpQuiet_nil ?_
  clear hne
  refine plr_fork ?_ ?_
  · refine plr_step rfl (fun K hK => ?_)
    go_simp
    have kp := S14.out.klit (.cells #[.int .i64 (at' + r4), .int .i64 r7, .int .i64 (-1)] 3)
    refine hK _ _ (kw_of kp) ?_
    clear hK K
    have S15 := hid (S14.out.lit (.cells #[.int .i64 (at' + r4), .int .i64 r7, .int .i64 (-1)] 3))
    have R15 := hid (rdLit R14.out (.cells #[.int .i64 (at' + r4), .int .i64 r7, .int .i64 (-1)] 3))
    have F15_8 := hid (S14.out.litAt #[.int .i64 (at' + r4), .int .i64 r7, .int .i64 (-1)])
    obtain ⟨V15, hV15⟩ : ∃ V, V = V14.alloc (.cells #[.int .i64 (at' + r4), .int .i64 r7, .int .i64 (-1)] 3) := ⟨_, rfl⟩
    obtain ⟨A8, hA8⟩ : ∃ A, A = V14.heap.size := ⟨_, rfl⟩
    rw [← hV15] at S15 F15_8 R15
    rw [← hA8] at F15_8
    rw [← hV15, ← hA8]
    clear kp S14 R14  hV15 hA8
    obtain ⟨X, hX0, X1, X2⟩ := numsB3 (at' + r4) r7 (r10 * 3 / 12).toNat (by omega) (by omega)
    have hX := kw_cell F15_8.out _ hX0
    clear hX0
    have hne : Nonempty (KW (w.heap.size + 1) w.heap.size V15) := kw_ne _
    refine plr_pull ?_
    simp only [cutOut, List.take_succ_cons, List.take_zero, List.drop_succ_cons, List.drop_zero, List.nil_append, List.cons_append, List.append_nil]
    repeat (first | go_big_quiet_step (fail) | quiet_step (fail))
    try refine wpQuiet_nil ?_
    clear hne
    clear hX
    refine plr_step rfl (fun K hK => ?_)
    go_simp
    with_reducible refine (pick_any (w.heap.size + 1) (q + 3) 60 _ R15.out (by omega) (by omega) (by omega)).mono ?_
    rintro _ V16 ⟨r16, rfl, r16a, r16b, hr, ht⟩
    have kp := S15.out.ktouch ht
    refine hK _ _ (kw_of kp) ?_
    clear hK K
    have S16 := hid (S15.out.touch ht)
    have R16 := hid hr
    have F16_8 := hid (F15_8.out.kept kp)
    clear kp ht hr S15 R15 F15_8
    refine plr_fork ?_ ?_
    · refine plr_step rfl (fun K hK => ?_)
      go_simp
      have kp := S16.out.klit (.cells #[.int .i64 r16, .int .i64 0, .int .i64 (-1)] 3)
      refine hK _ _ (kw_of kp) ?_
      clear hK K
      have S17 := hid (S16.out.lit (.cells #[.int .i64 r16, .int .i64 0, .int .i64 (-1)] 3))
      have R17 := hid (rdLit R16.out (.cells #[.int .i64 r16, .int .i64 0, .int .i64 (-1)] 3))
      have F17_17 := hid (S16.out.litAt #[.int .i64 r16, .int .i64 0, .int .i64 (-1)])
      have F17_8 := hid (F16_8.out.kept kp)
      obtain ⟨V17, hV17⟩ : ∃ V, V = V16.alloc (.cells #[.int .i64 r16, .int .i64 0, .int .i64 (-1)] 3) := ⟨_, rfl⟩
      obtain ⟨A17, hA17⟩ : ∃ A, A = V16.heap.size := ⟨_, rfl⟩
      rw [← hV17] at S17 F17_17 F17_8 R17
      rw [← hA17] at F17_17
      rw [← hV17, ← hA17]
      clear kp S16 R16 F16_8 hV17 hA17
      refine plr_step rfl (fun K hK => ?_)
      go_simp
      with_reducible refine (pick_any (w.heap.size + 1) (q + 4) 10 _ R17.out (by omega) (by omega) (by omega)).mono ?_
      rintro _ V18 ⟨r19, rfl, r19a, r19b, hr, ht⟩
      have kp := S17.out.ktouch ht
      refine hK _ _ (kw_of kp) ?_
      clear hK K
      have S18 := hid (S17.out.touch ht)
      have R18 := hid hr
      have F18_17 := hid (F17_17.out.kept kp)
      have F18_8 := hid (F17_8.out.kept kp)
      clear kp ht hr S17 R17 F17_17 F17_8
      clear R18
      have hp1 : 0 ≤ r19 * 3 / 10 := by omega
      have hp2 : r19 * 3 / 10 < 3 := by omega
      have hn1 := wrap_small (r19 * 3) (by omega) (by omega)
      have hn2 := tdiv_small (r19 * 3) 10 (by omega)
      have hn3 := wrap_small (r19 * 3 / 10) (by omega) (by omega)
      obtain ⟨Y, hY0, Y1, Y2⟩ := numsB3 r16 0 (r19 * 3 / 10).toNat (by omega) (by omega)
      have hY := kw_cell F18_17.out _ hY0
      clear hY0
      have hne : Nonempty (KW (w.heap.size + 1) w.heap.size V18) := kw_ne _
      refine plr_pull ?_
      simp only [cutOut, List.take_succ_cons, List.take_zero, List.drop_succ_cons, List.drop_zero, List.nil_append, List.cons_append, List.append_nil]
      repeat (first | go_big_quiet_step (fail) | quiet_step (fail))
      try refine wpQuiet_nil ?_
      clear hne
      clear hY
      obtain ⟨z0, z1, z2, z3, q0, q1, q2, q3, tl⟩ := dt_store S18.out
      refine plr_step rfl (fun K hK => ?_)
      go_simp
      have kp := S18.out.kput lv mo ra at'
      refine hK _ _ (kw_of kp) ?_
      clear hK K
      have S19 := hid (S18.out.put lv mo ra at')
      have F19_17 := hid (F18_17.out.kept kp)
      have F19_8 := hid (F18_8.out.kept kp)
      obtain ⟨V19, hV19⟩ : ∃ V, V = put4 V18 w.heap.size lv mo ra at' := ⟨_, rfl⟩
      rw [← hV19] at S19 F19_17 F19_8
      try unfold put4 at hV19
      rw [← hV19]
      clear kp z0 z1 z2 z3 q0 q1 q2 q3 tl S18 F18_17 F18_8 hV19
      have hne : Nonempty (KW (w.heap.size + 1) w.heap.size V19) := kw_ne _
      refine plr_pull ?_
      simp only [cutOut, List.take_succ_cons, List.take_zero, List.drop_succ_cons, List.drop_zero, List.nil_append, List.cons_append, List.append_nil]
      repeat (first | go_big_quiet_step (fail) | quiet_step (fail))
      try refine wpQuiet_nil ?_
      clear hne
      refine plr_done ?_
      have FIN := hid (DtOut.mk S19.out X1 X2 Y1 Y2)
      obtain ⟨v0, v1, v2, v3⟩ := dt_cells S19.out
      clear S19 F19_17 F19_8
      go_wp2_with fail
      refine bodyPost_ret (v := .tuple #[.agg #[.int .i64 lv, .int .i64 mo, .int .i64 ra, .int .i64 at'], .int .i64 X, .int .i64 Y]) ?_ rfl FIN.out
      simp [results, Try.results5, go_sem, v0, v1, v2, v3]
    refine plr_step rfl (fun K hK => ?_)
    go_simp
    with_reducible refine (pick_any (w.heap.size + 1) (q + 4) 10 _ R16.out (by omega) (by omega) (by omega)).mono ?_
    rintro _ V20 ⟨r19, rfl, r19a, r19b, hr, ht⟩
    have kp := S16.out.ktouch ht
    refine hK _ _ (kw_of kp) ?_
    clear hK K
    have S20 := hid (S16.out.touch ht)
    have R20 := hid hr
    have F20_8 := hid (F16_8.out.kept kp)
    clear kp ht hr S16 R16 F16_8
    clear R20
    have hp1 : 0 ≤ r19 * 3 / 10 := by omega
    have hp2 : r19 * 3 / 10 < 3 := by omega
    have hn1 := wrap_small (r19 * 3) (by omega) (by omega)
    have hn2 := tdiv_small (r19 * 3) 10 (by omega)
    have hn3 := wrap_small (r19 * 3 / 10) (by omega) (by omega)
    have hne : Nonempty (KW (w.heap.size + 1) w.heap.size V20) := kw_ne _
    refine plr_pull ?_
    simp only [cutOut, List.take_succ_cons, List.take_zero, List.drop_succ_cons, List.drop_zero, List.nil_append, List.cons_append, List.append_nil]
    repeat (first | go_big_quiet_step (fail) | quiet_step (fail))
    try refine wpQuiet_nil ?_
    clear hne
    refine plr_fork ?_ ?_
    · refine plr_step rfl (fun K hK => ?_)
      go_simp
      have kp := S20.out.klit (.cells #[.int .i64 r16, .int .i64 0, .int .i64 (-1)] 3)
      refine hK _ _ (kw_of kp) ?_
      clear hK K
      have S21 := hid (S20.out.lit (.cells #[.int .i64 r16, .int .i64 0, .int .i64 (-1)] 3))
      have F21_17 := hid (S20.out.litAt #[.int .i64 r16, .int .i64 0, .int .i64 (-1)])
      have F21_8 := hid (F20_8.out.kept kp)
      obtain ⟨V21, hV21⟩ : ∃ V, V = V20.alloc (.cells #[.int .i64 r16, .int .i64 0, .int .i64 (-1)] 3) := ⟨_, rfl⟩
      obtain ⟨A17, hA17⟩ : ∃ A, A = V20.heap.size := ⟨_, rfl⟩
      rw [← hV21] at S21 F21_17 F21_8
      rw [← hA17] at F21_17
      rw [← hV21, ← hA17]
      clear kp S20 F20_8 hV21 hA17
      obtain ⟨Y, hY0, Y1, Y2⟩ := numsB3 r16 0 (r19 * 3 / 10).toNat (by omega) (by omega)
      have hY := kw_cell F21_17.out _ hY0
      clear hY0
      have hne : Nonempty (KW (w.heap.size + 1) w.heap.size V21) := kw_ne _
      refine plr_pull ?_
      simp only [cutOut, List.take_succ_cons, List.take_zero, List.drop_succ_cons, List.drop_zero, List.nil_append, List.cons_append, List.append_nil]
      repeat (first | go_big_quiet_step (fail) | quiet_step (fail))
      try refine wpQuiet_nil ?_
      clear hne
      clear hY
      obtain ⟨z0, z1, z2, z3, q0, q1, q2, q3, tl⟩ := dt_store S21.out
      refine plr_step rfl (fun K hK => ?_)
      go_simp
      have kp := S21.out.kput lv mo ra at'
      refine hK _ _ (kw_of kp) ?_
      clear hK K
      have S22 := hid (S21.out.put lv mo ra at')
      have F22_17 := hid (F21_17.out.kept kp)
      have F22_8 := hid (F21_8.out.kept kp)
      obtain ⟨V22, hV22⟩ : ∃ V, V = put4 V21 w.heap.size lv mo ra at' := ⟨_, rfl⟩
      rw [← hV22] at S22 F22_17 F22_8
      try unfold put4 at hV22
      rw [← hV22]
      clear kp z0 z1 z2 z3 q0 q1 q2 q3 tl S21 F21_17 F21_8 hV22
      have hne : Nonempty (KW (w.heap.size + 1) w.heap.size V22) := kw_ne _
      refine plr_pull ?_
      simp only [cutOut, List.take_succ_cons, List.take_zero, List.drop_succ_cons, List.drop_zero, List.nil_append, List.cons_append, List.append_nil]
      repeat (first | go_big_quiet_step (fail) | quiet_step (fail))
      try refine wpQuiet_nil ?_
      clear hne
      refine plr_done ?_
      have FIN := hid (DtOut.mk S22.out X1 X2 Y1 Y2)
      obtain ⟨v0, v1, v2, v3⟩ := dt_cells S22.out
      clear S22 F22_17 F22_8
      go_wp2_with fail
      refine bodyPost_ret (v := .tuple #[.agg #[.int .i64 lv, .int .i64 mo, .int .i64 ra, .int .i64 at'], .int .i64 X, .int .i64 Y]) ?_ rfl FIN.out
      simp [results, Try.results5, go_sem, v0, v1, v2, v3]
    obtain ⟨z0, z1, z2, z3, q0, q1, q2, q3, tl⟩ := dt_store S20.out
    refine plr_step rfl (fun K hK => ?_)
    go_simp
    have kp := S20.out.kput lv mo ra at'
    refine hK _ _ (kw_of kp) ?_
    clear hK K
    have S23 := hid (S20.out.put lv mo ra at')
    have F23_8 := hid (F20_8.out.kept kp)
    obtain ⟨V23, hV23⟩ : ∃ V, V = put4 V20 w.heap.size lv mo ra at' := ⟨_, rfl⟩
    rw [← hV23] at S23 F23_8
    try unfold put4 at hV23
    rw [← hV23]
    clear kp z0 z1 z2 z3 q0 q1 q2 q3 tl S20 F20_8 hV23
    have hne : Nonempty (KW (w.heap.size + 1) w.heap.size V23) := kw_ne _
    refine plr_pull ?_
    simp only [cutOut, List.take_succ_cons, List.take_zero, List.drop_succ_cons, List.drop_zero, List.append_nil]
    repeat (first | go_big_quiet_step (fail) | quiet_step (fail))
    try refine wpQuiet_nil ?_
    clear hne
    refine plr_step rfl (fun K hK => ?_)
    go_simp
    have kp := S23.out.klit (.cells #[.int .i64 r16, .int .i64 0, .int .i64 (-1)] 3)
    refine hK _ _ (kw_of kp) ?_
    clear hK K
    have S24 := hid (S23.out.lit (.cells #[.int .i64 r16, .int .i64 0, .int .i64 (-1)] 3))
    have F24_17 := hid (S23.out.litAt #[.int .i64 r16, .int .i64 0, .int .i64 (-1)])
    have F24_8 := hid (F23_8.out.kept kp)
    obtain ⟨V24, hV24⟩ : ∃ V, V = V23.alloc (.cells #[.int .i64 r16, .int .i64 0, .int .i64 (-1)] 3) := ⟨_, rfl⟩
    obtain ⟨A17, hA17⟩ : ∃ A, A = V23.heap.size := ⟨_, rfl⟩
    rw [← hV24] at S24 F24_17 F24_8
    rw [← hA17] at F24_17
    rw [← hV24, ← hA17]
    clear kp S23 F23_8 hV24 hA17
    obtain ⟨Y, hY0, Y1, Y2⟩ := numsB3 r16 0 (r19 * 3 / 10).toNat (by omega) (by omega)
    have hY := kw_cell F24_17.out _ hY0
    clear hY0
    have hne : Nonempty (KW (w.heap.size + 1) w.heap.size V24) := kw_ne _
    refine plr_pull ?_
    simp only [cutOut, List.take_succ_cons, List.take_zero, List.drop_succ_cons, List.drop_zero, List.nil_append, List.cons_append, List.append_nil]
    repeat (first | go_big_quiet_step (fail) | quiet_step (fail))
    try refine wpQuiet_nil ?_
    clear hne
    clear hY
    refine plr_done ?_
    have FIN := hid (DtOut.mk S24.out X1 X2 Y1 Y2)
    obtain ⟨v0, v1, v2, v3⟩ := dt_cells S24.out
    clear S24 F24_17 F24_8
    go_wp2_with fail
    refine bodyPost_ret (v := .tuple #[.agg #[.int .i64 lv, .int .i64 mo, .int .i64 ra, .int .i64 at'], .int .i64 X, .int .i64 Y]) ?_ rfl FIN.out
    simp [results, Try.results5, go_sem, v0, v1, v2, v3]
  refine plr_step rfl (fun K hK => ?_)
  go_simp
  with_reducible refine (pick_any (w.heap.size + 1) (q + 3) 60 _ R14.out (by omega) (by omega) (by omega)).mono ?_
  rintro _ V25 ⟨r16, rfl, r16a, r16b, hr, ht⟩
  have kp := S14.out.ktouch ht
  refine hK _ _ (kw_of kp) ?_
  clear hK K
  have S25 := hid (S14.out.touch ht)
  have R25 := hid hr
  clear kp ht hr S14 R14 
  refine plr_fork ?_ ?_
  · refine plr_step rfl (fun K hK => ?_)
    go_simp
    have kp := S25.out.klit (.cells #[.int .i64 (at' + r4), .int .i64 r7, .int .i64 (-1)] 3)
    refine hK _ _ (kw_of kp) ?_
    clear hK K
    have S26 := hid (S25.out.lit (.cells #[.int .i64 (at' + r4), .int .i64 r7, .int .i64 (-1)] 3))
    have R26 := hid (rdLit R25.out (.cells #[.int .i64 (at' + r4), .int .i64 r7, .int .i64 (-1)] 3))
    have F26_8 := hid (S25.out.litAt #[.int .i64 (at' + r4), .int .i64 r7, .int .i64 (-1)])
    obtain ⟨V26, hV26⟩ : ∃ V, V = V25.alloc (.cells #[.int .i64 (at' + r4), .int .i64 r7, .int .i64 (-1)] 3) := ⟨_, rfl⟩
    obtain ⟨A8, hA8⟩ : ∃ A, A = V25.heap.size := ⟨_, rfl⟩
    rw [← hV26] at S26 F26_8 R26
    rw [← hA8] at F26_8
    rw [← hV26, ← hA8]
    clear kp S25 R25  hV26 hA8
    obtain ⟨X, hX0, X1, X2⟩ := numsB3 (at' + r4) r7 (r10 * 3 / 12).toNat (by omega) (by omega)
    have hX := kw_cell F26_8.out _ hX0
    clear hX0
    have hne : Nonempty (KW (w.heap.size + 1) w.heap.size V26) := kw_ne _
    refine plr_pull ?_
    simp only [cutOut, List.take_succ_cons, List.take_zero, List.drop_succ_cons, List.drop_zero, List.nil_append, List.cons_append, List.append_nil]
    repeat (first | go_big_quiet_step (fail) | quiet_step (fail))
    try refine wpQuiet_nil ?_
    clear hne
    clear hX
    refine plr_fork ?_ ?_
    · refine plr_step rfl (fun K hK => ?_)
      go_simp
      have kp := S26.out.klit (.cells #[.int .i64 r16, .int .i64 0, .int .i64 (-1)] 3)
      refine hK _ _ (kw_of kp) ?_
      clear hK K
      have S27 := hid (S26.out.lit (.cells #[.int .i64 r16, .int .i64 0, .int .i64 (-1)] 3))
      have R27 := hid (rdLit R26.out (.cells #[.int .i64 r16, .int .i64 0, .int .i64 (-1)] 3))
      have F27_17 := hid (S26.out.litAt #[.int .i64 r16, .int .i64 0, .int .i64 (-1)])
      have F27_8 := hid (F26_8.out.kept kp)
      obtain ⟨V27, hV27⟩ : ∃ V, V = V26.alloc (.cells #[.int .i64 r16, .int .i64 0, .int .i64 (-1)] 3) := ⟨_, rfl⟩
      obtain ⟨A17, hA17⟩ : ∃ A, A = V26.heap.size := ⟨_, rfl⟩
      rw [← hV27] at S27 F27_17 F27_8 R27
      rw [← hA17] at F27_17
      rw [← hV27, ← hA17]
      clear kp S26 R26 F26_8 hV27 hA17
      refine plr_step rfl (fun K hK => ?_)
      go_simp
      with_reducible refine (pick_any (w.heap.size + 1) (q + 4) 10 _ R27.out (by omega) (by omega) (by omega)).mono ?_
      rintro _ V28 ⟨r19, rfl, r19a, r19b, hr, ht⟩
      have kp := S27.out.ktouch ht
      refine hK _ _ (kw_of kp) ?_
      clear hK K
      have S28 := hid (S27.out.touch ht)
      have R28 := hid hr
      have F28_17 := hid (F27_17.out.kept kp)
      have F28_8 := hid (F27_8.out.kept kp)
      clear kp ht hr S27 R27 F27_17 F27_8
      clear R28
      have hp1 : 0 ≤ r19 * 3 / 10 := by omega
      have hp2 : r19 * 3 / 10 < 3 := by omega
      have hn1 := wrap_small (r19 * 3) (by omega) (by omega)
      have hn2 := tdiv_small (r19 * 3) 10 (by omega)
      have hn3 := wrap_small (r19 * 3 / 10) (by omega) (by omega)
      obtain ⟨Y, hY0, Y1, Y2⟩ := numsB3 r16 0 (r19 * 3 / 10).toNat (by omega) (by omega)
      have hY := kw_cell F28_17.out _ hY0
      clear hY0
      have hne : Nonempty (KW (w.heap.size + 1) w.heap.size V28) := kw_ne _
      refine plr_pull ?_
      simp only [cutOut, List.take_succ_cons, List.take_zero, List.drop_succ_cons, List.drop_zero, List.nil_append, List.cons_append, List.append_nil]
      repeat (first | go_big_quiet_step (fail) | quiet_step (fail))
      try refine wpQuiet_nil ?_
      clear hne
      clear hY
      obtain ⟨z0, z1, z2, z3, q0, q1, q2, q3, tl⟩ := dt_store S28.out
      refine plr_step rfl (fun K hK => ?_)
      go_simp
      have kp := S28.out.kput lv mo ra at'
      refine hK _ _ (kw_of kp) ?_
      clear hK K
      have S29 := hid (S28.out.put lv mo ra at')
      have F29_17 := hid (F28_17.out.kept kp)
      have F29_8 := hid (F28_8.out.kept kp)
      obtain ⟨V29, hV29⟩ : ∃ V, V = put4 V28 w.heap.size lv mo ra at' := ⟨_, rfl⟩
      rw [← hV29] at S29 F29_17 F29_8
      try unfold put4 at hV29
      rw [← hV29]
      clear kp z0 z1 z2 z3 q0 q1 q2 q3 tl S28 F28_17 F28_8 hV29
      have hne : Nonempty (KW (w.heap.size + 1) w.heap.size V29) := kw_ne _
      refine plr_pull ?_
      simp only [cutOut, List.take_succ_cons, List.take_zero, List.drop_succ_cons, List.drop_zero, List.nil_append, List.cons_append, List.append_nil]
      repeat (first | go_big_quiet_step (fail) | quiet_step (fail))
      try refine wpQuiet_nil ?_
      clear hne
      refine plr_done ?_
      have FIN := hid (DtOut.mk S29.out X1 X2 Y1 Y2)
      obtain ⟨v0, v1, v2, v3⟩ := dt_cells S29.out
      clear S29 F29_17 F29_8
      go_wp2_with fail
      refine bodyPost_ret (v := .tuple #[.agg #[.int .i64 lv, .int .i64 mo, .int .i64 ra, .int .i64 at'], .int .i64 X, .int .i64 Y]) ?_ rfl FIN.out
      simp [results, Try.results5, go_sem, v0, v1, v2, v3]
    refine plr_step rfl (fun K hK => ?_)
    go_simp
    with_reducible refine (pick_any (w.heap.size + 1) (q + 4) 10 _ R26.out (by omega) (by omega) (by omega)).mono ?_
    rintro _ V30 ⟨r19, rfl, r19a, r19b, hr, ht⟩
    have kp := S26.out.ktouch ht
    refine hK _ _ (kw_of kp) ?_
    clear hK K
    have S30 := hid (S26.out.touch ht)
    have R30 := hid hr
    have F30_8 := hid (F26_8.out.kept kp)
    clear kp ht hr S26 R26 F26_8
    clear R30
    have hp1 : 0 ≤ r19 * 3 / 10 := by omega
    have hp2 : r19 * 3 / 10 < 3 := by omega
    have hn1 := wrap_small (r19 * 3) (by omega) (by omega)
    have hn2 := tdiv_small (r19 * 3) 10 (by omega)
    have hn3 := wrap_small (r19 * 3 / 10) (by omega) (by omega)
    have hne : Nonempty (KW (w.heap.size + 1) w.heap.size V30) := kw_ne _
    refine plr_pull ?_
    simp only [cutOut, List.take_succ_cons, List.take_zero, List.drop_succ_cons, List.drop_zero, List.nil_append, List.cons_append, List.append_nil]
    repeat (first | go_big_quiet_step (fail) | quiet_step (fail))
    try refine wpQuiet_nil ?_
    clear hne
    refine plr_fork ?_ ?_
    · refine plr_step rfl (fun K hK => ?_)
      go_simp
      have kp := S30.out.klit (.cells #[.int .i64 r16, .int .i64 0, .int .i64 (-1)] 3)
      refine hK _ _ (kw_of kp) ?_
      clear hK K
      have S31 := hid (S30.out.lit (.cells #[.int .i64 r16, .int .i64 0, .int .i64 (-1)] 3))
      have F31_17 := hid (S30.out.litAt #[.int .i64 r16, .int .i64 0, .int .i64 (-1)])
      have F31_8 := hid (F30_8.out.kept kp)
      obtain ⟨V31, hV31⟩ : ∃ V, V = V30.alloc (.cells #[.int .i64 r16, .int .i64 0, .int .i64 (-1)] 3) := ⟨_, rfl⟩
      obtain ⟨A17, hA17⟩ : ∃ A, A = V30.heap.size := ⟨_, rfl⟩
      rw [← hV31] at S31 F31_17 F31_8
      rw [← hA17] at F31_17
      rw [← hV31, ← hA17]
      clear kp S30 F30_8 hV31 hA17
      obtain ⟨Y, hY0, Y1, Y2⟩ := numsB3 r16 0 (r19 * 3 / 10).toNat (by omega) (by omega)
      have hY := kw_cell F31_17.out _ hY0
      clear hY0
      have hne : Nonempty (KW (w.heap.size + 1) w.heap.size V31) := kw_ne _
      refine plr_pull ?_
      simp only [cutOut, List.take_succ_cons, List.take_zero, List.drop_succ_cons, List.drop_zero, List.nil_append, List.cons_append, List.append_nil]
      repeat (first | go_big_quiet_step (fail) | quiet_step (fail))
      try refine wpQuiet_nil ?_
      clear hne
      clear hY
      obtain ⟨z0, z1, z2, z3, q0, q1, q2, q3, tl⟩ := dt_store S31.out
      refine plr_step rfl (fun K hK => ?_)
      go_simp
      have kp := S31.out.kput lv mo ra at'
      refine hK _ _ (kw_of kp) ?_
      clear hK K
      have S32 := hid (S31.out.put lv mo ra at')
      have F32_17 := hid (F31_17.out.kept kp)
      have F32_8 := hid (F31_8.out.kept kp)
      obtain ⟨V32, hV32⟩ : ∃ V, V = put4 V31 w.heap.size lv mo ra at' := ⟨_, rfl⟩
      rw [← hV32] at S32 F32_17 F32_8
      try unfold put4 at hV32
      rw [← hV32]
      clear kp z0 z1 z2 z3 q0 q1 q2 q3 tl S31 F31_17 F31_8 hV32
      have hne : Nonempty (KW (w.heap.size + 1) w.heap.size V32) := kw_ne _
      refine plr_pull ?_
      simp only [cutOut, List.take_succ_cons, List.take_zero, List.drop_succ_cons, List.drop_zero, List.nil_append, List.cons_append, List.append_nil]
      repeat (first | go_big_quiet_step (fail) | quiet_step (fail))
      try refine wpQuiet_nil ?_
      clear hne
      refine plr_done ?_
      have FIN := hid (DtOut.mk S32.out X1 X2 Y1 Y2)
      obtain ⟨v0, v1, v2, v3⟩ := dt_cells S32.out
      clear S32 F32_17 F32_8
      go_wp2_with fail
      refine bodyPost_ret (v := .tuple #[.agg #[.int .i64 lv, .int .i64 mo, .int .i64 ra, .int .i64 at'], .int .i64 X, .int .i64 Y]) ?_ rfl FIN.out
      simp [results, Try.results5, go_sem, v0, v1, v2, v3]
    obtain ⟨z0, z1, z2, z3, q0, q1, q2, q3, tl⟩ := dt_store S30.out
    refine plr_step rfl (fun K hK => ?_)
    go_simp
    have kp := S30.out.kput lv mo ra at'
    refine hK _ _ (kw_of kp) ?_
    clear hK K
    have S33 := hid (S30.out.put lv mo ra at')
    have F33_8 := hid (F30_8.out.kept kp)
    obtain ⟨V33, hV33⟩ : ∃ V, V = put4 V30 w.heap.size lv mo ra at' := ⟨_, rfl⟩
    rw [← hV33] at S33 F33_8
    try unfold put4 at hV33
    rw [← hV33]
    clear kp z0 z1 z2 z3 q0 q1 q2 q3 tl S30 F30_8 hV33
    have hne : Nonempty (KW (w.heap.size + 1) w.heap.size V33) := kw_ne _
    refine plr_pull ?_
    simp only [cutOut, List.take_succ_cons, List.take_zero, List.drop_succ_cons, List.drop_zero, List.append_nil]
    repeat (first | go_big_quiet_step (fail) | quiet_step (fail))
    try refine wpQuiet_nil ?_
    clear hne
    refine plr_step rfl (fun K hK => ?_)
    go_simp
    have kp := S33.out.klit (.cells #[.int .i64 r16, .int .i64 0, .int .i64 (-1)] 3)
    refine hK _ _ (kw_of kp) ?_
    clear hK K
    have S34 := hid (S33.out.lit (.cells #[.int .i64 r16, .int .i64 0, .int .i64 (-1)] 3))
    have F34_17 := hid (S33.out.litAt #[.int .i64 r16, .int .i64 0, .int .i64 (-1)])
    have F34_8 := hid (F33_8.out.kept kp)
    obtain ⟨V34, hV34⟩ : ∃ V, V = V33.alloc (.cells #[.int .i64 r16, .int .i64 0, .int .i64 (-1)] 3) := ⟨_, rfl⟩
    obtain ⟨A17, hA17⟩ : ∃ A, A = V33.heap.size := ⟨_, rfl⟩
    rw [← hV34] at S34 F34_17 F34_8
    rw [← hA17] at F34_17
    rw [← hV34, ← hA17]
    clear kp S33 F33_8 hV34 hA17
    obtain ⟨Y, hY0, Y1, Y2⟩ := numsB3 r16 0 (r19 * 3 / 10).toNat (by omega) (by omega)
    have hY := kw_cell F34_17.out _ hY0
    clear hY0
    have hne : Nonempty (KW (w.heap.size + 1) w.heap.size V34) := kw_ne _
    refine plr_pull ?_
    simp only [cutOut, List.take_succ_cons, List.take_zero, List.drop_succ_cons, List.drop_zero, List.nil_append, List.cons_append, List.append_nil]
    repeat (first | go_big_quiet_step (fail) | quiet_step (fail))
    try refine wpQuiet_nil ?_
    clear hne
    clear hY
    refine plr_done ?_
    have FIN := hid (DtOut.mk S34.out X1 X2 Y1 Y2)
    obtain ⟨v0, v1, v2, v3⟩ := dt_cells S34.out
    clear S34 F34_17 F34_8
    go_wp2_with fail
    refine bodyPost_ret (v := .tuple #[.agg #[.int .i64 lv, .int .i64 mo, .int .i64 ra, .int .i64 at'], .int .i64 X, .int .i64 Y]) ?_ rfl FIN.out
    simp [results, Try.results5, go_sem, v0, v1, v2, v3]
  refine plr_fork ?_ ?_
  · refine plr_step rfl (fun K hK => ?_)
    go_simp
    have kp := S25.out.klit (.cells #[.int .i64 r16, .int .i64 0, .int .i64 (-1)] 3)
    refine hK _ _ (kw_of kp) ?_
    clear hK K
    have S35 := hid (S25.out.lit (.cells #[.int .i64 r16, .int .i64 0, .int .i64 (-1)] 3))
    have R35 := hid (rdLit R25.out (.cells #[.int .i64 r16, .int .i64 0, .int .i64 (-1)] 3))
    have F35_17 := hid (S25.out.litAt #[.int .i64 r16, .int .i64 0, .int .i64 (-1)])
    obtain ⟨V35, hV35⟩ : ∃ V, V = V25.alloc (.cells #[.int .i64 r16, .int .i64 0, .int .i64 (-1)] 3) := ⟨_, rfl⟩
    obtain ⟨A17, hA17⟩ : ∃ A, A = V25.heap.size := ⟨_, rfl⟩
    rw [← hV35] at S35 F35_17 R35
    rw [← hA17] at F35_17
    rw [← hV35, ← hA17]
    clear kp S25 R25  hV35 hA17
    refine plr_fork ?_ ?_
    · refine plr_step rfl (fun K hK => ?_)
      go_simp
      have kp := S35.out.klit (.cells #[.int .i64 (at' + r4), .int .i64 r7, .int .i64 (-1)] 3)
      refine hK _ _ (kw_of kp) ?_
      clear hK K
      have S36 := hid (S35.out.lit (.cells #[.int .i64 (at' + r4), .int .i64 r7, .int .i64 (-1)] 3))
      have R36 := hid (rdLit R35.out (.cells #[.int .i64 (at' + r4), .int .i64 r7, .int .i64 (-1)] 3))
      have F36_8 := hid (S35.out.litAt #[.int .i64 (at' + r4), .int .i64 r7, .int .i64 (-1)])
      have F36_17 := hid (F35_17.out.kept kp)
      obtain ⟨V36, hV36⟩ : ∃ V, V = V35.alloc (.cells #[.int .i64 (at' + r4), .int .i64 r7, .int .i64 (-1)] 3) := ⟨_, rfl⟩
      obtain ⟨A8, hA8⟩ : ∃ A, A = V35.heap.size := ⟨_, rfl⟩
      rw [← hV36] at S36 F36_17 F36_8 R36
      rw [← hA8] at F36_8
      rw [← hV36, ← hA8]
      clear kp S35 R35 F35_17 hV36 hA8
      obtain ⟨X, hX0, X1, X2⟩ := numsB3 (at' + r4) r7 (r10 * 3 / 12).toNat (by omega) (by omega)
      have hX := kw_cell F36_8.out _ hX0
      clear hX0
      have hne : Nonempty (KW (w.heap.size + 1) w.heap.size V36) := kw_ne _
      refine plr_pull ?_
      simp only [cutOut, List.take_succ_cons, List.take_zero, List.drop_succ_cons, List.drop_zero, List.nil_append, List.cons_append, List.append_nil]
      repeat (first | go_big_quiet_step (fail) | quiet_step (fail))
      try refine wpQuiet_nil ?_
      clear hne
      clear hX
      refine plr_step rfl (fun K hK => ?_)
      go_simp
      with_reducible refine (pick_any (w.heap.size + 1) (q + 4) 10 _ R36.out (by omega) (by omega) (by omega)).mono ?_
      rintro _ V37 ⟨r19, rfl, r19a, r19b, hr, ht⟩
      have kp := S36.out.ktouch ht
      refine hK _ _ (kw_of kp) ?_
      clear hK K
      have S37 := hid (S36.out.touch ht)
      have R37 := hid hr
      have F37_8 := hid (F36_8.out.kept kp)
      have F37_17 := hid (F36_17.out.kept kp)
      clear kp ht hr S36 R36 F36_17 F36_8
      clear R37
      have hp1 : 0 ≤ r19 * 3 / 10 := by omega
      have hp2 : r19 * 3 / 10 < 3 := by omega
      have hn1 := wrap_small (r19 * 3) (by omega) (by omega)
      have hn2 := tdiv_small (r19 * 3) 10 (by omega)
      have hn3 := wrap_small (r19 * 3 / 10) (by omega) (by omega)
      obtain ⟨Y, hY0, Y1, Y2⟩ := numsB3 r16 0 (r19 * 3 / 10).toNat (by omega) (by omega)
      have hY := kw_cell F37_17.out _ hY0
      clear hY0
      have hne : Nonempty (KW (w.heap.size + 1) w.heap.size V37) := kw_ne _
      refine plr_pull ?_
      simp only [cutOut, List.take_succ_cons, List.take_zero, List.drop_succ_cons, List.drop_zero, List.nil_append, List.cons_append, List.append_nil]
      repeat (first | go_big_quiet_step (fail) | quiet_step (fail))
      try refine wpQuiet_nil ?_
      clear hne
      clear hY
      obtain ⟨z0, z1, z2, z3, q0, q1, q2, q3, tl⟩ := dt_store S37.out
      refine plr_step rfl (fun K hK => ?_)
      go_simp
      have kp := S37.out.kput lv mo ra at'
      refine hK _ _ (kw_of kp) ?_
      clear hK K
      have S38 := hid (S37.out.put lv mo ra at')
      have F38_8 := hid (F37_8.out.kept kp)
      have F38_17 := hid (F37_17.out.kept kp)
      obtain ⟨V38, hV38⟩ : ∃ V, V = put4 V37 w.heap.size lv mo ra at' := ⟨_, rfl⟩
      rw [← hV38] at S38 F38_17 F38_8
      try unfold put4 at hV38
      rw [← hV38]
      clear kp z0 z1 z2 z3 q0 q1 q2 q3 tl S37 F37_17 F37_8 hV38
      have hne : Nonempty (KW (w.heap.size + 1) w.heap.size V38) := kw_ne _
      refine plr_pull ?_
      simp only [cutOut, List.take_succ_cons, List.take_zero, List.drop_succ_cons, List.drop_zero, List.nil_append, List.cons_append, List.append_nil]
      repeat (first | go_big_quiet_step (fail) | quiet_step (fail))
      try refine wpQuiet_nil ?_
      clear hne
      refine plr_done ?_
      have FIN := hid (DtOut.mk S38.out X1 X2 Y1 Y2)
      obtain ⟨v0, v1, v2, v3⟩ := dt_cells S38.out
      clear S38 F38_17 F38_8
      go_wp2_with fail
      refine bodyPost_ret (v := .tuple #[.agg #[.int .i64 lv, .int .i64 mo, .int .i64 ra, .int .i64 at'], .int .i64 X, .int .i64 Y]) ?_ rfl FIN.out
      simp [results, Try.results5, go_sem, v0, v1, v2, v3]
    refine plr_step rfl (fun K hK => ?_)
    go_simp
    with_reducible refine (pick_any (w.heap.size + 1) (q + 4) 10 _ R35.out (by omega) (by omega) (by omega)).mono ?_
    rintro _ V39 ⟨r19, rfl, r19a, r19b, hr, ht⟩
    have kp := S35.out.ktouch ht
    refine hK _ _ (kw_of kp) ?_
    clear hK K
    have S39 := hid (S35.out.touch ht)
    have R39 := hid hr
    have F39_17 := hid (F35_17.out.kept kp)
    clear kp ht hr S35 R35 F35_17
    clear R39
    have hp1 : 0 ≤ r19 * 3 / 10 := by omega
    have hp2 : r19 * 3 / 10 < 3 := by omega
    have hn1 := wrap_small (r19 * 3) (by omega) (by omega)
    have hn2 := tdiv_small (r19 * 3) 10 (by omega)
    have hn3 := wrap_small (r19 * 3 / 10) (by omega) (by omega)
    obtain ⟨Y, hY0, Y1, Y2⟩ := numsB3 r16 0 (r19 * 3 / 10).toNat (by omega) (by omega)
    have hY := kw_cell F39_17.out _ hY0
    clear hY0
    have hne : Nonempty (KW (w.heap.size + 1) w.heap.size V39) := kw_ne _
    refine plr_pull ?_
    simp only [cutOut, List.take_succ_cons, List.take_zero, List.drop_succ_cons, List.drop_zero, List.nil_append, List.cons_append, List.append_nil]
    repeat (first | go_big_quiet_step (fail) | quiet_step (fail))
    try refine wpQuiet_nil ?_
    clear hne
    clear hY
    refine plr_fork ?_ ?_
    · refine plr_step rfl (fun K hK => ?_)
      go_simp
      have kp := S39.out.klit (.cells #[.int .i64 (at' + r4), .int .i64 r7, .int .i64 (-1)] 3)
      refine hK _ _ (kw_of kp) ?_
      clear hK K
      have S40 := hid (S39.out.lit (.cells #[.int .i64 (at' + r4), .int .i64 r7, .int .i64 (-1)] 3))
      have F40_8 := hid (S39.out.litAt #[.int .i64 (at' + r4), .int .i64 r7, .int .i64 (-1)])
      have F40_17 := hid (F39_17.out.kept kp)
      obtain ⟨V40, hV40⟩ : ∃ V, V = V39.alloc (.cells #[.int .i64 (at' + r4), .int .i64 r7, .int .i64 (-1)] 3) := ⟨_, rfl⟩
      obtain ⟨A8, hA8⟩ : ∃ A, A = V39.heap.size := ⟨_, rfl⟩
      rw [← hV40] at S40 F40_17 F40_8
      rw [← hA8] at F40_8
      rw [← hV40, ← hA8]
      clear kp S39 F39_17 hV40 hA8
      obtain ⟨X, hX0, X1, X2⟩ := numsB3 (at' + r4) r7 (r10 * 3 / 12).toNat (by omega) (by omega)
      have hX := kw_cell F40_8.out _ hX0
      clear hX0
      have hne : Nonempty (KW (w.heap.size + 1) w.heap.size V40) := kw_ne _
      refine plr_pull ?_
      simp only [cutOut, List.take_succ_cons, List.take_zero, List.drop_succ_cons, List.drop_zero, List.nil_append, List.cons_append, List.append_nil]
      repeat (first | go_big_quiet_step (fail) | quiet_step (fail))
      try refine wpQuiet_nil ?_
      clear hne
      clear hX
      obtain ⟨z0, z1, z2, z3, q0, q1, q2, q3, tl⟩ := dt_store S40.out
      refine plr_step rfl (fun K hK => ?_)
      go_simp
      have kp := S40.out.kput lv mo ra at'
      refine hK _ _ (kw_of kp) ?_
      clear hK K
      have S41 := hid (S40.out.put lv mo ra at')
      have F41_8 := hid (F40_8.out.kept kp)
      have F41_17 := hid (F40_17.out.kept kp)
      obtain ⟨V41, hV41⟩ : ∃ V, V = put4 V40 w.heap.size lv mo ra at' := ⟨_, rfl⟩
      rw [← hV41] at S41 F41_17 F41_8
      try unfold put4 at hV41
      rw [← hV41]
      clear kp z0 z1 z2 z3 q0 q1 q2 q3 tl S40 F40_17 F40_8 hV41
      have hne : Nonempty (KW (w.heap.size + 1) w.heap.size V41) := kw_ne _
      refine plr_pull ?_
      simp only [cutOut, List.take_succ_cons, List.take_zero, List.drop_succ_cons, List.drop_zero, List.nil_append, List.cons_append, List.append_nil]
      repeat (first | go_big_quiet_step (fail) | quiet_step (fail))
      try refine wpQuiet_nil ?_
      clear hne
      refine plr_done ?_
      have FIN := hid (DtOut.mk S41.out X1 X2 Y1 Y2)
      obtain ⟨v0, v1, v2, v3⟩ := dt_cells S41.out
      clear S41 F41_17 F41_8
      go_wp2_with fail
      refine bodyPost_ret (v := .tuple #[.agg #[.int .i64 lv, .int .i64 mo, .int .i64 ra, .int .i64 at'], .int .i64 X, .int .i64 Y]) ?_ rfl FIN.out
      simp [results, Try.results5, go_sem, v0, v1, v2, v3]
    obtain ⟨z0, z1, z2, z3, q0, q1, q2, q3, tl⟩ := dt_store S39.out
    refine plr_step rfl (fun K hK => ?_)
    go_simp
    have kp := S39.out.kput lv mo ra at'
    refine hK _ _ (kw_of kp) ?_
    clear hK K
    have S42 := hid (S39.out.put lv mo ra at')
    have F42_17 := hid (F39_17.out.kept kp)
    obtain ⟨V42, hV42⟩ : ∃ V, V = put4 V39 w.heap.size lv mo ra at' := ⟨_, rfl⟩
    rw [← hV42] at S42 F42_17
    try unfold put4 at hV42
    rw [← hV42]
    clear kp z0 z1 z2 z3 q0 q1 q2 q3 tl S39 F39_17 hV42
    refine plr_step rfl (fun K hK => ?_)
    go_simp
    have kp := S42.out.klit (.cells #[.int .i64 (at' + r4), .int .i64 r7, .int .i64 (-1)] 3)
    refine hK _ _ (kw_of kp) ?_
    clear hK K
    have S43 := hid (S42.out.lit (.cells #[.int .i64 (at' + r4), .int .i64 r7, .int .i64 (-1)] 3))
    have F43_8 := hid (S42.out.litAt #[.int .i64 (at' + r4), .int .i64 r7, .int .i64 (-1)])
    have F43_17 := hid (F42_17.out.kept kp)
    obtain ⟨V43, hV43⟩ : ∃ V, V = V42.alloc (.cells #[.int .i64 (at' + r4), .int .i64 r7, .int .i64 (-1)] 3) := ⟨_, rfl⟩
    obtain ⟨A8, hA8⟩ : ∃ A, A = V42.heap.size := ⟨_, rfl⟩
    rw [← hV43] at S43 F43_17 F43_8
    rw [← hA8] at F43_8
    rw [← hV43, ← hA8]
    clear kp S42 F42_17 hV43 hA8
    obtain ⟨X, hX0, X1, X2⟩ := numsB3 (at' + r4) r7 (r10 * 3 / 12).toNat (by omega) (by omega)
    have hX := kw_cell F43_8.out _ hX0
    clear hX0
    have hne : Nonempty (KW (w.heap.size + 1) w.heap.size V43) := kw_ne _
    refine plr_pull ?_
    simp only [cutOut, List.take_succ_cons, List.take_zero, List.drop_succ_cons, List.drop_zero, List.nil_append, List.cons_append, List.append_nil]
    repeat (first | go_big_quiet_step (fail) | quiet_step (fail))
    try refine wpQuiet_nil ?_
    clear hne
    clear hX
    refine plr_done ?_
    have FIN := hid (DtOut.mk S43.out X1 X2 Y1 Y2)
    obtain ⟨v0, v1, v2, v3⟩ := dt_cells S43.out
    clear S43 F43_17 F43_8
    go_wp2_with fail
    refine bodyPost_ret (v := .tuple #[.agg #[.int .i64 lv, .int .i64 mo, .int .i64 ra, .int .i64 at'], .int .i64 X, .int .i64 Y]) ?_ rfl FIN.out
    simp [results, Try.results5, go_sem, v0, v1, v2, v3]
  refine plr_step rfl (fun K hK => ?_)
  go_simp
  with_reducible refine (pick_any (w.heap.size + 1) (q + 4) 10 _ R25.out (by omega) (by omega) (by omega)).mono ?_
  rintro _ V44 ⟨r19, rfl, r19a, r19b, hr, ht⟩
  have kp := S25.out.ktouch ht
  refine hK _ _ (kw_of kp) ?_
  clear hK K
  have S44 := hid (S25.out.touch ht)
  have R44 := hid hr
  clear kp ht hr S25 R25 
  clear R44
  have hp1 : 0 ≤ r19 * 3 / 10 := by omega
  have hp2 : r19 * 3 / 10 < 3 := by omega
  have hn1 := wrap_small (r19 * 3) (by omega) (by omega)
  have hn2 := tdiv_small (r19 * 3) 10 (by omega)
  have hn3 := wrap_small (r19 * 3 / 10) (by omega) (by omega)
  have hne : Nonempty (KW (w.heap.size + 1) w.heap.size V44) := kw_ne _
  refine plr_pull ?_
  simp only [cutOut, List.take_succ_cons, List.take_zero, List.drop_succ_cons, List.drop_zero, List.nil_append, List.cons_append, List.append_nil]
  repeat (first | go_big_quiet_step (fail) | quiet_step (fail))
  try refine wpQuiet_nil ?_
  clear hne
  refine plr_fork ?_ ?_
  · refine plr_step rfl (fun K hK => ?_)
    go_simp
    have kp := S44.out.klit (.cells #[.int .i64 (at' + r4), .int .i64 r7, .int .i64 (-1)] 3)
    refine hK _ _ (kw_of kp) ?_
    clear hK K
    have S45 := hid (S44.out.lit (.cells #[.int .i64 (at' + r4), .int .i64 r7, .int .i64 (-1)] 3))
    have F45_8 := hid (S44.out.litAt #[.int .i64 (at' + r4), .int .i64 r7, .int .i64 (-1)])
    obtain ⟨V45, hV45⟩ : ∃ V, V = V44.alloc (.cells #[.int .i64 (at' + r4), .int .i64 r7, .int .i64 (-1)] 3) := ⟨_, rfl⟩
    obtain ⟨A8, hA8⟩ : ∃ A, A = V44.heap.size := ⟨_, rfl⟩
    rw [← hV45] at S45 F45_8
    rw [← hA8] at F45_8
    rw [← hV45, ← hA8]
    clear kp S44  hV45 hA8
    obtain ⟨X, hX0, X1, X2⟩ := numsB3 (at' + r4) r7 (r10 * 3 / 12).toNat (by omega) (by omega)
    have hX := kw_cell F45_8.out _ hX0
    clear hX0
    have hne : Nonempty (KW (w.heap.size + 1) w.heap.size V45) := kw_ne _
    refine plr_pull ?_
    simp only [cutOut, List.take_succ_cons, List.take_zero, List.drop_succ_cons, List.drop_zero, List.nil_append, List.cons_append, List.append_nil]
    repeat (first | go_big_quiet_step (fail) | quiet_step (fail))
    try refine wpQuiet_nil ?_
    clear hne
    clear hX
    refine plr_fork ?_ ?_
    · refine plr_step rfl (fun K hK => ?_)
      go_simp
      have kp := S45.out.klit (.cells #[.int .i64 r16, .int .i64 0, .int .i64 (-1)] 3)
      refine hK _ _ (kw_of kp) ?_
      clear hK K
      have S46 := hid (S45.out.lit (.cells #[.int .i64 r16, .int .i64 0, .int .i64 (-1)] 3))
      have F46_17 := hid (S45.out.litAt #[.int .i64 r16, .int .i64 0, .int .i64 (-1)])
      have F46_8 := hid (F45_8.out.kept kp)
      obtain ⟨V46, hV46⟩ : ∃ V, V = V45.alloc (.cells #[.int .i64 r16, .int .i64 0, .int .i64 (-1)] 3) := ⟨_, rfl⟩
      obtain ⟨A17, hA17⟩ : ∃ A, A = V45.heap.size := ⟨_, rfl⟩
      rw [← hV46] at S46 F46_17 F46_8
      rw [← hA17] at F46_17
      rw [← hV46, ← hA17]
      clear kp S45 F45_8 hV46 hA17
      obtain ⟨Y, hY0, Y1, Y2⟩ := numsB3 r16 0 (r19 * 3 / 10).toNat (by omega) (by omega)
      have hY := kw_cell F46_17.out _ hY0
      clear hY0
      have hne : Nonempty (KW (w.heap.size + 1) w.heap.size V46) := kw_ne _
      refine plr_pull ?_
      simp only [cutOut, List.take_succ_cons, List.take_zero, List.drop_succ_cons, List.drop_zero, List.nil_append, List.cons_append, List.append_nil]
      repeat (first | go_big_quiet_step (fail) | quiet_step (fail))
      try refine wpQuiet_nil ?_
      clear hne
      clear hY
      obtain ⟨z0, z1, z2, z3, q0, q1, q2, q3, tl⟩ := dt_store S46.out
      refine plr_step rfl (fun K hK => ?_)
      go_simp
      have kp := S46.out.kput lv mo ra at'
      refine hK _ _ (kw_of kp) ?_
      clear hK K
      have S47 := hid (S46.out.put lv mo ra at')
      have F47_17 := hid (F46_17.out.kept kp)
      have F47_8 := hid (F46_8.out.kept kp)
      obtain ⟨V47, hV47⟩ : ∃ V, V = put4 V46 w.heap.size lv mo ra at' := ⟨_, rfl⟩
      rw [← hV47] at S47 F47_17 F47_8
      try unfold put4 at hV47
      rw [← hV47]
      clear kp z0 z1 z2 z3 q0 q1 q2 q3 tl S46 F46_17 F46_8 hV47
      have hne : Nonempty (KW (w.heap.size + 1) w.heap.size V47) := kw_ne _
      refine plr_pull ?_
      simp only [cutOut, List.take_succ_cons, List.take_zero, List.drop_succ_cons, List.drop_zero, List.nil_append, List.cons_append, List.append_nil]
      repeat (first | go_big_quiet_step (fail) | quiet_step (fail))
      try refine wpQuiet_nil ?_
      clear hne
      refine plr_done ?_
      have FIN := hid (DtOut.mk S47.out X1 X2 Y1 Y2)
      obtain ⟨v0, v1, v2, v3⟩ := dt_cells S47.out
      clear S47 F47_17 F47_8
      go_wp2_with fail
      refine bodyPost_ret (v := .tuple #[.agg #[.int .i64 lv, .int .i64 mo, .int .i64 ra, .int .i64 at'], .int .i64 X, .int .i64 Y]) ?_ rfl FIN.out
      simp [results, Try.results5, go_sem, v0, v1, v2, v3]
    obtain ⟨z0, z1, z2, z3, q0, q1, q2, q3, tl⟩ := dt_store S45.out
    refine plr_step rfl (fun K hK => ?_)
    go_simp
    have kp := S45.out.kput lv mo ra at'
    refine hK _ _ (kw_of kp) ?_
    clear hK K
    have S48 := hid (S45.out.put lv mo ra at')
    have F48_8 := hid (F45_8.out.kept kp)
    obtain ⟨V48, hV48⟩ : ∃ V, V = put4 V45 w.heap.size lv mo ra at' := ⟨_, rfl⟩
    rw [← hV48] at S48 F48_8
    try unfold put4 at hV48
    rw [← hV48]
    clear kp z0 z1 z2 z3 q0 q1 q2 q3 tl S45 F45_8 hV48
    have hne : Nonempty (KW (w.heap.size + 1) w.heap.size V48) := kw_ne _
    refine plr_pull ?_
    simp only [cutOut, List.take_succ_cons, List.take_zero, List.drop_succ_cons, List.drop_zero, List.append_nil]
    repeat (first | go_big_quiet_step (fail) | quiet_step (fail))
    try refine wpQuiet_nil ?_
    clear hne
    refine plr_step rfl (fun K hK => ?_)
    go_simp
    have kp := S48.out.klit (.cells #[.int .i64 r16, .int .i64 0, .int .i64 (-1)] 3)
    refine hK _ _ (kw_of kp) ?_
    clear hK K
    have S49 := hid (S48.out.lit (.cells #[.int .i64 r16, .int .i64 0, .int .i64 (-1)] 3))
    have F49_17 := hid (S48.out.litAt #[.int .i64 r16, .int .i64 0, .int .i64 (-1)])
    have F49_8 := hid (F48_8.out.kept kp)
    obtain ⟨V49, hV49⟩ : ∃ V, V = V48.alloc (.cells #[.int .i64 r16, .int .i64 0, .int .i64 (-1)] 3) := ⟨_, rfl⟩
    obtain ⟨A17, hA17⟩ : ∃ A, A = V48.heap.size := ⟨_, rfl⟩
    rw [← hV49] at S49 F49_17 F49_8
    rw [← hA17] at F49_17
    rw [← hV49, ← hA17]
    clear kp S48 F48_8 hV49 hA17
    obtain ⟨Y, hY0, Y1, Y2⟩ := numsB3 r16 0 (r19 * 3 / 10).toNat (by omega) (by omega)
    have hY := kw_cell F49_17.out _ hY0
    clear hY0
    have hne : Nonempty (KW (w.heap.size + 1) w.heap.size V49) := kw_ne _
    refine plr_pull ?_
    simp only [cutOut, List.take_succ_cons, List.take_zero, List.drop_succ_cons, List.drop_zero, List.nil_append, List.cons_append, List.append_nil]
    repeat (first | go_big_quiet_step (fail) | quiet_step (fail))
    try refine wpQuiet_nil ?_
    clear hne
    clear hY
    refine plr_done ?_
    have FIN := hid (DtOut.mk S49.out X1 X2 Y1 Y2)
    obtain ⟨v0, v1, v2, v3⟩ := dt_cells S49.out
    clear S49 F49_17 F49_8
    go_wp2_with fail
    refine bodyPost_ret (v := .tuple #[.agg #[.int .i64 lv, .int .i64 mo, .int .i64 ra, .int .i64 at'], .int .i64 X, .int .i64 Y]) ?_ rfl FIN.out
    simp [results, Try.results5, go_sem, v0, v1, v2, v3]
  refine plr_fork ?_ ?_
  · refine plr_step rfl (fun K hK => ?_)
    go_simp
    have kp := S44.out.klit (.cells #[.int .i64 r16, .int .i64 0, .int .i64 (-1)] 3)
    refine hK _ _ (kw_of kp) ?_
    clear hK K
    have S50 := hid (S44.out.lit (.cells #[.int .i64 r16, .int .i64 0, .int .i64 (-1)] 3))
    have F50_17 := hid (S44.out.litAt #[.int .i64 r16, .int .i64 0, .int .i64 (-1)])
    obtain ⟨V50, hV50⟩ : ∃ V, V = V44.alloc (.cells #[.int .i64 r16, .int .i64 0, .int .i64 (-1)] 3) := ⟨_, rfl⟩
    obtain ⟨A17, hA17⟩ : ∃ A, A = V44.heap.size := ⟨_, rfl⟩
    rw [← hV50] at S50 F50_17
    rw [← hA17] at F50_17
    rw [← hV50, ← hA17]
    clear kp S44  hV50 hA17
    obtain ⟨Y, hY0, Y1, Y2⟩ := numsB3 r16 0 (r19 * 3 / 10).toNat (by omega) (by omega)
    have hY := kw_cell F50_17.out _ hY0
    clear hY0
    have hne : Nonempty (KW (w.heap.size + 1) w.heap.size V50) := kw_ne _
    refine plr_pull ?_
    simp only [cutOut, List.take_succ_cons, List.take_zero, List.drop_succ_cons, List.drop_zero, List.nil_append, List.cons_append, List.append_nil]
    repeat (first | go_big_quiet_step (fail) | quiet_step (fail))
    try refine wpQuiet_nil ?_
    clear hne
    clear hY
    refine plr_fork ?_ ?_
    · refine plr_step rfl (fun K hK => ?_)
      go_simp
      have kp := S50.out.klit (.cells #[.int .i64 (at' + r4), .int .i64 r7, .int .i64 (-1)] 3)
      refine hK _ _ (kw_of kp) ?_
      clear hK K
      have S51 := hid (S50.out.lit (.cells #[.int .i64 (at' + r4), .int .i64 r7, .int .i64 (-1)] 3))
      have F51_8 := hid (S50.out.litAt #[.int .i64 (at' + r4), .int .i64 r7, .int .i64 (-1)])
      have F51_17 := hid (F50_17.out.kept kp)
      obtain ⟨V51, hV51⟩ : ∃ V, V = V50.alloc (.cells #[.int .i64 (at' + r4), .int .i64 r7, .int .i64 (-1)] 3) := ⟨_, rfl⟩
      obtain ⟨A8, hA8⟩ : ∃ A, A = V50.heap.size := ⟨_, rfl⟩
      rw [← hV51] at S51 F51_17 F51_8
      rw [← hA8] at F51_8
      rw [← hV51, ← hA8]
      clear kp S50 F50_17 hV51 hA8
      obtain ⟨X, hX0, X1, X2⟩ := numsB3 (at' + r4) r7 (r10 * 3 / 12).toNat (by omega) (by omega)
      have hX := kw_cell F51_8.out _ hX0
      clear hX0
      have hne : Nonempty (KW (w.heap.size + 1) w.heap.size V51) := kw_ne _
      refine plr_pull ?_
      simp only [cutOut, List.take_succ_cons, List.take_zero, List.drop_succ_cons, List.drop_zero, List.nil_append, List.cons_append, List.append_nil]
      repeat (first | go_big_quiet_step (fail) | quiet_step (fail))
      try refine wpQuiet_nil ?_
      clear hne
      clear hX
      obtain ⟨z0, z1, z2, z3, q0, q1, q2, q3, tl⟩ := dt_store S51.out
      refine plr_step rfl (fun K hK => ?_)
      go_simp
      have kp := S51.out.kput lv mo ra at'
      refine hK _ _ (kw_of kp) ?_
      clear hK K
      have S52 := hid (S51.out.put lv mo ra at')
      have F52_8 := hid (F51_8.out.kept kp)
      have F52_17 := hid (F51_17.out.kept kp)
      obtain ⟨V52, hV52⟩ : ∃ V, V = put4 V51 w.heap.size lv mo ra at' := ⟨_, rfl⟩
      rw [← hV52] at S52 F52_17 F52_8
      try unfold put4 at hV52
      rw [← hV52]
      clear kp z0 z1 z2 z3 q0 q1 q2 q3 tl S51 F51_17 F51_8 hV52
      have hne : Nonempty (KW (w.heap.size + 1) w.heap.size V52) := kw_ne _
      refine plr_pull ?_
      simp only [cutOut, List.take_succ_cons, List.take_zero, List.drop_succ_cons, List.drop_zero, List.nil_append, List.cons_append, List.append_nil]
      repeat (first | go_big_quiet_step (fail) | quiet_step (fail))
      try refine wpQuiet_nil ?_
      clear hne
      refine plr_done ?_
      have FIN := hid (DtOut.mk S52.out X1 X2 Y1 Y2)
      obtain ⟨v0, v1, v2, v3⟩ := dt_cells S52.out
      clear S52 F52_17 F52_8
      go_wp2_with fail
      refine bodyPost_ret (v := .tuple #[.agg #[.int .i64 lv, .int .i64 mo, .int .i64 ra, .int .i64 at'], .int .i64 X, .int .i64 Y]) ?_ rfl FIN.out
      simp [results, Try.results5, go_sem, v0, v1, v2, v3]
    obtain ⟨z0, z1, z2, z3, q0, q1, q2, q3, tl⟩ := dt_store S50.out
    refine plr_step rfl (fun K hK => ?_)
    go_simp
    have kp := S50.out.kput lv mo ra at'
    refine hK _ _ (kw_of kp) ?_
    clear hK K
    have S53 := hid (S50.out.put lv mo ra at')
    have F53_17 := hid (F50_17.out.kept kp)
    obtain ⟨V53, hV53⟩ : ∃ V, V = put4 V50 w.heap.size lv mo ra at' := ⟨_, rfl⟩
    rw [← hV53] at S53 F53_17
    try unfold put4 at hV53
    rw [← hV53]
    clear kp z0 z1 z2 z3 q0 q1 q2 q3 tl S50 F50_17 hV53
    refine plr_step rfl (fun K hK => ?_)
    go_simp
    have kp := S53.out.klit (.cells #[.int .i64 (at' + r4), .int .i64 r7, .int .i64 (-1)] 3)
    refine hK _ _ (kw_of kp) ?_
    clear hK K
    have S54 := hid (S53.out.lit (.cells #[.int .i64 (at' + r4), .int .i64 r7, .int .i64 (-1)] 3))
    have F54_8 := hid (S53.out.litAt #[.int .i64 (at' + r4), .int .i64 r7, .int .i64 (-1)])
    have F54_17 := hid (F53_17.out.kept kp)
    obtain ⟨V54, hV54⟩ : ∃ V, V = V53.alloc (.cells #[.int .i64 (at' + r4), .int .i64 r7, .int .i64 (-1)] 3) := ⟨_, rfl⟩
    obtain ⟨A8, hA8⟩ : ∃ A, A = V53.heap.size := ⟨_, rfl⟩
    rw [← hV54] at S54 F54_17 F54_8
    rw [← hA8] at F54_8
    rw [← hV54, ← hA8]
    clear kp S53 F53_17 hV54 hA8
    obtain ⟨X, hX0, X1, X2⟩ := numsB3 (at' + r4) r7 (r10 * 3 / 12).toNat (by omega) (by omega)
    have hX := kw_cell F54_8.out _ hX0
    clear hX0
    have hne : Nonempty (KW (w.heap.size + 1) w.heap.size V54) := kw_ne _
    refine plr_pull ?_
    simp only [cutOut, List.take_succ_cons, List.take_zero, List.drop_succ_cons, List.drop_zero, List.nil_append, List.cons_append, List.append_nil]
    repeat (first | go_big_quiet_step (fail) | quiet_step (fail))
    try refine wpQuiet_nil ?_
    clear hne
    clear hX
    refine plr_done ?_
    have FIN := hid (DtOut.mk S54.out X1 X2 Y1 Y2)
    obtain ⟨v0, v1, v2, v3⟩ := dt_cells S54.out
    clear S54 F54_17 F54_8
    go_wp2_with fail
    refine bodyPost_ret (v := .tuple #[.agg #[.int .i64 lv, .int .i64 mo, .int .i64 ra, .int .i64 at'], .int .i64 X, .int .i64 Y]) ?_ rfl FIN.out
    simp [results, Try.results5, go_sem, v0, v1, v2, v3]
  obtain ⟨z0, z1, z2, z3, q0, q1, q2, q3, tl⟩ := dt_store S44.out
  refine plr_step rfl (fun K hK => ?_)
  go_simp
  have kp := S44.out.kput lv mo ra at'
  refine hK _ _ (kw_of kp) ?_
  clear hK K
  have S55 := hid (S44.out.put lv mo ra at')
  obtain ⟨V55, hV55⟩ : ∃ V, V = put4 V44 w.heap.size lv mo ra at' := ⟨_, rfl⟩
  rw [← hV55] at S55 
  try unfold put4 at hV55
  rw [← hV55]
  clear kp z0 z1 z2 z3 q0 q1 q2 q3 tl S44  hV55
  refine plr_fork ?_ ?_
  · refine plr_step rfl (fun K hK => ?_)
    go_simp
    have kp := S55.out.klit (.cells #[.int .i64 (at' + r4), .int .i64 r7, .int .i64 (-1)] 3)
    refine hK _ _ (kw_of kp) ?_
    clear hK K
    have S56 := hid (S55.out.lit (.cells #[.int .i64 (at' + r4), .int .i64 r7, .int .i64 (-1)] 3))
    have F56_8 := hid (S55.out.litAt #[.int .i64 (at' + r4), .int .i64 r7, .int .i64 (-1)])
    obtain ⟨V56, hV56⟩ : ∃ V, V = V55.alloc (.cells #[.int .i64 (at' + r4), .int .i64 r7, .int .i64 (-1)] 3) := ⟨_, rfl⟩
    obtain ⟨A8, hA8⟩ : ∃ A, A = V55.heap.size := ⟨_, rfl⟩
    rw [← hV56] at S56 F56_8
    rw [← hA8] at F56_8
    rw [← hV56, ← hA8]
    clear kp S55  hV56 hA8
    obtain ⟨X, hX0, X1, X2⟩ := numsB3 (at' + r4) r7 (r10 * 3 / 12).toNat (by omega) (by omega)
    have hX := kw_cell F56_8.out _ hX0
    clear hX0
    have hne : Nonempty (KW (w.heap.size + 1) w.heap.size V56) := kw_ne _
    refine plr_pull ?_
    simp only [cutOut, List.take_succ_cons, List.take_zero, List.drop_succ_cons, List.drop_zero, List.nil_append, List.cons_append, List.append_nil]
    repeat (first | go_big_quiet_step (fail) | quiet_step (fail))
    try refine wpQuiet_nil ?_
    clear hne
    clear hX
    refine plr_step rfl (fun K hK => ?_)
    go_simp
    have kp := S56.out.klit (.cells #[.int .i64 r16, .int .i64 0, .int .i64 (-1)] 3)
    refine hK _ _ (kw_of kp) ?_
    clear hK K
    have S57 := hid (S56.out.lit (.cells #[.int .i64 r16, .int .i64 0, .int .i64 (-1)] 3))
    have F57_17 := hid (S56.out.litAt #[.int .i64 r16, .int .i64 0, .int .i64 (-1)])
    have F57_8 := hid (F56_8.out.kept kp)
    obtain ⟨V57, hV57⟩ : ∃ V, V = V56.alloc (.cells #[.int .i64 r16, .int .i64 0, .int .i64 (-1)] 3) := ⟨_, rfl⟩
    obtain ⟨A17, hA17⟩ : ∃ A, A = V56.heap.size := ⟨_, rfl⟩
    rw [← hV57] at S57 F57_17 F57_8
    rw [← hA17] at F57_17
    rw [← hV57, ← hA17]
    clear kp S56 F56_8 hV57 hA17
    obtain ⟨Y, hY0, Y1, Y2⟩ := numsB3 r16 0 (r19 * 3 / 10).toNat (by omega) (by omega)
    have hY := kw_cell F57_17.out _ hY0
    clear hY0
    have hne : Nonempty (KW (w.heap.size + 1) w.heap.size V57) := kw_ne _
    refine plr_pull ?_
    simp only [cutOut, List.take_succ_cons, List.take_zero, List.drop_succ_cons, List.drop_zero, List.nil_append, List.cons_append, List.append_nil]
    repeat (first | go_big_quiet_step (fail) | quiet_step (fail))
    try refine wpQuiet_nil ?_
    clear hne
    clear hY
    refine plr_done ?_
    have FIN := hid (DtOut.mk S57.out X1 X2 Y1 Y2)
    obtain ⟨v0, v1, v2, v3⟩ := dt_cells S57.out
    clear S57 F57_17 F57_8
    go_wp2_with fail
    refine bodyPost_ret (v := .tuple #[.agg #[.int .i64 lv, .int .i64 mo, .int .i64 ra, .int .i64 at'], .int .i64 X, .int .i64 Y]) ?_ rfl FIN.out
    simp [results, Try.results5, go_sem, v0, v1, v2, v3]
  refine plr_step rfl (fun K hK => ?_)
  go_simp
  have kp := S55.out.klit (.cells #[.int .i64 r16, .int .i64 0, .int .i64 (-1)] 3)
  refine hK _ _ (kw_of kp) ?_
  clear hK K
  have S58 := hid (S55.out.lit (.cells #[.int .i64 r16, .int .i64 0, .int .i64 (-1)] 3))
  have F58_17 := hid (S55.out.litAt #[.int .i64 r16, .int .i64 0, .int .i64 (-1)])
  obtain ⟨V58, hV58⟩ : ∃ V, V = V55.alloc (.cells #[.int .i64 r16, .int .i64 0, .int .i64 (-1)] 3) := ⟨_, rfl⟩
  obtain ⟨A17, hA17⟩ : ∃ A, A = V55.heap.size := ⟨_, rfl⟩
  rw [← hV58] at S58 F58_17
  rw [← hA17] at F58_17
  rw [← hV58, ← hA17]
  clear kp S55  hV58 hA17
  obtain ⟨Y, hY0, Y1, Y2⟩ := numsB3 r16 0 (r19 * 3 / 10).toNat (by omega) (by omega)
  have hY := kw_cell F58_17.out _ hY0
  clear hY0
  have hne : Nonempty (KW (w.heap.size + 1) w.heap.size V58) := kw_ne _
  refine plr_pull ?_
  simp only [cutOut, List.take_succ_cons, List.take_zero, List.drop_succ_cons, List.drop_zero, List.nil_append, List.cons_append, List.append_nil]
  repeat (first | go_big_quiet_step (fail) | quiet_step (fail))
  try refine wpQuiet_nil ?_
  clear hne
  clear hY
  refine plr_step rfl (fun K hK => ?_)
  go_simp
  have kp := S58.out.klit (.cells #[.int .i64 (at' + r4), .int .i64 r7, .int .i64 (-1)] 3)
  refine hK _ _ (kw_of kp) ?_
  clear hK K
  have S59 := hid (S58.out.lit (.cells #[.int .i64 (at' + r4), .int .i64 r7, .int .i64 (-1)] 3))
  have F59_8 := hid (S58.out.litAt #[.int .i64 (at' + r4), .int .i64 r7, .int .i64 (-1)])
  have F59_17 := hid (F58_17.out.kept kp)
  obtain ⟨V59, hV59⟩ : ∃ V, V = V58.alloc (.cells #[.int .i64 (at' + r4), .int .i64 r7, .int .i64 (-1)] 3) := ⟨_, rfl⟩
  obtain ⟨A8, hA8⟩ : ∃ A, A = V58.heap.size := ⟨_, rfl⟩
  rw [← hV59] at S59 F59_17 F59_8
  rw [← hA8] at F59_8
  rw [← hV59, ← hA8]
  clear kp S58 F58_17 hV59 hA8
  obtain ⟨X, hX0, X1, X2⟩ := numsB3 (at' + r4) r7 (r10 * 3 / 12).toNat (by omega) (by omega)
  have hX := kw_cell F59_8.out _ hX0
  clear hX0
  have hne : Nonempty (KW (w.heap.size + 1) w.heap.size V59) := kw_ne _
  refine plr_pull ?_
  simp only [cutOut, List.take_succ_cons, List.take_zero, List.drop_succ_cons, List.drop_zero, List.nil_append, List.cons_append, List.append_nil]
  repeat (first | go_big_quiet_step (fail) | quiet_step (fail))
  try refine wpQuiet_nil ?_
  clear hne
  clear hX
  refine plr_done ?_
  have FIN := hid (DtOut.mk S59.out X1 X2 Y1 Y2)
  obtain ⟨v0, v1, v2, v3⟩ := dt_cells S59.out
  clear S59 F59_17 F59_8
  go_wp2_with fail
  refine bodyPost_ret (v := .tuple #[.agg #[.int .i64 lv, .int .i64 mo, .int .i64 ra, .int .i64 at'], .int .i64 X, .int .i64 Y]) ?_ rfl FIN.out
  simp [results, Try.results5, go_sem, v0, v1, v2, v3]
end Go.Proofs.Ytgdmhodipjfkoaa
