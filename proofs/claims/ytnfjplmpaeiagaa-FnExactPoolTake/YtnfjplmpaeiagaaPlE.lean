/- Editions dropped of a pool that is ok, by the program. -/
import Derived.Test.YtnfjplmpaeiagaaPlD
import Derived.Test.YtnfjplmpaeiagaaNdS
namespace Go.Proofs.Ytnfjplmpaeiagaa
open Go.ChangeShapes Go.WideShapes Go.ChangeAt Go.RowKit Go.Sort Go.Shelf
attribute [local go_sem] Oper.semAt_some

set_option maxHeartbeats 4000000 in
theorem implPoolDrop_yes (a : Option Addr) (cap : Nat) (fs : List Fr) (m : Nat) (ed : Int) (w : World) (ha : FrsAt w a fs) (hp : poolP fs m) :
    Calls Try.prog 20 #[.agg #[.slice a fs.length cap, .int .i64 m], .int .i64 ed] w fun e w' => ∃ v, e = .returned v ∧ PoolO w w' (fs.map (dropF ed)) m v := by
  have h8 := hp.1
  have hm : m < 8 := by have := hp.2.1; omega
  have D := hid (show decide (framesP fs ∧ housesP fs) = true from decide_eq_true hp.2.2)
  have HA := hid ha
  rw [h8]
  clear ha hp
  refine (callsIn_wide (n := 9)).1 ?_
  refine callsIn_of_wp_marks Try.func20 rfl trivial ?_ rfl
  simp only [Try.ntmps20, List.size_toArray, List.length_cons, List.length_nil, Nat.reduceAdd, Nat.reduceSub, Array.replicate_succ, Array.replicate_zero, List.push_toArray, List.append_toArray, List.nil_append, List.cons_append]
  gi_wp2_with fail
  refine ⟨trivial, ?_⟩
  gi_at_call 28
  refine (callsIn_wide.2 (ringOf_in a cap fs m _ (HA.out.below (u_b3 _ _ _ _)) h8 hm)).mono ?_
  rw [D.out]
  rintro e w1 ⟨g, rfl, N1, b1⟩
  simp only [World.size_alloc] at N1
  obtain ⟨-, E1, R1, B1⟩ := u_box3 b1
  have hz1 := b1.size
  simp at hz1
  clear b1
  gi_wp2_with (refine ⟨trivial, ?_⟩; gi_at_call 39; refine (callsIn_wide.2 (round_in _ _ _)).mono ?_; rintro e w' ⟨rfl, rfl⟩)
  obtain ⟨W0, hW0⟩ : ∃ W0, W0 = ((w1.alloc (.cells #[.pointer (some ⟨g, 0, none⟩), .pointer (some ⟨g, m * 7, none⟩)] 49)).alloc (.cells #[.pointer (some ⟨g, 0, none⟩)] 47)).alloc (.cells #[.int .i64 8] 3) := ⟨_, rfl⟩
  rw [← hW0]
  obtain ⟨X0, X3, X4, b0⟩ := u_box3 (w := w1) (c := #[.pointer (some ⟨g, 0, none⟩), .pointer (some ⟨g, m * 7, none⟩)]) (t := 49) (d := #[.pointer (some ⟨g, 0, none⟩)]) (s := 47) (f := #[.int .i64 8]) (r := 3) (w1 := W0) (by rw [hW0]; exact Below.refl _ _)
  have Z0 : W0.heap.size = w1.heap.size + 3 := by rw [hW0]; simp
  clear hW0
  have B0 := u_catn B1 (Nat.le_refl _) b0
  have E0 := kept E1 b0
  have R0 := kept R1 b0
  have hgw := N1.lt
  have N0 := N1.below b0 N1.lt.2
  clear N1 E1 R1 B1
  refine wpIn_rangeFunc_ownG (α := Fin 8) rfl (by omega) (gf := 53) (lb := #[.pointer (some ⟨w1.heap.size + 1, 0, none⟩), .pointer (some ⟨w1.heap.size + 1 + 1, 0, none⟩)]) rfl trivial (enters_of Try.func53 (by kernel_rfl) rfl)
    (round_stops (9 - 1) g 0 8 _ _ (by omega) (by omega) (KeepsWay g) (fun W W' h k => k h) W0 (box_cell X3 0 rfl) (box_cell X4 0 rfl) N0.leads)
    keepsWay_t (keepsWay_b (n := W0.heap.size)) (Below.refl _ _) (fun _ => rfl)
    (fun pre W => W.heap[w.heap.size + 1]? = some (.cells #[.int .i64 ed] 3 (0, 0)) ∧ W.heap[w.heap.size + 2]? = some (.cells #[.slice none 0 0, .int .i64 0] 29 (0, 0)) ∧ W.heap[w1.heap.size]? = some (.cells #[.pointer (some ⟨g, 0, none⟩), .pointer (some ⟨g, m * 7, none⟩)] 49 (0, 0)) ∧ NdsAt W (w.heap.size + 1 + 1 + 1) g (ring g (dropP (dropF ed) fs pre)) ∧ Below w.heap.size w W)
    (fun _ _ _ => False)
    (fun s A B row hs hg hr => ⟨own_blk hs.1 hg hr, own_blk hs.2.1 hg hr, own_blk hs.2.2.1 hg hr, own_row hs.2.2.2.1 hg hr, ownFrom_below (Nat.le_refl _) (by omega) s A B row hs.2.2.2.2 hg hr⟩)
    (fun _ _ _ _ _ hs _ _ => hs)
    ⟨E0, R0, X0, N0, B0⟩
    (fun x => { tmps := #[.agg #[.slice a 8 cap, .int .i64 m], .int .i64 ed, .pointer (some ⟨w.heap.size, 0, none⟩), .pointer (some ⟨w.heap.size + 1, 0, none⟩), .pointer (some ⟨w.heap.size + 1 + 1, 0, none⟩), .pointer (some ⟨w1.heap.size, 0, none⟩), .bool true, .pointer (some ⟨g, x.val * 7, none⟩), .tuple #[.agg #[.pointer (some ⟨g, 0, none⟩), .pointer (some ⟨g, m * 7, none⟩)], .bool true], .agg #[.slice a 8 cap, .int .i64 m], .tuple #[.agg #[.pointer (some ⟨g, 0, none⟩), .pointer (some ⟨g, m * 7, none⟩)], .bool true], .agg #[.pointer (some ⟨g, 0, none⟩), .pointer (some ⟨g, m * 7, none⟩)], .bool true, .bool true, .bool false, undef, .pointer (some ⟨w1.heap.size, 0, none⟩), .pointer (some ⟨g, 0, none⟩),
      .func (.func 53) #[] #[.pointer (some ⟨w1.heap.size + 1, 0, none⟩), .pointer (some ⟨w1.heap.size + 1 + 1, 0, none⟩)], .pointer (some ⟨g, x.val * 7, none⟩), undef, undef, undef, undef, undef, undef, undef, undef, undef, undef, undef, undef, undef, undef, undef, undef, undef, undef, undef, undef, undef], defers := [] }) ?assign ?body ?done ?stop
  case assign =>
    intro l x W K hK
    gi_wp2
    exact hK
  case body =>
    rintro l pre x W ⟨Y1, Y2, Y3, N1, B1⟩ hlen
    have hl8 : (dropP (dropF ed) fs pre).length = 8 := by rw [dropP_len]; exact h8
    have hx8 := x.isLt
    obtain ⟨c0, c1, c2, c3, c4, -, -⟩ := N1.cells x.val _ (ring_at g _ x.val (nth _ x) (nth_at hl8 x))
    have HS := hid (dropP_snoc (dropF ed) fs pre x)
    have HT := hid (dropP_same (dropF ed) h8 pre x)
    obtain ⟨f, hf⟩ : ∃ f, f = nth (dropP (dropF ed) fs pre) x := ⟨_, rfl⟩
    rw [← hf] at c0 c1 c2 c3 c4 HS HT
    dsimp only at c0 c1 c2 c3 c4
    clear hf
    obtain ⟨t1, ht1⟩ : ∃ t1, (f.e == ed) = t1 := ⟨_, rfl⟩
    obtain ⟨t2, ht2⟩ : ∃ t2, (f.d == 0) = t2 := ⟨_, rfl⟩
    have HD := hid (show dropF ed f = if t1 = true ∧ t2 = true then Fr.no else f by unfold dropF; simp only [← ht1, ← ht2, beq_iff_eq])
    have y1 := cell_regrown (box_cell Y1 0 (v := .int .i64 ed) rfl)
    have r1 := cell_regrown c1
    have r3 := cell_regrown c3
    gi_wp2
    refine inR_below (by kernel_rfl) (by kernel_rfl) (by kernel_rfl) (fun ⟨_, _, h⟩ => h) ?_
    cases t1
    · repeat (first
        | go_big_quiet_step (fail)
        | quiet_step (fail))
      refine wpQuiet_nil ?_
      intro w4 hw'
      have hbq := of_class hw'
      have HT := hid (HT.out (by rw [HD.out]; simp))
      clear hw' y1 r1 r3 c0 c1 c2 c3 c4
      gi_wp2
      exact ⟨(keeps_below hbq).from _, fun h => h.below N1.lt.2 hbq, kept Y1 hbq, kept Y2 hbq, kept Y3 hbq, by rw [HT.out]; exact N1.below hbq N1.lt.2, u_catn B1 (Nat.le_refl _) hbq⟩
    · cases t2
      · repeat (first
          | go_big_quiet_step (fail)
          | quiet_step (fail))
        refine wpQuiet_nil ?_
        intro w4 hw'
        have hbq := of_class hw'
        have HT := hid (HT.out (by rw [HD.out]; simp))
        clear hw' y1 r1 r3 c0 c1 c2 c3 c4
        gi_wp2
        exact ⟨(keeps_below hbq).from _, fun h => h.below N1.lt.2 hbq, kept Y1 hbq, kept Y2 hbq, kept Y3 hbq, by rw [HT.out]; exact N1.below hbq N1.lt.2, u_catn B1 (Nat.le_refl _) hbq⟩
      · repeat (first
          | go_big_quiet_step (fail)
          | quiet_step (fail))
        refine wpQuiet_nil ?_
        intro w4 hw'
        have hbq := of_class hw'
        have HS := hid (show dropP (dropF ed) fs (pre ++ [x]) = (dropP (dropF ed) fs pre).set x.val Fr.no by rw [HS.out, HD.out]; simp)
        have N4 := N1.below hbq N1.lt.2
        have hfz := N4.frozen
        have HN4 := hid N4
        obtain ⟨d0, d1, d2, d3, d4, -, -⟩ := N4.cells x.val _ (ring_at g _ x.val (nth _ x) (nth_at hl8 x))
        clear hw' y1 r1 r3 c0 c1 c2 c3 c4 N4
        gi_wp2
        have bs := below_set5 (Below.refl (w.heap.size + 1 + 1 + 1) w4) (g := g) (by omega) (x.val * 7) Fr.no
        have N5 := HN4.out.storeF x.val hx8 Fr.no
        refine ⟨?_, fun _ => N5.leads, (bs.block _ (by omega)).trans (kept Y1 hbq), (bs.block _ (by omega)).trans (kept Y2 hbq), ?_, by rw [HS.out]; exact N5, (u_catn B1 (Nat.le_refl _) hbq).trans (bs.mono (by omega))⟩
        · exact ((((((keeps_below hbq).trans (KeepsOthers.setCell _ _ _)).trans (KeepsOthers.setCell _ _ _)).trans (KeepsOthers.setCell _ _ _)).trans (KeepsOthers.setCell _ _ _)).trans (KeepsOthers.setCell _ _ _)).from _
        · rw [Below.heap_setCell _ _ _ _ (by simp; omega), Below.heap_setCell _ _ _ _ (by simp; omega), Below.heap_setCell _ _ _ _ (by simp; omega), Below.heap_setCell _ _ _ _ (by simp; omega), Below.heap_setCell _ _ _ _ (by simp; omega)]
          exact kept Y3 hbq
  case done =>
    rintro D ys W hD rfl ⟨Y1, Y2, Y3, N1, B1⟩ hK
    rw [dropP_all _ h8] at N1
    have q0 := box_cell Y3 0 (v := .pointer (some ⟨g, 0, none⟩)) rfl
    have q1 := box_cell Y3 1 (v := .pointer (some ⟨g, m * 7, none⟩)) rfl
    have hy2 := lt_of_block Y2
    gi_wp2_with (refine ⟨trivial, ?_⟩; gi_at_call 33; refine (callsIn_wide.2 (pool_any g _ m (fs.map (dropF ed)) _ N1 hm)).mono ?_; rintro e w5 ⟨b, d, rfl, o5, b5⟩; have Y5 := hid (kept Y2 b5); have p0 := box_cell Y5.out 0 (v := .slice none 0 0) rfl; have p1 := box_cell Y5.out 1 (v := .int .i64 0) rfl; have z0 := box_frozen Y5.out)
    have X5 := hid (set_block (set_block Y5.out 0 (.slice b 8 d)) 1 (.int .i64 m))
    have hK5 := (keeps_below b5).same D _ hK rfl
    have hK' := ((KeepsOthers.setCell w5 ⟨w.heap.size + 2, 0, none⟩ (.slice b 8 d)).trans (KeepsOthers.setCell _ ⟨w.heap.size + 2, 1, none⟩ (.int .i64 m))).same D _ hK5 rfl
    refine ⟨by simp, .inl ⟨_, _, rfl, run_takeDeferred hK', ?_⟩⟩
    have hc5 := cell_kept (box_cell X5.out 0 (v := .slice b 8 d) rfl) (grownBy_putObj' _ D (.deferred none)) (fun r e => by cases e; exact ⟨_, hK', rfl⟩)
    have hc6 := cell_kept (box_cell X5.out 1 (v := .int .i64 m) rfl) (grownBy_putObj' _ D (.deferred none)) (fun r e => by cases e; exact ⟨_, hK', rfl⟩)
    refine ⟨.agg #[.slice b 8 d, .int .i64 m], ?_, _, rfl, b, d, by rw [List.length_map, h8], ?_, (u_set (u_set (u_catn B1 (Nat.le_refl _) b5) (by omega) _ _) (by omega) _ _).trans (belowK_b (w := w) (Nat.le_refl _) _ D _ _ (by omega) hK' rfl rfl)⟩
    · simp [results, Try.f20, go_sem, hc5, hc6]
    · rw [List.length_map, h8]
      have hw := B1.size
      exact owns_base (ownsRow_putObj (Touch.owns (Touch.setCell _ _ _) (Touch.owns (Touch.setCell _ _ _) o5 (by simp only []; omega)) (by simp only []; omega)) _ hK' rfl) hw
  case stop =>
    rintro D c pre W _ _ h _
    exact h.elim
end Go.Proofs.Ytnfjplmpaeiagaa
