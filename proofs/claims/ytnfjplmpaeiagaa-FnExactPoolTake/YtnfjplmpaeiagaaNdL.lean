/- The pool of a ring, by the program. -/
import Derived.Test.YtnfjplmpaeiagaaInrL
import Derived.Test.YtnfjplmpaeiagaaNdP
import Derived.Test.YtnfjplmpaeiagaaIntsH
namespace Go.Proofs.Ytnfjplmpaeiagaa
open Go.ChangeShapes Go.WideShapes Go.ChangeAt Go.RowKit Go.Sort Go.Shelf
attribute [local go_sem] Oper.semAt_some

/-- 'out = append(out, x)', x of several cells that were just laid. -/
theorem append_many {P : Program} {w : World} {ops : Array Oper} {rest : List Oper} {o : Oper} {a : Act} {Q : Exit → Act → World → Prop} (t e : TypeId) (i : TypeInfo) (z : Value) (size bytes : Nat)
    (ht : P.underlying t = some (.slice e)) (hi : P.info? e = some i) (hz : i.zero = some z) (hz1 : i.size = size) (hz2 : i.bytes = bytes) (hzs : z.cells.size = size) (hpos : 0 < size)
    {base n g : Nat} {v : Value} {xs : List Value} (us : Array Value) (hus : us.size = size) (s x : Operand) (hgd : o.guard = none) (ho : o.op = .call { callee := .builtin .append, args := #[s, x], argTypes := #[t, t] })
    (hs : a.eval s = v) (hx : a.eval x = .slice (some ⟨g, 0, none⟩) 1 1) (hg : g = w.heap.size) (hu : ∀ u ∈ us.toList, u.oneCell' = true)
    (hown : w.ownsRow base e size v n xs) (hbs : base ≤ w.heap.size) (hbd : (n + 1) * bytes ≤ 140737488355328) (hml : n + 1 ≤ 9223372036854775807)
    (h : ∀ v' w', w'.ownsRow base e size v' (n + 1) (xs ++ us.toList) → (w.alloc (.cells us e)).grownBy w' v.ownBlock → wpList P ops Q rest (a.put o.dst v') w') :
    wpList P ops Q (o :: rest) a (w.alloc (.cells us e)) := by
  subst hg
  refine wpList_append_own _ hgd s x t ho base e i z size bytes ht hi hz hz1 hz2 hzs hpos v n xs hs (hown.alloc _) ⟨w.heap.size, 0, none⟩ 1 1 us.toList hx (by simp [hus]) ?_ hu hml hbd (by simp; omega) ?_
  · intro j u' hj
    rw [addr_add, Nat.zero_add]
    exact box_cell (laid w us e) j (by simpa using hj)
  · intro v' w' h1 h2 _
    exact h v' w' h1 h2

theorem frCells_snoc (fs : List Fr) (f : Fr) : frCells (fs ++ [f]) = frCells fs ++ f.cells := by simp [frCells]

set_option maxHeartbeats 4000000 in
theorem pool_any (g base hand : Nat) (fs : List Fr) (w : World) (hN : NdsAt w base g (ring g fs)) (hh : hand < 8) :
    Calls Try.prog 33 #[.agg #[.pointer (some ⟨g, 0, none⟩), .pointer (some ⟨g, hand * 7, none⟩)]] w fun e w' => ∃ b d, e = .returned (.agg #[.slice b 8 d, .int .i64 hand]) ∧ w'.ownsRow w.heap.size 45 5 (.slice b 8 d) 8 (frCells fs) ∧ Below w.heap.size w w' := by
  obtain ⟨i0, hi, hz0, hz1, hz2⟩ := info_parts Try.info45
  have h8 : fs.length = 8 := by have := hN.len; rwa [ring_len] at this
  have hgw := hN.lt.2
  have hph := (hN.cells hand _ (ring_at g fs hand (nth fs ⟨hand, hh⟩) (nth_at h8 ⟨hand, hh⟩))).c5
  dsimp only at hph
  refine (callsIn_wide (n := 9)).1 ?_
  refine callsIn_of_wp_marks Try.func33 rfl trivial ?_ rfl
  simp only [Try.ntmps33, List.size_toArray, List.length_cons, List.length_nil, Nat.reduceAdd, Nat.reduceSub, Array.replicate_succ, Array.replicate_zero, List.push_toArray, List.append_toArray, List.nil_append, List.cons_append]
  gi_wp2_with (refine ⟨trivial, ?_⟩; gi_at_call 39; refine (callsIn_wide.2 (round_in _ _ _)).mono ?_; rintro e w' ⟨rfl, rfl⟩)
  obtain ⟨W0, hW0⟩ : ∃ W0, W0 = ((((w.alloc (.cells #[.pointer (some ⟨g, 0, none⟩), .pointer (some ⟨g, hand * 7, none⟩)] 49)).alloc (.cells #[.slice none 0 0, .int .i64 0] 29)).alloc (.cells #[.slice none 0 0, .int .i64 hand] 29)).alloc (.cells #[.pointer (some ⟨g, 0, none⟩)] 47)).alloc (.cells #[.int .i64 8] 3) := ⟨_, rfl⟩
  rw [← hW0]
  have B0 : Below w.heap.size w W0 := by
    rw [hW0]; exact ((((((Below.refl _ _).alloc (Nat.le_refl _) _).alloc (by simp) _).alloc (by simp; omega) _).alloc (by simp; omega) _).alloc (by simp; omega) _)
  have Z0 : W0.heap.size = w.heap.size + 5 := by rw [hW0]; simp
  have X1 : W0.heap[w.heap.size + 1]? = some (.cells #[.slice none 0 0, .int .i64 0] 29 (0, 0)) := by
    rw [hW0, Below.heap_alloc _ _ _ (by simp), Below.heap_alloc _ _ _ (by simp), Below.heap_alloc _ _ _ (by simp)]
    exact u_laid _ _ _ (by simp)
  have X2 : W0.heap[w.heap.size + 1 + 1]? = some (.cells #[.slice none 0 0, .int .i64 hand] 29 (0, 0)) := by
    rw [hW0, Below.heap_alloc _ _ _ (by simp), Below.heap_alloc _ _ _ (by simp)]
    exact u_laid _ _ _ (by simp)
  have X3 : W0.heap[w.heap.size + 1 + 1 + 1]? = some (.cells #[.pointer (some ⟨g, 0, none⟩)] 47 (0, 0)) := by
    rw [hW0, Below.heap_alloc _ _ _ (by simp)]
    exact u_laid _ _ _ (by simp)
  have X4 : W0.heap[w.heap.size + 1 + 1 + 1 + 1]? = some (.cells #[.int .i64 8] 3 (0, 0)) := by
    rw [hW0]
    exact u_laid _ _ _ (by simp)
  clear hW0 hph
  have N0 := hN.below B0 hgw
  have HN := hid hN
  clear hN
  refine wpIn_rangeFunc_ownG (α := Fin 8) rfl (by omega) (gf := 53) (lb := #[.pointer (some ⟨w.heap.size + 1 + 1 + 1, 0, none⟩), .pointer (some ⟨w.heap.size + 1 + 1 + 1 + 1, 0, none⟩)]) rfl trivial (enters_of Try.func53 (by kernel_rfl) rfl)
    (round_stops (9 - 1) g 0 8 _ _ (by omega) (by omega) (Below w.heap.size) (fun W W' h k => h.below hgw k) W0 (box_cell X3 0 rfl) (box_cell X4 0 rfl) N0.leads)
    belowK_t (belowK_b (by omega)) (Below.refl _ _) (fun _ => rfl)
    (fun pre W => W.heap[w.heap.size + 1]? = some (.cells #[.slice none 0 0, .int .i64 0] 29 (0, 0)) ∧ (∃ b d, W.heap[w.heap.size + 1 + 1]? = some (.cells #[.slice b pre.length d, .int .i64 hand] 29 (0, 0)) ∧ W.ownsRow (w.heap.size + 5) 45 5 (.slice b pre.length d) pre.length (frCells (pre.map (nth fs)))) ∧ NdsAt W base g (ring g fs) ∧ w.heap.size + 5 ≤ W.heap.size ∧ Below w.heap.size w W)
    (fun _ _ _ => False)
    (fun s A B row hs hg hr => by
      obtain ⟨h1, ⟨b, d, h2, h3⟩, h4, h6, h5⟩ := hs
      exact ⟨own_blk h1 hg hr, ⟨b, d, own_blk h2 hg hr, own_row h3 hg hr⟩, own_row h4 hg hr, Nat.le_trans h6 hg.size, ownFrom_below (Nat.le_refl _) (by omega) s A B row h5 hg hr⟩)
    (fun _ _ _ _ _ hs _ _ => hs)
    ⟨X1, ⟨none, 0, X2, ⟨rfl, .inl ⟨rfl, rfl⟩⟩⟩, N0, Nat.le_of_eq Z0.symm, B0⟩
    (fun x => { tmps := #[.agg #[.pointer (some ⟨g, 0, none⟩), .pointer (some ⟨g, hand * 7, none⟩)], .pointer (some ⟨w.heap.size, 0, none⟩), .pointer (some ⟨w.heap.size + 1, 0, none⟩), .pointer (some ⟨w.heap.size + 1 + 1, 0, none⟩), .pointer (some ⟨g, x.val * 7, none⟩), .pointer (some ⟨w.heap.size, 1, none⟩), .pointer (some ⟨g, hand * 7, none⟩), .pointer (some ⟨g, hand * 7, none⟩), .pointer (some ⟨g, hand * 7 + 5, none⟩), .int .i64 hand, .agg #[.slice none 0 0, .int .i64 hand], .pointer (some ⟨w.heap.size, 0, none⟩), .pointer (some ⟨g, 0, none⟩),
      .func (.func 53) #[] #[.pointer (some ⟨w.heap.size + 1 + 1 + 1, 0, none⟩), .pointer (some ⟨w.heap.size + 1 + 1 + 1 + 1, 0, none⟩)], .pointer (some ⟨g, x.val * 7, none⟩), undef, undef, undef, undef, undef, undef, undef, undef, undef, undef], defers := [] }) ?assign ?body ?done ?stop
  case assign =>
    intro l x W K hK
    gi_wp2
    exact hK
  case body =>
    rintro l pre x W ⟨Y1, ⟨b, d, Y2, O1⟩, N1, hw5, B1⟩ hlen
    have hlen8 : pre.length < 8 := hlen
    obtain ⟨c0, c1, c2, c3, c4, -, -⟩ := N1.cells x.val _ (ring_at g fs x.val (nth fs x) (nth_at h8 x))
    obtain ⟨f, hf⟩ : ∃ f, f = nth fs x := ⟨_, rfl⟩
    rw [← hf] at c0 c1 c2 c3 c4
    have HF := hid hf
    dsimp only at c0 c1 c2 c3 c4
    clear hf
    have y0 := cell_regrown (box_cell Y2 0 (v := .slice b pre.length d) rfl)
    have r0 := cell_regrown c0
    have r1 := cell_regrown c1
    have r2 := cell_regrown c2
    have r3 := cell_regrown c3
    have r4 := cell_regrown c4
    have HY1 := hid Y1
    have HY2 := hid Y2
    have HO := hid O1
    have HN1 := hid N1
    have HB1 := hid B1
    clear c0 c1 c2 c3 c4 Y1 Y2 O1 N1 B1
    gi_wp2
    refine inR_line 6 1 (by kernel_rfl) (by kernel_rfl) (by kernel_rfl) (fun ⟨_, _, h⟩ => h) (fun _ _ d _ _ h => by cases d <;> exact h) ?_
    dsimp only [List.take_succ_cons, List.take_zero, List.drop_succ_cons, List.drop_zero]
    repeat (first
      | go_big_quiet_step (fail)
      | quiet_step (fail))
    refine wpQuiet_nil ?_
    intro w4 hw'
    have hbq := of_class hw'
    clear hw' y0 r0 r1 r2 r3 r4
    refine wpRest_step (fun K hK => ?_)
    go_simp
    refine hK _ _ (class_of (u_cat hbq (u_b1 _ _))) ?_
    clear hK
    refine append_many 27 45 i0 _ 5 40 Try.underlying27 hi hz0 hz1 hz2 rfl (by omega) #[.int .i64 f.h, .int .i64 f.e, .int .i64 f.b, .int .i64 f.d, .bool f.u] rfl _ _ rfl rfl rfl rfl rfl (by simp [Value.oneCell']) (owns_below HO.out hbq) (by have := hbq.size; omega) (by omega) (by omega) ?_
    intro v' w5 o5 g5
    have O4 := (owns_below HO.out hbq).alloc (.cells #[.int .i64 f.h, .int .i64 f.e, .int .i64 f.b, .int .i64 f.d, .bool f.u] 45)
    have hs4 : w.heap.size + 5 ≤ (w4.alloc (.cells #[.int .i64 f.h, .int .i64 f.e, .int .i64 f.b, .int .i64 f.d, .bool f.u] 45)).heap.size := by have := hbq.size; simp; omega
    have b5 : Below (w.heap.size + 5) W w5 := ((hbq.mono hw5).trans ((u_b1 _ _).mono (by have := hbq.size; omega))).trans ((Below.refl _ _).grown g5 hs4 (fun k hk => (O4.lt k hk).1))
    have hk5 : KeepsOthers W w5 := ((keeps_below hbq).trans (KeepsOthers.alloc _ _)).trans (KeepsOthers.of_grownBy g5 (fun k o hk ho => by
      rcases O4.2 with ⟨h1, _⟩ | ⟨g', cap', cur', h1, _, h2, _⟩
      · rw [h1] at hk; cases hk
      · rw [h1] at hk
        cases hk
        rw [h2] at ho
        cases ho
        rfl))
    obtain ⟨a', cap', rfl⟩ := owns_slice o5
    have Y5 := hid ((b5.block _ (by omega)).trans HY2.out)
    have o6 := hid o5
    have q0 := box_cell Y5.out 0 (v := .slice b pre.length d) rfl
    have z0 := box_frozen Y5.out 0
    have N5 := hid (HN1.out.below b5 (by omega))
    have B5 := hid (HB1.out.trans (b5.mono (by omega)))
    have H5 := hid b5
    have K5 := hid hk5
    have S5 := hid (set_block Y5.out 0 (.slice a' (pre.length + 1) cap'))
    clear O4 hs4 b5 hk5 o5 g5 hbq
    go_wp2
    refine ⟨(K5.out.trans (KeepsOthers.setCell _ _ _)).from _, u_set (H5.out.mono (by omega)) (by omega) _ _, set_other ((H5.out.block _ (by omega)).trans HY1.out) (by omega) _ _, ⟨a', cap', ?_, ?_⟩, N5.out.below (u_set (Below.refl w.heap.size _) (by omega) _ _) hgw, ?_, u_set B5.out (by omega) _ _⟩
    · rw [List.length_append]; exact S5.out
    · rw [List.map_append, List.length_append]
      have e : frCells (pre.map (nth fs) ++ [x].map (nth fs)) = frCells (pre.map (nth fs)) ++ (#[.int .i64 f.h, .int .i64 f.e, .int .i64 f.b, .int .i64 f.d, .bool f.u] : Array Value).toList := by
        rw [List.map_singleton, frCells_snoc, ← HF.out]; rfl
      rw [e]
      exact Touch.owns (Touch.setCell _ _ _) o6.out (by simp)
    · have := H5.out.size; simp; omega
  case done =>
    rintro D ys W hD rfl ⟨Y1, ⟨b, d, Y2, O1⟩, N1, hw5, B1⟩ hK
    have e8 : (way 0 8).length = 8 := way_len 0 8
    rw [e8] at Y2 O1
    rw [way_all h8] at O1
    have q0 := box_cell Y2 0 (v := .slice b 8 d) rfl
    have q1 := box_cell Y2 1 (v := .int .i64 hand) rfl
    have p0 := box_cell Y1 0 (v := .slice none 0 0) rfl
    have p1 := box_cell Y1 1 (v := .int .i64 0) rfl
    have z0 := box_frozen Y1
    have X5 := hid (set_block (set_block Y1 0 (.slice b 8 d)) 1 (.int .i64 hand))
    have HY2 := hid Y2
    have HO := hid O1
    clear Y1 Y2 O1 e8
    gi_wp2
    have hK' := ((KeepsOthers.setCell W ⟨w.heap.size + 1, 0, none⟩ (.slice b 8 d)).trans (KeepsOthers.setCell _ ⟨w.heap.size + 1, 1, none⟩ (.int .i64 hand))).same D _ hK rfl
    refine ⟨by simp, .inl ⟨_, _, rfl, run_takeDeferred hK', ?_⟩⟩
    have hc5 := cell_kept (box_cell X5.out 0 (v := .slice b 8 d) rfl) (grownBy_putObj' _ D (.deferred none)) (fun r e => by cases e; exact ⟨_, hK', rfl⟩)
    have hc6 := cell_kept (box_cell X5.out 1 (v := .int .i64 hand) rfl) (grownBy_putObj' _ D (.deferred none)) (fun r e => by cases e; exact ⟨_, hK', rfl⟩)
    refine ⟨.agg #[.slice b 8 d, .int .i64 hand], ?_, b, d, rfl, ?_, (u_set (u_set B1 (by omega) _ _) (by omega) _ _).trans (belowK_b (w := w) (Nat.le_refl _) _ D _ _ (by omega) hK' rfl rfl)⟩
    · simp [results, Try.f33, go_sem, hc5, hc6]
    · exact owns_base (ownsRow_putObj (Touch.owns (Touch.setCell _ _ _) (Touch.owns (Touch.setCell _ _ _) HO.out (by simp)) (by simp)) _ hK' rfl) (by omega)
  case stop =>
    rintro D c pre W _ _ h _
    exact h.elim
end Go.Proofs.Ytnfjplmpaeiagaa
