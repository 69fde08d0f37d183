/- A solver copied by the model. Equations that are gathered in a solver's box, one behind the other. -/
import Derived.Test.YtpdaobiaekamoaaDoorG22
import Derived.Test.YtpdaobiaekamoaaDoorG11
import Derived.Test.YtpdaobiaekamoaaDoorG12
import Derived.Test.YtpdaobiaekamoaaDoorG3
import Derived.RangeFuncOwn
namespace Go.Proofs.YtpdaobiaekamoaaDoor
open Go.ChangeShapes Go.WideShapes Go.ChangeAt Go.RowKit Go.Sort Go.Shelf
attribute [local go_sem] Oper.semAt_some

set_option maxHeartbeats 8000000 in
set_option maxRecDepth 100000 in
theorem l3Copy_any (a : Option Addr) (cap : Nat) (es : List EqV) (c z : Int) (w : World) (ha : EqsAt w a es) (hl : es.length ≤ 1048576) (hsm : SmallE es) (hcap : ∀ e ∈ es, e.a = none → e.c = 0) :
    Calls Tryd.prog 39 #[.agg #[.int .i64 c, .int .i64 z, .slice a es.length cap]] w fun e w' => ∃ a' c' fs, e = .returned (.agg #[.int .i64 c, .int .i64 z, .slice a' fs.length c']) ∧ w'.ownsRow (w.heap.size + 3) 53 2 (.slice a' fs.length c') fs.length (eqCells fs) ∧ SamV fs es ∧ RowsOwn w' (w.heap.size + 3) fs ∧ Below w.heap.size w w' := by
  have HA := hid ha
  have HS := hid hsm
  have HCAP := hid hcap
  clear ha hsm hcap
  obtain ⟨i0, hi, hz0, hzo, hz2⟩ := info_parts Tryd.info3
  obtain ⟨i1, hj, hj0, hj1, hj2⟩ := info_parts Tryd.info53
  go_enter Tryd.func39, Tryd.ntmps39
  repeat ((fail_if_success (with_reducible show Code.wp _ (Code.region 1 _ _) _ _ _)); (first | go_values | go_skip | go_guarded | go_step | go_upon | go_back | go_simp))
  obtain ⟨W0, hW0⟩ : ∃ W0, W0 = (w.alloc (.cells #[.int .i64 c, .int .i64 z, .slice a es.length cap] 29)).alloc (.cells #[.int .i64 0, .int .i64 0, .slice none 0 0] 29) := ⟨_, rfl⟩
  obtain ⟨X0, X1, B0⟩ := u_box2 (w := w) (c := #[.int .i64 c, .int .i64 z, .slice a es.length cap]) (t := 29) (d := #[.int .i64 0, .int .i64 0, .slice none 0 0]) (s := 29) (w1 := W0) (by rw [hW0]; exact Below.refl _ _)
  have hs0 : W0.heap.size = w.heap.size + 2 := by rw [hW0]; simp
  rw [← hW0]
  clear hW0
  have q0 := box_cell X0 0 (v := .int .i64 c) rfl
  have q1 := box_cell X0 1 (v := .int .i64 z) rfl
  repeat ((fail_if_success (with_reducible show Code.wp _ (Code.region 2 _ _) _ _ _)); (first | go_values | go_skip | go_guarded | go_step | go_upon | go_back | go_simp))
  obtain ⟨W1, hW1⟩ : ∃ W1, W1 = W0.alloc (.cells #[.int .i64 c, .int .i64 z, .slice none 0 0] 29) := ⟨_, rfl⟩
  have b1 : Below W0.heap.size W0 W1 := by rw [hW1]; exact u_b1 _ _
  have X2 : W1.heap[w.heap.size + 2]? = some (.cells #[.int .i64 c, .int .i64 z, .slice none 0 0] 29 (0, 0)) := by rw [hW1, ← hs0]; exact laid W0 _ _
  have hs1 : W1.heap.size = w.heap.size + 3 := by rw [hW1]; simp [hs0]
  rw [← hW1]
  clear hW1 q0 q1
  have HX0 := hid (kept X0 b1)
  have HX1 := hid (kept X1 b1)
  have HX2 := hid X2
  have HB := hid (u_cat B0 b1)
  clear X0 X1 X2 B0 b1
  go_wp2_with fail
  go_loopw [4] (fun i wr => ∃ fs : List EqV, fs.length ≤ es.length ∧ i = .int .i64 fs.length ∧ SamV fs (es.take fs.length) ∧ wr.heap[w.heap.size]? = some (.cells #[.int .i64 c, .int .i64 z, .slice a es.length cap] 29 (0, 0)) ∧ wr.heap[w.heap.size + 1]? = some (.cells #[.int .i64 0, .int .i64 0, .slice none 0 0] 29 (0, 0)) ∧
      (∃ b d, wr.heap[w.heap.size + 2]? = some (.cells #[.int .i64 c, .int .i64 z, .slice b fs.length d] 29 (0, 0)) ∧ wr.ownsRow (w.heap.size + 3) 53 2 (.slice b fs.length d) fs.length (eqCells fs)) ∧ RowsOwn wr (w.heap.size + 3) fs ∧ w.heap.size + 3 ≤ wr.heap.size ∧ Below w.heap.size w wr) (fun i _ => es.length - (intOf i).toNat)
  case atStart => exact ⟨[], Nat.zero_le _, rfl, ⟨rfl, rfl⟩, HX0.out, HX1.out, ⟨none, 0, HX2.out, ⟨rfl, .inl ⟨rfl, rfl⟩⟩⟩, fun f hf => by simp at hf, Nat.le_of_eq hs1.symm, HB.out⟩
  case round =>
    clear HX0 HX1 HX2 HB
    obtain ⟨fs, hk, rfl, hsam, x0, x1, ⟨b, d, x2, ho⟩, hro, hsz, hbl⟩ := hrel
    have HM := hid hsam
    have HX0 := hid x0
    have HX1 := hid x1
    have HX2 := hid x2
    have HO := hid ho
    have HRO := hid hro
    have HB := hid hbl
    clear hsam x0 x1 x2 ho hro hbl
    by_cases hlt : fs.length < es.length
    · have hlt1 : decide ((fs.length : Int) < es.length) = true := by simp; omega
      obtain ⟨e, he⟩ : ∃ e, es[fs.length] = e := ⟨_, rfl⟩
      have hem : e ∈ es := by rw [← he]; exact List.getElem_mem hlt
      obtain ⟨hel, hed⟩ := HS.out e hem
      have HN := hid (HCAP.out e hem)
      obtain ⟨eb, off, rfl, hc⟩ := (HA.out.below HB.out) (by intro h; simp [h] at hlt)
      obtain ⟨c0, c1, crow⟩ := hc fs.length e (by rw [List.getElem?_eq_getElem hlt, he])
      have HE := hid he
      have CR := hid crow
      have y0 := cell_regrown (box_cell HX0.out 2 (v := .slice (some ⟨eb, off, none⟩) es.length cap) rfl)
      have y1 := cell_regrown (box_cell HX2.out 2 (v := .slice b fs.length d) rfl)
      have u0 := cell_regrown c0
      have u1 := cell_regrown c1
      have q2 := box_cell HX0.out 2 (v := .slice (some ⟨eb, off, none⟩) es.length cap) rfl
      clear hc he crow hem c0 c1
      go_wp2_with fail
      refine wp_pick 18 4 [(0, 2), (3, 6), (10, 6)] [(2, 1), (9, 1), (16, 5)] (by kernel_rfl) (by kernel_rfl) (fun _ _ d _ _ h => by cases d <;> exact h) ?_
      simp only [cutOut, List.take_succ_cons, List.take_zero, List.drop_succ_cons, List.drop_zero, List.nil_append, List.cons_append, List.append_nil]
      repeat (first | go_big_quiet_step (fail) | quiet_step (fail))
      refine wpQuiet_nil ?_
      intro V0 hw'
      have HC0 := hid (of_class hw')
      clear hw' y0 y1 u0 u1 q2
      refine wpRest_step (fun K hK => ?_)
      go_simp
      refine hK _ _ (class_of (HC0.out.trans ((u_b1 _ _).mono HC0.out.size))) ?_
      clear hK K
      obtain ⟨V1, hV1⟩ : ∃ V1, V1 = V0.alloc (.cells #[] 3) := ⟨_, rfl⟩
      rw [← hV1]
      have bV1 : Below V0.heap.size V0 V1 := by rw [hV1]; exact u_b1 _ _
      have OW := hid (show V1.ownsRow V0.heap.size 3 1 (.slice (some ⟨V0.heap.size, 0, none⟩) 0 0) 0 [] by rw [hV1]; exact World.ownsRow_lit V0 #[] 0 (Nat.le_refl _) (Nat.zero_le _) rfl)
      have hz1 : wr.heap.size ≤ V0.heap.size ∧ V0.heap.size < V1.heap.size := ⟨HC0.out.size, by rw [hV1]; simp⟩
      clear hV1
      have HC1 := hid (HC0.out.trans (bV1.mono HC0.out.size))
      clear bV1
      refine wpRest_step (fun K hK => ?_)
      refine step_append_row 33 3 i0 _ 8 Tryd.underlying33 hi hz0 hzo hz2 rfl _ _ rfl rfl rfl e.a e.r.length e.c (e.r.map (Value.int .i64)) rfl (by simp) (fun hn => ⟨none_len CR.out hn, HN.out hn⟩) OW.out (fun ad had => row_news (CR.out.below HC1.out) had) row_ones (by omega) (by omega) (by omega) ?_
      intro v' V2 o5 g5
      rw [Nat.zero_add, List.nil_append] at o5
      obtain ⟨a5, d5, rfl⟩ := owns_slice o5
      have HC2 := hid (HC1.out.trans ((grown_base g5 OW.out (by omega)).mono (by omega)))
      refine hK _ _ (class_of HC2.out) ?_
      clear hK K
      have hzz : V1.heap.size ≤ V2.heap.size := g5.size
      have O5 := hid (owns_base o5 (show w.heap.size + 3 ≤ V0.heap.size by omega))
      clear g5 OW o5
      refine wpRest_step (fun K hK => ?_)
      go_simp
      refine hK _ _ (class_of HC2.out) ?_
      clear hK K
      refine wpRest_step (fun K hK => ?_)
      go_simp
      refine hK _ _ (class_of (HC2.out.trans ((u_b1 _ _).mono HC2.out.size))) ?_
      clear hK K
      have hwl : w.heap.size + 3 ≤ V2.heap.size := by omega
      have HO2 := hid (owns_below HO.out HC2.out)
      have HRO2 := hid (HRO.out.below HC2.out)
      refine append_many 27 53 i1 _ 2 40 Tryd.underlying27 hj hj0 hj1 hj2 rfl (by omega) #[.slice a5 e.r.length d5, .string e.d] rfl _ _ rfl rfl rfl rfl rfl (by simp [Value.oneCell']) HO2.out hwl (by omega) (by omega) ?_
      intro v' w5 o5 g5
      obtain ⟨a', cap', rfl⟩ := owns_slice o5
      obtain ⟨U, hU⟩ : ∃ U, U = V2.alloc (.cells #[.slice a5 e.r.length d5, .string e.d] 53) := ⟨_, rfl⟩
      rw [← hU] at g5
      have bU : Below V2.heap.size V2 U := by rw [hU]; exact u_b1 _ _
      clear hU
      have O4 := owns_below HO2.out bU
      have hU3 : w.heap.size + 3 ≤ U.heap.size := Nat.le_trans hwl bU.size
      have b5 : Below (w.heap.size + 3) wr w5 := ((HC2.out.mono hsz).trans (bU.mono hwl)).trans ((Below.refl _ _).grown g5 hU3 (fun k hk => (O4.lt k hk).1))
      have R5 : RowsOwn w5 (w.heap.size + 3) fs := fun f hf => owns_grown (HRO2.out.below bU f hf) g5 (owns_kinds (HRO2.out.below bU f hf) O4 (by decide))
      have E5 : w5.ownsRow (w.heap.size + 3) 3 1 (.slice a5 e.r.length d5) e.r.length (e.r.map (Value.int .i64)) := owns_grown (owns_below O5.out bU) g5 (owns_kinds (owns_below O5.out bU) O4 (by decide))
      have hs5 : w.heap.size + 3 ≤ w5.heap.size := Nat.le_trans hsz b5.size
      have Y0 := hid ((b5.block _ (by omega)).trans HX0.out)
      have Y1 := hid ((b5.block _ (by omega)).trans HX1.out)
      have Y2 := hid ((b5.block _ (by omega)).trans HX2.out)
      have B5 := hid (HB.out.trans (b5.mono (by omega)))
      have HR5 := hid R5
      have HE5 := hid E5
      have HO5 := hid o5
      have q0 := box_cell Y2.out 2 (v := .slice b fs.length d) rfl
      have z0 := box_frozen Y2.out
      have l0 := lt_of_block Y2.out
      have S5 := hid (set_block Y2.out 2 (.slice a' (fs.length + 1) cap'))
      clear g5 o5 bU O4 hU3 b5 R5 E5 HO2 HRO2 O5 HC0 HC1 HC2
      go_wp2_with fail
      go_roundw
      case rel =>
        refine ⟨fs ++ [⟨a5, d5, e.r, e.d⟩], by simp; omega, by simp, ?_, set_other Y0.out (by omega) _ _, set_other Y1.out (by omega) _ _, ⟨a', cap', ?_, ?_⟩, ?_, (by simpa using hs5), ?_⟩
        · rw [List.length_append, List.length_singleton, List.take_succ_eq_append_getElem hlt]
          refine ⟨?_, ?_⟩
          · rw [List.map_append, List.map_append, HM.out.1, HE.out]; rfl
          · rw [List.map_append, List.map_append, HM.out.2, HE.out]; rfl
        · rw [List.length_append, List.length_singleton]; exact S5.out
        · rw [List.length_append, List.length_singleton]
          have h := Touch.owns (Touch.setCell w5 ⟨w.heap.size + 2, 2, none⟩ (.slice a' (fs.length + 1) cap')) HO5.out (Nat.lt_succ_self _)
          have e2 : eqCells (fs ++ [⟨a5, d5, e.r, e.d⟩]) = eqCells fs ++ (#[.slice a5 e.r.length d5, .string e.d] : Array Value).toList := by simp [eqCells, EqV.cells]
          rw [e2]
          exact h
        · refine RowsOwn.set ?_ (Nat.lt_succ_self _) _ _
          intro f hf
          rcases List.mem_append.1 hf with h | h
          · exact HR5.out f h
          · simp only [List.mem_singleton] at h
            subst h
            exact HE5.out
        · exact u_set B5.out (by omega) _ _
      case measure => simp [intOf]; omega
    · have hlt1 : decide ((fs.length : Int) < es.length) = false := by simp; omega
      have hfl : fs.length = es.length := by omega
      have HFL := hid hfl
      clear hfl
      have q2 := box_cell HX0.out 2 (v := .slice a es.length cap) rfl
      have p0 := box_cell HX2.out 0 (v := .int .i64 c) rfl
      have p1 := box_cell HX2.out 1 (v := .int .i64 z) rfl
      have p2 := box_cell HX2.out 2 (v := .slice b fs.length d) rfl
      have r0 := box_cell HX1.out 0 (v := .int .i64 0) rfl
      have r1 := box_cell HX1.out 1 (v := .int .i64 0) rfl
      have r2 := box_cell HX1.out 2 (v := .slice none 0 0) rfl
      have z0 := box_frozen HX1.out
      have l0 := lt_of_block HX1.out
      have S5 := set_block (set_block (set_block HX1.out 0 (.int .i64 c)) 1 (.int .i64 z)) 2 (.slice b fs.length d)
      have x0 := box_cell S5 0 (v := .int .i64 c) (by simp)
      have x1 := box_cell S5 1 (v := .int .i64 z) (by simp)
      have x2 := box_cell S5 2 (v := .slice b fs.length d) (by simp)
      clear S5
      go_wp2_with fail
      refine bodyPost_ret (v := .agg #[.int .i64 c, .int .i64 z, .slice b fs.length d]) ?_ rfl ⟨b, d, fs, rfl, ?_, ?_, ?_, ?_⟩
      · simp [results, Tryd.results39, go_sem, x0, x1, x2]
      · refine Touch.owns (Touch.setCell _ ⟨_, _, _⟩ _) (Touch.owns (Touch.setCell _ ⟨_, _, _⟩ _) (Touch.owns (Touch.setCell _ ⟨_, _, _⟩ _) HO.out ?_) ?_) ?_ <;> (simp only []; omega)
      · have := HM.out
        rwa [HFL.out, List.take_length] at this
      · refine RowsOwn.set (RowsOwn.set (RowsOwn.set HRO.out ?_ _ _) ?_ _ _) ?_ _ _ <;> omega
      · refine u_set (u_set (u_set HB.out ?_ _ _) ?_ _ _) ?_ _ _ <;> omega
end Go.Proofs.YtpdaobiaekamoaaDoor
namespace Go.Proofs.YtpdaobiaekamoaaDoor
open Go.ChangeShapes Go.WideShapes Go.ChangeAt Go.RowKit Go.Sort Go.Shelf

/-- A store into a block of another kind leaves what is owned. -/
theorem own_set_kind {w : World} {base g s n : Nat} {e t : TypeId} {v : Value} {xs : List Value} {cs : Array Value} {i : Nat} {u : Value} (hg : w.heap[g]? = some (.cells cs t (0, 0))) (h : w.ownsRow base e s v n xs) (he : e ≠ t) : (w.setCell ⟨g, i, none⟩ u).ownsRow base e s v n xs := by
  obtain ⟨h1, h2⟩ := h
  refine ⟨h1, ?_⟩
  rcases h2 with h2 | ⟨k, cap, cur, hv, hk, hh, q⟩
  · exact Or.inl h2
  · refine Or.inr ⟨k, cap, cur, hv, hk, ?_, q⟩
    refine set_other hh (fun e2 => ?_) i u
    rw [e2, hg] at hh
    cases hh
    exact he rfl

/-- A solver in a box, its equations owned from behind the box on, their rows from B on. -/
structure OutIs (W : World) (B g : Nat) (c z : Int) (gs : List EqV) (b : Option Addr) (d : Nat) : Prop where
  blk : W.heap[g]? = some (.cells #[.int .i64 c, .int .i64 z, .slice b gs.length d] 29 (0, 0))
  own : W.ownsRow (g + 1) 53 2 (.slice b gs.length d) gs.length (eqCells gs)
  rows : RowsOwn W B gs
theorem OutIs.lt {W : World} {B g : Nat} {c z : Int} {gs : List EqV} {b : Option Addr} {d : Nat} (h : OutIs W B g c z gs b d) : g + 1 ≤ W.heap.size := lt_of_block h.blk
theorem OutIs.below {W W' : World} {B g : Nat} {c z : Int} {gs : List EqV} {b : Option Addr} {d : Nat} (h : OutIs W B g c z gs b d) (hb : Below W.heap.size W W') : OutIs W' B g c z gs b d :=
  ⟨kept h.blk hb, owns_below h.own hb, h.rows.below hb⟩
/-- One equation more. -/
theorem OutIs.app {W w5 : World} {B g : Nat} {c z : Int} {gs : List EqV} {b : Option Addr} {d : Nat} (h : OutIs W B g c z gs b d) (e : EqV) (he : W.ownsRow B 3 1 (.slice e.a e.r.length e.c) e.r.length (e.r.map (Value.int .i64)))
    {v' : Value} (o5 : w5.ownsRow (g + 1) 53 2 v' (gs.length + 1) (eqCells gs ++ (#[.slice e.a e.r.length e.c, .string e.d] : Array Value).toList)) (g5 : (W.alloc (.cells #[.slice e.a e.r.length e.c, .string e.d] 53)).grownBy w5 (.slice b gs.length d : Value).ownBlock) :
    ∃ a' cap', v' = .slice a' (gs.length + 1) cap' ∧ w5.heap[g]? = some (.cells #[.int .i64 c, .int .i64 z, .slice b gs.length d] 29 (0, 0)) ∧ OutIs (w5.setCell ⟨g, 2, none⟩ (.slice a' (gs.length + 1) cap')) B g c z (gs ++ [e]) a' cap' ∧
      Below g W (w5.setCell ⟨g, 2, none⟩ (.slice a' (gs.length + 1) cap')) ∧ KeepsOthers W w5 ∧
      (∀ k cs, W.heap[k]? = some cs → k ≠ g → (.slice b gs.length d : Value).ownBlock ≠ some k → (w5.setCell ⟨g, 2, none⟩ (.slice a' (gs.length + 1) cap')).heap[k]? = some cs) ∧
      (∀ base v n xs, W.ownsRow base 3 1 v n xs → (w5.setCell ⟨g, 2, none⟩ (.slice a' (gs.length + 1) cap')).ownsRow base 3 1 v n xs) := by
  obtain ⟨a', cap', rfl⟩ := owns_slice o5
  obtain ⟨U, hU⟩ : ∃ U, U = W.alloc (.cells #[.slice e.a e.r.length e.c, .string e.d] 53) := ⟨_, rfl⟩
  rw [← hU] at g5
  have bU : Below W.heap.size W U := by rw [hU]; exact u_b1 _ _
  have kU : KeepsOthers W U := by rw [hU]; exact KeepsOthers.alloc _ _
  clear hU
  have O4 := owns_below h.own bU
  have hgl := h.lt
  have hU3 : g + 1 ≤ U.heap.size := Nat.le_trans hgl bU.size
  have b5 : Below (g + 1) W w5 := (bU.mono hgl).trans ((Below.refl _ _).grown g5 hU3 (fun k hk => (O4.lt k hk).1))
  have hg5 : w5.heap[g]? = some (.cells #[.int .i64 c, .int .i64 z, .slice b gs.length d] 29 (0, 0)) := (b5.block g (by omega)).trans h.blk
  have hrow : ∀ base v n xs, W.ownsRow base 3 1 v n xs → (w5.setCell ⟨g, 2, none⟩ (.slice a' (gs.length + 1) cap')).ownsRow base 3 1 v n xs := fun base v n xs ho =>
    own_set_kind hg5 (owns_grown (owns_below ho bU) g5 (owns_kinds (owns_below ho bU) O4 (by decide))) (by decide)
  refine ⟨a', cap', rfl, hg5, ⟨?_, ?_, ?_⟩, u_set (b5.mono (Nat.le_succ g)) (Nat.le_refl g) _ _, ?_, ?_, hrow⟩
  · rw [List.length_append, List.length_singleton]; exact set_block hg5 2 _
  · have e2 : eqCells (gs ++ [e]) = eqCells gs ++ (#[.slice e.a e.r.length e.c, .string e.d] : Array Value).toList := by simp [eqCells, EqV.cells]
    rw [e2, List.length_append, List.length_singleton]
    exact Touch.owns (Touch.setCell w5 ⟨g, 2, none⟩ _) o5 (Nat.lt_succ_self _)
  · intro f hf
    rcases List.mem_append.1 hf with h1 | h1
    · exact hrow _ _ _ _ (h.rows f h1)
    · simp only [List.mem_singleton] at h1
      subst h1
      exact hrow _ _ _ _ he
  · refine kU.trans (KeepsOthers.of_grownBy g5 (fun k o hk ho => ?_))
    rcases O4.2 with ⟨h1, _⟩ | ⟨g', cap', cur', h1, _, h2, _⟩
    · rw [h1] at hk; cases hk
    · rw [h1] at hk
      cases hk
      rw [h2] at ho
      cases ho
      rfl
  · intro k cs hk hkg hko
    refine set_other ?_ hkg _ _
    rw [g5.block k (Nat.lt_of_lt_of_le (lt_of_block hk) bU.size) (fun e => hko e.symm)]
    exact kept hk bU
end Go.Proofs.YtpdaobiaekamoaaDoor
