/- A solver copied by the model. Gettings copied by the model. What the model knows of equations. -/
import Derived.Test.YtegldmdcdnnegaaGreatDoorG12
import Derived.Test.YtegldmdcdnnegaaGreatDoorG16
import Derived.Test.YtegldmdcdnnegaaGreatDoorG32
import Derived.Test.YtegldmdcdnnegaaGreatDoorG33
import Derived.Test.YtegldmdcdnnegaaGreatDoorG26
import Derived.Test.YtegldmdcdnnegaaGreatDoorG9
import Derived.Test.YtegldmdcdnnegaaGreatDoorG17
namespace Go.Proofs.YtegldmdcdnnegaaGreatDoor
open Go.ChangeShapes Go.WideShapes Go.ChangeAt Go.RowKit Go.Sort Go.Shelf
attribute [local go_sem] Oper.semAt_some

set_option maxHeartbeats 8000000 in
set_option maxRecDepth 100000 in
theorem l3Copy_any (a : Option Addr) (cap : Nat) (es : List EqV) (c z : Int) (w : World) (ha : EqsAt w a es) (hl : es.length ≤ 1048576) (hsm : SmallE es) (hcap : ∀ e ∈ es, e.a = none → e.c = 0) :
    Calls Tryz.prog 36 #[.agg #[.int .i64 c, .int .i64 z, .slice a es.length cap]] w fun e w' => ∃ a' c' fs, e = .returned (.agg #[.int .i64 c, .int .i64 z, .slice a' fs.length c']) ∧ w'.ownsRow (w.heap.size + 3) 81 2 (.slice a' fs.length c') fs.length (eqCells fs) ∧ SamV fs es ∧ RowsOwn w' (w.heap.size + 3) fs ∧ Below w.heap.size w w' := by
  have HA := hid ha
  have HS := hid hsm
  have HCAP := hid hcap
  clear ha hsm hcap
  obtain ⟨i0, hi, hz0, hzo, hz2⟩ := info_parts Tryz.info3
  obtain ⟨i1, hj, hj0, hj1, hj2⟩ := info_parts Tryz.info81
  go_enter Tryz.func36, Tryz.ntmps36
  repeat ((fail_if_success (with_reducible show Code.wp _ (Code.region 1 _ _) _ _ _)); (first | go_values | go_skip | go_guarded | go_step | go_upon | go_back | go_simp))
  obtain ⟨W0, hW0⟩ : ∃ W0, W0 = (w.alloc (.cells #[.int .i64 c, .int .i64 z, .slice a es.length cap] 34)).alloc (.cells #[.int .i64 0, .int .i64 0, .slice none 0 0] 34) := ⟨_, rfl⟩
  obtain ⟨X0, X1, B0⟩ := u_box2 (w := w) (c := #[.int .i64 c, .int .i64 z, .slice a es.length cap]) (t := 34) (d := #[.int .i64 0, .int .i64 0, .slice none 0 0]) (s := 34) (w1 := W0) (by rw [hW0]; exact Below.refl _ _)
  have hs0 : W0.heap.size = w.heap.size + 2 := by rw [hW0]; simp
  rw [← hW0]
  clear hW0
  have q0 := box_cell X0 0 (v := .int .i64 c) rfl
  have q1 := box_cell X0 1 (v := .int .i64 z) rfl
  repeat ((fail_if_success (with_reducible show Code.wp _ (Code.region 2 _ _) _ _ _)); (first | go_values | go_skip | go_guarded | go_step | go_upon | go_back | go_simp))
  obtain ⟨W1, hW1⟩ : ∃ W1, W1 = W0.alloc (.cells #[.int .i64 c, .int .i64 z, .slice none 0 0] 34) := ⟨_, rfl⟩
  have b1 : Below W0.heap.size W0 W1 := by rw [hW1]; exact u_b1 _ _
  have X2 : W1.heap[w.heap.size + 2]? = some (.cells #[.int .i64 c, .int .i64 z, .slice none 0 0] 34 (0, 0)) := by rw [hW1, ← hs0]; exact laid W0 _ _
  have hs1 : W1.heap.size = w.heap.size + 3 := by rw [hW1]; simp [hs0]
  rw [← hW1]
  clear hW1 q0 q1
  have HX0 := hid (kept X0 b1)
  have HX1 := hid (kept X1 b1)
  have HX2 := hid X2
  have HB := hid (u_cat B0 b1)
  clear X0 X1 X2 B0 b1
  go_wp2_with fail
  go_loopw [4] (fun i wr => ∃ fs : List EqV, fs.length ≤ es.length ∧ i = .int .i64 fs.length ∧ SamV fs (es.take fs.length) ∧ wr.heap[w.heap.size]? = some (.cells #[.int .i64 c, .int .i64 z, .slice a es.length cap] 34 (0, 0)) ∧ wr.heap[w.heap.size + 1]? = some (.cells #[.int .i64 0, .int .i64 0, .slice none 0 0] 34 (0, 0)) ∧
      (∃ b d, wr.heap[w.heap.size + 2]? = some (.cells #[.int .i64 c, .int .i64 z, .slice b fs.length d] 34 (0, 0)) ∧ wr.ownsRow (w.heap.size + 3) 81 2 (.slice b fs.length d) fs.length (eqCells fs)) ∧ RowsOwn wr (w.heap.size + 3) fs ∧ w.heap.size + 3 ≤ wr.heap.size ∧ Below w.heap.size w wr) (fun i _ => es.length - (intOf i).toNat)
  case atStart => exact ⟨[], Nat.zero_le _, rfl, ⟨rfl, rfl⟩, HX0.out, HX1.out, ⟨none, 0, HX2.out, ⟨rfl, .inl ⟨rfl, rfl⟩⟩⟩, fun f hf => by simp at hf, Nat.le_of_eq hs1.symm, HB.out⟩
  case round =>
    clear HX0 HX1 HX2 HB
    obtain ⟨fs, hk, rfl, hsam, x0, x1, ⟨b, d, x2, ho⟩, hro, hsz, hbl⟩ := hrel
    have HM := hid hsam
    have HX0 := hid x0
    have HX1 := hid x1
    have HX2 := hid x2
    have HO := hid ho
    have HRO := hid hro
    have HB := hid hbl
    clear hsam x0 x1 x2 ho hro hbl
    by_cases hlt : fs.length < es.length
    · have hlt1 : decide ((fs.length : Int) < es.length) = true := by simp; omega
      obtain ⟨e, he⟩ : ∃ e, es[fs.length] = e := ⟨_, rfl⟩
      have hem : e ∈ es := by rw [← he]; exact List.getElem_mem hlt
      obtain ⟨hel, hed⟩ := HS.out e hem
      have HN := hid (HCAP.out e hem)
      obtain ⟨eb, off, rfl, hc⟩ := (HA.out.below HB.out) (by intro h; simp [h] at hlt)
      obtain ⟨c0, c1, crow⟩ := hc fs.length e (by rw [List.getElem?_eq_getElem hlt, he])
      have HE := hid he
      have CR := hid crow
      have y0 := cell_regrown (box_cell HX0.out 2 (v := .slice (some ⟨eb, off, none⟩) es.length cap) rfl)
      have y1 := cell_regrown (box_cell HX2.out 2 (v := .slice b fs.length d) rfl)
      have u0 := cell_regrown c0
      have u1 := cell_regrown c1
      have q2 := box_cell HX0.out 2 (v := .slice (some ⟨eb, off, none⟩) es.length cap) rfl
      clear hc he crow hem c0 c1
      go_wp2_with fail
      refine wp_pick 18 4 [(0, 2), (3, 6), (10, 6)] [(2, 1), (9, 1), (16, 5)] (by kernel_rfl) (by kernel_rfl) (fun _ _ d _ _ h => by cases d <;> exact h) ?_
      simp only [cutOut, List.take_succ_cons, List.take_zero, List.drop_succ_cons, List.drop_zero, List.nil_append, List.cons_append, List.append_nil]
      repeat (first | go_big_quiet_step (fail) | quiet_step (fail))
      refine wpQuiet_nil ?_
      intro V0 hw'
      have HC0 := hid (of_class hw')
      clear hw' y0 y1 u0 u1 q2
      refine wpRest_step (fun K hK => ?_)
      go_simp
      refine hK _ _ (class_of (HC0.out.trans ((u_b1 _ _).mono HC0.out.size))) ?_
      clear hK K
      obtain ⟨V1, hV1⟩ : ∃ V1, V1 = V0.alloc (.cells #[] 3) := ⟨_, rfl⟩
      rw [← hV1]
      have bV1 : Below V0.heap.size V0 V1 := by rw [hV1]; exact u_b1 _ _
      have OW := hid (show V1.ownsRow V0.heap.size 3 1 (.slice (some ⟨V0.heap.size, 0, none⟩) 0 0) 0 [] by rw [hV1]; exact World.ownsRow_lit V0 #[] 0 (Nat.le_refl _) (Nat.zero_le _) rfl)
      have hz1 : wr.heap.size ≤ V0.heap.size ∧ V0.heap.size < V1.heap.size := ⟨HC0.out.size, by rw [hV1]; simp⟩
      clear hV1
      have HC1 := hid (HC0.out.trans (bV1.mono HC0.out.size))
      clear bV1
      refine wpRest_step (fun K hK => ?_)
      refine step_append_row 22 3 i0 _ 8 Tryz.underlying22 hi hz0 hzo hz2 rfl _ _ rfl rfl rfl e.a e.r.length e.c (e.r.map (Value.int .i64)) rfl (by simp) (fun hn => ⟨none_len CR.out hn, HN.out hn⟩) OW.out (fun ad had => row_news (CR.out.below HC1.out) had) row_ones (by omega) (by omega) (by omega) ?_
      intro v' V2 o5 g5
      rw [Nat.zero_add, List.nil_append] at o5
      obtain ⟨a5, d5, rfl⟩ := owns_slice o5
      have HC2 := hid (HC1.out.trans ((grown_base g5 OW.out (by omega)).mono (by omega)))
      refine hK _ _ (class_of HC2.out) ?_
      clear hK K
      have hzz : V1.heap.size ≤ V2.heap.size := g5.size
      have O5 := hid (owns_base o5 (show w.heap.size + 3 ≤ V0.heap.size by omega))
      clear g5 OW o5
      refine wpRest_step (fun K hK => ?_)
      go_simp
      refine hK _ _ (class_of HC2.out) ?_
      clear hK K
      refine wpRest_step (fun K hK => ?_)
      go_simp
      refine hK _ _ (class_of (HC2.out.trans ((u_b1 _ _).mono HC2.out.size))) ?_
      clear hK K
      have hwl : w.heap.size + 3 ≤ V2.heap.size := by omega
      have HO2 := hid (owns_below HO.out HC2.out)
      have HRO2 := hid (HRO.out.below HC2.out)
      refine append_many 32 81 i1 _ 2 40 Tryz.underlying32 hj hj0 hj1 hj2 rfl (by omega) #[.slice a5 e.r.length d5, .string e.d] rfl _ _ rfl rfl rfl rfl rfl (by simp [Value.oneCell']) HO2.out hwl (by omega) (by omega) ?_
      intro v' w5 o5 g5
      obtain ⟨a', cap', rfl⟩ := owns_slice o5
      obtain ⟨U, hU⟩ : ∃ U, U = V2.alloc (.cells #[.slice a5 e.r.length d5, .string e.d] 81) := ⟨_, rfl⟩
      rw [← hU] at g5
      have bU : Below V2.heap.size V2 U := by rw [hU]; exact u_b1 _ _
      clear hU
      have O4 := owns_below HO2.out bU
      have hU3 : w.heap.size + 3 ≤ U.heap.size := Nat.le_trans hwl bU.size
      have b5 : Below (w.heap.size + 3) wr w5 := ((HC2.out.mono hsz).trans (bU.mono hwl)).trans ((Below.refl _ _).grown g5 hU3 (fun k hk => (O4.lt k hk).1))
      have R5 : RowsOwn w5 (w.heap.size + 3) fs := fun f hf => owns_grown (HRO2.out.below bU f hf) g5 (owns_kinds (HRO2.out.below bU f hf) O4 (by decide))
      have E5 : w5.ownsRow (w.heap.size + 3) 3 1 (.slice a5 e.r.length d5) e.r.length (e.r.map (Value.int .i64)) := owns_grown (owns_below O5.out bU) g5 (owns_kinds (owns_below O5.out bU) O4 (by decide))
      have hs5 : w.heap.size + 3 ≤ w5.heap.size := Nat.le_trans hsz b5.size
      have Y0 := hid ((b5.block _ (by omega)).trans HX0.out)
      have Y1 := hid ((b5.block _ (by omega)).trans HX1.out)
      have Y2 := hid ((b5.block _ (by omega)).trans HX2.out)
      have B5 := hid (HB.out.trans (b5.mono (by omega)))
      have HR5 := hid R5
      have HE5 := hid E5
      have HO5 := hid o5
      have q0 := box_cell Y2.out 2 (v := .slice b fs.length d) rfl
      have z0 := box_frozen Y2.out
      have l0 := lt_of_block Y2.out
      have S5 := hid (set_block Y2.out 2 (.slice a' (fs.length + 1) cap'))
      clear g5 o5 bU O4 hU3 b5 R5 E5 HO2 HRO2 O5 HC0 HC1 HC2
      go_wp2_with fail
      go_roundw
      case rel =>
        refine ⟨fs ++ [⟨a5, d5, e.r, e.d⟩], by simp; omega, by simp, ?_, set_other Y0.out (by omega) _ _, set_other Y1.out (by omega) _ _, ⟨a', cap', ?_, ?_⟩, ?_, (by simpa using hs5), ?_⟩
        · rw [List.length_append, List.length_singleton, List.take_succ_eq_append_getElem hlt]
          refine ⟨?_, ?_⟩
          · rw [List.map_append, List.map_append, HM.out.1, HE.out]; rfl
          · rw [List.map_append, List.map_append, HM.out.2, HE.out]; rfl
        · rw [List.length_append, List.length_singleton]; exact S5.out
        · rw [List.length_append, List.length_singleton]
          have h := Touch.owns (Touch.setCell w5 ⟨w.heap.size + 2, 2, none⟩ (.slice a' (fs.length + 1) cap')) HO5.out (Nat.lt_succ_self _)
          have e2 : eqCells (fs ++ [⟨a5, d5, e.r, e.d⟩]) = eqCells fs ++ (#[.slice a5 e.r.length d5, .string e.d] : Array Value).toList := by simp [eqCells, EqV.cells]
          rw [e2]
          exact h
        · refine RowsOwn.set ?_ (Nat.lt_succ_self _) _ _
          intro f hf
          rcases List.mem_append.1 hf with h | h
          · exact HR5.out f h
          · simp only [List.mem_singleton] at h
            subst h
            exact HE5.out
        · exact u_set B5.out (by omega) _ _
      case measure => simp [intOf]; omega
    · have hlt1 : decide ((fs.length : Int) < es.length) = false := by simp; omega
      have hfl : fs.length = es.length := by omega
      have HFL := hid hfl
      clear hfl
      have q2 := box_cell HX0.out 2 (v := .slice a es.length cap) rfl
      have p0 := box_cell HX2.out 0 (v := .int .i64 c) rfl
      have p1 := box_cell HX2.out 1 (v := .int .i64 z) rfl
      have p2 := box_cell HX2.out 2 (v := .slice b fs.length d) rfl
      have r0 := box_cell HX1.out 0 (v := .int .i64 0) rfl
      have r1 := box_cell HX1.out 1 (v := .int .i64 0) rfl
      have r2 := box_cell HX1.out 2 (v := .slice none 0 0) rfl
      have z0 := box_frozen HX1.out
      have l0 := lt_of_block HX1.out
      have S5 := set_block (set_block (set_block HX1.out 0 (.int .i64 c)) 1 (.int .i64 z)) 2 (.slice b fs.length d)
      have x0 := box_cell S5 0 (v := .int .i64 c) (by simp)
      have x1 := box_cell S5 1 (v := .int .i64 z) (by simp)
      have x2 := box_cell S5 2 (v := .slice b fs.length d) (by simp)
      clear S5
      go_wp2_with fail
      refine bodyPost_ret (v := .agg #[.int .i64 c, .int .i64 z, .slice b fs.length d]) ?_ rfl ⟨b, d, fs, rfl, ?_, ?_, ?_, ?_⟩
      · simp [results, Tryz.results36, go_sem, x0, x1, x2]
      · refine Touch.owns (Touch.setCell _ ⟨_, _, _⟩ _) (Touch.owns (Touch.setCell _ ⟨_, _, _⟩ _) (Touch.owns (Touch.setCell _ ⟨_, _, _⟩ _) HO.out ?_) ?_) ?_ <;> (simp only []; omega)
      · have := HM.out
        rwa [HFL.out, List.take_length] at this
      · refine RowsOwn.set (RowsOwn.set (RowsOwn.set HRO.out ?_ _ _) ?_ _ _) ?_ _ _ <;> omega
      · refine u_set (u_set (u_set HB.out ?_ _ _) ?_ _ _) ?_ _ _ <;> omega
end Go.Proofs.YtegldmdcdnnegaaGreatDoor
namespace Go.Proofs.YtegldmdcdnnegaaGreatDoor
open Go.ChangeShapes Go.WideShapes Go.ChangeAt Go.RowKit Go.Sort Go.Shelf
attribute [local go_sem] Oper.semAt_some

theorem GetOwn.set {w : World} {base : Nat} {ws gs : List Int} {b1 b2 : Option Addr} {d1 d2 : Nat} {a : Option Addr} {c : Nat} {fs : List EqV} (h : GetOwn w base ws gs b1 b2 d1 d2 a c fs) {g : Nat} (hg : g < base) (i : Nat) (u : Value) : GetOwn (w.setCell ⟨g, i, none⟩ u) base ws gs b1 b2 d1 d2 a c fs := by
  obtain ⟨n, h1, h2, h3, h4, h5⟩ := h.up
  exact ⟨owns_set h.o1 hg u, owns_set h.o2 hg u, h.ap, n, h1, h2, h3, owns_set h4 (Nat.lt_of_lt_of_le hg h1) u, h5.set (Nat.lt_of_lt_of_le hg h1) _ _⟩

set_option maxHeartbeats 4000000 in
set_option maxRecDepth 100000 in
theorem l6Copy_any (L S : Int) (x1 y1 x2 y2 : Nat) (c1 c2 : Nat) (ws gs : List Int) (C Z : Int) (a : Option Addr) (cap : Nat) (es : List EqV) (w : World) (h1 : ∀ i, i < ws.length → w.cell? ⟨x1, y1 + i, none⟩ = some (.int .i64 (ws.getD i 0))) (h2 : ∀ i, i < gs.length → w.cell? ⟨x2, y2 + i, none⟩ = some (.int .i64 (gs.getD i 0)))
    (n1 : ws.length ≤ 1000) (n2 : gs.length ≤ 1000) (p1 : 1 ≤ ws.length) (p2 : 1 ≤ gs.length) (ha : EqsAt w a es) (hl : es.length ≤ 1048576) (hsm : SmallE es) (hcap : ∀ e ∈ es, e.a = none → e.c = 0) :
    Calls Tryz.prog 14 #[.agg #[.int .i64 L, .int .i64 S, .slice (some ⟨x1, y1, none⟩) ws.length c1, .slice (some ⟨x2, y2, none⟩) gs.length c2, .int .i64 C, .int .i64 Z, .slice a es.length cap]] w fun e w' => ∃ b1 d1 b2 d2 a' c' fs, e = .returned (.agg #[.int .i64 L, .int .i64 S, .slice b1 ws.length d1, .slice b2 gs.length d2, .int .i64 C, .int .i64 Z, .slice a' fs.length c']) ∧
      GetOwn w' (w.heap.size + 2) ws gs b1 b2 d1 d2 a' c' fs ∧ SamV fs es ∧ Below w.heap.size w w' := by
  have l1 := block_lt_of_cell (h1 0 (by omega))
  have l2 := block_lt_of_cell (h2 0 (by omega))
  have CP := hid (fun W (b : Below w.heap.size w W) => l6Plan_any L S x1 y1 x2 y2 c1 c2 ws gs W (fun i hi => (b.cell (p := ⟨x1, y1 + i, none⟩) l1).trans (h1 i hi)) (fun i hi => (b.cell (p := ⟨x2, y2 + i, none⟩) l2).trans (h2 i hi)) n1 n2 p1 p2)
  have CS := hid (fun W (b : Below w.heap.size w W) => l3Copy_any a cap es C Z W (ha.below b) hl hsm hcap)
  clear h1 h2 ha hsm hcap l1 l2
  obtain ⟨W0, hW0⟩ : ∃ W0, W0 = (w.alloc (.cells #[.int .i64 L, .int .i64 S, .slice (some ⟨x1, y1, none⟩) ws.length c1, .slice (some ⟨x2, y2, none⟩) gs.length c2, .int .i64 C, .int .i64 Z, .slice a es.length cap] 36)).alloc (.cells #[.int .i64 0, .int .i64 0, .slice none 0 0, .slice none 0 0, .int .i64 0, .int .i64 0, .slice none 0 0] 36) := ⟨_, rfl⟩
  obtain ⟨X0, X1, B0⟩ := u_box2 (w := w) (c := #[.int .i64 L, .int .i64 S, .slice (some ⟨x1, y1, none⟩) ws.length c1, .slice (some ⟨x2, y2, none⟩) gs.length c2, .int .i64 C, .int .i64 Z, .slice a es.length cap]) (t := 36) (d := #[.int .i64 0, .int .i64 0, .slice none 0 0, .slice none 0 0, .int .i64 0, .int .i64 0, .slice none 0 0]) (s := 36) (w1 := W0) (by rw [hW0]; exact Below.refl _ _)
  have hs0 : w.heap.size + 2 ≤ W0.heap.size := by rw [hW0]; simp
  have y0 := cell_regrown (box_cell X0 0 (v := .int .i64 L) rfl)
  have y1' := cell_regrown (box_cell X0 1 (v := .int .i64 S) rfl)
  have y2' := cell_regrown (box_cell X0 2 (v := .slice (some ⟨x1, y1, none⟩) ws.length c1) rfl)
  have y3 := cell_regrown (box_cell X0 3 (v := .slice (some ⟨x2, y2, none⟩) gs.length c2) rfl)
  have y4 := cell_regrown (box_cell X0 4 (v := .int .i64 C) rfl)
  have y5 := cell_regrown (box_cell X0 5 (v := .int .i64 Z) rfl)
  have y6 := cell_regrown (box_cell X0 6 (v := .slice a es.length cap) rfl)
  have HX1 := hid X1
  have HB := hid B0
  clear X0 X1 B0
  go_enter Tryz.func14, Tryz.ntmps14
  repeat ((fail_if_success (with_reducible show Code.wp _ (Code.region 1 _ _) _ _ _)); (first | go_values | go_skip | go_guarded | go_step | go_upon | go_back | go_simp))
  rw [← hW0]
  clear hW0
  refine wp_plan 7 (.pull [(0, 2), (3, 2)] (.step 2 (.step 5 (.step 6 (.step 7 .done))))) (by kernel_rfl) (by kernel_rfl) ?_
  intro V0 hw0
  have hbq := of_class hw0
  refine pln_pull ?_
  simp only [cutOut, List.take_succ_cons, List.take_zero, List.drop_succ_cons, List.drop_zero, List.nil_append, List.cons_append, List.append_nil]
  repeat (first | go_big_quiet_step (fail) | quiet_step (fail))
  try refine wpQuiet_nil ?_
  clear y0 y1' y2' y3 y4 y5 y6
  refine pln_step rfl (by omega) (fun K hK => ?_)
  go_simp
  with_reducible refine (CP.out V0 (u_cat HB.out hbq)).mono ?_
  rintro _ V1 ⟨v, rfl, hpo, bb⟩
  obtain ⟨b1, d1, b2, d2, rfl, o1, o2, ap⟩ := planO_slices hpo
  have hcl := u_cat hbq bb
  refine hK _ _ (class_of hcl) ?_
  clear hK K hpo
  have O1 := hid o1
  have O2 := hid o2
  have AP := hid ap
  have hz0 := hbq.size
  have hz1 := bb.size
  clear o1 o2 ap bb
  refine pln_step rfl (by omega) (fun K hK => ?_)
  go_simp
  with_reducible refine (CS.out V1 (u_cat HB.out hcl)).mono ?_
  rintro _ V2 ⟨a', c', fs, rfl, o3, sm, r3, bb⟩
  have hcl2 := u_cat hcl bb
  refine hK _ _ (class_of hcl2) ?_
  clear hK K
  have hz2 := bb.size
  have G := hid (show GetOwn V2 (w.heap.size + 2) ws gs b1 b2 d1 d2 a' c' fs from ⟨owns_base (owns_below O1.out bb) (by omega), owns_base (owns_below O2.out bb) (by omega), AP.out, V1.heap.size, by omega, fun k e => (O1.out.lt k e).2, fun k e => (O2.out.lt k e).2, owns_base o3 (by omega), r3.mono (by omega)⟩)
  have SM := hid sm
  have B2 := hid (u_cat HB.out hcl2)
  have X1 := hid (kept HX1.out hcl2)
  clear o3 sm r3 bb O1 O2 AP
  refine pln_step rfl (by omega) (fun K hK => ?_)
  go_simp
  refine hK _ _ (class_of hcl2) ?_
  clear hK K
  have zr := box_frozen X1.out
  have s0 := box_cell X1.out 0 (v := .int .i64 0) rfl
  have s1 := box_cell X1.out 1 (v := .int .i64 0) rfl
  have s2 := box_cell X1.out 2 (v := .slice none 0 0) rfl
  have s3 := box_cell X1.out 3 (v := .slice none 0 0) rfl
  have s4 := box_cell X1.out 4 (v := .int .i64 0) rfl
  have s5 := box_cell X1.out 5 (v := .int .i64 0) rfl
  have s6 := box_cell X1.out 6 (v := .slice none 0 0) rfl
  have lr := lt_of_block X1.out
  refine pln_last rfl (by omega) (fun K hK => ?_)
  go_simp
  refine hK _ _ ?_
  clear hK K
  refine pln_done ?_
  have Y := set_block (set_block (set_block (set_block (set_block (set_block (set_block (X1.out) 0 (.int .i64 L)) 1 (.int .i64 S)) 2 (.slice b1 ws.length d1)) 3 (.slice b2 gs.length d2)) 4 (.int .i64 C)) 5 (.int .i64 Z)) 6 (.slice a' fs.length c')
  have y0 := box_cell Y 0 (v := .int .i64 L) (by simp)
  have y1' := box_cell Y 1 (v := .int .i64 S) (by simp)
  have y2' := box_cell Y 2 (v := .slice b1 ws.length d1) (by simp)
  have y3 := box_cell Y 3 (v := .slice b2 gs.length d2) (by simp)
  have y4 := box_cell Y 4 (v := .int .i64 C) (by simp)
  have y5 := box_cell Y 5 (v := .int .i64 Z) (by simp)
  have y6 := box_cell Y 6 (v := .slice a' fs.length c') (by simp)
  clear s0 s1 s2 s3 s4 s5 s6 zr lr Y hcl hcl2 hbq
  go_wp2_with fail
  have hg1 : w.heap.size + 1 < w.heap.size + 2 := by omega
  refine bodyPost_ret (v := .agg #[.int .i64 L, .int .i64 S, .slice b1 ws.length d1, .slice b2 gs.length d2, .int .i64 C, .int .i64 Z, .slice a' fs.length c']) ?_ rfl ⟨b1, d1, b2, d2, a', c', fs, rfl, ?_, SM.out, ?_⟩
  · unfold results; rw [Tryz.results14]; simp [go_sem, y0, y1', y2', y3, y4, y5, y6]
  · exact ((((((G.out.set hg1 _ _).set hg1 _ _).set hg1 _ _).set hg1 _ _).set hg1 _ _).set hg1 _ _).set hg1 _ _
  · exact u_set (u_set (u_set (u_set (u_set (u_set (u_set B2.out (by simp) _ _) (by simp) _ _) (by simp) _ _) (by simp) _ _) (by simp) _ _) (by simp) _ _) (by simp) _ _
end Go.Proofs.YtegldmdcdnnegaaGreatDoor
namespace Go.Proofs.YtegldmdcdnnegaaGreatDoor
open Go.ChangeShapes Go.WideShapes Go.ChangeAt Go.RowKit Go.Sort Go.Shelf
attribute [local go_sem] Oper.semAt_some

theorem getE_take_none {es : List EqV} {at' : Int} (h : ∀ i (hi : i < es.length), es[i].r ≠ [at']) : getE es at' = none := getE_none (fun r hr => by
  obtain ⟨e, he, rfl⟩ := List.mem_map.1 hr
  obtain ⟨i, hi, rfl⟩ := List.getElem_of_mem he
  exact h i hi)
theorem eqsOf_yes {c z : Int} {es : List EqV} (h : solverP c z es) : eqsOf c z es = es := if_pos h
theorem eqsOf_no {c z : Int} {es : List EqV} (h : ¬ solverP c z es) : eqsOf c z es = [] := if_neg h
theorem pfx_spec : ∀ (rs : List (List Int)) (n : Nat), n ≤ pfx n rs ∧ pfx n rs ≤ n + rs.length ∧ (∀ i, n + i < pfx n rs → rs[i]? = some [((n + i : Nat) : Int)]) ∧ rs[pfx n rs - n]? ≠ some [((pfx n rs : Nat) : Int)]
  | [], n => ⟨Nat.le_refl _, Nat.le_refl _, fun i hi => by simp only [pfx] at hi; omega, by simp⟩
  | r :: rs, n => by
    by_cases h : r = [(n : Int)]
    · have e : pfx n (r :: rs) = pfx (n + 1) rs := by show (if r = [(n : Int)] then pfx (n + 1) rs else n) = _; rw [if_pos h]
      obtain ⟨h1, h2, h3, h4⟩ := pfx_spec rs (n + 1)
      rw [e]
      refine ⟨by omega, by rw [List.length_cons]; omega, fun i hi => ?_, ?_⟩
      · cases i with
        | zero => simpa using h
        | succ i =>
          have := h3 i (by omega)
          rw [List.getElem?_cons_succ, this]
          congr 3
          omega
      · rw [show pfx (n + 1) rs - n = (pfx (n + 1) rs - (n + 1)) + 1 by omega, List.getElem?_cons_succ]
        exact h4
    · have e : pfx n (r :: rs) = n := by show (if r = [(n : Int)] then pfx (n + 1) rs else n) = _; rw [if_neg h]
      rw [e]
      refine ⟨Nat.le_refl _, by omega, fun i hi => by omega, ?_⟩
      rw [Nat.sub_self, List.getElem?_cons_zero]
      intro h2
      exact h (Option.some.inj h2)
theorem hd_ge {c z : Int} {es : List EqV} (h : okE c z es) : ∀ (i : Nat) (hi : i < es.length), (i : Int) ≤ hd es[i].r := by
  have h' := okE_iff.1 h
  intro i
  induction i with
  | zero =>
    intro hi
    have := asc_mem (h' 0 hi).1.1 (hd_mem (h' 0 hi).1.2.2)
    omega
  | succ i ih =>
    intro hi
    have h1 := ih (by omega)
    have h2 := ((h' i (by omega)).2 (i + 1) hi (by omega)).1
    omega
theorem prefix_known {c z : Int} {es : List EqV} (h : okE c z es) : (∀ n : Nat, n < pfx 0 (es.map EqV.r) → (getE es n).isSome = true) ∧ getE es (pfx 0 (es.map EqV.r) : Nat) = none := by
  obtain ⟨h1, h2, h3, h4⟩ := pfx_spec (es.map EqV.r) 0
  rw [Nat.sub_zero] at h4
  simp only [Nat.zero_add] at h2 h3
  rw [List.length_map] at h2
  have hr : ∀ n : Nat, n < pfx 0 (es.map EqV.r) → ∃ hn : n < es.length, es[n].r = [(n : Int)] := fun n hn => by
    have hl : n < es.length := by omega
    have := h3 n hn
    rw [List.getElem?_map, List.getElem?_eq_getElem hl, Option.map_some] at this
    exact ⟨hl, Option.some.inj this⟩
  refine ⟨fun n hn => ?_, getE_take_none (fun i hi he => ?_)⟩
  · obtain ⟨hl, he⟩ := hr n hn
    unfold getE
    rw [List.find?_isSome]
    exact ⟨es[n], List.getElem_mem hl, by simpa using he⟩
  · generalize hp : pfx 0 (es.map EqV.r) = p at *
    rcases Nat.lt_trichotomy i p with hlt | heq | hgt
    · obtain ⟨_, h5⟩ := hr i hlt
      rw [h5] at he
      have := List.cons.inj he
      omega
    · subst heq
      rw [List.getElem?_map, List.getElem?_eq_getElem hi, Option.map_some, he] at h4
      exact h4 rfl
    · have h5 := hd_ge h p (by omega)
      have h6 := ((okE_iff.1 h p (by omega)).2 i hi hgt).1
      rw [he] at h6
      have : hd [(p : Int)] = p := rfl
      omega
end Go.Proofs.YtegldmdcdnnegaaGreatDoor
