/- A solver copied by the model. An equation learnt by the program: where nothing of its row is left. What an equation that is learnt makes of what is known: values alone. Links put together with what is learnt, one by one: the list's memory and its values. An equation learnt by the program: where nothing of its row is left. An equation learnt by the program: where something of its row is left. A solver out of the program's list. -/
import Derived.Test.YtbakicgdloakgaaGreatDoorG18
import Derived.Test.YtbakicgdloakgaaGreatDoorG16
import Derived.Test.YtbakicgdloakgaaGreatDoorG1
import Derived.Test.YtbakicgdloakgaaGreatDoorG20
import Derived.Test.YtbakicgdloakgaaGreatDoorG11
import Derived.Test.YtbakicgdloakgaaGreatDoorG8
import Derived.Laws.BytesArg
namespace Go.Proofs.YtbakicgdloakgaaGreatDoor
open Go.ChangeShapes Go.WideShapes Go.ChangeAt Go.RowKit Go.Sort Go.Shelf
attribute [local go_sem] Oper.semAt_some

set_option maxHeartbeats 8000000 in
set_option maxRecDepth 100000 in
theorem l3Copy_any (a : Option Addr) (cap : Nat) (es : List EqV) (c z : Int) (w : World) (ha : EqsAt w a es) (hl : es.length ≤ 1048576) (hsm : SmallE es) (hcap : ∀ e ∈ es, e.a = none → e.c = 0) :
    Calls Tryz.prog 72 #[.agg #[.int .i64 c, .int .i64 z, .slice a es.length cap]] w fun e w' => ∃ a' c' fs, e = .returned (.agg #[.int .i64 c, .int .i64 z, .slice a' fs.length c']) ∧ w'.ownsRow (w.heap.size + 3) 124 2 (.slice a' fs.length c') fs.length (eqCells fs) ∧ SamV fs es ∧ RowsOwn w' (w.heap.size + 3) fs ∧ Below w.heap.size w w' := by
  have HA := hid ha
  have HS := hid hsm
  have HCAP := hid hcap
  clear ha hsm hcap
  obtain ⟨i0, hi, hz0, hzo, hz2⟩ := info_parts Tryz.info3
  obtain ⟨i1, hj, hj0, hj1, hj2⟩ := info_parts Tryz.info124
  go_enter Tryz.func72, Tryz.ntmps72
  repeat ((fail_if_success (with_reducible show Code.wp _ (Code.region 1 _ _) _ _ _)); (first | go_values | go_skip | go_guarded | go_step | go_upon | go_back | go_simp))
  obtain ⟨W0, hW0⟩ : ∃ W0, W0 = (w.alloc (.cells #[.int .i64 c, .int .i64 z, .slice a es.length cap] 36)).alloc (.cells #[.int .i64 0, .int .i64 0, .slice none 0 0] 36) := ⟨_, rfl⟩
  obtain ⟨X0, X1, B0⟩ := u_box2 (w := w) (c := #[.int .i64 c, .int .i64 z, .slice a es.length cap]) (t := 36) (d := #[.int .i64 0, .int .i64 0, .slice none 0 0]) (s := 36) (w1 := W0) (by rw [hW0]; exact Below.refl _ _)
  have hs0 : W0.heap.size = w.heap.size + 2 := by rw [hW0]; simp
  rw [← hW0]
  clear hW0
  have q0 := box_cell X0 0 (v := .int .i64 c) rfl
  have q1 := box_cell X0 1 (v := .int .i64 z) rfl
  repeat ((fail_if_success (with_reducible show Code.wp _ (Code.region 2 _ _) _ _ _)); (first | go_values | go_skip | go_guarded | go_step | go_upon | go_back | go_simp))
  obtain ⟨W1, hW1⟩ : ∃ W1, W1 = W0.alloc (.cells #[.int .i64 c, .int .i64 z, .slice none 0 0] 36) := ⟨_, rfl⟩
  have b1 : Below W0.heap.size W0 W1 := by rw [hW1]; exact u_b1 _ _
  have X2 : W1.heap[w.heap.size + 2]? = some (.cells #[.int .i64 c, .int .i64 z, .slice none 0 0] 36 (0, 0)) := by rw [hW1, ← hs0]; exact laid W0 _ _
  have hs1 : W1.heap.size = w.heap.size + 3 := by rw [hW1]; simp [hs0]
  rw [← hW1]
  clear hW1 q0 q1
  have HX0 := hid (kept X0 b1)
  have HX1 := hid (kept X1 b1)
  have HX2 := hid X2
  have HB := hid (u_cat B0 b1)
  clear X0 X1 X2 B0 b1
  go_wp2_with fail
  go_loopw [4] (fun i wr => ∃ fs : List EqV, fs.length ≤ es.length ∧ i = .int .i64 fs.length ∧ SamV fs (es.take fs.length) ∧ wr.heap[w.heap.size]? = some (.cells #[.int .i64 c, .int .i64 z, .slice a es.length cap] 36 (0, 0)) ∧ wr.heap[w.heap.size + 1]? = some (.cells #[.int .i64 0, .int .i64 0, .slice none 0 0] 36 (0, 0)) ∧
      (∃ b d, wr.heap[w.heap.size + 2]? = some (.cells #[.int .i64 c, .int .i64 z, .slice b fs.length d] 36 (0, 0)) ∧ wr.ownsRow (w.heap.size + 3) 124 2 (.slice b fs.length d) fs.length (eqCells fs)) ∧ RowsOwn wr (w.heap.size + 3) fs ∧ w.heap.size + 3 ≤ wr.heap.size ∧ Below w.heap.size w wr) (fun i _ => es.length - (intOf i).toNat)
  case atStart => exact ⟨[], Nat.zero_le _, rfl, ⟨rfl, rfl⟩, HX0.out, HX1.out, ⟨none, 0, HX2.out, ⟨rfl, .inl ⟨rfl, rfl⟩⟩⟩, fun f hf => by simp at hf, Nat.le_of_eq hs1.symm, HB.out⟩
  case round =>
    clear HX0 HX1 HX2 HB
    obtain ⟨fs, hk, rfl, hsam, x0, x1, ⟨b, d, x2, ho⟩, hro, hsz, hbl⟩ := hrel
    have HM := hid hsam
    have HX0 := hid x0
    have HX1 := hid x1
    have HX2 := hid x2
    have HO := hid ho
    have HRO := hid hro
    have HB := hid hbl
    clear hsam x0 x1 x2 ho hro hbl
    by_cases hlt : fs.length < es.length
    · have hlt1 : decide ((fs.length : Int) < es.length) = true := by simp; omega
      obtain ⟨e, he⟩ : ∃ e, es[fs.length] = e := ⟨_, rfl⟩
      have hem : e ∈ es := by rw [← he]; exact List.getElem_mem hlt
      obtain ⟨hel, hed⟩ := HS.out e hem
      have HN := hid (HCAP.out e hem)
      obtain ⟨eb, off, rfl, hc⟩ := (HA.out.below HB.out) (by intro h; simp [h] at hlt)
      obtain ⟨c0, c1, crow⟩ := hc fs.length e (by rw [List.getElem?_eq_getElem hlt, he])
      have HE := hid he
      have CR := hid crow
      have y0 := cell_regrown (box_cell HX0.out 2 (v := .slice (some ⟨eb, off, none⟩) es.length cap) rfl)
      have y1 := cell_regrown (box_cell HX2.out 2 (v := .slice b fs.length d) rfl)
      have u0 := cell_regrown c0
      have u1 := cell_regrown c1
      have q2 := box_cell HX0.out 2 (v := .slice (some ⟨eb, off, none⟩) es.length cap) rfl
      clear hc he crow hem c0 c1
      go_wp2_with fail
      refine wp_pick 18 4 [(0, 2), (3, 6), (10, 6)] [(2, 1), (9, 1), (16, 5)] (by kernel_rfl) (by kernel_rfl) (fun _ _ d _ _ h => by cases d <;> exact h) ?_
      simp only [cutOut, List.take_succ_cons, List.take_zero, List.drop_succ_cons, List.drop_zero, List.nil_append, List.cons_append, List.append_nil]
      repeat (first | go_big_quiet_step (fail) | quiet_step (fail))
      refine wpQuiet_nil ?_
      intro V0 hw'
      have HC0 := hid (of_class hw')
      clear hw' y0 y1 u0 u1 q2
      refine wpRest_step (fun K hK => ?_)
      go_simp
      refine hK _ _ (class_of (HC0.out.trans ((u_b1 _ _).mono HC0.out.size))) ?_
      clear hK K
      obtain ⟨V1, hV1⟩ : ∃ V1, V1 = V0.alloc (.cells #[] 3) := ⟨_, rfl⟩
      rw [← hV1]
      have bV1 : Below V0.heap.size V0 V1 := by rw [hV1]; exact u_b1 _ _
      have OW := hid (show V1.ownsRow V0.heap.size 3 1 (.slice (some ⟨V0.heap.size, 0, none⟩) 0 0) 0 [] by rw [hV1]; exact World.ownsRow_lit V0 #[] 0 (Nat.le_refl _) (Nat.zero_le _) rfl)
      have hz1 : wr.heap.size ≤ V0.heap.size ∧ V0.heap.size < V1.heap.size := ⟨HC0.out.size, by rw [hV1]; simp⟩
      clear hV1
      have HC1 := hid (HC0.out.trans (bV1.mono HC0.out.size))
      clear bV1
      refine wpRest_step (fun K hK => ?_)
      refine step_append_row 22 3 i0 _ 8 Tryz.underlying22 hi hz0 hzo hz2 rfl _ _ rfl rfl rfl e.a e.r.length e.c (e.r.map (Value.int .i64)) rfl (by simp) (fun hn => ⟨none_len CR.out hn, HN.out hn⟩) OW.out (fun ad had => row_news (CR.out.below HC1.out) had) row_ones (by omega) (by omega) (by omega) ?_
      intro v' V2 o5 g5
      rw [Nat.zero_add, List.nil_append] at o5
      obtain ⟨a5, d5, rfl⟩ := owns_slice o5
      have HC2 := hid (HC1.out.trans ((grown_base g5 OW.out (by omega)).mono (by omega)))
      refine hK _ _ (class_of HC2.out) ?_
      clear hK K
      have hzz : V1.heap.size ≤ V2.heap.size := g5.size
      have O5 := hid (owns_base o5 (show w.heap.size + 3 ≤ V0.heap.size by omega))
      clear g5 OW o5
      refine wpRest_step (fun K hK => ?_)
      go_simp
      refine hK _ _ (class_of HC2.out) ?_
      clear hK K
      refine wpRest_step (fun K hK => ?_)
      go_simp
      refine hK _ _ (class_of (HC2.out.trans ((u_b1 _ _).mono HC2.out.size))) ?_
      clear hK K
      have hwl : w.heap.size + 3 ≤ V2.heap.size := by omega
      have HO2 := hid (owns_below HO.out HC2.out)
      have HRO2 := hid (HRO.out.below HC2.out)
      refine append_many 34 124 i1 _ 2 40 Tryz.underlying34 hj hj0 hj1 hj2 rfl (by omega) #[.slice a5 e.r.length d5, .string e.d] rfl _ _ rfl rfl rfl rfl rfl (by simp [Value.oneCell']) HO2.out hwl (by omega) (by omega) ?_
      intro v' w5 o5 g5
      obtain ⟨a', cap', rfl⟩ := owns_slice o5
      obtain ⟨U, hU⟩ : ∃ U, U = V2.alloc (.cells #[.slice a5 e.r.length d5, .string e.d] 124) := ⟨_, rfl⟩
      rw [← hU] at g5
      have bU : Below V2.heap.size V2 U := by rw [hU]; exact u_b1 _ _
      clear hU
      have O4 := owns_below HO2.out bU
      have hU3 : w.heap.size + 3 ≤ U.heap.size := Nat.le_trans hwl bU.size
      have b5 : Below (w.heap.size + 3) wr w5 := ((HC2.out.mono hsz).trans (bU.mono hwl)).trans ((Below.refl _ _).grown g5 hU3 (fun k hk => (O4.lt k hk).1))
      have R5 : RowsOwn w5 (w.heap.size + 3) fs := fun f hf => owns_grown (HRO2.out.below bU f hf) g5 (owns_kinds (HRO2.out.below bU f hf) O4 (by decide))
      have E5 : w5.ownsRow (w.heap.size + 3) 3 1 (.slice a5 e.r.length d5) e.r.length (e.r.map (Value.int .i64)) := owns_grown (owns_below O5.out bU) g5 (owns_kinds (owns_below O5.out bU) O4 (by decide))
      have hs5 : w.heap.size + 3 ≤ w5.heap.size := Nat.le_trans hsz b5.size
      have Y0 := hid ((b5.block _ (by omega)).trans HX0.out)
      have Y1 := hid ((b5.block _ (by omega)).trans HX1.out)
      have Y2 := hid ((b5.block _ (by omega)).trans HX2.out)
      have B5 := hid (HB.out.trans (b5.mono (by omega)))
      have HR5 := hid R5
      have HE5 := hid E5
      have HO5 := hid o5
      have q0 := box_cell Y2.out 2 (v := .slice b fs.length d) rfl
      have z0 := box_frozen Y2.out
      have l0 := lt_of_block Y2.out
      have S5 := hid (set_block Y2.out 2 (.slice a' (fs.length + 1) cap'))
      clear g5 o5 bU O4 hU3 b5 R5 E5 HO2 HRO2 O5 HC0 HC1 HC2
      go_wp2_with fail
      go_roundw
      case rel =>
        refine ⟨fs ++ [⟨a5, d5, e.r, e.d⟩], by simp; omega, by simp, ?_, set_other Y0.out (by omega) _ _, set_other Y1.out (by omega) _ _, ⟨a', cap', ?_, ?_⟩, ?_, (by simpa using hs5), ?_⟩
        · rw [List.length_append, List.length_singleton, List.take_succ_eq_append_getElem hlt]
          refine ⟨?_, ?_⟩
          · rw [List.map_append, List.map_append, HM.out.1, HE.out]; rfl
          · rw [List.map_append, List.map_append, HM.out.2, HE.out]; rfl
        · rw [List.length_append, List.length_singleton]; exact S5.out
        · rw [List.length_append, List.length_singleton]
          have h := Touch.owns (Touch.setCell w5 ⟨w.heap.size + 2, 2, none⟩ (.slice a' (fs.length + 1) cap')) HO5.out (Nat.lt_succ_self _)
          have e2 : eqCells (fs ++ [⟨a5, d5, e.r, e.d⟩]) = eqCells fs ++ (#[.slice a5 e.r.length d5, .string e.d] : Array Value).toList := by simp [eqCells, EqV.cells]
          rw [e2]
          exact h
        · refine RowsOwn.set ?_ (Nat.lt_succ_self _) _ _
          intro f hf
          rcases List.mem_append.1 hf with h | h
          · exact HR5.out f h
          · simp only [List.mem_singleton] at h
            subst h
            exact HE5.out
        · exact u_set B5.out (by omega) _ _
      case measure => simp [intOf]; omega
    · have hlt1 : decide ((fs.length : Int) < es.length) = false := by simp; omega
      have hfl : fs.length = es.length := by omega
      have HFL := hid hfl
      clear hfl
      have q2 := box_cell HX0.out 2 (v := .slice a es.length cap) rfl
      have p0 := box_cell HX2.out 0 (v := .int .i64 c) rfl
      have p1 := box_cell HX2.out 1 (v := .int .i64 z) rfl
      have p2 := box_cell HX2.out 2 (v := .slice b fs.length d) rfl
      have r0 := box_cell HX1.out 0 (v := .int .i64 0) rfl
      have r1 := box_cell HX1.out 1 (v := .int .i64 0) rfl
      have r2 := box_cell HX1.out 2 (v := .slice none 0 0) rfl
      have z0 := box_frozen HX1.out
      have l0 := lt_of_block HX1.out
      have S5 := set_block (set_block (set_block HX1.out 0 (.int .i64 c)) 1 (.int .i64 z)) 2 (.slice b fs.length d)
      have x0 := box_cell S5 0 (v := .int .i64 c) (by simp)
      have x1 := box_cell S5 1 (v := .int .i64 z) (by simp)
      have x2 := box_cell S5 2 (v := .slice b fs.length d) (by simp)
      clear S5
      go_wp2_with fail
      refine bodyPost_ret (v := .agg #[.int .i64 c, .int .i64 z, .slice b fs.length d]) ?_ rfl ⟨b, d, fs, rfl, ?_, ?_, ?_, ?_⟩
      · simp [results, Tryz.results72, go_sem, x0, x1, x2]
      · refine Touch.owns (Touch.setCell _ ⟨_, _, _⟩ _) (Touch.owns (Touch.setCell _ ⟨_, _, _⟩ _) (Touch.owns (Touch.setCell _ ⟨_, _, _⟩ _) HO.out ?_) ?_) ?_ <;> (simp only []; omega)
      · have := HM.out
        rwa [HFL.out, List.take_length] at this
      · refine RowsOwn.set (RowsOwn.set (RowsOwn.set HRO.out ?_ _ _) ?_ _ _) ?_ _ _ <;> omega
      · refine u_set (u_set (u_set HB.out ?_ _ _) ?_ _ _) ?_ _ _ <;> omega
end Go.Proofs.YtbakicgdloakgaaGreatDoor
namespace Go.Proofs.YtbakicgdloakgaaGreatDoor
open Go.ChangeShapes Go.WideShapes Go.ChangeAt Go.RowKit Go.Sort Go.Shelf
attribute [local go_sem] Oper.semAt_some

end Go.Proofs.YtbakicgdloakgaaGreatDoor
namespace Go.Proofs.YtbakicgdloakgaaGreatDoor
open Go.ChangeShapes Go.WideShapes Go.ChangeAt Go.RowKit Go.Sort Go.Shelf

theorem vals_len {gs : List EqV} {vs : List Vl} (h : valsE gs = vs) : gs.length = vs.length := by rw [← h]; simp [valsE]
end Go.Proofs.YtbakicgdloakgaaGreatDoor
namespace Go.Proofs.YtbakicgdloakgaaGreatDoor
open Go.ChangeShapes Go.WideShapes Go.ChangeAt Go.RowKit Go.Sort Go.Shelf

/-- A link's row and data, as a text. -/
def valL (l : Lk) : Vl := (l.r, strOfNums l.d)
def valsL (ls : List Lk) : List Vl := ls.map valL
theorem ptr_map : ∀ {ks ls : List Lk}, ks.map Lk.b = ls.map Lk.b → ptrOf ks = ptrOf ls
  | [], [], _ => rfl
  | [], _ :: _, h => by simp at h
  | _ :: _, [], h => by simp at h
  | k :: _, l :: _, h => by
    simp only [List.map_cons, List.cons.injEq] at h
    show some (⟨k.b, 0, none⟩ : Addr) = some ⟨l.b, 0, none⟩
    rw [h.1]
theorem ptr_drop {ks ls : List Lk} (h : ks.map Lk.b = ls.map Lk.b) (j : Nat) : ptrOf (ks.drop j) = ptrOf (ls.drop j) := ptr_map (by rw [List.map_drop, List.map_drop, h])
theorem leads_map {W : World} {ks ls : List Lk} (h : ks.map Lk.b = ls.map Lk.b) (hk : LeadsL W ks) : LeadsL W ls := fun j hj => by
  have hl : ks.length = ls.length := by simpa using congrArg List.length h
  have e : ks[j].b = ls[j].b := by
    have h1 := congrArg (fun l => l[j]?) h
    simpa [List.getElem?_eq_getElem (show j < ks.length by omega), List.getElem?_eq_getElem hj] using h1
  have h1 := hk j (by omega)
  rw [e, ptr_drop h] at h1
  exact h1
/-- A link's cells are written anew: its row, its data. -/
theorem lks_mix {W : World} {base : Nat} {ks : List Lk} (h : LksAt W base ks) (hN : (ks.map Lk.b).Nodup) (x : Nat) (hx : x < ks.length) (l' : Lk) (hb : l'.b = ks[x].b) (hq : base ≤ l'.q) (hby : BytsAt W l'.q l'.d) :
    LksAt ((W.setCell ⟨ks[x].b, 0, none⟩ (.int .u32 (setI l'.r : Nat))).setCell ⟨ks[x].b, 1, none⟩ (.slice (some ⟨l'.q, 0, none⟩) l'.d.length l'.c)) base (ks.set x l') := by
  have hset : ∀ k (hk : k < ks.length), ((ks.set x l').map Lk.b) = ks.map Lk.b := fun k hk => by
    rw [List.map_set, hb]
    apply List.ext_getElem?
    intro i
    by_cases hi : x = i
    · subst hi; rw [List.getElem?_set_self (by simpa using hx)]; simp [hx]
    · rw [List.getElem?_set_ne hi]
  have hX := (h x hx).2.2.1
  have hX1 := set_block hX 0 (.int .u32 (setI l'.r : Nat))
  intro k hk
  have hk' : k < ks.length := by simpa using hk
  have hp : ptrOf ((ks.set x l').drop (k + 1)) = ptrOf (ks.drop (k + 1)) := ptr_drop (hset k hk') (k + 1)
  by_cases hkx : x = k
  · subst hkx
    rw [List.getElem_set_self, hp]
    refine ⟨by rw [hb]; exact (h x hx).1, hq, ?_, ?_⟩
    · rw [hb]
      exact set_block hX1 1 _
    · exact (hby.set_link hX _ _).set_link (x := (setI l'.r : Nat)) hX1 _ _
  · rw [List.getElem_set_ne hkx, hp]
    obtain ⟨h1, h2, h3, h4⟩ := h k hk'
    have hne : ks[k].b ≠ ks[x].b := by
      have h5 := List.pairwise_iff_getElem.1 hN
      intro e
      rcases Nat.lt_or_gt_of_ne hkx with hlt | hlt
      · exact h5 x k (by simpa using hx) (by simpa using hk') hlt (by simpa using e.symm)
      · exact h5 k x (by simpa using hk') (by simpa using hx) hlt (by simpa using e)
    exact ⟨h1, h2, set_other (set_other h3 hne _ _) hne _ _, (h4.set_link hX _ _).set_link (x := (setI l'.r : Nat)) hX1 _ _⟩
theorem mix_keep {w W : World} {bs : List Nat} (h : LkKeep w W bs) {g : Nat} {x : Int} {v1 v2 : Value} (hg : W.heap[g]? = some (.cells #[.int .u32 x, v1, v2] 140 (0, 0))) (hb : g ∈ bs) (y : Int) (u : Value) :
    LkKeep w ((W.setCell ⟨g, 0, none⟩ (.int .u32 y)).setCell ⟨g, 1, none⟩ u) bs :=
  ⟨fun k hk hn => set_other (set_other (h.1 k hk hn) (fun e => hn (by rw [e]; exact hb)) _ _) (fun e => hn (by rw [e]; exact hb)) _ _,
    fun q d hq => ((h.2 q d hq).set_link hg _ _).set_link (x := y) (set_block hg 0 _) _ _⟩
theorem modify_val {α β : Type} (v : α → β) (f : β → β) (ks : List α) (x : Nat) (hx : x < ks.length) (l' : α) (h : v l' = f (v ks[x])) : (ks.set x l').map v = (ks.map v).modify x f := by
  apply List.ext_getElem?
  intro i
  rw [List.getElem?_modify, List.getElem?_map, List.getElem?_map]
  by_cases hi : x = i
  · subst hi; rw [List.getElem?_set_self hx, List.getElem?_eq_getElem hx]; simp [h]
  · rw [List.getElem?_set_ne hi]; cases ks[i]? <;> simp [hi]
theorem modify_same {α β : Type} (v : α → β) (f : β → β) (ks : List α) (x : Nat) (hx : x < ks.length) (h : f (v ks[x]) = v ks[x]) : ks.map v = (ks.map v).modify x f := by
  have := modify_val v f ks x hx ks[x] h.symm
  rwa [List.set_getElem_self] at this

/-- A link that may be put together with what is learnt: in its form, its first number not in that. -/
def GoodL (n : Nat) (s : List Int × List Int) (l : Lk) : Prop := ascB (-1) 24 l.r = true ∧ l.r ≠ [] ∧ hd l.r ∉ s.1 ∧ l.d.length = n ∧ BytesL l.d
/-- What the list is when some of its links were put together with what is learnt. -/
structure MixIs (w : World) (base n : Nat) (s : List Int × List Int) (ls : List Lk) (pre : List (Fin ls.length)) (W : World) (ks : List Lk) : Prop where
  bs : ks.map Lk.b = ls.map Lk.b
  at' : LksAt W base ks
  vals : valsL ks = atEach (mixE s) (valsL ls) pre
  good : ∀ l ∈ ks, GoodL n s l
  keep : LkKeep w W (ls.map Lk.b)
  bel : Below base w W
theorem MixIs.below {w : World} {base n : Nat} {s : List Int × List Int} {ls : List Lk} {pre : List (Fin ls.length)} {W W' : World} {ks : List Lk} (h : MixIs w base n s ls pre W ks) (hb : Below W.heap.size W W') (hw : base ≤ w.heap.size) : MixIs w base n s ls pre W' ks :=
  have hW := h.bel.size
  ⟨h.bs, h.at'.below hb, h.vals, h.good, ⟨fun g hg hn => (hb.block g (by omega)).trans (h.keep.1 g hg hn), fun q d hq => (h.keep.2 q d hq).below hb⟩, h.bel.trans (hb.mono (by omega))⟩
theorem MixIs.same {w : World} {base n : Nat} {s : List Int × List Int} {ls : List Lk} {pre : List (Fin ls.length)} {W : World} {ks : List Lk} (h : MixIs w base n s ls pre W ks) (x : Fin ls.length) (hx : x.val < ks.length) (hs : mixE s (valL ks[x.val]) = valL ks[x.val]) : MixIs w base n s ls (pre ++ [x]) W ks :=
  ⟨h.bs, h.at', by
    rw [atEach_snoc, ← h.vals]
    exact modify_same valL (mixE s) ks x.val hx hs, h.good, h.keep, h.bel⟩
theorem MixIs.step {w : World} {base n : Nat} {s : List Int × List Int} {ls : List Lk} {pre : List (Fin ls.length)} {W : World} {ks : List Lk} (h : MixIs w base n s ls pre W ks) (hN : (ls.map Lk.b).Nodup) (x : Fin ls.length) (hx : x.val < ks.length) (l' : Lk) (hb : l'.b = ks[x.val].b) (hq : base ≤ l'.q) (hby : BytsAt W l'.q l'.d)
    (hv : valL l' = mixE s (valL ks[x.val])) (hg : GoodL n s l') :
    MixIs w base n s ls (pre ++ [x]) ((W.setCell ⟨ks[x.val].b, 0, none⟩ (.int .u32 (setI l'.r : Nat))).setCell ⟨ks[x.val].b, 1, none⟩ (.slice (some ⟨l'.q, 0, none⟩) l'.d.length l'.c)) (ks.set x.val l') := by
  have hX := (h.at' x.val hx).2.2.1
  have hmem : ks[x.val].b ∈ ls.map Lk.b := by rw [← h.bs]; exact List.mem_map_of_mem (List.getElem_mem hx)
  refine ⟨?_, lks_mix h.at' (by rw [h.bs]; exact hN) x.val hx l' hb hq hby, ?_, fun l hl => ?_, mix_keep h.keep hX hmem _ _, ?_⟩
  · rw [← h.bs, List.map_set, hb]
    apply List.ext_getElem?
    intro i
    by_cases hi : x.val = i
    · rw [← hi, List.getElem?_set_self (by simpa using hx)]; simp [hx]
    · rw [List.getElem?_set_ne hi]
  · rw [atEach_snoc, ← h.vals]
    exact modify_val valL (mixE s) ks x.val hx l' hv
  · rcases List.mem_or_eq_of_mem_set hl with h1 | h1
    · exact h.good l h1
    · rw [h1]; exact hg
  · exact u_set (u_set h.bel (h.at' x.val hx).1 _ _) (h.at' x.val hx).1 _ _
theorem MixIs.own {w : World} {base n B : Nat} {s : List Int × List Int} {ls : List Lk} {pre : List (Fin ls.length)} {W W' : World} {ks : List Lk} {row : Option Nat} (h : MixIs w base n s ls pre W ks) (hg : W.grownBy W' row) (hr : ∀ r, row = some r → B ≤ r ∧ ∃ o : Obj, W.heap[r]? = some o ∧ o.isCells = false) (hw : w.heap.size ≤ B) (hb : base ≤ w.heap.size) : MixIs w base n s ls pre W' ks :=
  have hW := h.bel.size
  ⟨h.bs, fun k hk => by
    obtain ⟨h1, h2, h3, h4⟩ := h.at' k hk
    exact ⟨h1, h2, own_blk h3 hg hr, h4.own hg (fun r e => (hr r e).2)⟩, h.vals, h.good,
    ⟨fun g hgl hn => (hg.block g (by omega) (fun e => by have := (hr g e.symm).1; omega)).trans (h.keep.1 g hgl hn), fun q d hq => (h.keep.2 q d hq).own hg (fun r e => (hr r e).2)⟩,
    h.bel.grown hg (by omega) (fun k e => by have := (hr k e).1; omega)⟩
theorem MixIs.leads {w : World} {base n : Nat} {s : List Int × List Int} {ls : List Lk} {pre : List (Fin ls.length)} {W : World} {ks : List Lk} (h : MixIs w base n s ls pre W ks) : LeadsL W ls := leads_map h.bs h.at'.leads
theorem LksAt.own {W W' : World} {base B : Nat} {ks : List Lk} {row : Option Nat} (h : LksAt W base ks) (hg : W.grownBy W' row) (hr : ∀ r, row = some r → B ≤ r ∧ ∃ o : Obj, W.heap[r]? = some o ∧ o.isCells = false) : LksAt W' base ks := fun k hk => by
  obtain ⟨h1, h2, h3, h4⟩ := h k hk
  exact ⟨h1, h2, own_blk h3 hg hr, h4.own hg (fun r e => (hr r e).2)⟩
theorem LkKeep.own {w W W' : World} {B : Nat} {bs : List Nat} {row : Option Nat} (h : LkKeep w W bs) (hg : W.grownBy W' row) (hr : ∀ r, row = some r → B ≤ r ∧ ∃ o : Obj, W.heap[r]? = some o ∧ o.isCells = false) (hw : w.heap.size ≤ B) (hW : w.heap.size ≤ W.heap.size) : LkKeep w W' bs :=
  ⟨fun g hgl hn => (hg.block g (by omega) (fun e => by have := (hr g e.symm).1; omega)).trans (h.1 g hgl hn), fun q d hq => (h.2 q d hq).own hg (fun r e => (hr r e).2)⟩
theorem LkKeep.below {w w' : World} {bs : List Nat} {base : Nat} (h : LkKeep w w' bs) (h0 : Below 0 w w') (hb : ∀ b ∈ bs, base ≤ b) (hw : base ≤ w.heap.size) : Below base w w' :=
  ⟨h0.os, h0.tape, h0.output, h0.size, fun k hk => h.1 k (by omega) (fun hm => by have := hb k hm; omega)⟩
theorem Tab.keep {w W : World} {ls : List Lk} {base : Nat} (h : Tab w) (hL : LksAt w base ls) (hk : LkKeep w W (ls.map Lk.b)) : Tab W := fun i hi => by
  have h0 := block_lt_of_cell (h i hi)
  refine (World.cell?_of_block (w := w) (a := ⟨0, i, none⟩) (hk.1 _ h0 (fun hm => ?_))).trans (h i hi)
  obtain ⟨l, hl, e⟩ := List.mem_map.1 hm
  obtain ⟨k, hk, rfl⟩ := List.getElem_of_mem hl
  have h1 := box_cell (hL k hk).2.2.1 0 (v := .int .u32 (setI ls[k].r : Nat)) rfl
  rw [e, h 0 (by omega)] at h1
  cases h1
end Go.Proofs.YtbakicgdloakgaaGreatDoor
namespace Go.Proofs.YtbakicgdloakgaaGreatDoor
open Go.ChangeShapes Go.WideShapes Go.ChangeAt Go.RowKit Go.Sort Go.Shelf
attribute [local go_sem] Oper.semAt_some

end Go.Proofs.YtbakicgdloakgaaGreatDoor
namespace Go.Proofs.YtbakicgdloakgaaGreatDoor
open Go.ChangeShapes Go.WideShapes Go.ChangeAt Go.RowKit Go.Sort Go.Shelf
attribute [local go_sem] Oper.semAt_some

end Go.Proofs.YtbakicgdloakgaaGreatDoor
namespace Go.Proofs.YtbakicgdloakgaaGreatDoor
open Go.ChangeShapes Go.WideShapes Go.ChangeAt Go.RowKit Go.Sort Go.Shelf
attribute [local go_sem] Oper.semAt_some

theorem byts_conv {W : World} {q c : Nat} {xs : List Int} (h : BytsAt W q xs) (d : Nat) (os : Array Obj) :
    (convert 89 9 (.slice (some ⟨q, 0, none⟩) xs.length c)).run Tryz.prog (grow (redrawn W d) os) = .ok (.string (strOfNums xs)) (grow (redrawn W d) os) :=
  run_convert_bytes_arg (P := Tryz.prog) (grow (redrawn W d) os) 89 5 Tryz.underlying89 Tryz.underlying5 q 0 xs.length c xs rfl (fun i hi => by rw [Nat.zero_add]; exact (h.below (below_regrown W d os)).2 i hi) 9 Tryz.underlying9
end Go.Proofs.YtbakicgdloakgaaGreatDoor
