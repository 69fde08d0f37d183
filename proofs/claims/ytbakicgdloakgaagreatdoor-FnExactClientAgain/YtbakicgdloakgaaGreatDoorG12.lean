/- The program's list of a solver. A list of a solver, ok or not; links of one block. -/
import Derived.Test.YtbakicgdloakgaaGreatDoorG11
import Derived.Test.YtbakicgdloakgaaGreatDoorG0
import Derived.Test.YtbakicgdloakgaaGreatDoorG3
import Derived.Test.YtbakicgdloakgaaGreatDoorG7
import Derived.Lib.ConvBytes
namespace Go.Proofs.YtbakicgdloakgaaGreatDoor
open Go.ChangeShapes Go.WideShapes Go.ChangeAt Go.RowKit Go.Sort Go.Shelf
attribute [local go_sem] Oper.semAt_some

/-- An equation as it is handed in: where its row lies, the row, its data. -/
structure EqV where
  a : Option Addr
  c : Nat
  r : List Int
  d : ByteArray
/-- The bytes of a text. -/
def numsOf (s : ByteArray) : List Int := s.data.toList.map (fun b => (b.toNat : Int))
theorem numsOf_len (s : ByteArray) : (numsOf s).length = s.size := by
  show (s.data.toList.map _).length = s.data.size
  simp
/-- Equations in a slice that is read. -/
structure EqC (w : World) (b off : Nat) (e : EqV) : Prop where
  c0 : w.cell? ⟨b, off, none⟩ = some (.slice e.a e.r.length e.c)
  c1 : w.cell? ⟨b, off + 1, none⟩ = some (.string e.d)
  row : IntsAt w e.a e.r
def EqsAt (w : World) (a : Option Addr) (es : List EqV) : Prop :=
  es ≠ [] → ∃ b off, a = some ⟨b, off, none⟩ ∧ ∀ k e, es[k]? = some e → EqC w b (off + k * 2) e
theorem EqC.below {w w' : World} {b off : Nat} {e : EqV} (h : EqC w b off e) (hb : Below w.heap.size w w') : EqC w' b off e :=
  ⟨(hb.cell (p := ⟨b, off, none⟩) (block_lt_of_cell h.c0)).trans h.c0, (hb.cell (p := ⟨b, off + 1, none⟩) (block_lt_of_cell h.c1)).trans h.c1, h.row.below hb⟩
theorem EqsAt.below {w w' : World} {a : Option Addr} {es : List EqV} (h : EqsAt w a es) (hb : Below w.heap.size w w') : EqsAt w' a es := fun hne => by
  obtain ⟨b, off, ha, hc⟩ := h hne
  exact ⟨b, off, ha, fun k e hk => (hc k e hk).below hb⟩
/-- None is too long. -/
def SmallE (es : List EqV) : Prop := ∀ e ∈ es, e.r.length ≤ 1048576 ∧ e.d.size ≤ 1048576

/-- Equations that are ok, from the last one on. -/
def okE (c z : Int) : List EqV → Prop
  | [] => True
  | e :: es => (ascB (-1) c e.r = true ∧ (e.d.size : Int) = z ∧ fits e.r (es.map EqV.r)) ∧ okE c z es
instance okE.dec (c z : Int) : (es : List EqV) → Decidable (okE c z es)
  | [] => .isTrue trivial
  | e :: es => by unfold okE; have := okE.dec c z es; infer_instance
def solverP (c z : Int) (es : List EqV) : Prop := ((1 ≤ c ∧ c ≤ 24) ∧ 1 ≤ z ∧ z ≤ 16) ∧ okE c z es
instance (c z : Int) (es : List EqV) : Decidable (solverP c z es) := by unfold solverP; infer_instance
theorem okE_drop {c z : Int} {es : List EqV} (h : okE c z es) (k : Nat) : okE c z (es.drop k) := by
  induction es generalizing k with
  | nil => simpa using h
  | cons e es ih =>
    cases k with
    | zero => exact h
    | succ k => exact ih h.2 k
theorem okE_rows {c z : Int} (hc : c ≤ 24) : ∀ {es : List EqV}, okE c z es → ∀ r ∈ es.map EqV.r, ascB (-1) 24 r = true ∧ r ≠ []
  | [], _, r, hr => by simp at hr
  | e :: es, h, r, hr => by
    rcases List.mem_cons.1 hr with rfl | hr
    · exact ⟨asc_24 h.1.1 hc, h.1.2.2.1⟩
    · exact okE_rows hc h.2 r hr
/-- There are no more equations than numbers. -/
theorem okE_len {c z : Int} : ∀ {es : List EqV} {lo : Int}, okE c z es → (∀ e ∈ es, lo ≤ hd e.r) → lo ≤ c → (es.length : Int) + lo ≤ c
  | [], lo, _, _, h => by simpa using h
  | e :: es, lo, h, hlo, _ => by
    have h1 := hlo e (List.mem_cons_self ..)
    have h2 := asc_mem h.1.1 (hd_mem h.1.2.2.1)
    have h3 := okE_len (lo := hd e.r + 1) h.2 (fun f hf => by
      have := (h.1.2.2.2 f.r (List.mem_map_of_mem hf)).1
      omega) (by omega)
    rw [List.length_cons]
    omega
theorem okE_24 {c z : Int} {es : List EqV} (h : okE c z es) (hc : 0 ≤ c) (hc2 : c ≤ 24) : es.length ≤ 24 := by
  have : ∀ e ∈ es, 0 ≤ hd e.r := fun e he => by
    have h1 := okE_rows hc2 h e.r (List.mem_map_of_mem he)
    have := asc_mem h1.1 (hd_mem h1.2)
    omega
  have := okE_len h this hc
  omega
/-- A list of links has the equations. -/
def SameE (ls : List Lk) (es : List EqV) : Prop := ls.map Lk.r = es.map EqV.r ∧ ls.map Lk.d = es.map (fun e => numsOf e.d)
theorem SameE.rows {c z : Int} {ls : List Lk} {es : List EqV} (h : SameE ls es) (hc : c ≤ 24) (ho : okE c z es) : RowsL ls := fun l hl =>
  okE_rows hc ho l.r (by rw [← h.1]; exact List.mem_map_of_mem hl)

/-- Bytes of a text in a block of their own. -/
theorem bytes_below (w : World) (e : TypeId) (s : ByteArray) : Below w.heap.size w (Go.Lib.bytesWorld w.drew e s) :=
  ⟨rfl, rfl, rfl, by rw [Go.Lib.bytesWorld_size]; exact Nat.le_succ _, fun k hk => Go.Lib.bytesWorld_at_old w.drew e s k hk⟩
theorem bytes_at (w : World) (e : TypeId) (s : ByteArray) : BytsAt (Go.Lib.bytesWorld w.drew e s) w.heap.size (numsOf s) :=
  ⟨by rw [Go.Lib.bytesWorld_size]; exact Nat.lt_succ_self _, fun i hi => by
    rw [numsOf_len] at hi
    have h := Go.Lib.bytesWorld_cell w.drew e s i hi
    rw [show w.drew.heap.size = w.heap.size from rfl] at h
    have hl : i < s.data.toList.length := by rw [Array.length_toList]; exact hi
    rw [h]
    have e1 : s.data.toList.getD i 0 = s.data.toList[i] := by simp only [List.getD, List.getElem?_eq_getElem hl, Option.getD_some]
    have e2 : (numsOf s).getD i 0 = ((s.data.toList[i]).toNat : Int) := by unfold numsOf; simp only [List.getD, List.getElem?_map, List.getElem?_eq_getElem hl, Option.map_some, Option.getD_some]
    rw [e1, e2]⟩

/-- What the program says of a solver. -/
def ListO (w : World) (c z : Int) (es : List EqV) (e : Ending) (w' : World) : Prop :=
  Below w.heap.size w w' ∧ ((solverP c z es ∧ ∃ ls, e = .returned (.tuple #[.agg #[.int .i64 c, .int .i64 z, .pointer (ptrOf ls)], .bool true]) ∧ LksAt w' w.heap.size ls ∧ SameE ls es) ∨
    (¬ solverP c z es ∧ e = .returned (.tuple #[.agg #[.int .i64 0, .int .i64 0, .pointer none], .bool false])))

set_option maxRecDepth 100000 in
set_option maxHeartbeats 4000000 in
theorem listOf_any (a : Option Addr) (cap : Nat) (es : List EqV) (c z : Int) (w : World) (ha : EqsAt w a es) (hsm : SmallE es) (hl : es.length ≤ 1048576) (hT : Tab w) :
    Calls Tryz.prog 89 #[.agg #[.int .i64 c, .int .i64 z, .slice a es.length cap]] w (ListO w c z es) := by
  have HA := hid ha
  have HS := hid hsm
  have HT := hid hT
  clear ha hsm hT
  by_cases hz : (1 ≤ c ∧ c ≤ 24) ∧ 1 ≤ z ∧ z ≤ 16
  · go_enter Tryz.func89, Tryz.ntmps89
    go_wp2_with (go_at_call 95; refine (sizesOk_yes _ _ _ hz.1 hz.2).mono ?_; rintro e w' ⟨rfl, rfl⟩)
    obtain ⟨W0, hW0⟩ : ∃ W0, W0 = ((w.alloc (.cells #[.int .i64 c, .int .i64 z, .slice a es.length cap] 36)).alloc (.cells #[.int .i64 0, .int .i64 0, .pointer none] 109)).alloc (.cells #[.int .i64 c, .int .i64 z, .pointer none] 109) := ⟨_, rfl⟩
    rw [← hW0]
    obtain ⟨X0, X1, X2, B0⟩ := u_box3 (w := w) (c := #[.int .i64 c, .int .i64 z, .slice a es.length cap]) (t := 36) (d := #[.int .i64 0, .int .i64 0, .pointer none]) (s := 109) (f := #[.int .i64 c, .int .i64 z, .pointer none]) (r := 109) (w1 := W0) (by rw [hW0]; exact Below.refl _ _)
    clear hW0
    go_loopw [5, 6, 7] (fun i _ _ wr => ∃ (k : Nat) (ls : List Lk), k ≤ es.length ∧ i = .int .i64 ((k : Int) - 1) ∧ okE c z (es.drop k) ∧ SameE ls (es.drop k) ∧ LksAt wr (w.heap.size + 3) ls ∧
        wr.heap[w.heap.size]? = some (.cells #[.int .i64 c, .int .i64 z, .slice a es.length cap] 36 (0, 0)) ∧ wr.heap[w.heap.size + 1]? = some (.cells #[.int .i64 0, .int .i64 0, .pointer none] 109 (0, 0)) ∧ wr.heap[w.heap.size + 2]? = some (.cells #[.int .i64 c, .int .i64 z, .pointer (ptrOf ls)] 109 (0, 0)) ∧ Below w.heap.size w wr)
      (fun i _ _ _ => (intOf i + 1).toNat)
    case atStart => exact ⟨es.length, [], Nat.le_refl _, rfl, by rw [List.drop_length]; trivial, by rw [List.drop_length]; exact ⟨rfl, rfl⟩, LksAt.nil _ _, X0, X1, X2, B0⟩
    case round =>
      clear X0 X1 X2 B0 W0
      obtain ⟨k, ls, hk, rfl, hok, hsame, hL, X0, X1, X2, B⟩ := hrel
      by_cases hk0 : k = 0
      · have hp : solverP c z es := ⟨hz, by rw [hk0] at hok; exact hok⟩
        rw [hk0] at hsame
        have H := hid (show SameE ls es from hsame)
        have HP := hid hp
        have HL := hid hL
        have HB := hid B
        have q0 := box_cell X2 0 (v := .int .i64 c) rfl
        have q1 := box_cell X2 1 (v := .int .i64 z) rfl
        have q2 := box_cell X2 2 (v := .pointer (ptrOf ls)) rfl
        have r0 := box_cell X1 0 (v := .int .i64 0) rfl
        have r1 := box_cell X1 1 (v := .int .i64 0) rfl
        have r2 := box_cell X1 2 (v := .pointer none) rfl
        have z0 := box_frozen X1
        have X5 := hid (set_block (set_block (set_block X1 0 (.int .i64 c)) 1 (.int .i64 z)) 2 (.pointer (ptrOf ls)))
        have x0 := box_cell X5.out 0 (v := .int .i64 c) rfl
        have x1 := box_cell X5.out 1 (v := .int .i64 z) rfl
        have x2 := box_cell X5.out 2 (v := .pointer (ptrOf ls)) rfl
        have hneg : ((k : Int) - 1) < 0 := by omega
        clear hok hsame hp hL B hk0 X0 X1 X2
        go_wp2_with fail
        refine bodyPost_ret (v := .tuple #[.agg #[.int .i64 c, .int .i64 z, .pointer (ptrOf ls)], .bool true]) ?_ rfl ⟨?_, .inl ⟨HP.out, ls, rfl, ?_, H.out⟩⟩
        · simp [results, Tryz.results89, go_sem, x0, x1, x2]
        · refine u_set (u_set (u_set HB.out ?_ _ _) ?_ _ _) ?_ _ _ <;> omega
        · exact (((HL.out.set (by omega) _ _).set (by omega) _ _).set (by omega) _ _).mono (by omega)
      · obtain ⟨j, rfl⟩ : ∃ j, k = j + 1 := ⟨k - 1, by omega⟩
        have hj : j < es.length := by omega
        obtain ⟨e, he⟩ : ∃ e, es[j] = e := ⟨_, rfl⟩
        have hdrop : es.drop j = e :: es.drop (j + 1) := by rw [List.drop_eq_getElem_cons hj, he]
        have hmem : e ∈ es := by rw [← he]; exact List.getElem_mem hj
        have hese := (HS.out e hmem).1
        have hesd := (HS.out e hmem).2
        obtain ⟨b, off, rfl, hc⟩ := (HA.out.below B) (by intro h; simp [h] at hj)
        obtain ⟨c0, c1, crow⟩ := hc j e (by rw [List.getElem?_eq_getElem hj, he])
        have HD := hid hdrop
        have HO := hid hok
        have HE := hid hsame
        have HL := hid hL
        have HB := hid B
        have HX0 := hid X0
        have HX1 := hid X1
        have HX2 := hid X2
        have hi1 : ((j + 1 : Nat) : Int) - 1 = j := by omega
        rw [hi1]
        have k1 := hid (rg (w := wr) (fun w' hb => same_below (rowSetOf_in e.a e.c e.r c w' (crow.below hb) (by omega) (by omega) (by omega))))
        have y0 := cell_regrown (box_cell X0 0 (v := .int .i64 c) rfl)
        have y1 := cell_regrown (box_cell X0 1 (v := .int .i64 z) rfl)
        have y2 := cell_regrown (box_cell X0 2 (v := .slice (some ⟨b, off, none⟩) es.length cap) rfl)
        have u0 := cell_regrown c0
        have u1 := cell_regrown c1
        have KA := hid (List.drop_eq_getElem_cons hj)
        have hlen := hl
        clear hdrop hok hsame hL B X0 X1 X2 hc he hmem hi1 hk0
        go_wp2
        refine wp_region_quiet_below (by kernel_rfl) (by kernel_rfl) ?_
        repeat (first | go_big_quiet_step ((go_at_call 96; with_reducible exact k1.out _ _)) | quiet_step ((go_at_call 96; with_reducible exact k1.out _ _)))
        refine wpQuiet_nil ?_
        intro V hw'
        obtain ⟨⟨dq, osq⟩, hw''⟩ := hw'
        have hbq := below_regrown wr dq osq
        rw [← hw''] at hbq
        clear hw'' dq osq
        go_wp2
        clear y0 y1 y2 u0 u1
        replace HX0 := hid (kept HX0.out hbq)
        replace HX1 := hid (kept HX1.out hbq)
        replace HX2 := hid (kept HX2.out hbq)
        replace HL := hid (HL.out.below hbq)
        replace HB := hid (u_catn HB.out (Nat.le_refl _) hbq)
        have lb := block_lt_of_cell c0
        replace c0 := (hbq.cell (p := ⟨b, off + j * 2, none⟩) lb).trans c0
        replace c1 := (hbq.cell (p := ⟨b, off + j * 2 + 1, none⟩) lb).trans c1
        clear hbq crow k1 lb
        have y0 := cell_regrown (box_cell HX0.out 0 (v := .int .i64 c) rfl)
        have y1 := cell_regrown (box_cell HX0.out 1 (v := .int .i64 z) rfl)
        have y2 := cell_regrown (box_cell HX0.out 2 (v := .slice (some ⟨b, off, none⟩) es.length cap) rfl)
        have u0 := cell_regrown c0
        have u1 := cell_regrown c1
        obtain ⟨t, ht⟩ : ∃ t, ascB (-1) c e.r = t := ⟨_, rfl⟩
        rw [ht]
        have HT1 := hid ht
        clear ht
        have NS := hid (show solverP c z es → ascB (-1) c e.r = true ∧ (e.d.size : Int) = z ∧ fits e.r ((es.drop (j + 1)).map EqV.r) from fun h => by
          have h1 := okE_drop h.2 j
          rw [HD.out] at h1
          exact h1.1)
        cases t
        · have HN := hid (show ¬ solverP c z es from fun h => by have := (NS.out h).1; rw [HT1.out] at this; cases this)
          refine wp_region_quiet_below (by kernel_rfl) (by kernel_rfl) ?_
          repeat (first | go_big_quiet_step (fail) | quiet_step (fail))
          refine wpQuiet_nil ?_
          intro V2 hw'
          obtain ⟨⟨dq, osq⟩, hw''⟩ := hw'
          have hbq := below_regrown V dq osq
          rw [← hw''] at hbq
          clear hw'' dq osq y0 y1 y2 u0 u1
          replace HX0 := hid (kept HX0.out hbq)
          replace HX1 := hid (kept HX1.out hbq)
          replace HX2 := hid (kept HX2.out hbq)
          replace HL := hid (HL.out.below hbq)
          replace HB := hid (u_catn HB.out (Nat.le_refl _) hbq)
          have r0 := box_cell HX1.out 0 (v := .int .i64 0) rfl
          have r1 := box_cell HX1.out 1 (v := .int .i64 0) rfl
          have r2 := box_cell HX1.out 2 (v := .pointer none) rfl
          have z0 := box_frozen HX1.out
          have X5 := hid (set_block (set_block (set_block HX1.out 0 (.int .i64 0)) 1 (.int .i64 0)) 2 (.pointer none))
          have x0 := box_cell X5.out 0 (v := .int .i64 0) rfl
          have x1 := box_cell X5.out 1 (v := .int .i64 0) rfl
          have x2 := box_cell X5.out 2 (v := .pointer none) rfl
          clear hbq
          go_wp2_with fail
          refine bodyPost_ret (v := .tuple #[.agg #[.int .i64 0, .int .i64 0, .pointer none], .bool false]) ?_ rfl ⟨?_, .inr ⟨HN.out, rfl⟩⟩
          · simp [results, Tryz.results89, go_sem, x0, x1, x2]
          · refine u_set (u_set (u_set HB.out ?_ _ _) ?_ _ _) ?_ _ _ <;> omega
        · by_cases hsz : (e.d.size : Int) = z
          · have hs1 : ((e.d.size : Int) == z) = true := by simpa using hsz
            have hs2 : ((e.d.size : Int) != z) = false := by simp [bne, hs1]
            by_cases hne : e.r = []
            · have HN := hid (show ¬ solverP c z es from fun h => (NS.out h).2.2.1 hne)
              have hb0 : rowBits e.r c = 0 := by rw [hne]; unfold rowBits; split <;> rfl
              rw [hb0]
              have k2 := hid (rg (w := V) (fun w' _ => fits_empty (some ⟨w.heap.size + 1 + 1, 0, none⟩) w'))
              clear hne hsz hb0
              refine wp_region_quiet_below (by kernel_rfl) (by kernel_rfl) ?_
              repeat (first | go_big_quiet_step ((go_at_call 97; with_reducible exact k2.out _ _)) | quiet_step ((go_at_call 97; with_reducible exact k2.out _ _)))
              refine wpQuiet_nil ?_
              intro V2 hw'
              obtain ⟨⟨dq, osq⟩, hw''⟩ := hw'
              have hbq := below_regrown V dq osq
              rw [← hw''] at hbq
              clear hw'' dq osq y0 y1 y2 u0 u1
              replace HX0 := hid (kept HX0.out hbq)
              replace HX1 := hid (kept HX1.out hbq)
              replace HX2 := hid (kept HX2.out hbq)
              replace HL := hid (HL.out.below hbq)
              replace HB := hid (u_catn HB.out (Nat.le_refl _) hbq)
              have r0 := box_cell HX1.out 0 (v := .int .i64 0) rfl
              have r1 := box_cell HX1.out 1 (v := .int .i64 0) rfl
              have r2 := box_cell HX1.out 2 (v := .pointer none) rfl
              have z0 := box_frozen HX1.out
              have X5 := hid (set_block (set_block (set_block HX1.out 0 (.int .i64 0)) 1 (.int .i64 0)) 2 (.pointer none))
              have x0 := box_cell X5.out 0 (v := .int .i64 0) rfl
              have x1 := box_cell X5.out 1 (v := .int .i64 0) rfl
              have x2 := box_cell X5.out 2 (v := .pointer none) rfl
              clear hbq
              go_wp2_with fail
              refine bodyPost_ret (v := .tuple #[.agg #[.int .i64 0, .int .i64 0, .pointer none], .bool false]) ?_ rfl ⟨?_, .inr ⟨HN.out, rfl⟩⟩
              · simp [results, Tryz.results89, go_sem, x0, x1, x2]
              · refine u_set (u_set (u_set HB.out ?_ _ _) ?_ _ _) ?_ _ _ <;> omega
            · have hasc := asc_24 HT1.out hz.1.2
              have hb0 : rowBits e.r c = setI e.r := rowBits_yes HT1.out
              rw [hb0]
              have hl24 : ls.length ≤ 24 := by
                have h1 := congrArg List.length HE.out.1
                rw [List.length_map, List.length_map] at h1
                have := okE_24 HO.out (by omega) hz.1.2
                omega
              have k2 := hid (rg (w := V) (fun w' hb => fits_any (w.heap.size + 1 + 1) (w.heap.size + 3) c z e.r ls w' (kept HX2.out hb) (HL.out.below hb) (by omega) hasc hne (HE.out.rows hz.1.2 HO.out) (HT.out.below (u_catn HB.out (Nat.le_refl _) hb))))
              rw [HE.out.1] at k2
              clear hb0
              by_cases hft : fits e.r ((es.drop (j + 1)).map EqV.r)
              · rw [decide_eq_true hft] at k2
                have HOK := hid (show okE c z (es.drop j) by rw [HD.out]; exact ⟨⟨HT1.out, hsz, hft⟩, HO.out⟩)
                clear hft hne hsz
                refine wp_region_quiet_below (by kernel_rfl) (by kernel_rfl) ?_
                repeat (first | go_big_quiet_step ((go_at_call 97; with_reducible exact k2.out _ _)) | quiet_step ((go_at_call 97; with_reducible exact k2.out _ _)))
                refine wpQuiet_nil ?_
                intro V2 hw'
                obtain ⟨⟨dq, osq⟩, hw''⟩ := hw'
                have hbq := below_regrown V dq osq
                rw [← hw''] at hbq
                clear hw'' dq osq y0 y1 y2 u0 u1
                replace HX0 := hid (kept HX0.out hbq)
                replace HX1 := hid (kept HX1.out hbq)
                replace HX2 := hid (kept HX2.out hbq)
                replace HL := hid (HL.out.below hbq)
                replace HB := hid (u_catn HB.out (Nat.le_refl _) hbq)
                replace c0 := (hbq.cell (p := ⟨b, off + j * 2, none⟩) (block_lt_of_cell c0)).trans c0
                replace c1 := (hbq.cell (p := ⟨b, off + j * 2 + 1, none⟩) (block_lt_of_cell c1)).trans c1
                clear hbq k2
                have y0 := box_cell HX0.out 2 (v := .slice (some ⟨b, off, none⟩) es.length cap) rfl
                have p2 := box_cell HX2.out 2 (v := .pointer (ptrOf ls)) rfl
                have z2 := box_frozen HX2.out
                have hcv : ∀ W : World, (convert 9 89 (.string e.d)).run Tryz.prog W = .ok (.slice (some ⟨W.heap.size, 0, none⟩) e.d.size (grownCap W e.d.size 0 5)) (Go.Lib.bytesWorld W 5 e.d) := fun W => Go.Lib.run_convert_string_bytes W _ _ _ _ Tryz.underlying9 Tryz.underlying89 Tryz.underlying5
                have bB := bytes_below V2 5 e.d
                have lX := lt_of_block HX2.out
                have wc := (bB.cell (p := ⟨w.heap.size + 1 + 1, 2, none⟩) lX).trans p2
                have wz := (bB.frozen (p := ⟨w.heap.size + 1 + 1, 2, none⟩) lX).trans (z2 2)
                have wl : w.heap.size + 1 + 1 < (Go.Lib.bytesWorld V2.drew 5 e.d).heap.size := Nat.lt_of_lt_of_le lX bB.size
                go_wp2
                go_region
                obtain ⟨VB, hVB⟩ : ∃ VB, VB = Go.Lib.bytesWorld V2.drew 5 e.d := ⟨_, rfl⟩
                have BA := hid (bytes_at V2 5 e.d)
                have SB := hid (show VB.heap.size = V2.heap.size + 1 by rw [hVB, Go.Lib.bytesWorld_size]; rfl)
                rw [← hVB] at bB BA ⊢
                have LB := HL.out.below bB
                have Y0 := kept HX0.out bB
                have Y1 := kept HX1.out bB
                have Y2 := kept HX2.out bB
                have BB := HB.out.trans (bB.mono HB.out.size)
                clear hVB wc wz wl p2 z2 y0 hcv c0 c1 bB
                obtain ⟨n, hn⟩ : ∃ n, n = grownCap V2.drew e.d.size 0 5 := ⟨_, rfl⟩
                rw [← hn]
                clear hn
                have S1 := LB.set (g := w.heap.size + 1 + 1) (by omega) 2 (.pointer (some ⟨VB.heap.size, 0, none⟩))
                have A1 := BA.out.set (g := w.heap.size + 1 + 1) (by have := lX; omega) 2 (.pointer (some ⟨VB.heap.size, 0, none⟩))
                have Y0 := set_other Y0 (g := w.heap.size + 1 + 1) (by omega) 2 (.pointer (some ⟨VB.heap.size, 0, none⟩))
                have Y1 := set_other Y1 (g := w.heap.size + 1 + 1) (by omega) 2 (.pointer (some ⟨VB.heap.size, 0, none⟩))
                have Y2 := set_block Y2 2 (.pointer (some ⟨VB.heap.size, 0, none⟩))
                have BB := u_set BB (g := w.heap.size + 2) (by omega) 2 (.pointer (some ⟨VB.heap.size, 0, none⟩))
                obtain ⟨VS, hVS⟩ : ∃ VS, VS = VB.setCell ⟨w.heap.size + 1 + 1, 2, none⟩ (.pointer (some ⟨VB.heap.size, 0, none⟩)) := ⟨_, rfl⟩
                have SS : VS.heap.size = VB.heap.size := by rw [hVS]; simp [World.setCell]
                rw [show (⟨w.heap.size + 2, 2, none⟩ : Addr) = ⟨w.heap.size + 1 + 1, 2, none⟩ from rfl] at Y2 BB
                rw [← hVS] at S1 A1 Y0 Y1 Y2 BB ⊢
                clear hVS
                have bA := u_b1 VS (.cells #[.int .u32 (setI e.r : Nat), .slice (some ⟨V2.heap.size, 0, none⟩) e.d.size n, .pointer (ptrOf ls)] 140)
                have HN := hid (laid VS #[.int .u32 (setI e.r : Nat), .slice (some ⟨V2.heap.size, 0, none⟩) e.d.size n, .pointer (ptrOf ls)] 140)
                rw [SS] at HN
                have HL2 := hid (S1.below bA)
                have HA2 := hid (A1.below bA)
                have HY0 := hid (kept Y0 bA)
                have HY1 := hid (kept Y1 bA)
                have HY2 := hid (kept Y2 bA)
                have HBB := hid (BB.trans (bA.mono BB.size))
                have hv2 : w.heap.size + 3 ≤ V2.heap.size := by have := lX; omega
                clear S1 A1 Y0 Y1 Y2 BB bA LB
                go_wp2
                go_roundw
                case rel =>
                  refine ⟨j, ⟨VB.heap.size, e.r, V2.heap.size, n, numsOf e.d⟩ :: ls, by omega, by go_num, HOK.out, ?_, ?_, HY0.out, HY1.out, HY2.out, HBB.out⟩
                  · rw [HD.out]
                    refine ⟨?_, ?_⟩
                    · rw [List.map_cons, List.map_cons, HE.out.1]
                    · rw [List.map_cons, List.map_cons, HE.out.2]
                  · refine HL2.out.cons (by have := SB.out; simp only; omega) hv2 ?_ HA2.out
                    simp only [numsOf_len]
                    exact HN.out
                case measure => simp [intOf]
              · rw [decide_eq_false hft] at k2
                have HN := hid (show ¬ solverP c z es from fun h => hft (NS.out h).2.2)
                clear hft hne hsz
                refine wp_region_quiet_below (by kernel_rfl) (by kernel_rfl) ?_
                repeat (first | go_big_quiet_step ((go_at_call 97; with_reducible exact k2.out _ _)) | quiet_step ((go_at_call 97; with_reducible exact k2.out _ _)))
                refine wpQuiet_nil ?_
                intro V2 hw'
                obtain ⟨⟨dq, osq⟩, hw''⟩ := hw'
                have hbq := below_regrown V dq osq
                rw [← hw''] at hbq
                clear hw'' dq osq y0 y1 y2 u0 u1
                replace HX0 := hid (kept HX0.out hbq)
                replace HX1 := hid (kept HX1.out hbq)
                replace HX2 := hid (kept HX2.out hbq)
                replace HL := hid (HL.out.below hbq)
                replace HB := hid (u_catn HB.out (Nat.le_refl _) hbq)
                have r0 := box_cell HX1.out 0 (v := .int .i64 0) rfl
                have r1 := box_cell HX1.out 1 (v := .int .i64 0) rfl
                have r2 := box_cell HX1.out 2 (v := .pointer none) rfl
                have z0 := box_frozen HX1.out
                have X5 := hid (set_block (set_block (set_block HX1.out 0 (.int .i64 0)) 1 (.int .i64 0)) 2 (.pointer none))
                have x0 := box_cell X5.out 0 (v := .int .i64 0) rfl
                have x1 := box_cell X5.out 1 (v := .int .i64 0) rfl
                have x2 := box_cell X5.out 2 (v := .pointer none) rfl
                clear hbq
                go_wp2_with fail
                refine bodyPost_ret (v := .tuple #[.agg #[.int .i64 0, .int .i64 0, .pointer none], .bool false]) ?_ rfl ⟨?_, .inr ⟨HN.out, rfl⟩⟩
                · simp [results, Tryz.results89, go_sem, x0, x1, x2]
                · refine u_set (u_set (u_set HB.out ?_ _ _) ?_ _ _) ?_ _ _ <;> omega
          · have HN := hid (show ¬ solverP c z es from fun h => hsz (NS.out h).2.1)
            have hs1 : ((e.d.size : Int) == z) = false := by simpa using hsz
            have hs2 : ((e.d.size : Int) != z) = true := by simp [bne, hs1]
            clear hsz
            refine wp_region_quiet_below (by kernel_rfl) (by kernel_rfl) ?_
            repeat (first | go_big_quiet_step (fail) | quiet_step (fail))
            refine wpQuiet_nil ?_
            intro V2 hw'
            obtain ⟨⟨dq, osq⟩, hw''⟩ := hw'
            have hbq := below_regrown V dq osq
            rw [← hw''] at hbq
            clear hw'' dq osq y0 y1 y2 u0 u1
            replace HX0 := hid (kept HX0.out hbq)
            replace HX1 := hid (kept HX1.out hbq)
            replace HX2 := hid (kept HX2.out hbq)
            replace HL := hid (HL.out.below hbq)
            replace HB := hid (u_catn HB.out (Nat.le_refl _) hbq)
            have r0 := box_cell HX1.out 0 (v := .int .i64 0) rfl
            have r1 := box_cell HX1.out 1 (v := .int .i64 0) rfl
            have r2 := box_cell HX1.out 2 (v := .pointer none) rfl
            have z0 := box_frozen HX1.out
            have X5 := hid (set_block (set_block (set_block HX1.out 0 (.int .i64 0)) 1 (.int .i64 0)) 2 (.pointer none))
            have x0 := box_cell X5.out 0 (v := .int .i64 0) rfl
            have x1 := box_cell X5.out 1 (v := .int .i64 0) rfl
            have x2 := box_cell X5.out 2 (v := .pointer none) rfl
            clear hbq
            go_wp2_with fail
            refine bodyPost_ret (v := .tuple #[.agg #[.int .i64 0, .int .i64 0, .pointer none], .bool false]) ?_ rfl ⟨?_, .inr ⟨HN.out, rfl⟩⟩
            · simp [results, Tryz.results89, go_sem, x0, x1, x2]
            · refine u_set (u_set (u_set HB.out ?_ _ _) ?_ _ _) ?_ _ _ <;> omega
  · go_enter Tryz.func89, Tryz.ntmps89
    go_wp2_with (go_at_call 95; refine (sizesOk_no _ _ _ hz).mono ?_; rintro e w' ⟨rfl, rfl⟩)
    refine bodyPost_ret (v := .tuple #[.agg #[.int .i64 0, .int .i64 0, .pointer none], .bool false]) ?_ rfl ⟨u_b2 _ _ _, .inr ⟨fun h => hz h.1, rfl⟩⟩
    simp [results, Tryz.results89, go_sem]
end Go.Proofs.YtbakicgdloakgaaGreatDoor
namespace Go.Proofs.YtbakicgdloakgaaGreatDoor
open Go.ChangeShapes Go.WideShapes Go.ChangeAt Go.RowKit Go.Sort Go.Shelf
attribute [local go_sem] Oper.semAt_some

theorem one_row (r : List Int) (at' : Int) : (r.length = 1 ∧ hd r = at') ↔ r = [at'] := by
  constructor
  · rintro ⟨h1, h2⟩
    match r, h1 with
    | [x], _ => rw [show x = at' from h2]
  · rintro rfl; exact ⟨rfl, rfl⟩
/-- The equations of a solver that is ok; none of others. -/
def eqsOf (c z : Int) (es : List EqV) : List EqV := if solverP c z es then es else []
/-- What a list of a solver is, ok or not. -/
theorem listO_any {w : World} {c z : Int} {es : List EqV} {e : Ending} {w' : World} (h : ListO w c z es e w') :
    ∃ (c' z' : Int) (ls : List Lk), e = .returned (.tuple #[.agg #[.int .i64 c', .int .i64 z', .pointer (ptrOf ls)], .bool (decide (solverP c z es))]) ∧ LksAt w' w.heap.size ls ∧ SameE ls (eqsOf c z es) ∧ RowsL ls ∧ ls.length ≤ 24 ∧ Below w.heap.size w w' := by
  obtain ⟨b, ⟨hp, ls, rfl, hL, hs⟩ | ⟨hp, rfl⟩⟩ := h
  · have he : eqsOf c z es = es := if_pos hp
    refine ⟨c, z, ls, by rw [decide_eq_true hp], hL, by rw [he]; exact hs, hs.rows hp.1.1.2 hp.2, ?_, b⟩
    have h1 := congrArg List.length hs.1
    rw [List.length_map, List.length_map] at h1
    have := okE_24 hp.2 (by have := hp.1.1.1; omega) hp.1.1.2
    omega
  · have he : eqsOf c z es = [] := if_neg hp
    exact ⟨0, 0, [], by rw [decide_eq_false hp]; rfl, LksAt.nil _ _, by rw [he]; exact ⟨rfl, rfl⟩, fun l hl => by simp at hl, by simp, b⟩
end Go.Proofs.YtbakicgdloakgaaGreatDoor
