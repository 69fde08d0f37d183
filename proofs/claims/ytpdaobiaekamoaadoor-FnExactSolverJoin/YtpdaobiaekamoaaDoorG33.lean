/- The links with another one at its place: by the program. An equation learnt by the program: where nothing of its row is left. -/
import Derived.Test.YtpdaobiaekamoaaDoorG32
import Derived.Test.YtpdaobiaekamoaaDoorG23
import Derived.Test.YtpdaobiaekamoaaDoorG20
import Derived.Test.YtpdaobiaekamoaaDoorG17
namespace Go.Proofs.YtpdaobiaekamoaaDoor
open Go.ChangeShapes Go.WideShapes Go.ChangeAt Go.RowKit Go.Sort Go.Shelf
attribute [local go_sem] Oper.semAt_some

theorem run_eq_nil (b : Nat) (w : World) : (binOp .eql 56 (.pointer (some ⟨b, 0, none⟩)) (.pointer none)).run Tryd.prog w = .ok (.bool false) w := by
  have h : ∀ d : Nat, (Op.equalIn (d + 1) 56 (.pointer (some ⟨b, 0, none⟩)) (.pointer none)).run Tryd.prog w = .ok false w := fun d => by
    simp [Op.equalIn, run_underlying Tryd.underlying56]
  simp only [binOp]
  simp [Op.equal, Op.maxDepth, h 9999]
theorem run_eq_nil0 (w : World) : (binOp .eql 56 (.pointer none) (.pointer none)).run Tryd.prog w = .ok (.bool true) w := by
  have h : ∀ d : Nat, (Op.equalIn (d + 1) 56 (.pointer none) (.pointer none)).run Tryd.prog w = .ok true w := fun d => by
    simp [Op.equalIn, run_underlying Tryd.underlying56]
  simp only [binOp]
  simp [Op.equal, Op.maxDepth, h 9999]
/-- Ahead of the first whose first number is greater. -/
def insL (a : Lk) : List Lk → List Lk
  | [] => [a]
  | k :: ks => if hd a.r < hd k.r then a :: k :: ks else k :: insL a ks
theorem insL_ptr (a k : Lk) (ks : List Lk) : ptrOf (insL a (k :: ks)) = if hd a.r < hd k.r then some ⟨a.b, 0, none⟩ else some ⟨k.b, 0, none⟩ := by
  unfold insL
  split <;> rfl
/-- A link by itself: where it leads is left open. -/
def LkIs (w : World) (base : Nat) (l : Lk) (p : Option Addr) : Prop := base ≤ l.b ∧ base ≤ l.q ∧
  w.heap[l.b]? = some (.cells #[.int .u32 (setI l.r : Nat), .slice (some ⟨l.q, 0, none⟩) l.d.length l.c, .pointer p] 76 (0, 0)) ∧ BytsAt w l.q l.d
theorem BytsAt.set_link {w : World} {q : Nat} {d : List Int} {g : Nat} {x : Int} {v1 v2 : Value} (h : BytsAt w q d) (hg : w.heap[g]? = some (.cells #[.int .u32 x, v1, v2] 76 (0, 0))) (i : Nat) (u : Value) : BytsAt (w.setCell ⟨g, i, none⟩ u) q d := by
  by_cases hq : q = g
  · subst hq
    refine ⟨by rw [show (w.setCell ⟨q, i, none⟩ u).heap.size = w.heap.size by simp [World.setCell]]; exact h.1, fun j hj => ?_⟩
    have h0 := h.2 0 (by omega)
    rw [box_cell hg 0 (v := .int .u32 x) rfl] at h0
    cases h0
  · exact h.set hq i u
theorem lks_cons {w : World} {base : Nat} {l : Lk} {ls : List Lk} : LksAt w base (l :: ls) ↔ LkIs w base l (ptrOf ls) ∧ LksAt w base ls := by
  constructor
  · intro h
    exact ⟨h 0 (by simp), fun k hk => h (k + 1) (by simpa using hk)⟩
  · rintro ⟨⟨h1, h2, h3, h4⟩, h⟩
    exact h.cons h1 h2 h3 h4
theorem LkIs.set {w : World} {base : Nat} {l : Lk} {p : Option Addr} (h : LkIs w base l p) {g : Nat} {x : Int} {v1 v2 : Value} (hg : w.heap[g]? = some (.cells #[.int .u32 x, v1, v2] 76 (0, 0))) (hne : l.b ≠ g) (u : Value) : LkIs (w.setCell ⟨g, 2, none⟩ u) base l p :=
  ⟨h.1, h.2.1, set_other h.2.2.1 hne _ _, h.2.2.2.set_link hg _ _⟩
theorem LkIs.next {w : World} {base : Nat} {l : Lk} {p : Option Addr} (h : LkIs w base l p) (p' : Option Addr) : LkIs (w.setCell ⟨l.b, 2, none⟩ (.pointer p')) base l p' :=
  ⟨h.1, h.2.1, by have := set_block h.2.2.1 2 (.pointer p'); simpa using this, h.2.2.2.set_link h.2.2.1 _ _⟩
theorem lks_set {w : World} {base : Nat} {ls : List Lk} (h : LksAt w base ls) {g : Nat} {x : Int} {v1 v2 : Value} (hg : w.heap[g]? = some (.cells #[.int .u32 x, v1, v2] 76 (0, 0))) (hne : ∀ l ∈ ls, l.b ≠ g) (u : Value) : LksAt (w.setCell ⟨g, 2, none⟩ u) base ls := fun k hk =>
  LkIs.set (p := ptrOf (ls.drop (k + 1))) (h k hk) hg (hne _ (List.getElem_mem hk)) u

theorem LkIs.below {w w' : World} {base : Nat} {l : Lk} {p : Option Addr} (h : LkIs w base l p) (hb : Below w.heap.size w w') : LkIs w' base l p := ⟨h.1, h.2.1, kept h.2.2.1 hb, h.2.2.2.below hb⟩
/-- What is left as it was: all blocks but those of some links; all bytes. -/
def LkKeep (w w' : World) (bs : List Nat) : Prop := (∀ g, g < w.heap.size → g ∉ bs → w'.heap[g]? = w.heap[g]?) ∧ (∀ q d, BytsAt w q d → BytsAt w' q d)
theorem LkKeep.of_below {w w' : World} (h : Below w.heap.size w w') (bs : List Nat) : LkKeep w w' bs := ⟨fun g hg _ => h.block g hg, fun _ _ hb => hb.below h⟩
theorem LkKeep.set {w w' : World} {bs : List Nat} (h : LkKeep w w' bs) {g : Nat} {x : Int} {v1 v2 : Value} (hg : w'.heap[g]? = some (.cells #[.int .u32 x, v1, v2] 76 (0, 0))) (hb : g ∈ bs) (u : Value) : LkKeep w (w'.setCell ⟨g, 2, none⟩ u) bs :=
  ⟨fun k hk hn => set_other (h.1 k hk hn) (fun e => hn (by rw [e]; exact hb)) _ _, fun q d hq => (h.2 q d hq).set_link hg _ _⟩
theorem LkKeep.trans {a b c : World} {bs cs : List Nat} (h : LkKeep a b bs) (k : LkKeep b c cs) (hs : a.heap.size ≤ b.heap.size) (hc : ∀ x ∈ cs, x ∈ bs) : LkKeep a c bs :=
  ⟨fun g hg hn => (k.1 g (by omega) (fun h2 => hn (hc g h2))).trans (h.1 g hg hn), fun q d hq => k.2 q d (h.2 q d hq)⟩
theorem insL_mem {a x : Lk} : ∀ {ks : List Lk}, x ∈ insL a ks → x = a ∨ x ∈ ks
  | [], h => by simp [insL] at h; exact .inl h
  | k :: ks, h => by
    unfold insL at h
    split at h
    · rcases List.mem_cons.1 h with h | h
      · exact .inl h
      · exact .inr h
    · rcases List.mem_cons.1 h with h | h
      · exact .inr (by rw [h]; exact List.mem_cons_self ..)
      · rcases insL_mem h with h | h
        · exact .inl h
        · exact .inr (List.mem_cons_of_mem _ h)

set_option maxHeartbeats 8000000 in
theorem among_any (a : Lk) (base : Nat) (ha : ascB (-1) 24 a.r = true) (ha0 : a.r ≠ []) : ∀ (ks : List Lk) (p0 : Option Addr) (w : World), RowsL ks → LksAt w base ks → LkIs w base a p0 → (a.b :: ks.map Lk.b).Nodup → base ≤ w.heap.size → Tab w →
    Calls Tryd.prog 68 #[.pointer (ptrOf ks), .pointer (some ⟨a.b, 0, none⟩)] w fun e w' => e = .returned (.pointer (ptrOf (insL a ks))) ∧ LksAt w' base (insL a ks) ∧ LkKeep w w' (a.b :: ks.map Lk.b) ∧ Below base w w'
  | [], p0, w, _, _, hA, _, hbs, _ => by
    have HA := hid hA
    have e0 := run_eq_nil0
    clear hA
    go_enter Tryd.func68, Tryd.ntmps68
    rw [show ptrOf ([] : List Lk) = none from rfl]
    go_wp2_with fail
    refine wp_region_quiet_below (by kernel_rfl) (by kernel_rfl) ?_
    repeat (first | go_big_quiet_step (fail) | quiet_step (fail))
    refine wpQuiet_nil ?_
    intro V hw'
    have hbq := of_class hw'
    have HV := hid (HA.out.below hbq)
    have c2 := box_cell HV.out.2.2.1 2 (v := .pointer p0) rfl
    have z2 := box_frozen HV.out.2.2.1 2
    have lb := lt_of_block HV.out.2.2.1
    have HB := hid hbq
    clear hw' hbq e0
    go_wp2_with fail
    go_ret
    exact ⟨rfl, lks_cons.2 ⟨HV.out.next none, LksAt.nil _ _⟩, (LkKeep.of_below HB.out _).set HV.out.2.2.1 (List.mem_cons_self ..) _, u_set (HB.out.mono hbs) HV.out.1 _ _⟩
  | k :: ks, p0, w, hR, hL, hA, hN, hbs, hT => by
    obtain ⟨hk, hks⟩ := lks_cons.1 hL
    have hRk := hR k (List.mem_cons_self ..)
    have HA := hid hA
    have HK := hid hk
    have HKS := hid hks
    have HT := hid hT
    have HR := hid hR
    have HN := hid hN
    have IH := hid (among_any a base ha ha0 ks)
    have e0 := run_eq_nil k.b
    have ka := cell_regrown (box_cell hA.2.2.1 0 (v := .int .u32 (setI a.r : Nat)) rfl)
    have kk := cell_regrown (box_cell hk.2.2.1 0 (v := .int .u32 (setI k.r : Nat)) rfl)
    have F1 := hid (rg (w := w) (fun w' hb => same_below (firstS hRk.1 hRk.2 w' (HT.out.below hb))))
    have F2 := hid (rg (w := w) (fun w' hb => same_below (firstS ha ha0 w' (HT.out.below hb))))
    obtain ⟨x, hx⟩ : ∃ x, x = hd k.r := ⟨_, rfl⟩
    obtain ⟨y, hy⟩ : ∃ y, y = hd a.r := ⟨_, rfl⟩
    rw [← hx] at F1
    rw [← hy] at F2
    have HX := hid hx
    have HY := hid hy
    clear hA hk hks hT hR hN hL hRk hx hy
    go_enter Tryd.func68, Tryd.ntmps68
    rw [show ptrOf (k :: ks) = some ⟨k.b, 0, none⟩ from rfl]
    by_cases hlt : y < x
    · have HI := hid (show insL a (k :: ks) = a :: k :: ks by rw [insL, if_pos (by rw [← HX.out, ← HY.out]; exact hlt)])
      go_wp2_with fail
      refine wp_region_quiet_below (by kernel_rfl) (by kernel_rfl) ?_
      repeat (first | go_big_quiet_step (first | (go_at_call 65; with_reducible exact F1.out _ _) | (go_at_call 65; with_reducible exact F2.out _ _)) | quiet_step (first | (go_at_call 65; with_reducible exact F1.out _ _) | (go_at_call 65; with_reducible exact F2.out _ _)))
      refine wpQuiet_nil ?_
      intro V hw'
      have hbq := of_class hw'
      have HV := hid (HA.out.below hbq)
      have HKV := hid (HK.out.below hbq)
      have HLV := hid (HKS.out.below hbq)
      have c2 := box_cell HV.out.2.2.1 2 (v := .pointer p0) rfl
      have z2 := box_frozen HV.out.2.2.1 2
      have lb := lt_of_block HV.out.2.2.1
      have HB := hid hbq
      clear hw' hbq e0 ka kk F1 F2
      go_wp2_with fail
      go_ret
      rw [HI.out]
      have hnd := List.nodup_cons.1 HN.out
      have hkb : k.b ≠ a.b := fun e => hnd.1 (by rw [← e]; simp)
      have hsb : ∀ l ∈ ks, l.b ≠ a.b := fun l hl e => hnd.1 (by rw [← e]; exact List.mem_cons_of_mem _ (List.mem_map_of_mem hl))
      exact ⟨rfl, lks_cons.2 ⟨HV.out.next (some ⟨k.b, 0, none⟩), lks_cons.2 ⟨HKV.out.set HV.out.2.2.1 hkb _, lks_set HLV.out HV.out.2.2.1 hsb _⟩⟩, (LkKeep.of_below HB.out _).set HV.out.2.2.1 (List.mem_cons_self ..) _, u_set (HB.out.mono hbs) HV.out.1 _ _⟩
    · have HI := hid (show insL a (k :: ks) = k :: insL a ks by rw [insL, if_neg (by rw [← HX.out, ← HY.out]; exact hlt)])
      go_wp2_with fail
      refine wp_region_quiet_below (by kernel_rfl) (by kernel_rfl) ?_
      repeat (first | go_big_quiet_step (first | (go_at_call 65; with_reducible exact F1.out _ _) | (go_at_call 65; with_reducible exact F2.out _ _)) | quiet_step (first | (go_at_call 65; with_reducible exact F1.out _ _) | (go_at_call 65; with_reducible exact F2.out _ _)))
      refine wpQuiet_nil ?_
      intro V hw'
      have hbq := of_class hw'
      have HV := hid (HA.out.below hbq)
      have HKV := hid (HK.out.below hbq)
      have HLV := hid (HKS.out.below hbq)
      have HTV := hid (HT.out.below hbq)
      have c2 := box_cell HKV.out.2.2.1 2 (v := .pointer (ptrOf ks)) rfl
      have hsz := hbq.size
      have HB := hid hbq
      clear hw' hbq e0 ka kk F1 F2
      go_wp2_with fail
      refine (IH.out p0 V (fun l hl => HR.out l (List.mem_cons_of_mem _ hl)) HLV.out HV.out (by have h := HN.out; simp only [List.map_cons, List.nodup_cons, List.mem_cons, not_or] at h ⊢; exact ⟨h.1.2, h.2.2⟩) (by omega) HTV.out).mono ?_
      rintro e w2 ⟨rfl, hl2, hk2, hb2⟩
      have hnd := HN.out
      simp only [List.map_cons, List.nodup_cons, List.mem_cons, not_or] at hnd
      have hkin : k.b ∉ a.b :: ks.map Lk.b := by
        simp only [List.mem_cons, not_or]
        exact ⟨fun e => hnd.1.1 e.symm, hnd.2.1⟩
      have HK2 : Hid (LkIs w2 base k (ptrOf ks)) := hid ⟨HKV.out.1, HKV.out.2.1, (hk2.1 _ (lt_of_block HKV.out.2.2.1) hkin).trans HKV.out.2.2.1, hk2.2 _ _ HKV.out.2.2.2⟩
      have HL2 := hid hl2
      have HKP := hid hk2
      have HB2 := hid hb2
      have HIN := hid hkin
      clear hl2 hk2 hb2 hnd hkin c2
      have c2 := box_cell HK2.out.2.2.1 2 (v := .pointer (ptrOf ks)) rfl
      have z2 := box_frozen HK2.out.2.2.1 2
      have lb := lt_of_block HK2.out.2.2.1
      go_wp2_with fail
      go_ret
      rw [HI.out]
      refine ⟨rfl, lks_cons.2 ⟨HK2.out.next (ptrOf (insL a ks)), lks_set HL2.out HK2.out.2.2.1 (fun l hl e => ?_) _⟩, ?_, u_set ((HB.out.mono hbs).trans HB2.out) HK2.out.1 _ _⟩
      · rcases insL_mem hl with rfl | h
        · exact HIN.out (by rw [← e]; exact List.mem_cons_self ..)
        · exact HIN.out (by rw [← e]; exact List.mem_cons_of_mem _ (List.mem_map_of_mem h))
      · refine LkKeep.set ((LkKeep.of_below HB.out _).trans HKP.out HB.out.size (fun x hx => ?_)) HK2.out.2.2.1 (by simp) _
        rcases List.mem_cons.1 hx with rfl | h
        · exact List.mem_cons_self ..
        · exact List.mem_cons_of_mem _ (by rw [List.map_cons]; exact List.mem_cons_of_mem _ h)
end Go.Proofs.YtpdaobiaekamoaaDoor
namespace Go.Proofs.YtpdaobiaekamoaaDoor
open Go.ChangeShapes Go.WideShapes Go.ChangeAt Go.RowKit Go.Sort Go.Shelf
attribute [local go_sem] Oper.semAt_some

theorem BytsAt.set_any {w : World} {q : Nat} {d : List Int} {g : Nat} {v : Value} (h : BytsAt w q d) (hg : w.cell? ⟨g, 0, none⟩ = some v) (hv : ∀ x, v ≠ .int .u8 x) (i : Nat) (u : Value) : BytsAt (w.setCell ⟨g, i, none⟩ u) q d := by
  by_cases hq : q = g
  · subst hq
    refine ⟨by rw [show (w.setCell ⟨q, i, none⟩ u).heap.size = w.heap.size by simp [World.setCell]]; exact h.1, fun j hj => ?_⟩
    have h0 := h.2 0 (by omega)
    rw [hg] at h0
    exact absurd (Option.some.inj h0) (hv _)
  · exact h.set hq i u

set_option maxHeartbeats 4000000 in
theorem learn_known (sb base : Nat) (c z : Int) (ls : List Lk) (r d : List Int) (q cc : Nat) (w : World)
    (hsb : w.heap[sb]? = some (.cells #[.int .i64 c, .int .i64 z, .pointer (ptrOf ls)] 58 (0, 0))) (hL : LksAt w base ls) (hR : RowsL ls) (hll : ls.length ≤ 24) (hr : ascB (-1) 24 r = true) (hq : BytsAt w q d) (hd1 : d.length ≤ 1048576) (hdl : ∀ l ∈ ls, l.d.length = d.length) (hT : Tab w)
    (hnil : (ls.foldl stepL (r, d)).1 = []) :
    Calls Tryd.prog 43 #[.pointer (some ⟨sb, 0, none⟩), .int .u32 (setI r : Nat), .slice (some ⟨q, 0, none⟩) d.length cc] w fun e w' => e = .returned (.int .i64 (codeK (ls.foldl stepL (r, d)).2 d.length)) ∧ Below w.heap.size w w' := by
  have K := hid (fun V (b : Below w.heap.size w V) => last_any sb base c z ls r d q cc V (kept hsb b) (hL.below b) hR hll hr (hq.below b) hd1 hdl (hT.below b))
  have HLN := hid (foldL_len (s := (r, d)) (fun l hl => hdl l hl))
  have HNIL := hid hnil
  have HAS := hid (foldL_asc (s := (r, d)) hR hr)
  clear hsb hL hR hll hr hq hdl hT hnil
  obtain ⟨W0, hW0⟩ : ∃ W0, W0 = (w.alloc (.cells #[.int .u32 (setI r : Nat)] 64)).alloc (.cells #[.slice (some ⟨q, 0, none⟩) d.length cc] 69) := ⟨_, rfl⟩
  obtain ⟨X0, X1, B0⟩ := u_box2 (w := w) (c := #[.int .u32 (setI r : Nat)]) (t := 64) (d := #[.slice (some ⟨q, 0, none⟩) d.length cc]) (s := 69) (w1 := W0) (by rw [hW0]; exact Below.refl _ _)
  have hs0 : W0.heap.size = w.heap.size + 2 := by rw [hW0]; simp
  have q0 := box_cell X0 0 (v := .int .u32 (setI r : Nat)) rfl
  have q1 := box_cell X1 0 (v := .slice (some ⟨q, 0, none⟩) d.length cc) rfl
  have HX0 := hid X0
  have HX1 := hid X1
  have HB := hid B0
  clear X0 X1 B0
  go_enter Tryd.func43, Tryd.ntmps43
  repeat ((fail_if_success (with_reducible show Code.wp _ (Code.region 1 _ _) _ _ _)); (first | go_values | go_skip | go_guarded | go_step | go_upon | go_back | go_simp))
  rw [← hW0]
  clear hW0
  go_wp2_with fail
  refine (K.out W0 HB.out).mono ?_
  rintro e w1 ⟨x, hx, rfl, hbx, b1⟩
  have HX := hid hx
  have hxr : x.r = [] := by have := congrArg Prod.fst HX.out; exact this.trans HNIL.out
  have HXR := hid hxr
  have HBX := hid hbx
  have Y0 := kept HX0.out b1
  have Y1 := kept HX1.out b1
  have p0 := box_cell Y0 0 (v := .int .u32 (setI r : Nat)) rfl
  have p1 := box_cell Y1 0 (v := .slice (some ⟨q, 0, none⟩) d.length cc) rfl
  have z0 := box_frozen Y0 0
  have z1 := box_frozen Y1 0
  have l0 := lt_of_block Y0
  have l1 := lt_of_block Y1
  have HB1 := hid (u_cat HB.out b1)
  obtain ⟨V, hV⟩ : ∃ V, V = (w1.setCell ⟨w.heap.size, 0, none⟩ (.int .u32 (setI x.r : Nat))).setCell ⟨w.heap.size + 1, 0, none⟩ (.slice (some ⟨x.q, 0, none⟩) x.d.length x.c) := ⟨_, rfl⟩
  have bV : Below w.heap.size w V := by rw [hV]; exact u_set (u_set HB1.out (Nat.le_refl _) _ _) (by omega) _ _
  have Y1' : (w1.setCell ⟨w.heap.size, 0, none⟩ (.int .u32 (setI x.r : Nat))).heap[w.heap.size + 1]? = some (.cells #[.slice (some ⟨q, 0, none⟩) d.length cc] 69 (0, 0)) := set_other Y1 (by omega) _ _
  have hbV : BytsAt V x.q x.d := by
    rw [hV]
    refine (HBX.out.set_any p0 (fun _ => by simp) _ _).set_any (box_cell Y1' 0 (v := .slice (some ⟨q, 0, none⟩) d.length cc) rfl) (fun _ => by simp) _ _
  have V1 : V.heap[w.heap.size + 1]? = some (.cells #[.slice (some ⟨x.q, 0, none⟩) x.d.length x.c] 69 (0, 0)) := by rw [hV]; exact set_block Y1' 0 _
  have HV1 := hid V1
  have HBV := hid hbV
  have HBB := hid bV
  have KE := hid (fun w => emptyS (show ascB (-1) 24 x.r = true by rw [HXR.out]; rfl) w)
  rw [decide_eq_true HXR.out] at KE
  have hdx : x.d.length = d.length := by have := congrArg (fun s => s.2.length) HX.out; exact this.trans HLN.out
  have KC := hid (emptyCode_any x.q x.c x.d V HBV.out (by omega))
  have HE := hid (show codeK x.d x.d.length = codeK (ls.foldl stepL (r, d)).2 d.length by
    have h2 : x.d = (ls.foldl stepL (r, d)).2 := congrArg Prod.snd HX.out
    rw [hdx, ← h2])
  clear b1 hx hxr hbx q0 q1 Y0 Y1 Y1' hbV V1 bV hdx
  go_wp2_with fail
  rw [← hV]
  clear hV p0 p1 z0 z1 l0 l1
  refine (KE.out V).mono ?_
  rintro e w2 ⟨rfl, e2⟩
  rw [e2]
  clear e2 w2
  have q1 := box_cell HV1.out 0 (v := .slice (some ⟨x.q, 0, none⟩) x.d.length x.c) rfl
  go_wp2_with fail
  refine KC.out.mono ?_
  rintro e w3 ⟨rfl, e3⟩
  rw [e3]
  clear e3 w3
  go_wp2_with fail
  go_ret
  exact ⟨ret_int HE.out, HBB.out⟩
end Go.Proofs.YtpdaobiaekamoaaDoor
