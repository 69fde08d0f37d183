/- An equation learnt by the program: where nothing of its row is left. As Frp: operations that look at no memory are taken ahead of all others, whenever they come. -/
import Derived.Test.YtpdaobiaekamoaaDoorG37
import Derived.Test.YtpdaobiaekamoaaDoorSlJ
import Derived.Test.YtpdaobiaekamoaaDoorFrp
import Derived.Test.YtpdaobiaekamoaaDoorG26
namespace Go.Proofs.YtpdaobiaekamoaaDoor
open Go.ChangeShapes Go.WideShapes Go.ChangeAt Go.RowKit Go.Sort Go.Shelf
attribute [local go_sem] Oper.semAt_some

theorem BytsAt.set_any {w : World} {q : Nat} {d : List Int} {g : Nat} {v : Value} (h : BytsAt w q d) (hg : w.cell? ⟨g, 0, none⟩ = some v) (hv : ∀ x, v ≠ .int .u8 x) (i : Nat) (u : Value) : BytsAt (w.setCell ⟨g, i, none⟩ u) q d := by
  by_cases hq : q = g
  · subst hq
    refine ⟨by rw [show (w.setCell ⟨q, i, none⟩ u).heap.size = w.heap.size by simp [World.setCell]]; exact h.1, fun j hj => ?_⟩
    have h0 := h.2 0 (by omega)
    rw [hg] at h0
    exact absurd (Option.some.inj h0) (hv _)
  · exact h.set hq i u

set_option maxHeartbeats 4000000 in
theorem learn_known (sb base : Nat) (c z : Int) (ls : List Lk) (r d : List Int) (q cc : Nat) (w : World)
    (hsb : w.heap[sb]? = some (.cells #[.int .i64 c, .int .i64 z, .pointer (ptrOf ls)] 58 (0, 0))) (hL : LksAt w base ls) (hR : RowsL ls) (hll : ls.length ≤ 24) (hr : ascB (-1) 24 r = true) (hq : BytsAt w q d) (hd1 : d.length ≤ 1048576) (hdl : ∀ l ∈ ls, l.d.length = d.length) (hT : Tab w)
    (hnil : (ls.foldl stepL (r, d)).1 = []) :
    Calls Tryd.prog 43 #[.pointer (some ⟨sb, 0, none⟩), .int .u32 (setI r : Nat), .slice (some ⟨q, 0, none⟩) d.length cc] w fun e w' => e = .returned (.int .i64 (codeK (ls.foldl stepL (r, d)).2 d.length)) ∧ Below w.heap.size w w' := by
  have K := hid (fun V (b : Below w.heap.size w V) => last_any sb base c z ls r d q cc V (kept hsb b) (hL.below b) hR hll hr (hq.below b) hd1 hdl (hT.below b))
  have HLN := hid (foldL_len (s := (r, d)) (fun l hl => hdl l hl))
  have HNIL := hid hnil
  have HAS := hid (foldL_asc (s := (r, d)) hR hr)
  clear hsb hL hR hll hr hq hdl hT hnil
  obtain ⟨W0, hW0⟩ : ∃ W0, W0 = (w.alloc (.cells #[.int .u32 (setI r : Nat)] 64)).alloc (.cells #[.slice (some ⟨q, 0, none⟩) d.length cc] 69) := ⟨_, rfl⟩
  obtain ⟨X0, X1, B0⟩ := u_box2 (w := w) (c := #[.int .u32 (setI r : Nat)]) (t := 64) (d := #[.slice (some ⟨q, 0, none⟩) d.length cc]) (s := 69) (w1 := W0) (by rw [hW0]; exact Below.refl _ _)
  have hs0 : W0.heap.size = w.heap.size + 2 := by rw [hW0]; simp
  have q0 := box_cell X0 0 (v := .int .u32 (setI r : Nat)) rfl
  have q1 := box_cell X1 0 (v := .slice (some ⟨q, 0, none⟩) d.length cc) rfl
  have HX0 := hid X0
  have HX1 := hid X1
  have HB := hid B0
  clear X0 X1 B0
  go_enter Tryd.func43, Tryd.ntmps43
  repeat ((fail_if_success (with_reducible show Code.wp _ (Code.region 1 _ _) _ _ _)); (first | go_values | go_skip | go_guarded | go_step | go_upon | go_back | go_simp))
  rw [← hW0]
  clear hW0
  go_wp2_with fail
  refine (K.out W0 HB.out).mono ?_
  rintro e w1 ⟨x, hx, rfl, hbx, b1⟩
  have HX := hid hx
  have hxr : x.r = [] := by have := congrArg Prod.fst HX.out; exact this.trans HNIL.out
  have HXR := hid hxr
  have HBX := hid hbx
  have Y0 := kept HX0.out b1
  have Y1 := kept HX1.out b1
  have p0 := box_cell Y0 0 (v := .int .u32 (setI r : Nat)) rfl
  have p1 := box_cell Y1 0 (v := .slice (some ⟨q, 0, none⟩) d.length cc) rfl
  have z0 := box_frozen Y0 0
  have z1 := box_frozen Y1 0
  have l0 := lt_of_block Y0
  have l1 := lt_of_block Y1
  have HB1 := hid (u_cat HB.out b1)
  obtain ⟨V, hV⟩ : ∃ V, V = (w1.setCell ⟨w.heap.size, 0, none⟩ (.int .u32 (setI x.r : Nat))).setCell ⟨w.heap.size + 1, 0, none⟩ (.slice (some ⟨x.q, 0, none⟩) x.d.length x.c) := ⟨_, rfl⟩
  have bV : Below w.heap.size w V := by rw [hV]; exact u_set (u_set HB1.out (Nat.le_refl _) _ _) (by omega) _ _
  have Y1' : (w1.setCell ⟨w.heap.size, 0, none⟩ (.int .u32 (setI x.r : Nat))).heap[w.heap.size + 1]? = some (.cells #[.slice (some ⟨q, 0, none⟩) d.length cc] 69 (0, 0)) := set_other Y1 (by omega) _ _
  have hbV : BytsAt V x.q x.d := by
    rw [hV]
    refine (HBX.out.set_any p0 (fun _ => by simp) _ _).set_any (box_cell Y1' 0 (v := .slice (some ⟨q, 0, none⟩) d.length cc) rfl) (fun _ => by simp) _ _
  have V1 : V.heap[w.heap.size + 1]? = some (.cells #[.slice (some ⟨x.q, 0, none⟩) x.d.length x.c] 69 (0, 0)) := by rw [hV]; exact set_block Y1' 0 _
  have HV1 := hid V1
  have HBV := hid hbV
  have HBB := hid bV
  have KE := hid (fun w => emptyS (show ascB (-1) 24 x.r = true by rw [HXR.out]; rfl) w)
  rw [decide_eq_true HXR.out] at KE
  have hdx : x.d.length = d.length := by have := congrArg (fun s => s.2.length) HX.out; exact this.trans HLN.out
  have KC := hid (emptyCode_any x.q x.c x.d V HBV.out (by omega))
  have HE := hid (show codeK x.d x.d.length = codeK (ls.foldl stepL (r, d)).2 d.length by
    have h2 : x.d = (ls.foldl stepL (r, d)).2 := congrArg Prod.snd HX.out
    rw [hdx, ← h2])
  clear b1 hx hxr hbx q0 q1 Y0 Y1 Y1' hbV V1 bV hdx
  go_wp2_with fail
  rw [← hV]
  clear hV p0 p1 z0 z1 l0 l1
  refine (KE.out V).mono ?_
  rintro e w2 ⟨rfl, e2⟩
  rw [e2]
  clear e2 w2
  have q1 := box_cell HV1.out 0 (v := .slice (some ⟨x.q, 0, none⟩) x.d.length x.c) rfl
  go_wp2_with fail
  refine KC.out.mono ?_
  rintro e w3 ⟨rfl, e3⟩
  rw [e3]
  clear e3 w3
  go_wp2_with fail
  go_ret
  exact ⟨ret_int HE.out, HBB.out⟩
end Go.Proofs.YtpdaobiaekamoaaDoor
namespace Go.Proofs.YtpdaobiaekamoaaDoor
open Go.ChangeShapes Go.WideShapes Go.ChangeAt Go.RowKit Go.Sort

def pureL (md : Region.Mode) (ops : Array Oper) (L1 : Array Bool) : List Nat → Array Bool → Bool
  | [], listed => listed == L1
  | k :: is, listed => (Region.ready md ops listed).contains k && loose md ops k && pureL md ops L1 is (listed.setIfInBounds k true)

section
variable {P : Program} {ops : Array Oper} {md : Region.Mode} {Q : Exit → Act → World → Prop} {C : World → Prop}

theorem wpAny_pures (hs : Region.noSelect ops = true) (hQ : ∀ c a d v w, Q (.panic c) (a.put d v) w → Q (.panic c) a w) {L1 : Array Bool} {b : Nat} {K : Act → Prop} {w : World} (hC : C w)
    (hK : ∀ a, Shut md ops L1 → K a → wpAny P md ops Q b L1 a w) :
    ∀ (is : List Nat) (l : List Oper) (listed : Array Bool) (a : Act), Lies ops is l → Shut md ops listed → pureL md ops L1 is listed = true → wpQuiet P ops C K l a → wpAny P md ops Q (l.length + b) listed a w
  | [], [], listed, a, _, hsh, hB, h => by
    have e : listed = L1 := by simpa [pureL] using hB
    rw [e] at hsh ⊢
    rw [List.length_nil, Nat.zero_add]
    exact hK a hsh h
  | k :: is, o :: l, listed, a, hl, hsh, hB, h => by
    have h0 : ops[k]? = some o := hl.1
    simp only [pureL, Bool.and_eq_true] at hB
    obtain ⟨⟨hr, hlo⟩, hB'⟩ := hB
    have hr' : k ∈ Region.ready md ops listed := by simpa using hr
    have hpu : pureOp o = true := by simp only [loose, h0, Bool.and_eq_true] at hlo; exact hlo.1
    have hst : qOp P ops C k (wpQuiet P ops C K l) a := by unfold qOp; simp only [h0]; exact h
    obtain ⟨v, hy, hK'⟩ := yieldsIn_of_qOp h0 hst
    have hY : Yields P ops o v a := by
      rcases hy with ⟨h1, h2⟩ | h1
      · exact .inl ⟨h1, fun w' => pureOp_run hpu _ w w' (h2 w hC)⟩
      · exact .inr h1
    rw [show (o :: l).length + b = (l.length + b) + 1 by simp; omega]
    exact wpAny_first h0 (Region.noSelect_spec hs) (fun c a w h => hQ c a _ _ w h) _ listed a w (loose_free h0 hlo hsh hr') hr' hY
      (wpAny_pures hs hQ hC hK is l _ _ hl.2 (hsh.set hr') hB' hK')
  | [], _ :: _, _, _, h, _, _, _ => h.elim
  | _ :: _, [], _, _, h, _, _, _ => h.elim
end

def pureS (l : List Oper) (us : List (Nat × Nat)) : Array Bool := (ixs us).foldl (fun b k => b.setIfInBounds k true) (Array.replicate l.length false)
def pickS (l : List Oper) (us ps : List (Nat × Nat)) : Array Bool := (ixs ps).foldl (fun b k => b.setIfInBounds k true) (pureS l us)
def pickPB (l : List Oper) (c n : Nat) (us ps qs : List (Nat × Nat)) : Bool :=
  us.all (fun p => decide (p.1 + p.2 ≤ l.length)) && ps.all (fun p => decide (p.1 + p.2 ≤ l.length)) && qs.all (fun p => decide (p.1 + p.2 ≤ l.length)) && ((ixs us).length + ((ixs ps).length + (ixs qs).length) == l.length) && Region.noSelect l.toArray &&
    pureL .any l.toArray (pureS l us) (ixs us) (Array.replicate l.length false) &&
    frontL .any l.toArray (pickS l us ps) (ixs ps) (pureS l us) && (cutOut l ps).all readOp &&
    (ixs ps).all (fun i => decide (i < c) && (List.range' c (l.length - c)).all (fun j => behind .any l.toArray i l.length j)) &&
    backL .any l.toArray (ixs qs) (pickS l us ps) && ordB c n (ixs qs)

theorem any_pickP {P : Program} {C : World → Prop} {Q : Exit → Act → World → Prop} {a : Act} {w : World} {l : List Oper} (c n : Nat) (us ps qs : List (Nat × Nat)) (hB : pickPB l c n us ps qs = true) (hQ : ∀ c a d v w, Q (.panic c) (a.put d v) w → Q (.panic c) a w) (hC : C w)
    (h : wpQuiet P l.toArray C (fun a1 => wpQuiet P l.toArray C (fun a' => ∀ w', C w' → wpRest P l.toArray Q C n (cutOut l qs) a' w') (cutOut l ps) a1) (cutOut l us) a) : wpAny P .any l.toArray Q l.toArray.size (Array.replicate l.toArray.size false) a w := by
  simp only [pickPB, Bool.and_eq_true, beq_iff_eq] at hB
  obtain ⟨⟨⟨⟨⟨⟨⟨⟨⟨⟨hu, hp⟩, hq⟩, hlen⟩, hs⟩, hpu⟩, hf⟩, hrd⟩, hpost⟩, hb⟩, ho⟩ := hB
  have hlu := lies_cut l us hu
  have hlp := lies_cut l ps hp
  have hlq := lies_cut l qs hq
  have h1 := wpAny_pures (P := P) (Q := Q) (C := C) (md := .any) (ops := l.toArray) hs hQ (L1 := pureS l us) (b := (cutOut l ps).length + (cutOut l qs).length)
    (K := fun a1 => wpQuiet P l.toArray C (fun a' => ∀ w', C w' → wpRest P l.toArray Q C n (cutOut l qs) a' w') (cutOut l ps) a1) (w := w) hC
    (fun a1 hsh hK => wpAny_of_wpMid (C := C) (c := c) _ _ _ _ (wpMid_lexL (P := P) (Q := Q) (C := C) (md := .any) (ops := l.toArray) (c := c) (b := (cutOut l qs).length) hs hQ (K := fun a' => ∀ w', C w' → wpRest P l.toArray Q C n (cutOut l qs) a' w')
      (fun a' w' hw' hK => wpMid_backL n (ixs qs) (cutOut l qs) _ a' w' hlq ho hb (hK w' hw'))
      (ixs ps) (cutOut l ps) (pureS l us) a1 w hlp (fun i hi => by
        have h2 := List.all_eq_true.1 hpost i hi
        simp only [Bool.and_eq_true, decide_eq_true_eq] at h2
        refine ⟨h2.1, fun j hj hjl => ?_⟩
        have hjl' : j < l.length := by simpa using hjl
        have h3 := List.all_eq_true.1 h2.2 j (List.mem_range'_1.2 ⟨hj, by omega⟩)
        simpa using h3)
      hsh hC hrd hf hK))
    (ixs us) (cutOut l us) (Array.replicate l.length false) a hlu (fun k o _ hk => by simp [Array.getElem?_replicate] at hk; split at hk <;> simp_all) hpu h
  have e : (cutOut l us).length + ((cutOut l ps).length + (cutOut l qs).length) = l.length := by rw [← lies_len hlu, ← lies_len hlp, ← lies_len hlq]; exact hlen
  rw [e] at h1
  simpa using h1
theorem wp_pickP {P : Program} {id : Nat} {Q : Exit → Act → World → Prop} {a : Act} {w : World} {l : List Oper} (c n : Nat) (us ps qs : List (Nat × Nat)) (hm : P.follows .mixedOrders = true) (hB : pickPB l c n us ps qs = true) (hQ : ∀ c a d v w, Q (.panic c) (a.put d v) w → Q (.panic c) a w)
    (h : wpQuiet P l.toArray (fun w' => ∃ p : Regrown, w' = grow (redrawn w p.d) p.os) (fun a1 => wpQuiet P l.toArray (fun w' => ∃ p : Regrown, w' = grow (redrawn w p.d) p.os) (fun a' => ∀ w', (∃ p : Regrown, w' = grow (redrawn w p.d) p.os) → wpRest P l.toArray Q (fun w' => ∃ p : Regrown, w' = grow (redrawn w p.d) p.os) n (cutOut l qs) a' w') (cutOut l ps) a1) (cutOut l us) a) : (Code.region id l.toArray true).wp P Q a w :=
  wp_region_any hm (any_pickP (C := fun w' => ∃ p : Regrown, w' = grow (redrawn w p.d) p.os) c n us ps qs hB hQ ⟨⟨w.drawn + 1, #[]⟩, by rw [grow_empty]; rfl⟩ h)
theorem inR_pickP {P : Program} {id : Nat} {Q : Exit → Act → World → Prop} {a : Act} {w : World} {l : List Oper} {r n' : Nat} (c n : Nat) (us ps qs : List (Nat × Nat)) (hm : P.follows .mixedOrders = true) (hB : pickPB l c n us ps qs = true) (hn : l.all noDefer = true) (hQ0 : ¬ LetsOut Q) (hQ : ∀ c a d v w, Q (.panic c) (a.put d v) w → Q (.panic c) a w)
    (h : wpQuiet P l.toArray (fun w' => ∃ p : Regrown, w' = grow (redrawn w p.d) p.os) (fun a1 => wpQuiet P l.toArray (fun w' => ∃ p : Regrown, w' = grow (redrawn w p.d) p.os) (fun a' => ∀ w', (∃ p : Regrown, w' = grow (redrawn w p.d) p.os) → wpRest P l.toArray Q (fun w' => ∃ p : Regrown, w' = grow (redrawn w p.d) p.os) n (cutOut l qs) a' w') (cutOut l ps) a1) (cutOut l us) a) : (Code.region id l.toArray true).wpIn (Fence.wide.inRound r) n' P Q a w :=
  wpIn_region_any hm (inR_any hQ0 (nd_all hn) _ _ _ _ (any_pickP (C := fun w' => ∃ p : Regrown, w' = grow (redrawn w p.d) p.os) c n us ps qs hB hQ ⟨⟨w.drawn + 1, #[]⟩, by rw [grow_empty]; rfl⟩ h))
/-- Where nothing panics. -/
theorem wp_pickPn {P : Program} {id : Nat} {K : Act → World → Prop} {Q : Exit → Act → World → Prop} {a : Act} {w : World} {l : List Oper} (c n : Nat) (us ps qs : List (Nat × Nat)) (hm : P.follows .mixedOrders = true) (hB : pickPB l c n us ps qs = true)
    (h : wpQuiet P l.toArray (fun w' => ∃ p : Regrown, w' = grow (redrawn w p.d) p.os) (fun a1 => wpQuiet P l.toArray (fun w' => ∃ p : Regrown, w' = grow (redrawn w p.d) p.os) (fun a' => ∀ w', (∃ p : Regrown, w' = grow (redrawn w p.d) p.os) → wpRest P l.toArray (Exit.then K (fun _ _ _ => False)) (fun w' => ∃ p : Regrown, w' = grow (redrawn w p.d) p.os) n (cutOut l qs) a' w') (cutOut l ps) a1) (cutOut l us) a) : (Code.region id l.toArray true).wp P (Exit.then K Q) a w :=
  Code.wp_mono (fun e _ _ h => by cases e <;> first | exact h | exact h.elim) (wp_pickP (Q := Exit.then K (fun _ _ _ => False)) c n us ps qs hm hB (fun _ _ _ _ _ h => h.elim) h)
theorem wp_floatn {P : Program} {id : Nat} {K : Act → World → Prop} {Q : Exit → Act → World → Prop} {a : Act} {w : World} {l : List Oper} (c f : Nat) (fo : Oper) (ps qs rs : List (Nat × Nat)) (hm : P.follows .mixedOrders = true) (hf : l[f]? = some fo) (hB : floatB l c f ps qs rs = true)
    (h : wpQuiet P l.toArray (fun w' => ∃ p : Regrown, w' = grow (redrawn w p.d) p.os) (fun a' => ∀ w', (∃ p : Regrown, w' = grow (redrawn w p.d) p.os) → wpRestF P l.toArray (Exit.then K (fun _ _ _ => False)) (fun w' => ∃ p : Regrown, w' = grow (redrawn w p.d) p.os) fo (cutOut l rs) (cutOut l qs) a' w') (cutOut l ps) a) : (Code.region id l.toArray true).wp P (Exit.then K Q) a w :=
  Code.wp_mono (fun e _ _ h => by cases e <;> first | exact h | exact h.elim) (wp_float (Q := Exit.then K (fun _ _ _ => False)) c f fo ps qs rs hm hf hB (fun _ _ _ _ _ h => h.elim) h)
end Go.Proofs.YtpdaobiaekamoaaDoor
