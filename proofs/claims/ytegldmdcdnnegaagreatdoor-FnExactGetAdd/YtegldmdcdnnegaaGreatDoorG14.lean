/- The links with another one at its place: by the program. An equation learnt by the program: where nothing of its row is left. As Frp: operations that look at no memory are taken ahead of all others, whenever they come. -/
import Derived.Test.YtegldmdcdnnegaaGreatDoorG12
import Derived.Test.YtegldmdcdnnegaaGreatDoorG13
import Derived.Test.YtegldmdcdnnegaaGreatDoorG10
import Derived.Test.YtegldmdcdnnegaaGreatDoorG8
namespace Go.Proofs.YtegldmdcdnnegaaGreatDoor
open Go.ChangeShapes Go.WideShapes Go.ChangeAt Go.RowKit Go.Sort Go.Shelf
attribute [local go_sem] Oper.semAt_some

theorem run_eq_nil (b : Nat) (w : World) : (binOp .eql 53 (.pointer (some ⟨b, 0, none⟩)) (.pointer none)).run Tryz.prog w = .ok (.bool false) w := by
  have h : ∀ d : Nat, (Op.equalIn (d + 1) 53 (.pointer (some ⟨b, 0, none⟩)) (.pointer none)).run Tryz.prog w = .ok false w := fun d => by
    simp [Op.equalIn, run_underlying Tryz.underlying53]
  simp only [binOp]
  simp [Op.equal, Op.maxDepth, h 9999]
theorem run_eq_nil0 (w : World) : (binOp .eql 53 (.pointer none) (.pointer none)).run Tryz.prog w = .ok (.bool true) w := by
  have h : ∀ d : Nat, (Op.equalIn (d + 1) 53 (.pointer none) (.pointer none)).run Tryz.prog w = .ok true w := fun d => by
    simp [Op.equalIn, run_underlying Tryz.underlying53]
  simp only [binOp]
  simp [Op.equal, Op.maxDepth, h 9999]
/-- Ahead of the first whose first number is greater. -/
def insL (a : Lk) : List Lk → List Lk
  | [] => [a]
  | k :: ks => if hd a.r < hd k.r then a :: k :: ks else k :: insL a ks
theorem insL_ptr (a k : Lk) (ks : List Lk) : ptrOf (insL a (k :: ks)) = if hd a.r < hd k.r then some ⟨a.b, 0, none⟩ else some ⟨k.b, 0, none⟩ := by
  unfold insL
  split <;> rfl
/-- A link by itself: where it leads is left open. -/
def LkIs (w : World) (base : Nat) (l : Lk) (p : Option Addr) : Prop := base ≤ l.b ∧ base ≤ l.q ∧
  w.heap[l.b]? = some (.cells #[.int .u32 (setI l.r : Nat), .slice (some ⟨l.q, 0, none⟩) l.d.length l.c, .pointer p] 130 (0, 0)) ∧ BytsAt w l.q l.d
theorem BytsAt.set_link {w : World} {q : Nat} {d : List Int} {g : Nat} {x : Int} {v1 v2 : Value} (h : BytsAt w q d) (hg : w.heap[g]? = some (.cells #[.int .u32 x, v1, v2] 130 (0, 0))) (i : Nat) (u : Value) : BytsAt (w.setCell ⟨g, i, none⟩ u) q d := by
  by_cases hq : q = g
  · subst hq
    refine ⟨by rw [show (w.setCell ⟨q, i, none⟩ u).heap.size = w.heap.size by simp [World.setCell]]; exact h.1, fun j hj => ?_⟩
    have h0 := h.2 0 (by omega)
    rw [box_cell hg 0 (v := .int .u32 x) rfl] at h0
    cases h0
  · exact h.set hq i u
theorem lks_cons {w : World} {base : Nat} {l : Lk} {ls : List Lk} : LksAt w base (l :: ls) ↔ LkIs w base l (ptrOf ls) ∧ LksAt w base ls := by
  constructor
  · intro h
    exact ⟨h 0 (by simp), fun k hk => h (k + 1) (by simpa using hk)⟩
  · rintro ⟨⟨h1, h2, h3, h4⟩, h⟩
    exact h.cons h1 h2 h3 h4
theorem LkIs.set {w : World} {base : Nat} {l : Lk} {p : Option Addr} (h : LkIs w base l p) {g : Nat} {x : Int} {v1 v2 : Value} (hg : w.heap[g]? = some (.cells #[.int .u32 x, v1, v2] 130 (0, 0))) (hne : l.b ≠ g) (u : Value) : LkIs (w.setCell ⟨g, 2, none⟩ u) base l p :=
  ⟨h.1, h.2.1, set_other h.2.2.1 hne _ _, h.2.2.2.set_link hg _ _⟩
theorem LkIs.next {w : World} {base : Nat} {l : Lk} {p : Option Addr} (h : LkIs w base l p) (p' : Option Addr) : LkIs (w.setCell ⟨l.b, 2, none⟩ (.pointer p')) base l p' :=
  ⟨h.1, h.2.1, by have := set_block h.2.2.1 2 (.pointer p'); simpa using this, h.2.2.2.set_link h.2.2.1 _ _⟩
theorem lks_set {w : World} {base : Nat} {ls : List Lk} (h : LksAt w base ls) {g : Nat} {x : Int} {v1 v2 : Value} (hg : w.heap[g]? = some (.cells #[.int .u32 x, v1, v2] 130 (0, 0))) (hne : ∀ l ∈ ls, l.b ≠ g) (u : Value) : LksAt (w.setCell ⟨g, 2, none⟩ u) base ls := fun k hk =>
  LkIs.set (p := ptrOf (ls.drop (k + 1))) (h k hk) hg (hne _ (List.getElem_mem hk)) u

theorem LkIs.below {w w' : World} {base : Nat} {l : Lk} {p : Option Addr} (h : LkIs w base l p) (hb : Below w.heap.size w w') : LkIs w' base l p := ⟨h.1, h.2.1, kept h.2.2.1 hb, h.2.2.2.below hb⟩
/-- What is left as it was: all blocks but those of some links; all bytes. -/
def LkKeep (w w' : World) (bs : List Nat) : Prop := (∀ g, g < w.heap.size → g ∉ bs → w'.heap[g]? = w.heap[g]?) ∧ (∀ q d, BytsAt w q d → BytsAt w' q d)
theorem LkKeep.of_below {w w' : World} (h : Below w.heap.size w w') (bs : List Nat) : LkKeep w w' bs := ⟨fun g hg _ => h.block g hg, fun _ _ hb => hb.below h⟩
theorem LkKeep.set {w w' : World} {bs : List Nat} (h : LkKeep w w' bs) {g : Nat} {x : Int} {v1 v2 : Value} (hg : w'.heap[g]? = some (.cells #[.int .u32 x, v1, v2] 130 (0, 0))) (hb : g ∈ bs) (u : Value) : LkKeep w (w'.setCell ⟨g, 2, none⟩ u) bs :=
  ⟨fun k hk hn => set_other (h.1 k hk hn) (fun e => hn (by rw [e]; exact hb)) _ _, fun q d hq => (h.2 q d hq).set_link hg _ _⟩
theorem LkKeep.trans {a b c : World} {bs cs : List Nat} (h : LkKeep a b bs) (k : LkKeep b c cs) (hs : a.heap.size ≤ b.heap.size) (hc : ∀ x ∈ cs, x ∈ bs) : LkKeep a c bs :=
  ⟨fun g hg hn => (k.1 g (by omega) (fun h2 => hn (hc g h2))).trans (h.1 g hg hn), fun q d hq => k.2 q d (h.2 q d hq)⟩
theorem insL_mem {a x : Lk} : ∀ {ks : List Lk}, x ∈ insL a ks → x = a ∨ x ∈ ks
  | [], h => by simp [insL] at h; exact .inl h
  | k :: ks, h => by
    unfold insL at h
    split at h
    · rcases List.mem_cons.1 h with h | h
      · exact .inl h
      · exact .inr h
    · rcases List.mem_cons.1 h with h | h
      · exact .inr (by rw [h]; exact List.mem_cons_self ..)
      · rcases insL_mem h with h | h
        · exact .inl h
        · exact .inr (List.mem_cons_of_mem _ h)

set_option maxRecDepth 100000 in
set_option maxHeartbeats 8000000 in
theorem among_any (a : Lk) (base : Nat) (ha : ascB (-1) 24 a.r = true) (ha0 : a.r ≠ []) : ∀ (ks : List Lk) (p0 : Option Addr) (w : World), RowsL ks → LksAt w base ks → LkIs w base a p0 → (a.b :: ks.map Lk.b).Nodup → base ≤ w.heap.size → Tab w →
    Calls Tryz.prog 94 #[.pointer (ptrOf ks), .pointer (some ⟨a.b, 0, none⟩)] w fun e w' => e = .returned (.pointer (ptrOf (insL a ks))) ∧ LksAt w' base (insL a ks) ∧ LkKeep w w' (a.b :: ks.map Lk.b) ∧ Below base w w'
  | [], p0, w, _, _, hA, _, hbs, _ => by
    have HA := hid hA
    have e0 := run_eq_nil0
    clear hA
    go_enter Tryz.func94, Tryz.ntmps94
    rw [show ptrOf ([] : List Lk) = none from rfl]
    go_wp2_with fail
    refine wp_region_quiet_below (by kernel_rfl) (by kernel_rfl) ?_
    repeat (first | go_big_quiet_step (fail) | quiet_step (fail))
    refine wpQuiet_nil ?_
    intro V hw'
    have hbq := of_class hw'
    have HV := hid (HA.out.below hbq)
    have c2 := box_cell HV.out.2.2.1 2 (v := .pointer p0) rfl
    have z2 := box_frozen HV.out.2.2.1 2
    have lb := lt_of_block HV.out.2.2.1
    have HB := hid hbq
    clear hw' hbq e0
    go_wp2_with fail
    go_ret
    exact ⟨rfl, lks_cons.2 ⟨HV.out.next none, LksAt.nil _ _⟩, (LkKeep.of_below HB.out _).set HV.out.2.2.1 (List.mem_cons_self ..) _, u_set (HB.out.mono hbs) HV.out.1 _ _⟩
  | k :: ks, p0, w, hR, hL, hA, hN, hbs, hT => by
    obtain ⟨hk, hks⟩ := lks_cons.1 hL
    have hRk := hR k (List.mem_cons_self ..)
    have HA := hid hA
    have HK := hid hk
    have HKS := hid hks
    have HT := hid hT
    have HR := hid hR
    have HN := hid hN
    have IH := hid (among_any a base ha ha0 ks)
    have e0 := run_eq_nil k.b
    have ka := cell_regrown (box_cell hA.2.2.1 0 (v := .int .u32 (setI a.r : Nat)) rfl)
    have kk := cell_regrown (box_cell hk.2.2.1 0 (v := .int .u32 (setI k.r : Nat)) rfl)
    have F1 := hid (rg (w := w) (fun w' hb => same_below (firstS hRk.1 hRk.2 w' (HT.out.below hb))))
    have F2 := hid (rg (w := w) (fun w' hb => same_below (firstS ha ha0 w' (HT.out.below hb))))
    obtain ⟨x, hx⟩ : ∃ x, x = hd k.r := ⟨_, rfl⟩
    obtain ⟨y, hy⟩ : ∃ y, y = hd a.r := ⟨_, rfl⟩
    rw [← hx] at F1
    rw [← hy] at F2
    have HX := hid hx
    have HY := hid hy
    clear hA hk hks hT hR hN hL hRk hx hy
    go_enter Tryz.func94, Tryz.ntmps94
    rw [show ptrOf (k :: ks) = some ⟨k.b, 0, none⟩ from rfl]
    by_cases hlt : y < x
    · have HI := hid (show insL a (k :: ks) = a :: k :: ks by rw [insL, if_pos (by rw [← HX.out, ← HY.out]; exact hlt)])
      go_wp2_with fail
      refine wp_region_quiet_below (by kernel_rfl) (by kernel_rfl) ?_
      repeat (first | go_big_quiet_step (first | (go_at_call 91; with_reducible exact F1.out _ _) | (go_at_call 91; with_reducible exact F2.out _ _)) | quiet_step (first | (go_at_call 91; with_reducible exact F1.out _ _) | (go_at_call 91; with_reducible exact F2.out _ _)))
      refine wpQuiet_nil ?_
      intro V hw'
      have hbq := of_class hw'
      have HV := hid (HA.out.below hbq)
      have HKV := hid (HK.out.below hbq)
      have HLV := hid (HKS.out.below hbq)
      have c2 := box_cell HV.out.2.2.1 2 (v := .pointer p0) rfl
      have z2 := box_frozen HV.out.2.2.1 2
      have lb := lt_of_block HV.out.2.2.1
      have HB := hid hbq
      clear hw' hbq e0 ka kk F1 F2
      go_wp2_with fail
      go_ret
      rw [HI.out]
      have hnd := List.nodup_cons.1 HN.out
      have hkb : k.b ≠ a.b := fun e => hnd.1 (by rw [← e]; simp)
      have hsb : ∀ l ∈ ks, l.b ≠ a.b := fun l hl e => hnd.1 (by rw [← e]; exact List.mem_cons_of_mem _ (List.mem_map_of_mem hl))
      exact ⟨rfl, lks_cons.2 ⟨HV.out.next (some ⟨k.b, 0, none⟩), lks_cons.2 ⟨HKV.out.set HV.out.2.2.1 hkb _, lks_set HLV.out HV.out.2.2.1 hsb _⟩⟩, (LkKeep.of_below HB.out _).set HV.out.2.2.1 (List.mem_cons_self ..) _, u_set (HB.out.mono hbs) HV.out.1 _ _⟩
    · have HI := hid (show insL a (k :: ks) = k :: insL a ks by rw [insL, if_neg (by rw [← HX.out, ← HY.out]; exact hlt)])
      go_wp2_with fail
      refine wp_region_quiet_below (by kernel_rfl) (by kernel_rfl) ?_
      repeat (first | go_big_quiet_step (first | (go_at_call 91; with_reducible exact F1.out _ _) | (go_at_call 91; with_reducible exact F2.out _ _)) | quiet_step (first | (go_at_call 91; with_reducible exact F1.out _ _) | (go_at_call 91; with_reducible exact F2.out _ _)))
      refine wpQuiet_nil ?_
      intro V hw'
      have hbq := of_class hw'
      have HV := hid (HA.out.below hbq)
      have HKV := hid (HK.out.below hbq)
      have HLV := hid (HKS.out.below hbq)
      have HTV := hid (HT.out.below hbq)
      have c2 := box_cell HKV.out.2.2.1 2 (v := .pointer (ptrOf ks)) rfl
      have hsz := hbq.size
      have HB := hid hbq
      clear hw' hbq e0 ka kk F1 F2
      go_wp2_with fail
      refine (IH.out p0 V (fun l hl => HR.out l (List.mem_cons_of_mem _ hl)) HLV.out HV.out (by have h := HN.out; simp only [List.map_cons, List.nodup_cons, List.mem_cons, not_or] at h ⊢; exact ⟨h.1.2, h.2.2⟩) (by omega) HTV.out).mono ?_
      rintro e w2 ⟨rfl, hl2, hk2, hb2⟩
      have hnd := HN.out
      simp only [List.map_cons, List.nodup_cons, List.mem_cons, not_or] at hnd
      have hkin : k.b ∉ a.b :: ks.map Lk.b := by
        simp only [List.mem_cons, not_or]
        exact ⟨fun e => hnd.1.1 e.symm, hnd.2.1⟩
      have HK2 : Hid (LkIs w2 base k (ptrOf ks)) := hid ⟨HKV.out.1, HKV.out.2.1, (hk2.1 _ (lt_of_block HKV.out.2.2.1) hkin).trans HKV.out.2.2.1, hk2.2 _ _ HKV.out.2.2.2⟩
      have HL2 := hid hl2
      have HKP := hid hk2
      have HB2 := hid hb2
      have HIN := hid hkin
      clear hl2 hk2 hb2 hnd hkin c2
      have c2 := box_cell HK2.out.2.2.1 2 (v := .pointer (ptrOf ks)) rfl
      have z2 := box_frozen HK2.out.2.2.1 2
      have lb := lt_of_block HK2.out.2.2.1
      go_wp2_with fail
      go_ret
      rw [HI.out]
      refine ⟨rfl, lks_cons.2 ⟨HK2.out.next (ptrOf (insL a ks)), lks_set HL2.out HK2.out.2.2.1 (fun l hl e => ?_) _⟩, ?_, u_set ((HB.out.mono hbs).trans HB2.out) HK2.out.1 _ _⟩
      · rcases insL_mem hl with rfl | h
        · exact HIN.out (by rw [← e]; exact List.mem_cons_self ..)
        · exact HIN.out (by rw [← e]; exact List.mem_cons_of_mem _ (List.mem_map_of_mem h))
      · refine LkKeep.set ((LkKeep.of_below HB.out _).trans HKP.out HB.out.size (fun x hx => ?_)) HK2.out.2.2.1 (by simp) _
        rcases List.mem_cons.1 hx with rfl | h
        · exact List.mem_cons_self ..
        · exact List.mem_cons_of_mem _ (by rw [List.map_cons]; exact List.mem_cons_of_mem _ h)
end Go.Proofs.YtegldmdcdnnegaaGreatDoor
namespace Go.Proofs.YtegldmdcdnnegaaGreatDoor
open Go.ChangeShapes Go.WideShapes Go.ChangeAt Go.RowKit Go.Sort Go.Shelf
attribute [local go_sem] Oper.semAt_some

theorem BytsAt.set_any {w : World} {q : Nat} {d : List Int} {g : Nat} {v : Value} (h : BytsAt w q d) (hg : w.cell? ⟨g, 0, none⟩ = some v) (hv : ∀ x, v ≠ .int .u8 x) (i : Nat) (u : Value) : BytsAt (w.setCell ⟨g, i, none⟩ u) q d := by
  by_cases hq : q = g
  · subst hq
    refine ⟨by rw [show (w.setCell ⟨q, i, none⟩ u).heap.size = w.heap.size by simp [World.setCell]]; exact h.1, fun j hj => ?_⟩
    have h0 := h.2 0 (by omega)
    rw [hg] at h0
    exact absurd (Option.some.inj h0) (hv _)
  · exact h.set hq i u
end Go.Proofs.YtegldmdcdnnegaaGreatDoor
namespace Go.Proofs.YtegldmdcdnnegaaGreatDoor
open Go.ChangeShapes Go.WideShapes Go.ChangeAt Go.RowKit Go.Sort

def pureL (md : Region.Mode) (ops : Array Oper) (L1 : Array Bool) : List Nat → Array Bool → Bool
  | [], listed => listed == L1
  | k :: is, listed => (Region.ready md ops listed).contains k && loose md ops k && pureL md ops L1 is (listed.setIfInBounds k true)

section
variable {P : Program} {ops : Array Oper} {md : Region.Mode} {Q : Exit → Act → World → Prop} {C : World → Prop}

theorem wpAny_pures (hs : Region.noSelect ops = true) (hQ : ∀ c a d v w, Q (.panic c) (a.put d v) w → Q (.panic c) a w) {L1 : Array Bool} {b : Nat} {K : Act → Prop} {w : World} (hC : C w)
    (hK : ∀ a, Shut md ops L1 → K a → wpAny P md ops Q b L1 a w) :
    ∀ (is : List Nat) (l : List Oper) (listed : Array Bool) (a : Act), Lies ops is l → Shut md ops listed → pureL md ops L1 is listed = true → wpQuiet P ops C K l a → wpAny P md ops Q (l.length + b) listed a w
  | [], [], listed, a, _, hsh, hB, h => by
    have e : listed = L1 := by simpa [pureL] using hB
    rw [e] at hsh ⊢
    rw [List.length_nil, Nat.zero_add]
    exact hK a hsh h
  | k :: is, o :: l, listed, a, hl, hsh, hB, h => by
    have h0 : ops[k]? = some o := hl.1
    simp only [pureL, Bool.and_eq_true] at hB
    obtain ⟨⟨hr, hlo⟩, hB'⟩ := hB
    have hr' : k ∈ Region.ready md ops listed := by simpa using hr
    have hpu : pureOp o = true := by simp only [loose, h0, Bool.and_eq_true] at hlo; exact hlo.1
    have hst : qOp P ops C k (wpQuiet P ops C K l) a := by unfold qOp; simp only [h0]; exact h
    obtain ⟨v, hy, hK'⟩ := yieldsIn_of_qOp h0 hst
    have hY : Yields P ops o v a := by
      rcases hy with ⟨h1, h2⟩ | h1
      · exact .inl ⟨h1, fun w' => pureOp_run hpu _ w w' (h2 w hC)⟩
      · exact .inr h1
    rw [show (o :: l).length + b = (l.length + b) + 1 by simp; omega]
    exact wpAny_first h0 (Region.noSelect_spec hs) (fun c a w h => hQ c a _ _ w h) _ listed a w (loose_free h0 hlo hsh hr') hr' hY
      (wpAny_pures hs hQ hC hK is l _ _ hl.2 (hsh.set hr') hB' hK')
  | [], _ :: _, _, _, h, _, _, _ => h.elim
  | _ :: _, [], _, _, h, _, _, _ => h.elim
end

def pureS (l : List Oper) (us : List (Nat × Nat)) : Array Bool := (ixs us).foldl (fun b k => b.setIfInBounds k true) (Array.replicate l.length false)
def pickS (l : List Oper) (us ps : List (Nat × Nat)) : Array Bool := (ixs ps).foldl (fun b k => b.setIfInBounds k true) (pureS l us)
def pickPB (l : List Oper) (c n : Nat) (us ps qs : List (Nat × Nat)) : Bool :=
  us.all (fun p => decide (p.1 + p.2 ≤ l.length)) && ps.all (fun p => decide (p.1 + p.2 ≤ l.length)) && qs.all (fun p => decide (p.1 + p.2 ≤ l.length)) && ((ixs us).length + ((ixs ps).length + (ixs qs).length) == l.length) && Region.noSelect l.toArray &&
    pureL .any l.toArray (pureS l us) (ixs us) (Array.replicate l.length false) &&
    frontL .any l.toArray (pickS l us ps) (ixs ps) (pureS l us) && (cutOut l ps).all readOp &&
    (ixs ps).all (fun i => decide (i < c) && (List.range' c (l.length - c)).all (fun j => behind .any l.toArray i l.length j)) &&
    backL .any l.toArray (ixs qs) (pickS l us ps) && ordB c n (ixs qs)

theorem any_pickP {P : Program} {C : World → Prop} {Q : Exit → Act → World → Prop} {a : Act} {w : World} {l : List Oper} (c n : Nat) (us ps qs : List (Nat × Nat)) (hB : pickPB l c n us ps qs = true) (hQ : ∀ c a d v w, Q (.panic c) (a.put d v) w → Q (.panic c) a w) (hC : C w)
    (h : wpQuiet P l.toArray C (fun a1 => wpQuiet P l.toArray C (fun a' => ∀ w', C w' → wpRest P l.toArray Q C n (cutOut l qs) a' w') (cutOut l ps) a1) (cutOut l us) a) : wpAny P .any l.toArray Q l.toArray.size (Array.replicate l.toArray.size false) a w := by
  simp only [pickPB, Bool.and_eq_true, beq_iff_eq] at hB
  obtain ⟨⟨⟨⟨⟨⟨⟨⟨⟨⟨hu, hp⟩, hq⟩, hlen⟩, hs⟩, hpu⟩, hf⟩, hrd⟩, hpost⟩, hb⟩, ho⟩ := hB
  have hlu := lies_cut l us hu
  have hlp := lies_cut l ps hp
  have hlq := lies_cut l qs hq
  have h1 := wpAny_pures (P := P) (Q := Q) (C := C) (md := .any) (ops := l.toArray) hs hQ (L1 := pureS l us) (b := (cutOut l ps).length + (cutOut l qs).length)
    (K := fun a1 => wpQuiet P l.toArray C (fun a' => ∀ w', C w' → wpRest P l.toArray Q C n (cutOut l qs) a' w') (cutOut l ps) a1) (w := w) hC
    (fun a1 hsh hK => wpAny_of_wpMid (C := C) (c := c) _ _ _ _ (wpMid_lexL (P := P) (Q := Q) (C := C) (md := .any) (ops := l.toArray) (c := c) (b := (cutOut l qs).length) hs hQ (K := fun a' => ∀ w', C w' → wpRest P l.toArray Q C n (cutOut l qs) a' w')
      (fun a' w' hw' hK => wpMid_backL n (ixs qs) (cutOut l qs) _ a' w' hlq ho hb (hK w' hw'))
      (ixs ps) (cutOut l ps) (pureS l us) a1 w hlp (fun i hi => by
        have h2 := List.all_eq_true.1 hpost i hi
        simp only [Bool.and_eq_true, decide_eq_true_eq] at h2
        refine ⟨h2.1, fun j hj hjl => ?_⟩
        have hjl' : j < l.length := by simpa using hjl
        have h3 := List.all_eq_true.1 h2.2 j (List.mem_range'_1.2 ⟨hj, by omega⟩)
        simpa using h3)
      hsh hC hrd hf hK))
    (ixs us) (cutOut l us) (Array.replicate l.length false) a hlu (fun k o _ hk => by simp [Array.getElem?_replicate] at hk; split at hk <;> simp_all) hpu h
  have e : (cutOut l us).length + ((cutOut l ps).length + (cutOut l qs).length) = l.length := by rw [← lies_len hlu, ← lies_len hlp, ← lies_len hlq]; exact hlen
  rw [e] at h1
  simpa using h1
theorem wp_pickP {P : Program} {id : Nat} {Q : Exit → Act → World → Prop} {a : Act} {w : World} {l : List Oper} (c n : Nat) (us ps qs : List (Nat × Nat)) (hm : P.follows .mixedOrders = true) (hB : pickPB l c n us ps qs = true) (hQ : ∀ c a d v w, Q (.panic c) (a.put d v) w → Q (.panic c) a w)
    (h : wpQuiet P l.toArray (fun w' => ∃ p : Regrown, w' = grow (redrawn w p.d) p.os) (fun a1 => wpQuiet P l.toArray (fun w' => ∃ p : Regrown, w' = grow (redrawn w p.d) p.os) (fun a' => ∀ w', (∃ p : Regrown, w' = grow (redrawn w p.d) p.os) → wpRest P l.toArray Q (fun w' => ∃ p : Regrown, w' = grow (redrawn w p.d) p.os) n (cutOut l qs) a' w') (cutOut l ps) a1) (cutOut l us) a) : (Code.region id l.toArray true).wp P Q a w :=
  wp_region_any hm (any_pickP (C := fun w' => ∃ p : Regrown, w' = grow (redrawn w p.d) p.os) c n us ps qs hB hQ ⟨⟨w.drawn + 1, #[]⟩, by rw [grow_empty]; rfl⟩ h)
theorem inR_pickP {P : Program} {id : Nat} {Q : Exit → Act → World → Prop} {a : Act} {w : World} {l : List Oper} {r n' : Nat} (c n : Nat) (us ps qs : List (Nat × Nat)) (hm : P.follows .mixedOrders = true) (hB : pickPB l c n us ps qs = true) (hn : l.all noDefer = true) (hQ0 : ¬ LetsOut Q) (hQ : ∀ c a d v w, Q (.panic c) (a.put d v) w → Q (.panic c) a w)
    (h : wpQuiet P l.toArray (fun w' => ∃ p : Regrown, w' = grow (redrawn w p.d) p.os) (fun a1 => wpQuiet P l.toArray (fun w' => ∃ p : Regrown, w' = grow (redrawn w p.d) p.os) (fun a' => ∀ w', (∃ p : Regrown, w' = grow (redrawn w p.d) p.os) → wpRest P l.toArray Q (fun w' => ∃ p : Regrown, w' = grow (redrawn w p.d) p.os) n (cutOut l qs) a' w') (cutOut l ps) a1) (cutOut l us) a) : (Code.region id l.toArray true).wpIn (Fence.wide.inRound r) n' P Q a w :=
  wpIn_region_any hm (inR_any hQ0 (nd_all hn) _ _ _ _ (any_pickP (C := fun w' => ∃ p : Regrown, w' = grow (redrawn w p.d) p.os) c n us ps qs hB hQ ⟨⟨w.drawn + 1, #[]⟩, by rw [grow_empty]; rfl⟩ h))
/-- Where nothing panics. -/
theorem wp_pickPn {P : Program} {id : Nat} {K : Act → World → Prop} {Q : Exit → Act → World → Prop} {a : Act} {w : World} {l : List Oper} (c n : Nat) (us ps qs : List (Nat × Nat)) (hm : P.follows .mixedOrders = true) (hB : pickPB l c n us ps qs = true)
    (h : wpQuiet P l.toArray (fun w' => ∃ p : Regrown, w' = grow (redrawn w p.d) p.os) (fun a1 => wpQuiet P l.toArray (fun w' => ∃ p : Regrown, w' = grow (redrawn w p.d) p.os) (fun a' => ∀ w', (∃ p : Regrown, w' = grow (redrawn w p.d) p.os) → wpRest P l.toArray (Exit.then K (fun _ _ _ => False)) (fun w' => ∃ p : Regrown, w' = grow (redrawn w p.d) p.os) n (cutOut l qs) a' w') (cutOut l ps) a1) (cutOut l us) a) : (Code.region id l.toArray true).wp P (Exit.then K Q) a w :=
  Code.wp_mono (fun e _ _ h => by cases e <;> first | exact h | exact h.elim) (wp_pickP (Q := Exit.then K (fun _ _ _ => False)) c n us ps qs hm hB (fun _ _ _ _ _ h => h.elim) h)
theorem wp_floatn {P : Program} {id : Nat} {K : Act → World → Prop} {Q : Exit → Act → World → Prop} {a : Act} {w : World} {l : List Oper} (c f : Nat) (fo : Oper) (ps qs rs : List (Nat × Nat)) (hm : P.follows .mixedOrders = true) (hf : l[f]? = some fo) (hB : floatB l c f ps qs rs = true)
    (h : wpQuiet P l.toArray (fun w' => ∃ p : Regrown, w' = grow (redrawn w p.d) p.os) (fun a' => ∀ w', (∃ p : Regrown, w' = grow (redrawn w p.d) p.os) → wpRestF P l.toArray (Exit.then K (fun _ _ _ => False)) (fun w' => ∃ p : Regrown, w' = grow (redrawn w p.d) p.os) fo (cutOut l rs) (cutOut l qs) a' w') (cutOut l ps) a) : (Code.region id l.toArray true).wp P (Exit.then K Q) a w :=
  Code.wp_mono (fun e _ _ h => by cases e <;> first | exact h | exact h.elim) (wp_float (Q := Exit.then K (fun _ _ _ => False)) c f fo ps qs rs hm hf hB (fun _ _ _ _ _ h => h.elim) h)
end Go.Proofs.YtegldmdcdnnegaaGreatDoor
