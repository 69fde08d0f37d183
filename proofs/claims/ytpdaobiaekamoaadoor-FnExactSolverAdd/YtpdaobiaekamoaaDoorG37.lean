/- The code of an equation of no block, by the program. The links with another one at its place: by the program. -/
import Derived.Test.YtpdaobiaekamoaaDoorG27
import Derived.Test.YtpdaobiaekamoaaDoorFrp
namespace Go.Proofs.YtpdaobiaekamoaaDoor
open Go.ChangeShapes Go.WideShapes Go.ChangeAt Go.RowKit Go.Sort Go.Shelf
attribute [local go_sem] Oper.semAt_some

theorem zeros_all {d : List Int} (h : ∀ j, j < d.length → d.getD j 0 = 0) : d = List.replicate d.length 0 := by
  apply List.ext_getElem (by simp)
  intro i h1 h2
  have := h i h1
  rw [getD_eq h1] at this
  simp [this]

set_option maxHeartbeats 2000000 in
theorem emptyCode_any (q c : Nat) (d : List Int) (w : World) (h : BytsAt w q d) (hx : d.length ≤ 1048576) :
    Calls Tryd.prog 63 #[.slice (some ⟨q, 0, none⟩) d.length c] w fun e w' => e = .returned (.int .i64 (codeK d d.length)) ∧ w' = w := by
  have H := hid h
  clear h
  go_enter Tryd.func63, Tryd.ntmps63
  go_wp2_with fail
  go_loop [7] (fun i => ∃ k : Nat, k ≤ d.length ∧ i = .int .i64 k ∧ ∀ j, j < k → d.getD j 0 = 0) (fun i => d.length - (intOf i).toNat)
  case atStart => exact ⟨0, Nat.zero_le _, rfl, fun j hj => absurd hj (by omega)⟩
  case round =>
    obtain ⟨k, hk, rfl, hz⟩ := hrel
    have HZ := hid hz
    clear hz
    by_cases hlt : k < d.length
    · have c0 := H.out.2 k hlt
      have HG := hid (show ∀ j, j < d.length → d.getD j 0 = d.getD j 0 from fun _ _ => rfl)
      obtain ⟨x, hx0⟩ : ∃ x, x = d.getD k 0 := ⟨_, rfl⟩
      rw [← hx0] at c0
      have HX := hid hx0
      clear hx0 HG
      by_cases h0 : x = 0
      · have HZ2 := hid (show ∀ j, j < k + 1 → d.getD j 0 = 0 from fun j hj => by
          by_cases hjk : j = k
          · rw [hjk, ← HX.out]; exact h0
          · exact HZ.out j (by omega))
        subst h0
        go_wp2_with fail
        go_round
        case rel => exact ⟨k + 1, by omega, by go_num, HZ2.out⟩
        case measure => simp [intOf]; omega
      · have HE := hid (show codeK d d.length = 2 from if_neg (fun e => h0 (by rw [HX.out, e, getD_eq (by simpa using hlt)]; simp)))
        go_wp2_with fail
        go_ret
        exact ⟨ret_int HE.out.symm, rfl⟩
    · obtain rfl : k = d.length := by omega
      have HE := hid (show codeK d d.length = 1 from if_pos (zeros_all HZ.out))
      go_wp2_with fail
      go_ret
      exact ⟨ret_int HE.out.symm, rfl⟩
end Go.Proofs.YtpdaobiaekamoaaDoor
namespace Go.Proofs.YtpdaobiaekamoaaDoor
open Go.ChangeShapes Go.WideShapes Go.ChangeAt Go.RowKit Go.Sort Go.Shelf
attribute [local go_sem] Oper.semAt_some

theorem run_eq_nil (b : Nat) (w : World) : (binOp .eql 56 (.pointer (some ⟨b, 0, none⟩)) (.pointer none)).run Tryd.prog w = .ok (.bool false) w := by
  have h : ∀ d : Nat, (Op.equalIn (d + 1) 56 (.pointer (some ⟨b, 0, none⟩)) (.pointer none)).run Tryd.prog w = .ok false w := fun d => by
    simp [Op.equalIn, run_underlying Tryd.underlying56]
  simp only [binOp]
  simp [Op.equal, Op.maxDepth, h 9999]
theorem run_eq_nil0 (w : World) : (binOp .eql 56 (.pointer none) (.pointer none)).run Tryd.prog w = .ok (.bool true) w := by
  have h : ∀ d : Nat, (Op.equalIn (d + 1) 56 (.pointer none) (.pointer none)).run Tryd.prog w = .ok true w := fun d => by
    simp [Op.equalIn, run_underlying Tryd.underlying56]
  simp only [binOp]
  simp [Op.equal, Op.maxDepth, h 9999]
/-- Ahead of the first whose first number is greater. -/
def insL (a : Lk) : List Lk → List Lk
  | [] => [a]
  | k :: ks => if hd a.r < hd k.r then a :: k :: ks else k :: insL a ks
theorem insL_ptr (a k : Lk) (ks : List Lk) : ptrOf (insL a (k :: ks)) = if hd a.r < hd k.r then some ⟨a.b, 0, none⟩ else some ⟨k.b, 0, none⟩ := by
  unfold insL
  split <;> rfl
/-- A link by itself: where it leads is left open. -/
def LkIs (w : World) (base : Nat) (l : Lk) (p : Option Addr) : Prop := base ≤ l.b ∧ base ≤ l.q ∧
  w.heap[l.b]? = some (.cells #[.int .u32 (setI l.r : Nat), .slice (some ⟨l.q, 0, none⟩) l.d.length l.c, .pointer p] 76 (0, 0)) ∧ BytsAt w l.q l.d
theorem BytsAt.set_link {w : World} {q : Nat} {d : List Int} {g : Nat} {x : Int} {v1 v2 : Value} (h : BytsAt w q d) (hg : w.heap[g]? = some (.cells #[.int .u32 x, v1, v2] 76 (0, 0))) (i : Nat) (u : Value) : BytsAt (w.setCell ⟨g, i, none⟩ u) q d := by
  by_cases hq : q = g
  · subst hq
    refine ⟨by rw [show (w.setCell ⟨q, i, none⟩ u).heap.size = w.heap.size by simp [World.setCell]]; exact h.1, fun j hj => ?_⟩
    have h0 := h.2 0 (by omega)
    rw [box_cell hg 0 (v := .int .u32 x) rfl] at h0
    cases h0
  · exact h.set hq i u
theorem lks_cons {w : World} {base : Nat} {l : Lk} {ls : List Lk} : LksAt w base (l :: ls) ↔ LkIs w base l (ptrOf ls) ∧ LksAt w base ls := by
  constructor
  · intro h
    exact ⟨h 0 (by simp), fun k hk => h (k + 1) (by simpa using hk)⟩
  · rintro ⟨⟨h1, h2, h3, h4⟩, h⟩
    exact h.cons h1 h2 h3 h4
theorem LkIs.set {w : World} {base : Nat} {l : Lk} {p : Option Addr} (h : LkIs w base l p) {g : Nat} {x : Int} {v1 v2 : Value} (hg : w.heap[g]? = some (.cells #[.int .u32 x, v1, v2] 76 (0, 0))) (hne : l.b ≠ g) (u : Value) : LkIs (w.setCell ⟨g, 2, none⟩ u) base l p :=
  ⟨h.1, h.2.1, set_other h.2.2.1 hne _ _, h.2.2.2.set_link hg _ _⟩
theorem LkIs.next {w : World} {base : Nat} {l : Lk} {p : Option Addr} (h : LkIs w base l p) (p' : Option Addr) : LkIs (w.setCell ⟨l.b, 2, none⟩ (.pointer p')) base l p' :=
  ⟨h.1, h.2.1, by have := set_block h.2.2.1 2 (.pointer p'); simpa using this, h.2.2.2.set_link h.2.2.1 _ _⟩
theorem lks_set {w : World} {base : Nat} {ls : List Lk} (h : LksAt w base ls) {g : Nat} {x : Int} {v1 v2 : Value} (hg : w.heap[g]? = some (.cells #[.int .u32 x, v1, v2] 76 (0, 0))) (hne : ∀ l ∈ ls, l.b ≠ g) (u : Value) : LksAt (w.setCell ⟨g, 2, none⟩ u) base ls := fun k hk =>
  LkIs.set (p := ptrOf (ls.drop (k + 1))) (h k hk) hg (hne _ (List.getElem_mem hk)) u

theorem LkIs.below {w w' : World} {base : Nat} {l : Lk} {p : Option Addr} (h : LkIs w base l p) (hb : Below w.heap.size w w') : LkIs w' base l p := ⟨h.1, h.2.1, kept h.2.2.1 hb, h.2.2.2.below hb⟩
/-- What is left as it was: all blocks but those of some links; all bytes. -/
def LkKeep (w w' : World) (bs : List Nat) : Prop := (∀ g, g < w.heap.size → g ∉ bs → w'.heap[g]? = w.heap[g]?) ∧ (∀ q d, BytsAt w q d → BytsAt w' q d)
theorem LkKeep.of_below {w w' : World} (h : Below w.heap.size w w') (bs : List Nat) : LkKeep w w' bs := ⟨fun g hg _ => h.block g hg, fun _ _ hb => hb.below h⟩
theorem LkKeep.set {w w' : World} {bs : List Nat} (h : LkKeep w w' bs) {g : Nat} {x : Int} {v1 v2 : Value} (hg : w'.heap[g]? = some (.cells #[.int .u32 x, v1, v2] 76 (0, 0))) (hb : g ∈ bs) (u : Value) : LkKeep w (w'.setCell ⟨g, 2, none⟩ u) bs :=
  ⟨fun k hk hn => set_other (h.1 k hk hn) (fun e => hn (by rw [e]; exact hb)) _ _, fun q d hq => (h.2 q d hq).set_link hg _ _⟩
theorem LkKeep.trans {a b c : World} {bs cs : List Nat} (h : LkKeep a b bs) (k : LkKeep b c cs) (hs : a.heap.size ≤ b.heap.size) (hc : ∀ x ∈ cs, x ∈ bs) : LkKeep a c bs :=
  ⟨fun g hg hn => (k.1 g (by omega) (fun h2 => hn (hc g h2))).trans (h.1 g hg hn), fun q d hq => k.2 q d (h.2 q d hq)⟩
theorem insL_mem {a x : Lk} : ∀ {ks : List Lk}, x ∈ insL a ks → x = a ∨ x ∈ ks
  | [], h => by simp [insL] at h; exact .inl h
  | k :: ks, h => by
    unfold insL at h
    split at h
    · rcases List.mem_cons.1 h with h | h
      · exact .inl h
      · exact .inr h
    · rcases List.mem_cons.1 h with h | h
      · exact .inr (by rw [h]; exact List.mem_cons_self ..)
      · rcases insL_mem h with h | h
        · exact .inl h
        · exact .inr (List.mem_cons_of_mem _ h)

set_option maxHeartbeats 8000000 in
theorem among_any (a : Lk) (base : Nat) (ha : ascB (-1) 24 a.r = true) (ha0 : a.r ≠ []) : ∀ (ks : List Lk) (p0 : Option Addr) (w : World), RowsL ks → LksAt w base ks → LkIs w base a p0 → (a.b :: ks.map Lk.b).Nodup → base ≤ w.heap.size → Tab w →
    Calls Tryd.prog 68 #[.pointer (ptrOf ks), .pointer (some ⟨a.b, 0, none⟩)] w fun e w' => e = .returned (.pointer (ptrOf (insL a ks))) ∧ LksAt w' base (insL a ks) ∧ LkKeep w w' (a.b :: ks.map Lk.b) ∧ Below base w w'
  | [], p0, w, _, _, hA, _, hbs, _ => by
    have HA := hid hA
    have e0 := run_eq_nil0
    clear hA
    go_enter Tryd.func68, Tryd.ntmps68
    rw [show ptrOf ([] : List Lk) = none from rfl]
    go_wp2_with fail
    refine wp_region_quiet_below (by kernel_rfl) (by kernel_rfl) ?_
    repeat (first | go_big_quiet_step (fail) | quiet_step (fail))
    refine wpQuiet_nil ?_
    intro V hw'
    have hbq := of_class hw'
    have HV := hid (HA.out.below hbq)
    have c2 := box_cell HV.out.2.2.1 2 (v := .pointer p0) rfl
    have z2 := box_frozen HV.out.2.2.1 2
    have lb := lt_of_block HV.out.2.2.1
    have HB := hid hbq
    clear hw' hbq e0
    go_wp2_with fail
    go_ret
    exact ⟨rfl, lks_cons.2 ⟨HV.out.next none, LksAt.nil _ _⟩, (LkKeep.of_below HB.out _).set HV.out.2.2.1 (List.mem_cons_self ..) _, u_set (HB.out.mono hbs) HV.out.1 _ _⟩
  | k :: ks, p0, w, hR, hL, hA, hN, hbs, hT => by
    obtain ⟨hk, hks⟩ := lks_cons.1 hL
    have hRk := hR k (List.mem_cons_self ..)
    have HA := hid hA
    have HK := hid hk
    have HKS := hid hks
    have HT := hid hT
    have HR := hid hR
    have HN := hid hN
    have IH := hid (among_any a base ha ha0 ks)
    have e0 := run_eq_nil k.b
    have ka := cell_regrown (box_cell hA.2.2.1 0 (v := .int .u32 (setI a.r : Nat)) rfl)
    have kk := cell_regrown (box_cell hk.2.2.1 0 (v := .int .u32 (setI k.r : Nat)) rfl)
    have F1 := hid (rg (w := w) (fun w' hb => same_below (firstS hRk.1 hRk.2 w' (HT.out.below hb))))
    have F2 := hid (rg (w := w) (fun w' hb => same_below (firstS ha ha0 w' (HT.out.below hb))))
    obtain ⟨x, hx⟩ : ∃ x, x = hd k.r := ⟨_, rfl⟩
    obtain ⟨y, hy⟩ : ∃ y, y = hd a.r := ⟨_, rfl⟩
    rw [← hx] at F1
    rw [← hy] at F2
    have HX := hid hx
    have HY := hid hy
    clear hA hk hks hT hR hN hL hRk hx hy
    go_enter Tryd.func68, Tryd.ntmps68
    rw [show ptrOf (k :: ks) = some ⟨k.b, 0, none⟩ from rfl]
    by_cases hlt : y < x
    · have HI := hid (show insL a (k :: ks) = a :: k :: ks by rw [insL, if_pos (by rw [← HX.out, ← HY.out]; exact hlt)])
      go_wp2_with fail
      refine wp_region_quiet_below (by kernel_rfl) (by kernel_rfl) ?_
      repeat (first | go_big_quiet_step (first | (go_at_call 65; with_reducible exact F1.out _ _) | (go_at_call 65; with_reducible exact F2.out _ _)) | quiet_step (first | (go_at_call 65; with_reducible exact F1.out _ _) | (go_at_call 65; with_reducible exact F2.out _ _)))
      refine wpQuiet_nil ?_
      intro V hw'
      have hbq := of_class hw'
      have HV := hid (HA.out.below hbq)
      have HKV := hid (HK.out.below hbq)
      have HLV := hid (HKS.out.below hbq)
      have c2 := box_cell HV.out.2.2.1 2 (v := .pointer p0) rfl
      have z2 := box_frozen HV.out.2.2.1 2
      have lb := lt_of_block HV.out.2.2.1
      have HB := hid hbq
      clear hw' hbq e0 ka kk F1 F2
      go_wp2_with fail
      go_ret
      rw [HI.out]
      have hnd := List.nodup_cons.1 HN.out
      have hkb : k.b ≠ a.b := fun e => hnd.1 (by rw [← e]; simp)
      have hsb : ∀ l ∈ ks, l.b ≠ a.b := fun l hl e => hnd.1 (by rw [← e]; exact List.mem_cons_of_mem _ (List.mem_map_of_mem hl))
      exact ⟨rfl, lks_cons.2 ⟨HV.out.next (some ⟨k.b, 0, none⟩), lks_cons.2 ⟨HKV.out.set HV.out.2.2.1 hkb _, lks_set HLV.out HV.out.2.2.1 hsb _⟩⟩, (LkKeep.of_below HB.out _).set HV.out.2.2.1 (List.mem_cons_self ..) _, u_set (HB.out.mono hbs) HV.out.1 _ _⟩
    · have HI := hid (show insL a (k :: ks) = k :: insL a ks by rw [insL, if_neg (by rw [← HX.out, ← HY.out]; exact hlt)])
      go_wp2_with fail
      refine wp_region_quiet_below (by kernel_rfl) (by kernel_rfl) ?_
      repeat (first | go_big_quiet_step (first | (go_at_call 65; with_reducible exact F1.out _ _) | (go_at_call 65; with_reducible exact F2.out _ _)) | quiet_step (first | (go_at_call 65; with_reducible exact F1.out _ _) | (go_at_call 65; with_reducible exact F2.out _ _)))
      refine wpQuiet_nil ?_
      intro V hw'
      have hbq := of_class hw'
      have HV := hid (HA.out.below hbq)
      have HKV := hid (HK.out.below hbq)
      have HLV := hid (HKS.out.below hbq)
      have HTV := hid (HT.out.below hbq)
      have c2 := box_cell HKV.out.2.2.1 2 (v := .pointer (ptrOf ks)) rfl
      have hsz := hbq.size
      have HB := hid hbq
      clear hw' hbq e0 ka kk F1 F2
      go_wp2_with fail
      refine (IH.out p0 V (fun l hl => HR.out l (List.mem_cons_of_mem _ hl)) HLV.out HV.out (by have h := HN.out; simp only [List.map_cons, List.nodup_cons, List.mem_cons, not_or] at h ⊢; exact ⟨h.1.2, h.2.2⟩) (by omega) HTV.out).mono ?_
      rintro e w2 ⟨rfl, hl2, hk2, hb2⟩
      have hnd := HN.out
      simp only [List.map_cons, List.nodup_cons, List.mem_cons, not_or] at hnd
      have hkin : k.b ∉ a.b :: ks.map Lk.b := by
        simp only [List.mem_cons, not_or]
        exact ⟨fun e => hnd.1.1 e.symm, hnd.2.1⟩
      have HK2 : Hid (LkIs w2 base k (ptrOf ks)) := hid ⟨HKV.out.1, HKV.out.2.1, (hk2.1 _ (lt_of_block HKV.out.2.2.1) hkin).trans HKV.out.2.2.1, hk2.2 _ _ HKV.out.2.2.2⟩
      have HL2 := hid hl2
      have HKP := hid hk2
      have HB2 := hid hb2
      have HIN := hid hkin
      clear hl2 hk2 hb2 hnd hkin c2
      have c2 := box_cell HK2.out.2.2.1 2 (v := .pointer (ptrOf ks)) rfl
      have z2 := box_frozen HK2.out.2.2.1 2
      have lb := lt_of_block HK2.out.2.2.1
      go_wp2_with fail
      go_ret
      rw [HI.out]
      refine ⟨rfl, lks_cons.2 ⟨HK2.out.next (ptrOf (insL a ks)), lks_set HL2.out HK2.out.2.2.1 (fun l hl e => ?_) _⟩, ?_, u_set ((HB.out.mono hbs).trans HB2.out) HK2.out.1 _ _⟩
      · rcases insL_mem hl with rfl | h
        · exact HIN.out (by rw [← e]; exact List.mem_cons_self ..)
        · exact HIN.out (by rw [← e]; exact List.mem_cons_of_mem _ (List.mem_map_of_mem h))
      · refine LkKeep.set ((LkKeep.of_below HB.out _).trans HKP.out HB.out.size (fun x hx => ?_)) HK2.out.2.2.1 (by simp) _
        rcases List.mem_cons.1 hx with rfl | h
        · exact List.mem_cons_self ..
        · exact List.mem_cons_of_mem _ (by rw [List.map_cons]; exact List.mem_cons_of_mem _ h)
end Go.Proofs.YtpdaobiaekamoaaDoor
