/- The program's list of equations: its links, and how it is gone through. Whether a row may stand ahead of all links, by the program. The program's list of equations gone through by places. -/
import Derived.Test.YtbakicgdloakgaaGreatDoorG3
import Derived.Test.YtbakicgdloakgaaGreatDoorG1
import Derived.Test.YtbakicgdloakgaaGreatDoorG7
namespace Go.Proofs.YtbakicgdloakgaaGreatDoor
open Go.ChangeShapes Go.WideShapes Go.ChangeAt Go.RowKit Go.Sort Go.Shelf
attribute [local go_sem] Oper.semAt_some

theorem has_bit (s n : Nat) (hs : s < 16777216) : (bits .and .u32 ((s : Int) / 2 ^ n) 1 == 1) = s.testBit n := by
  have h0 : s / 2 ^ n ≤ s := Nat.div_le_self _ _
  have h1 := u32_and_nat (s / 2 ^ n) 1 (by omega) (by omega)
  have h2 : ((s / 2 ^ n : Nat) : Int) = (s : Int) / 2 ^ n := by simp
  rw [h2] at h1
  have h3 := shr_and s n
  rw [Nat.shiftRight_eq_div_pow] at h3
  rw [show ((1 : Nat) : Int) = 1 from rfl, h3] at h1
  rw [h1]
  cases s.testBit n <;> simp
set_option maxRecDepth 100000 in
theorem has_any (s n : Nat) (w : World) (hs : s < 16777216) (hn : n < 24) :
    Calls Tryz.prog 108 #[.int .u32 s, .int .i64 n] w fun e w' => e = .returned (.bool (s.testBit n)) ∧ w' = w := by
  go_enter Tryz.func108, Tryz.ntmps108
  go_wp2
  go_ret
  exact ⟨ret_bool (has_bit s n hs), rfl⟩
theorem hasS {xs : List Int} (h : ascB (-1) 24 xs = true) (n : Int) (w : World) (h0 : 0 ≤ n) (h1 : n < 24) :
    Calls Tryz.prog 108 #[.int .u32 (setI xs : Nat), .int .i64 n] w fun e w' => e = .returned (.bool (decide (n ∈ xs))) ∧ w' = w := by
  obtain ⟨k, rfl⟩ := Int.eq_ofNat_of_zero_le h0
  have e : decide ((k : Int) ∈ xs) = (setI xs).testBit k := by
    rw [Bool.eq_iff_iff, decide_eq_true_eq, setI_mem h k]
  rw [e]
  exact has_any (setI xs) k w (setS_small h) (by omega)
set_option maxRecDepth 100000 in
theorem sizeS {xs : List Int} (h : ascB (-1) 24 xs = true) (w : World) :
    Calls Tryz.prog 137 #[.int .u32 (setI xs : Nat)] w fun e w' => e = .returned (.int .i64 xs.length) ∧ Dr w w' := by
  have h1 := ones_any (setI xs) w (setS_small h)
  rw [bits_set h] at h1
  go_enter Tryz.func137, Tryz.ntmps137
  go_wp2_with (go_at_call 138; refine h1.mono ?_; rintro e w' ⟨rfl, hq⟩)
  go_ret
  exact ⟨rfl, hq⟩

/-- A link: its block, its row, where its data lie, how many they are, what they are. -/
structure Lk where
  b : Nat
  r : List Int
  q : Nat
  c : Nat
  d : List Int
/-- Where a list begins. -/
def ptrOf : List Lk → Option Addr
  | [] => none
  | l :: _ => some ⟨l.b, 0, none⟩
/-- Bytes that lie at the beginning of a block. -/
def BytsAt (w : World) (q : Nat) (d : List Int) : Prop := q < w.heap.size ∧ ∀ i, i < d.length → w.cell? ⟨q, i, none⟩ = some (.int .u8 (d.getD i 0))
theorem BytsAt.below {w w' : World} {q : Nat} {d : List Int} (h : BytsAt w q d) (hb : Below w.heap.size w w') : BytsAt w' q d :=
  ⟨Nat.lt_of_lt_of_le h.1 hb.size, fun i hi => (hb.cell (p := ⟨q, i, none⟩) h.1).trans (h.2 i hi)⟩
/-- The links of a list, each in a block of its own from 'base' on, data apart. -/
def LksAt (w : World) (base : Nat) (ls : List Lk) : Prop := ∀ k (h : k < ls.length), base ≤ ls[k].b ∧ base ≤ ls[k].q ∧
  w.heap[ls[k].b]? = some (.cells #[.int .u32 (setI ls[k].r : Nat), .slice (some ⟨ls[k].q, 0, none⟩) ls[k].d.length ls[k].c, .pointer (ptrOf (ls.drop (k + 1)))] 140 (0, 0)) ∧
  BytsAt w ls[k].q ls[k].d
theorem LksAt.below {w w' : World} {base : Nat} {ls : List Lk} (h : LksAt w base ls) (hb : Below w.heap.size w w') : LksAt w' base ls := fun k hk => by
  obtain ⟨h1, h2, h3, h4⟩ := h k hk
  exact ⟨h1, h2, kept h3 hb, h4.below hb⟩
theorem LksAt.nil (w : World) (base : Nat) : LksAt w base [] := fun k hk => by simp at hk
theorem LksAt.cons {w : World} {base : Nat} {ls : List Lk} {l : Lk} (h : LksAt w base ls) (h1 : base ≤ l.b) (h2 : base ≤ l.q)
    (h3 : w.heap[l.b]? = some (.cells #[.int .u32 (setI l.r : Nat), .slice (some ⟨l.q, 0, none⟩) l.d.length l.c, .pointer (ptrOf ls)] 140 (0, 0)))
    (h4 : BytsAt w l.q l.d) : LksAt w base (l :: ls) := fun k hk => by
  cases k with
  | zero => exact ⟨h1, h2, h3, h4⟩
  | succ k => exact h k (by simpa using hk)
theorem BytsAt.set {w : World} {q : Nat} {d : List Int} (h : BytsAt w q d) {g : Nat} (hg : q ≠ g) (i : Nat) (u : Value) : BytsAt (w.setCell ⟨g, i, none⟩ u) q d :=
  ⟨by rw [show (w.setCell ⟨g, i, none⟩ u).heap.size = w.heap.size by simp [World.setCell]]; exact h.1, fun j hj => by
    rw [← h.2 j hj]
    exact World.cell?_of_block (w := w) (Below.heap_setCell _ ⟨g, i, none⟩ _ q hg)⟩
theorem LksAt.set {w : World} {base : Nat} {ls : List Lk} (h : LksAt w base ls) {g : Nat} (hg : g < base) (i : Nat) (u : Value) : LksAt (w.setCell ⟨g, i, none⟩ u) base ls := fun k hk => by
  obtain ⟨h1, h2, h3, h4⟩ := h k hk
  exact ⟨h1, h2, set_other h3 (by omega) _ _, h4.set (by omega) _ _⟩
theorem LksAt.mono {w : World} {base base' : Nat} {ls : List Lk} (h : LksAt w base ls) (hb : base' ≤ base) : LksAt w base' ls := fun k hk => by
  obtain ⟨h1, h2, h3, h4⟩ := h k hk
  exact ⟨Nat.le_trans hb h1, Nat.le_trans hb h2, h3, h4⟩
/-- All links lead on. -/
def LeadsL (W : World) (ls : List Lk) : Prop := ∀ k (h : k < ls.length), W.cell? ⟨ls[k].b, 2, none⟩ = some (.pointer (ptrOf (ls.drop (k + 1))))
theorem LksAt.leads {w : World} {base : Nat} {ls : List Lk} (h : LksAt w base ls) : LeadsL w ls := fun k hk => box_cell (h k hk).2.2.1 2 rfl
theorem LeadsL.below {W W' : World} {ls : List Lk} (h : LeadsL W ls) (hb : Below W.heap.size W W') : LeadsL W' ls := fun k hk => (hb.cell (p := ⟨ls[k].b, 2, none⟩) (block_lt_of_cell (h k hk))).trans (h k hk)

set_option maxRecDepth 100000 in
theorem links_in (p : Option Addr) (w : World) :
    Calls Tryz.prog 103 #[.pointer p] w fun e w' => e = .returned (.func (.func 109) #[] #[.pointer (some ⟨w.heap.size, 0, none⟩)]) ∧ w' = w.alloc (.cells #[.pointer p] 142) := by
  go_enter Tryz.func103, Tryz.ntmps103
  go_wp2
  go_ret
  exact ⟨rfl, rfl⟩

theorem run_neq_nil (b : Nat) (w : World) : (binOp .neq 107 (.pointer (some ⟨b, 0, none⟩)) (.pointer none)).run Tryz.prog w = .ok (.bool true) w := by
  have h : ∀ d : Nat, (Op.equalIn (d + 1) 107 (.pointer (some ⟨b, 0, none⟩)) (.pointer none)).run Tryz.prog w = .ok false w := fun d => by
    simp [Op.equalIn, run_underlying Tryz.underlying107]
  simp only [binOp]
  simp [Op.equal, Op.maxDepth, h 9999]
theorem run_neq_nil0 (w : World) : (binOp .neq 107 (.pointer none) (.pointer none)).run Tryz.prog w = .ok (.bool false) w := by
  have h : ∀ d : Nat, (Op.equalIn (d + 1) 107 (.pointer none) (.pointer none)).run Tryz.prog w = .ok true w := fun d => by
    simp [Op.equalIn, run_underlying Tryz.underlying107]
  simp only [binOp]
  simp [Op.equal, Op.maxDepth, h 9999]

theorem drop_ptr {ls : List Lk} {k : Nat} (h : k < ls.length) : ptrOf (ls.drop k) = some ⟨ls[k].b, 0, none⟩ := by rw [List.drop_eq_getElem_cons h]; rfl

/-- How many links there are from a place on, a thousand at most. -/
def leftL : Nat → World → Value → Nat
  | 0, _, _ => 0
  | f + 1, w, v => match v with
    | .pointer (some p) => 1 + leftL f w ((w.cell? ⟨p.block, 2, none⟩).getD undef)
    | _ => 0
theorem leftL_eq {w : World} {ls : List Lk} (h : LeadsL w ls) : ∀ (f k : Nat), k ≤ ls.length → ls.length - k ≤ f → leftL f w (.pointer (ptrOf (ls.drop k))) = ls.length - k := by
  intro f
  induction f with
  | zero => intro k hk hf; simp [leftL]; omega
  | succ f ih =>
    intro k hk hf
    by_cases hlt : k < ls.length
    · rw [drop_ptr hlt]
      show 1 + leftL f w ((w.cell? ⟨ls[k].b, 2, none⟩).getD undef) = _
      rw [h k hlt, Option.getD_some, ih (k + 1) (by omega) (by omega)]
      omega
    · rw [List.drop_of_length_le (by omega)]
      show 0 = _
      omega

set_option maxHeartbeats 2000000 in
theorem links1_in {so : Nat} (n l Bp sb : Nat) (ls : List Lk) (hn : 1 ≤ n) (hl : ls.length ≤ 1000) (J Jx : List {x : Lk // x ∈ ls} → World → Prop) (Kp : World → World → Prop) (hK : ∀ W W', LeadsL W ls → Kp W W' → LeadsL W' ls)
    (hY : ∀ (pre : List {x : Lk // x ∈ ls}) (x : {x : Lk // x ∈ ls}) W, J pre W → pre.length < ls.length → YieldAt Fence.wide (n - 1) Tryz.prog l #[.pointer (some ⟨x.1.b, 0, none⟩)] W fun e W' =>
      (e = .returned (.bool true) ∧ J (pre ++ [x]) W' ∧ Kp W W') ∨ (e = .returned (.bool false) ∧ Jx (pre ++ [x]) W'))
    (W : World) (hBp : W.cell? ⟨Bp, 0, none⟩ = some (.pointer (some ⟨sb, so, none⟩))) (hsb : W.cell? ⟨sb, so + 2, none⟩ = some (.pointer (ptrOf ls))) (hL : LeadsL W ls) (h0 : J [] W) :
    CallsIn Fence.wide n Tryz.prog 109 #[.func (.yield l) #[] #[], .pointer (some ⟨Bp, 0, none⟩)] W fun e W' => (∃ v, e = .returned v) ∧
      ((∃ ys, ys = ls.attach ∧ J ys W') ∨ (∃ pre, pre <+: ls.attach ∧ Jx pre W')) := by
  refine callsIn_of_wp Tryz.func109 rfl trivial ?_ rfl
  simp only [Tryz.ntmps109, List.size_toArray, List.length_cons, List.length_nil, Nat.reduceAdd, Nat.reduceSub, Array.replicate_succ, Array.replicate_zero, List.push_toArray, List.append_toArray, List.nil_append, List.cons_append]
  gi_wp2
  gi_loopw [3] (fun p wr => ∃ k : Nat, k ≤ ls.length ∧ p = .pointer (ptrOf (ls.drop k)) ∧ LeadsL wr ls ∧ J (ls.attach.take k) wr) (fun p wr => leftL 1000 wr p)
  case atStart => exact ⟨0, by omega, rfl, hL, h0⟩
  case round =>
    obtain ⟨k, hk, rfl, hl1, hJ⟩ := hrel
    have HM := hid (leftL_eq hl1 1000 k hk (by omega))
    by_cases hlt : k < ls.length
    · have hta : ls.attach.take (k + 1) = ls.attach.take k ++ [⟨ls[k], List.getElem_mem hlt⟩] := by rw [List.take_succ_eq_append_getElem (by rw [List.length_attach]; exact hlt), List.getElem_attach]
      have HTA := hid hta
      clear hta
      obtain ⟨fn, tmps, assign, body, hy, hR⟩ := hY (ls.attach.take k) ⟨ls[k], List.getElem_mem hlt⟩ wr hJ (by rw [List.length_take, List.length_attach]; omega)
      have hnn := run_neq_nil ls[k].b
      have HP := hid (drop_ptr hlt)
      rw [HP.out]
      dsimp only at hy
      gi_wp2
      refine hR.mono ?_
      rintro e W3 (⟨rfl, hJ3, hk3⟩ | ⟨rfl, hJx3⟩)
      · have hl3 := hK _ _ hl1 hk3
        have hq3 := hl3 k hlt
        gi_wp2
        go_roundw
        case rel => exact ⟨k + 1, by omega, rfl, hl3, by rw [HTA.out]; exact hJ3⟩
        case measure => rw [leftL_eq hl3 1000 (k + 1) (by omega) (by omega), ← HP.out, HM.out]; omega
      · gi_wp2
        refine bodyPost_ret (results_none rfl _ _ _) rfl ?_
        exact ⟨⟨_, rfl⟩, .inr ⟨ls.attach.take (k + 1), List.take_prefix _ _, by rw [HTA.out]; exact hJx3⟩⟩
    · obtain rfl : k = ls.length := by omega
      have hnn := run_neq_nil0
      rw [List.drop_length, show ptrOf [] = none from rfl]
      gi_wp2
      go_end0
      exact ⟨⟨_, rfl⟩, .inl ⟨_, rfl, by rw [List.take_of_length_le (by rw [List.length_attach]; exact Nat.le_refl _)] at hJ; exact hJ⟩⟩

theorem links_stops {so : Nat} (n Bp sb : Nat) (ls : List Lk) (hn : 1 ≤ n) (hl : ls.length ≤ 1000) (Kp : World → World → Prop) (hK : ∀ W W', LeadsL W ls → Kp W W' → LeadsL W' ls) (w : World)
    (hBp : w.cell? ⟨Bp, 0, none⟩ = some (.pointer (some ⟨sb, so, none⟩))) (hsb : w.cell? ⟨sb, so + 2, none⟩ = some (.pointer (ptrOf ls))) (hL : LeadsL w ls) :
    SeqStopsK Fence.wide n Tryz.prog 109 #[.pointer (some ⟨Bp, 0, none⟩)] (fun x : {x : Lk // x ∈ ls} => #[.pointer (some ⟨x.1.b, 0, none⟩)]) Kp (fun xs => xs = ls.attach) (fun pre => pre <+: ls.attach) ls.length w :=
  fun l J Jx W hW _ _ hY h0 => links1_in n l Bp sb ls hn hl J Jx Kp hK hY W ((hW.cell (p := ⟨Bp, 0, none⟩) (block_lt_of_cell hBp)).trans hBp) ((hW.cell (p := ⟨sb, so + 2, none⟩) (block_lt_of_cell hsb)).trans hsb) (hL.below hW) h0

/-- The cells of a block that holds a list from a place on, by its head; the block is no link. -/
structure Bx (cs : Option Addr → Array Value) (ct : TypeId) (so : Nat) (c z : Int) : Prop where
  e0 : ∀ p, (cs p)[so]? = some (.int .i64 c)
  e1 : ∀ p, (cs p)[so + 1]? = some (.int .i64 z)
  e2 : ∀ p, (cs p)[so + 2]? = some (.pointer p)
  e3 : ∀ p q, (cs p).setIfInBounds (so + 2) (.pointer q) = cs q
  e4 : ∃ x : Int, ∀ p, (cs p)[0]? = some (.int .i64 x)
end Go.Proofs.YtbakicgdloakgaaGreatDoor
namespace Go.Proofs.YtbakicgdloakgaaGreatDoor
open Go.ChangeShapes Go.WideShapes Go.ChangeAt Go.RowKit Go.Sort Go.Shelf
attribute [local go_sem] Oper.semAt_some

/-- A row that may stand ahead of others. -/
def fit1 (xs : List Int) (r : List Int) : Prop := hd xs < hd r ∧ hd r ∉ xs
instance (xs r : List Int) : Decidable (fit1 xs r) := by unfold fit1; infer_instance
def fits (xs : List Int) (rs : List (List Int)) : Prop := xs ≠ [] ∧ ∀ r ∈ rs, fit1 xs r
instance (xs : List Int) (rs : List (List Int)) : Decidable (fits xs rs) := by unfold fits; infer_instance
/-- Rows of at most 24 that have a number. -/
def RowsL (ls : List Lk) : Prop := ∀ l ∈ ls, ascB (-1) 24 l.r = true ∧ l.r ≠ []

theorem same_below {P : Program} {f : FuncId} {args : Array Value} {w : World} {v : Value} (h : Calls P f args w fun e w' => e = .returned v ∧ w' = w) : Calls P f args w fun e w' => e = .returned v ∧ Below w.heap.size w w' :=
  h.mono fun _ _ ⟨a, b⟩ => ⟨a, by rw [b]; exact Below.refl _ _⟩
theorem dr_below {P : Program} {f : FuncId} {args : Array Value} {w : World} {v : Value} (h : Calls P f args w fun e w' => e = .returned v ∧ Dr w w') : Calls P f args w fun e w' => e = .returned v ∧ Below w.heap.size w w' :=
  h.mono fun _ _ ⟨a, b⟩ => ⟨a, b.below _⟩

set_option maxHeartbeats 1000000 in
theorem fits_empty (p : Option Addr) (w : World) :
    Calls Tryz.prog 97 #[.pointer p, .int .u32 0] w fun e w' => e = .returned (.bool false) ∧ Below w.heap.size w w' := by
  have h1 := emptyS (xs := []) rfl
  rw [show ((setI [] : Nat) : Int) = 0 from rfl] at h1
  have H1 := hid h1
  clear h1
  refine (callsIn_wide (n := 9)).1 ?_
  refine callsIn_of_wp_marks Tryz.func97 rfl trivial ?_ rfl
  simp only [Tryz.ntmps97, List.size_toArray, List.length_cons, List.length_nil, Nat.reduceAdd, Nat.reduceSub, Array.replicate_succ, Array.replicate_zero, List.push_toArray, List.append_toArray, List.nil_append, List.cons_append]
  gi_wp2_with (refine ⟨trivial, ?_⟩; gi_at_call 106; refine (callsIn_wide.2 (H1.out _)).mono ?_; rintro e w' ⟨rfl, rfl⟩)
  refine ⟨.bool false, ?_, rfl, u_b2 _ _ _⟩
  simp [results, Tryz.f97, go_sem]

set_option maxHeartbeats 4000000 in
theorem fits_any (sb base : Nat) (cnt sz : Int) (xs : List Int) (ls : List Lk) (w : World) (hsb : w.heap[sb]? = some (.cells #[.int .i64 cnt, .int .i64 sz, .pointer (ptrOf ls)] 109 (0, 0))) (hL : LksAt w base ls) (hl : ls.length ≤ 1000) (hx : ascB (-1) 24 xs = true) (hne : xs ≠ []) (hls : RowsL ls) (hT : Tab w) :
    Calls Tryz.prog 97 #[.pointer (some ⟨sb, 0, none⟩), .int .u32 (setI xs : Nat)] w fun e w' => e = .returned (.bool (decide (fits xs (ls.map Lk.r)))) ∧ Below w.heap.size w w' := by
  have hsw := lt_of_block hsb
  have H1 := hid (emptyS hx)
  rw [decide_eq_false hne] at H1
  refine (callsIn_wide (n := 9)).1 ?_
  refine callsIn_of_wp_marks Tryz.func97 rfl trivial ?_ rfl
  simp only [Tryz.ntmps97, List.size_toArray, List.length_cons, List.length_nil, Nat.reduceAdd, Nat.reduceSub, Array.replicate_succ, Array.replicate_zero, List.push_toArray, List.append_toArray, List.nil_append, List.cons_append]
  gi_wp2_with (refine ⟨trivial, ?_⟩; first | (gi_at_call 106; refine (callsIn_wide.2 (H1.out _)).mono ?_; rintro e w' ⟨rfl, hq⟩; replace hq := hq.symm; subst hq) | (gi_at_call 103; refine (callsIn_wide.2 (links_in _ _)).mono ?_; rintro e w' ⟨rfl, rfl⟩))
  obtain ⟨W0, hW0⟩ : ∃ W0, W0 = ((w.alloc (.cells #[.int .u32 (setI xs : Nat)] 135)).alloc (.cells #[.bool false] 4)).alloc (.cells #[.pointer (some ⟨sb, 0, none⟩)] 142) := ⟨_, rfl⟩
  rw [← hW0]
  obtain ⟨X0, X1, X2, B0⟩ := u_box3 (w := w) (c := #[.int .u32 (setI xs : Nat)]) (t := 135) (d := #[.bool false]) (s := 4) (f := #[.pointer (some ⟨sb, 0, none⟩)]) (r := 142) (w1 := W0) (by rw [hW0]; exact Below.refl _ _)
  have Z0 : W0.heap.size = w.heap.size + 3 := by rw [hW0]; simp
  clear hW0
  have L0 := hL.below B0
  have S0 := kept hsb B0
  have T0 := hT.below B0
  have HC := hid (show ∀ l ∈ ls, W0.cell? ⟨l.b, 0, none⟩ = some (.int .u32 (setI l.r : Nat)) from fun l hl => by
    obtain ⟨k, hk, rfl⟩ := List.getElem_of_mem hl
    exact box_cell (L0 k hk).2.2.1 0 rfl)
  refine wpIn_rangeFunc_ownG (α := {x : Lk // x ∈ ls}) rfl (by omega) (gf := 109) (lb := #[.pointer (some ⟨w.heap.size + 2, 0, none⟩)]) rfl trivial (enters_of Tryz.func109 (by kernel_rfl) rfl)
    (links_stops (9 - 1) _ sb ls (by omega) hl (Below W0.heap.size) (fun W W' h k j hj => (k.cell (p := ⟨ls[j].b, 2, none⟩) (lt_of_block (L0 j hj).2.2.1)).trans (h j hj)) W0 (box_cell X2 0 rfl) (box_cell S0 2 rfl) L0.leads)
    belowK_t (belowK_b (Nat.le_refl _)) (Below.refl _ _) (fun _ => rfl)
    (fun pre W => Below W0.heap.size W0 W ∧ ∀ l ∈ pre, fit1 xs l.1.r)
    (fun c pre W => ∃ l : {x : Lk // x ∈ ls}, c = .ret ∧ ¬ fit1 xs l.1.r ∧ W.heap[w.heap.size + 1]? = some (.cells #[.bool false] 4 (0, 0)) ∧ Below w.heap.size w W)
    (fun s A B row hs hg hr => ⟨ownFrom_below (Nat.le_refl _) (Nat.le_refl _) s A B row hs.1 hg hr, hs.2⟩)
    (fun c s A B row hs hg hr => by
      obtain ⟨x, h1, h2, h5, h6⟩ := hs
      exact ⟨x, h1, h2, own_blk h5 hg hr, ownFrom_below (Nat.le_refl _) (by omega) s A B row h6 hg hr⟩)
    ⟨Below.refl _ _, fun y hy => (by simp at hy)⟩
    (fun x => { tmps := #[.pointer (some ⟨sb, 0, none⟩), .int .u32 (setI xs : Nat), undef, .pointer (some ⟨w.heap.size, 0, none⟩), .pointer (some ⟨w.heap.size + 1, 0, none⟩), .pointer (some ⟨x.1.b, 0, none⟩), .int .u32 (setI xs : Nat), .bool false, .pointer (some ⟨sb, 0, none⟩),
      .func (.func 109) #[] #[.pointer (some ⟨w.heap.size + 2, 0, none⟩)], .pointer (some ⟨x.1.b, 0, none⟩), undef, undef, undef, undef, undef, undef, undef, undef, undef, undef, undef, undef, undef, undef, undef, undef, undef], defers := [] }) ?assign ?body ?done ?stop
  case assign =>
    intro l x W K hK
    gi_wp2
    exact hK
  case body =>
    rintro l pre x W ⟨B1, hall⟩ hlen
    have hx1 := (hls x.1 x.2).1
    have hx2 := (hls x.1 x.2).2
    have hh := asc_mem hx1 (hd_mem hx2)
    have HA := hid hall
    have y0 := cell_regrown (box_cell (kept X0 B1) 0 (v := .int .u32 (setI xs : Nat)) rfl)
    have r0 := cell_regrown ((B1.cell (p := ⟨x.1.b, 0, none⟩) (block_lt_of_cell (HC.out x.1 x.2))).trans (HC.out x.1 x.2))
    have k1 := hid (rg (w := W) (fun w' hb => same_below (firstS hx hne w' ((T0.below B1).below hb))))
    have k2 := hid (rg (w := W) (fun w' hb => same_below (firstS hx1 hx2 w' ((T0.below B1).below hb))))
    have k3 := hid (rg (w := W) (fun w' _ => same_below (hasS hx (hd x.1.r) w' (by omega) (by omega))))
    have X1w := hid (kept X1 B1)
    clear hall
    gi_wp2
    obtain ⟨F1, hF1⟩ : ∃ F1, F1 = hd xs := ⟨_, rfl⟩
    obtain ⟨F2, hF2⟩ : ∃ F2, F2 = hd x.1.r := ⟨_, rfl⟩
    rw [← hF1] at k1
    rw [← hF2] at k2 k3 hh
    have HF1 := hid hF1
    have HF2 := hid hF2
    clear hF1 hF2
    by_cases hlt : F1 < F2
    · have hd1 : decide (F2 ≤ F1) = false := decide_eq_false (by omega)
      by_cases hin : F2 ∈ xs
      · rw [decide_eq_true hin] at k3
        have HN := hid (show ¬ fit1 xs x.1.r from fun h => h.2 (by rw [← HF2.out]; exact hin))
        clear hin hlt
        refine inR_below (by kernel_rfl) (by kernel_rfl) (by kernel_rfl) (fun ⟨_, _, h⟩ => h) ?_
        repeat (first
          | go_big_quiet_step (first | (go_at_call 107; with_reducible exact k1.out _ _) | (go_at_call 107; with_reducible exact k2.out _ _) | (go_at_call 108; with_reducible exact k3.out _ _))
          | quiet_step (first | (go_at_call 107; with_reducible exact k1.out _ _) | (go_at_call 107; with_reducible exact k2.out _ _) | (go_at_call 108; with_reducible exact k3.out _ _)))
        refine wpQuiet_nil ?_
        intro _ hw'
        obtain ⟨⟨dq, osq⟩, hw''⟩ := hw'
        have hbq := below_regrown W dq osq
        rw [← hw''] at hbq
        clear hw'' y0 r0
        have hc := box_cell (kept X1w.out hbq) 0 (v := .bool false) rfl
        have hz := box_frozen (kept X1w.out hbq) 0
        have BB := hid (u_catn B1 (Nat.le_refl _) hbq)
        gi_wp2
        refine ⟨((keeps_below hbq).trans (KeepsOthers.setCell _ _ _)).from _, x, rfl, HN.out, set_block (kept X1w.out hbq) 0 _, u_set (B0.trans (BB.out.mono (by omega))) (by omega) _ _⟩
      · rw [decide_eq_false hin] at k3
        have HN := hid (show fit1 xs x.1.r from ⟨by rw [← HF1.out, ← HF2.out]; exact hlt, by rw [← HF2.out]; exact hin⟩)
        clear hin hlt
        refine inR_below (by kernel_rfl) (by kernel_rfl) (by kernel_rfl) (fun ⟨_, _, h⟩ => h) ?_
        repeat (first
          | go_big_quiet_step (first | (go_at_call 107; with_reducible exact k1.out _ _) | (go_at_call 107; with_reducible exact k2.out _ _) | (go_at_call 108; with_reducible exact k3.out _ _))
          | quiet_step (first | (go_at_call 107; with_reducible exact k1.out _ _) | (go_at_call 107; with_reducible exact k2.out _ _) | (go_at_call 108; with_reducible exact k3.out _ _)))
        refine wpQuiet_nil ?_
        intro _ hw'
        obtain ⟨⟨dq, osq⟩, hw''⟩ := hw'
        have hbq := below_regrown W dq osq
        rw [← hw''] at hbq
        clear hw'' y0 r0
        have BB := hid (u_catn B1 (Nat.le_refl _) hbq)
        gi_wp2
        refine ⟨(keeps_below hbq).from _, hbq.mono B1.size, BB.out, ?_⟩
        intro y hy
        rcases List.mem_append.1 hy with h | h
        · exact HA.out y h
        · simp only [List.mem_singleton] at h; subst h; exact HN.out
    · have hd1 : decide (F2 ≤ F1) = true := decide_eq_true (by omega)
      have HN := hid (show ¬ fit1 xs x.1.r from fun h => hlt (by rw [HF1.out, HF2.out]; exact h.1))
      clear hlt
      refine inR_below (by kernel_rfl) (by kernel_rfl) (by kernel_rfl) (fun ⟨_, _, h⟩ => h) ?_
      repeat (first
        | go_big_quiet_step (first | (go_at_call 107; with_reducible exact k1.out _ _) | (go_at_call 107; with_reducible exact k2.out _ _) | (go_at_call 108; with_reducible exact k3.out _ _))
        | quiet_step (first | (go_at_call 107; with_reducible exact k1.out _ _) | (go_at_call 107; with_reducible exact k2.out _ _) | (go_at_call 108; with_reducible exact k3.out _ _)))
      refine wpQuiet_nil ?_
      intro _ hw'
      obtain ⟨⟨dq, osq⟩, hw''⟩ := hw'
      have hbq := below_regrown W dq osq
      rw [← hw''] at hbq
      clear hw'' y0 r0
      have hc := box_cell (kept X1w.out hbq) 0 (v := .bool false) rfl
      have hz := box_frozen (kept X1w.out hbq) 0
      have BB := hid (u_catn B1 (Nat.le_refl _) hbq)
      gi_wp2
      refine ⟨((keeps_below hbq).trans (KeepsOthers.setCell _ _ _)).from _, x, rfl, HN.out, set_block (kept X1w.out hbq) 0 _, u_set (B0.trans (BB.out.mono (by omega))) (by omega) _ _⟩
  case done =>
    rintro D ys W hD rfl ⟨B1, hall⟩ hK
    have HD := hid (show decide (fits xs (ls.map Lk.r)) = true from decide_eq_true ⟨hne, fun r hr => by
      obtain ⟨l, hl, rfl⟩ := List.mem_map.1 hr
      exact hall ⟨l, hl⟩ (List.mem_attach _ _)⟩)
    have X1w := hid (kept X1 B1)
    have hc := box_cell X1w.out 0 (v := .bool false) rfl
    have hz := box_frozen X1w.out 0
    have X5 := hid (set_block X1w.out 0 (.bool true))
    clear hall
    gi_wp2
    have hK' := (KeepsOthers.setCell W ⟨w.heap.size + 1, 0, none⟩ (.bool true)).same D _ hK rfl
    refine ⟨by simp, .inl ⟨_, _, rfl, run_takeDeferred hK', ?_⟩⟩
    have hc5 := cell_kept (box_cell X5.out 0 (v := .bool true) rfl) (grownBy_putObj' _ D (.deferred none)) (fun r e => by cases e; exact ⟨_, hK', rfl⟩)
    refine ⟨.bool true, ?_, by rw [HD.out], (u_set (B0.trans (B1.mono (by omega))) (by omega) _ _).trans (belowK_b (w := w) (Nat.le_refl _) _ D _ _ (by omega) hK' rfl rfl)⟩
    simp [results, Tryz.f97, go_sem, hc5]
  case stop =>
    rintro D c pre W hD hSp ⟨x, rfl, hx, Y2, B1⟩ hK
    have HD := hid (show decide (fits xs (ls.map Lk.r)) = false from decide_eq_false (fun h => hx (h.2 _ (List.mem_map_of_mem x.2))))
    clear hx
    gi_wp2
    refine ⟨by simp, .inl ⟨_, _, rfl, run_takeDeferred hK, ?_⟩⟩
    have hc5 := cell_kept (box_cell Y2 0 (v := .bool false) rfl) (grownBy_putObj' _ D (.deferred none)) (fun r e => by cases e; exact ⟨_, hK, rfl⟩)
    refine ⟨.bool false, ?_, by rw [HD.out], B1.trans (belowK_b (w := w) (Nat.le_refl _) W D _ _ (by omega) hK rfl rfl)⟩
    simp [results, Tryz.f97, go_sem, hc5]
end Go.Proofs.YtbakicgdloakgaaGreatDoor
namespace Go.Proofs.YtbakicgdloakgaaGreatDoor
open Go.ChangeShapes Go.WideShapes Go.ChangeAt Go.RowKit Go.Sort Go.Shelf
attribute [local go_sem] Oper.semAt_some

/-- Each place is met once: what is done at each is done to all. -/
def atEach {α : Type} {n : Nat} (f : α → α) (xs : List α) (pre : List (Fin n)) : List α := pre.foldl (fun ys i => ys.modify i.val f) xs
theorem atEach_snoc {α : Type} {n : Nat} (f : α → α) (xs : List α) (pre : List (Fin n)) (x : Fin n) : atEach f xs (pre ++ [x]) = (atEach f xs pre).modify x.val f := by
  unfold atEach; rw [List.foldl_append]; rfl
end Go.Proofs.YtbakicgdloakgaaGreatDoor
