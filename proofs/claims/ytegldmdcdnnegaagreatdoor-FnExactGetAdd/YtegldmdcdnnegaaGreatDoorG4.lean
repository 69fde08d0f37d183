/- A region that draws its order, in a round of a range over a function: walked there by the plain words. The program's list of equations: its links, and how it is gone through. The program's list of equations gone through by places. -/
import Derived.RangeFuncNested
import Derived.RangeFuncBound
import Derived.RangeFuncCalls
import Derived.RangeFuncLeaves
import Derived.RangeFuncBox
import Derived.Shelf.Abstract
import Derived.Shelf.RegionOpen
import Derived.WalkKit
import Derived.OwnWalkIn
import Derived.TacticsInMore
import Derived.LoopNIn
import Derived.LoopIn
import Derived.OrdersIn
import Derived.Test.YtegldmdcdnnegaaGreatDoorG3
import Derived.Test.YtegldmdcdnnegaaGreatDoorG0
namespace Go.Proofs.YtegldmdcdnnegaaGreatDoor
open Go.ChangeShapes Go.WideShapes Go.ChangeAt Go.RowKit Go.Sort

/-- An operation that defers nothing. -/
def noDefer (o : Oper) : Bool := match o.op with | .defer _ => false | _ => true

theorem semAt_nd {o : Oper} (h : noDefer o = true) (ro : Option Nat) (ρ : Operand → Value) : o.semAt ro ρ = execOp ρ o :=
  Oper.semAt_eq _ _ _ (fun c hc => by simp [noDefer, hc] at h)

theorem inR_op {P : Program} {o : Oper} {a : Act} {w : World} {next : Act → World → Prop} {Q : Exit → Act → World → Prop} {l n : Nat} (hn : noDefer o = true) (h : o.wp P a w next Q) :
    o.wpIn (Fence.wide.inRound l) n P a w next Q := by
  unfold Oper.wpIn
  refine ⟨fun _ _ => trivial, ?_⟩
  rw [semAt_nd hn]
  unfold Oper.wp at h
  generalize (execOp a.eval o).run P w = r at *
  cases r with
  | ok x w' =>
    cases x <;> simp only [Oper.upon] at h <;> simp only [Oper.uponIn]
    case value v => exact h
    case skip => exact h
    case defer d => exact h
    case enter f args => exact ⟨fun hd => (by cases hd), (CallsIn.inRound l (callsIn_wide.2 h)).mono (fun e w'' he => by cases e <;> exact he)⟩
    case row row args =>
      refine ⟨fun hd => (by cases hd), fun c cs _ => ?_⟩
      obtain ⟨v, w'', r, s⟩ := h c cs
      exact ⟨v, w'', r, stepsIn_wide.2 s⟩
  | halt x w' => cases x <;> simp only [Oper.upon] at h <;> first | exact h | exact h.elim

theorem inR_any {P : Program} {md : Region.Mode} {ops : Array Oper} {Q : Exit → Act → World → Prop} {l n : Nat} (hQ : ¬ LetsOut Q) (hn : ∀ (i : Nat) (o : Oper), ops[i]? = some o → noDefer o = true) :
    ∀ (fuel : Nat) (listed : Array Bool) (a : Act) (w : World), wpAny P md ops Q fuel listed a w → wpAnyIn (Fence.wide.inRound l) n P md ops Q fuel listed a w
  | 0, _, _, _, h => h
  | fuel + 1, listed, a, w, h => by
    refine ⟨h.1, fun i hi => ?_⟩
    have h1 := h.2 i hi
    unfold wpOp at h1
    unfold wpOpIn
    cases ho : ops[i]? with
    | none => simp only [ho] at h1 ⊢; exact inR_any hQ hn fuel _ _ _ h1
    | some o =>
      simp only [ho] at h1 ⊢
      by_cases hw : Region.wanted o (yielded ops a.tmps) = true
      · simp only [hw, if_true] at h1 ⊢
        rcases h1 with h1 | ⟨_, h2⟩
        · exact inR_op (hn i o ho) (Oper.wp_mono (fun a w k => inR_any hQ hn fuel _ a w k) h1)
        · exact absurd h2 hQ
      · simp only [hw] at h1 ⊢
        exact ⟨fun _ _ => trivial, inR_any hQ hn fuel _ _ _ h1⟩

theorem nd_all {l : List Oper} (h : l.all noDefer = true) (i : Nat) (o : Oper) (hi : l.toArray[i]? = some o) : noDefer o = true :=
  List.all_eq_true.1 h o (List.mem_of_getElem? (by simpa using hi))

/-- In a round: walked once, in the order of the text, the callees laying memory of their own. -/
theorem inR_below {P : Program} {id : Nat} {Q : Exit → Act → World → Prop} {a : Act} {w : World} {l : List Oper} {r n : Nat} (hm : P.follows .mixedOrders = true) (hB : Region.lexB .any l.toArray = true) (hn : l.all noDefer = true) (hQ : ¬ LetsOut Q)
    (h : wpQuiet P l.toArray (fun w' => ∃ p : Regrown, w' = grow (redrawn w p.d) p.os) (fun a' => ∀ w', (∃ p : Regrown, w' = grow (redrawn w p.d) p.os) → Q .normal a' w') l a) : (Code.region id l.toArray true).wpIn (Fence.wide.inRound r) n P Q a w := by
  simp only [Region.lexB, Bool.and_eq_true] at hB
  refine wpIn_region_any hm (inR_any hQ (nd_all hn) _ _ _ _ (wpAny_of_quiet (C := fun w' => ∃ p : Regrown, w' = grow (redrawn w p.d) p.os) (Q := fun a' => ∀ w', (∃ p : Regrown, w' = grow (redrawn w p.d) p.os) → Q .normal a' w') (fun _ w' hw' h => h w' hw') _ _ _ _ ⟨⟨w.drawn + 1, #[]⟩, by rw [grow_empty]; rfl⟩ ?_))
  have := wpAnyQ_lex (P := P) (C := fun w' => ∃ p : Regrown, w' = grow (redrawn w p.d) p.os) (md := .any) hB.1 l 0 (Array.replicate l.toArray.size false) a (by simp) (by simpa using hB.2) h
  simpa using this
/-- In a round: .. of operations that only read and draw. -/
theorem inR_quiet {P : Program} {id : Nat} {Q : Exit → Act → World → Prop} {a : Act} {w : World} {l : List Oper} {r n : Nat} (hm : P.follows .mixedOrders = true) (hB : Region.lexB .any l.toArray = true) (hn : l.all noDefer = true) (hQ : ¬ LetsOut Q)
    (h : wpQuiet P l.toArray (fun w' => ∃ n, w' = w.drewN n) (fun a' => ∀ w', (∃ n, w' = w.drewN n) → Q .normal a' w') l a) : (Code.region id l.toArray true).wpIn (Fence.wide.inRound r) n P Q a w := by
  simp only [Region.lexB, Bool.and_eq_true] at hB
  refine wpIn_region_any hm (inR_any hQ (nd_all hn) _ _ _ _ (wpAny_of_quiet (C := fun w' => ∃ n, w' = w.drewN n) (Q := fun a' => ∀ w', (∃ n, w' = w.drewN n) → Q .normal a' w') (fun _ w' hw' h => h w' hw') _ _ _ _ ⟨1, rfl⟩ ?_))
  have := wpAnyQ_lex (P := P) (C := fun w' => ∃ n, w' = w.drewN n) (md := .any) hB.1 l 0 (Array.replicate l.toArray.size false) a (by simp) (by simpa using hB.2) h
  simpa using this
/-- In a round: whatever order comes. -/
theorem inR_orders {P : Program} {id : Nat} {Q : Exit → Act → World → Prop} {a : Act} {w : World} {l : List Oper} {r n : Nat} (hm : P.follows .mixedOrders = true) (hn : l.all noDefer = true) (hQ : ¬ LetsOut Q)
    (h : wpAny P .any l.toArray Q l.toArray.size (Array.replicate l.toArray.size false) a { w with drawn := w.drawn + 1 }) : (Code.region id l.toArray true).wpIn (Fence.wide.inRound r) n P Q a w :=
  wpIn_region_any hm (inR_any hQ (nd_all hn) _ _ _ _ h)

/-- In a round: reads and calls that lay memory of their own, then stores. -/
theorem inR_then {P : Program} {id : Nat} {Q : Exit → Act → World → Prop} {a : Act} {w : World} {l : List Oper} {r n : Nat} (m : Nat) (hm : P.follows .mixedOrders = true) (hB : thenB l m = true) (hn : l.all noDefer = true) (hQ : ¬ LetsOut Q)
    (h : wpQuiet P l.toArray (fun w' => ∃ p : Regrown, w' = grow (redrawn w p.d) p.os) (fun a' => ∀ w', (∃ p : Regrown, w' = grow (redrawn w p.d) p.os) → wpList P l.toArray Q (l.drop m) a' w') (l.take m) a) : (Code.region id l.toArray true).wpIn (Fence.wide.inRound r) n P Q a w :=
  wpIn_region_any hm (inR_any hQ (nd_all hn) _ _ _ _ (any_then (C := fun w' => ∃ p : Regrown, w' = grow (redrawn w p.d) p.os) m hB ⟨⟨w.drawn + 1, #[]⟩, by rw [grow_empty]; rfl⟩ h))
theorem own_blk {W W' : World} {row : Option Nat} {k : Nat} {c : Array Value} {t : TypeId} {z : Nat × Nat} (h : W.heap[k]? = some (.cells c t z)) (hg : W.grownBy W' row) {B : Nat} (hr : ∀ r, row = some r → B ≤ r ∧ ∃ o : Obj, W.heap[r]? = some o ∧ o.isCells = false) : W'.heap[k]? = some (.cells c t z) :=
  (grownBy_keeps_cells hg (fun r e => (hr r e).2) h rfl).trans h
theorem own_row {W W' : World} {row : Option Nat} {base : Nat} {e : TypeId} {size : Nat} {v : Value} {n : Nat} {xs : List Value} (h : W.ownsRow base e size v n xs) (hg : W.grownBy W' row) {B : Nat} (hr : ∀ r, row = some r → B ≤ r ∧ ∃ o : Obj, W.heap[r]? = some o ∧ o.isCells = false) : W'.ownsRow base e size v n xs := by
  obtain ⟨h1, h2⟩ := h
  refine ⟨h1, ?_⟩
  rcases h2 with h2 | ⟨g, cap, cur, hv, hg', hh, r⟩
  · exact Or.inl h2
  · exact Or.inr ⟨g, cap, cur, hv, hg', own_blk hh hg hr, r⟩
theorem keeps_below {W W' : World} (hb : Below W.heap.size W W') : KeepsOthers W W' := ⟨hb.size, fun k _ hk _ => (hb.block k (lt_of_block hk)).trans hk⟩
theorem keeps_below' {W W' : World} {n : Nat} (hb : Below n W W') (hn : W.heap.size ≤ n) : KeepsOthers W W' := ⟨hb.size, fun k _ hk _ => (hb.block k (Nat.lt_of_lt_of_le (lt_of_block hk) hn)).trans hk⟩
end Go.Proofs.YtegldmdcdnnegaaGreatDoor
namespace Go.Proofs.YtegldmdcdnnegaaGreatDoor
open Go.ChangeShapes Go.WideShapes Go.ChangeAt Go.RowKit Go.Sort Go.Shelf
attribute [local go_sem] Oper.semAt_some

theorem has_bit (s n : Nat) (hs : s < 16777216) : (bits .and .u32 ((s : Int) / 2 ^ n) 1 == 1) = s.testBit n := by
  have h0 : s / 2 ^ n ≤ s := Nat.div_le_self _ _
  have h1 := u32_and_nat (s / 2 ^ n) 1 (by omega) (by omega)
  have h2 : ((s / 2 ^ n : Nat) : Int) = (s : Int) / 2 ^ n := by simp
  rw [h2] at h1
  have h3 := shr_and s n
  rw [Nat.shiftRight_eq_div_pow] at h3
  rw [show ((1 : Nat) : Int) = 1 from rfl, h3] at h1
  rw [h1]
  cases s.testBit n <;> simp
set_option maxRecDepth 100000 in
theorem has_any (s n : Nat) (w : World) (hs : s < 16777216) (hn : n < 24) :
    Calls Tryz.prog 90 #[.int .u32 s, .int .i64 n] w fun e w' => e = .returned (.bool (s.testBit n)) ∧ w' = w := by
  go_enter Tryz.func90, Tryz.ntmps90
  go_wp2
  go_ret
  exact ⟨ret_bool (has_bit s n hs), rfl⟩
theorem hasS {xs : List Int} (h : ascB (-1) 24 xs = true) (n : Int) (w : World) (h0 : 0 ≤ n) (h1 : n < 24) :
    Calls Tryz.prog 90 #[.int .u32 (setI xs : Nat), .int .i64 n] w fun e w' => e = .returned (.bool (decide (n ∈ xs))) ∧ w' = w := by
  obtain ⟨k, rfl⟩ := Int.eq_ofNat_of_zero_le h0
  have e : decide ((k : Int) ∈ xs) = (setI xs).testBit k := by
    rw [Bool.eq_iff_iff, decide_eq_true_eq, setI_mem h k]
  rw [e]
  exact has_any (setI xs) k w (setS_small h) (by omega)
set_option maxRecDepth 100000 in
theorem sizeS {xs : List Int} (h : ascB (-1) 24 xs = true) (w : World) :
    Calls Tryz.prog 108 #[.int .u32 (setI xs : Nat)] w fun e w' => e = .returned (.int .i64 xs.length) ∧ Dr w w' := by
  have h1 := ones_any (setI xs) w (setS_small h)
  rw [bits_set h] at h1
  go_enter Tryz.func108, Tryz.ntmps108
  go_wp2_with (go_at_call 114; refine h1.mono ?_; rintro e w' ⟨rfl, hq⟩)
  go_ret
  exact ⟨rfl, hq⟩

/-- A link: its block, its row, where its data lie, how many they are, what they are. -/
structure Lk where
  b : Nat
  r : List Int
  q : Nat
  c : Nat
  d : List Int
/-- Where a list begins. -/
def ptrOf : List Lk → Option Addr
  | [] => none
  | l :: _ => some ⟨l.b, 0, none⟩
/-- Bytes that lie at the beginning of a block. -/
def BytsAt (w : World) (q : Nat) (d : List Int) : Prop := q < w.heap.size ∧ ∀ i, i < d.length → w.cell? ⟨q, i, none⟩ = some (.int .u8 (d.getD i 0))
theorem BytsAt.below {w w' : World} {q : Nat} {d : List Int} (h : BytsAt w q d) (hb : Below w.heap.size w w') : BytsAt w' q d :=
  ⟨Nat.lt_of_lt_of_le h.1 hb.size, fun i hi => (hb.cell (p := ⟨q, i, none⟩) h.1).trans (h.2 i hi)⟩
/-- The links of a list, each in a block of its own from 'base' on, data apart. -/
def LksAt (w : World) (base : Nat) (ls : List Lk) : Prop := ∀ k (h : k < ls.length), base ≤ ls[k].b ∧ base ≤ ls[k].q ∧
  w.heap[ls[k].b]? = some (.cells #[.int .u32 (setI ls[k].r : Nat), .slice (some ⟨ls[k].q, 0, none⟩) ls[k].d.length ls[k].c, .pointer (ptrOf (ls.drop (k + 1)))] 130 (0, 0)) ∧
  BytsAt w ls[k].q ls[k].d
theorem LksAt.below {w w' : World} {base : Nat} {ls : List Lk} (h : LksAt w base ls) (hb : Below w.heap.size w w') : LksAt w' base ls := fun k hk => by
  obtain ⟨h1, h2, h3, h4⟩ := h k hk
  exact ⟨h1, h2, kept h3 hb, h4.below hb⟩
theorem LksAt.nil (w : World) (base : Nat) : LksAt w base [] := fun k hk => by simp at hk
theorem LksAt.cons {w : World} {base : Nat} {ls : List Lk} {l : Lk} (h : LksAt w base ls) (h1 : base ≤ l.b) (h2 : base ≤ l.q)
    (h3 : w.heap[l.b]? = some (.cells #[.int .u32 (setI l.r : Nat), .slice (some ⟨l.q, 0, none⟩) l.d.length l.c, .pointer (ptrOf ls)] 130 (0, 0)))
    (h4 : BytsAt w l.q l.d) : LksAt w base (l :: ls) := fun k hk => by
  cases k with
  | zero => exact ⟨h1, h2, h3, h4⟩
  | succ k => exact h k (by simpa using hk)
theorem BytsAt.set {w : World} {q : Nat} {d : List Int} (h : BytsAt w q d) {g : Nat} (hg : q ≠ g) (i : Nat) (u : Value) : BytsAt (w.setCell ⟨g, i, none⟩ u) q d :=
  ⟨by rw [show (w.setCell ⟨g, i, none⟩ u).heap.size = w.heap.size by simp [World.setCell]]; exact h.1, fun j hj => by
    rw [← h.2 j hj]
    exact World.cell?_of_block (w := w) (Below.heap_setCell _ ⟨g, i, none⟩ _ q hg)⟩
theorem LksAt.set {w : World} {base : Nat} {ls : List Lk} (h : LksAt w base ls) {g : Nat} (hg : g < base) (i : Nat) (u : Value) : LksAt (w.setCell ⟨g, i, none⟩ u) base ls := fun k hk => by
  obtain ⟨h1, h2, h3, h4⟩ := h k hk
  exact ⟨h1, h2, set_other h3 (by omega) _ _, h4.set (by omega) _ _⟩
theorem LksAt.mono {w : World} {base base' : Nat} {ls : List Lk} (h : LksAt w base ls) (hb : base' ≤ base) : LksAt w base' ls := fun k hk => by
  obtain ⟨h1, h2, h3, h4⟩ := h k hk
  exact ⟨Nat.le_trans hb h1, Nat.le_trans hb h2, h3, h4⟩
/-- All links lead on. -/
def LeadsL (W : World) (ls : List Lk) : Prop := ∀ k (h : k < ls.length), W.cell? ⟨ls[k].b, 2, none⟩ = some (.pointer (ptrOf (ls.drop (k + 1))))
theorem LksAt.leads {w : World} {base : Nat} {ls : List Lk} (h : LksAt w base ls) : LeadsL w ls := fun k hk => box_cell (h k hk).2.2.1 2 rfl
theorem LeadsL.below {W W' : World} {ls : List Lk} (h : LeadsL W ls) (hb : Below W.heap.size W W') : LeadsL W' ls := fun k hk => (hb.cell (p := ⟨ls[k].b, 2, none⟩) (block_lt_of_cell (h k hk))).trans (h k hk)

set_option maxRecDepth 100000 in
theorem links_in (p : Option Addr) (w : World) :
    Calls Tryz.prog 89 #[.pointer p] w fun e w' => e = .returned (.func (.func 111) #[] #[.pointer (some ⟨w.heap.size, 0, none⟩)]) ∧ w' = w.alloc (.cells #[.pointer p] 133) := by
  go_enter Tryz.func89, Tryz.ntmps89
  go_wp2
  go_ret
  exact ⟨rfl, rfl⟩

theorem run_neq_nil (b : Nat) (w : World) : (binOp .neq 53 (.pointer (some ⟨b, 0, none⟩)) (.pointer none)).run Tryz.prog w = .ok (.bool true) w := by
  have h : ∀ d : Nat, (Op.equalIn (d + 1) 53 (.pointer (some ⟨b, 0, none⟩)) (.pointer none)).run Tryz.prog w = .ok false w := fun d => by
    simp [Op.equalIn, run_underlying Tryz.underlying53]
  simp only [binOp]
  simp [Op.equal, Op.maxDepth, h 9999]
theorem run_neq_nil0 (w : World) : (binOp .neq 53 (.pointer none) (.pointer none)).run Tryz.prog w = .ok (.bool false) w := by
  have h : ∀ d : Nat, (Op.equalIn (d + 1) 53 (.pointer none) (.pointer none)).run Tryz.prog w = .ok true w := fun d => by
    simp [Op.equalIn, run_underlying Tryz.underlying53]
  simp only [binOp]
  simp [Op.equal, Op.maxDepth, h 9999]

theorem drop_ptr {ls : List Lk} {k : Nat} (h : k < ls.length) : ptrOf (ls.drop k) = some ⟨ls[k].b, 0, none⟩ := by rw [List.drop_eq_getElem_cons h]; rfl

/-- How many links there are from a place on, a thousand at most. -/
def leftL : Nat → World → Value → Nat
  | 0, _, _ => 0
  | f + 1, w, v => match v with
    | .pointer (some p) => 1 + leftL f w ((w.cell? ⟨p.block, 2, none⟩).getD undef)
    | _ => 0
theorem leftL_eq {w : World} {ls : List Lk} (h : LeadsL w ls) : ∀ (f k : Nat), k ≤ ls.length → ls.length - k ≤ f → leftL f w (.pointer (ptrOf (ls.drop k))) = ls.length - k := by
  intro f
  induction f with
  | zero => intro k hk hf; simp [leftL]; omega
  | succ f ih =>
    intro k hk hf
    by_cases hlt : k < ls.length
    · rw [drop_ptr hlt]
      show 1 + leftL f w ((w.cell? ⟨ls[k].b, 2, none⟩).getD undef) = _
      rw [h k hlt, Option.getD_some, ih (k + 1) (by omega) (by omega)]
      omega
    · rw [List.drop_of_length_le (by omega)]
      show 0 = _
      omega

set_option maxHeartbeats 2000000 in
theorem links1_in {so : Nat} (n l Bp sb : Nat) (ls : List Lk) (hn : 1 ≤ n) (hl : ls.length ≤ 1000) (J Jx : List {x : Lk // x ∈ ls} → World → Prop) (Kp : World → World → Prop) (hK : ∀ W W', LeadsL W ls → Kp W W' → LeadsL W' ls)
    (hY : ∀ (pre : List {x : Lk // x ∈ ls}) (x : {x : Lk // x ∈ ls}) W, J pre W → pre.length < ls.length → YieldAt Fence.wide (n - 1) Tryz.prog l #[.pointer (some ⟨x.1.b, 0, none⟩)] W fun e W' =>
      (e = .returned (.bool true) ∧ J (pre ++ [x]) W' ∧ Kp W W') ∨ (e = .returned (.bool false) ∧ Jx (pre ++ [x]) W'))
    (W : World) (hBp : W.cell? ⟨Bp, 0, none⟩ = some (.pointer (some ⟨sb, so, none⟩))) (hsb : W.cell? ⟨sb, so + 2, none⟩ = some (.pointer (ptrOf ls))) (hL : LeadsL W ls) (h0 : J [] W) :
    CallsIn Fence.wide n Tryz.prog 111 #[.func (.yield l) #[] #[], .pointer (some ⟨Bp, 0, none⟩)] W fun e W' => (∃ v, e = .returned v) ∧
      ((∃ ys, ys = ls.attach ∧ J ys W') ∨ (∃ pre, pre <+: ls.attach ∧ Jx pre W')) := by
  refine callsIn_of_wp Tryz.func111 rfl trivial ?_ rfl
  simp only [Tryz.ntmps111, List.size_toArray, List.length_cons, List.length_nil, Nat.reduceAdd, Nat.reduceSub, Array.replicate_succ, Array.replicate_zero, List.push_toArray, List.append_toArray, List.nil_append, List.cons_append]
  gi_wp2
  gi_loopw [3] (fun p wr => ∃ k : Nat, k ≤ ls.length ∧ p = .pointer (ptrOf (ls.drop k)) ∧ LeadsL wr ls ∧ J (ls.attach.take k) wr) (fun p wr => leftL 1000 wr p)
  case atStart => exact ⟨0, by omega, rfl, hL, h0⟩
  case round =>
    obtain ⟨k, hk, rfl, hl1, hJ⟩ := hrel
    have HM := hid (leftL_eq hl1 1000 k hk (by omega))
    by_cases hlt : k < ls.length
    · have hta : ls.attach.take (k + 1) = ls.attach.take k ++ [⟨ls[k], List.getElem_mem hlt⟩] := by rw [List.take_succ_eq_append_getElem (by rw [List.length_attach]; exact hlt), List.getElem_attach]
      have HTA := hid hta
      clear hta
      obtain ⟨fn, tmps, assign, body, hy, hR⟩ := hY (ls.attach.take k) ⟨ls[k], List.getElem_mem hlt⟩ wr hJ (by rw [List.length_take, List.length_attach]; omega)
      have hnn := run_neq_nil ls[k].b
      have HP := hid (drop_ptr hlt)
      rw [HP.out]
      dsimp only at hy
      gi_wp2
      refine hR.mono ?_
      rintro e W3 (⟨rfl, hJ3, hk3⟩ | ⟨rfl, hJx3⟩)
      · have hl3 := hK _ _ hl1 hk3
        have hq3 := hl3 k hlt
        gi_wp2
        go_roundw
        case rel => exact ⟨k + 1, by omega, rfl, hl3, by rw [HTA.out]; exact hJ3⟩
        case measure => rw [leftL_eq hl3 1000 (k + 1) (by omega) (by omega), ← HP.out, HM.out]; omega
      · gi_wp2
        refine bodyPost_ret (results_none rfl _ _ _) rfl ?_
        exact ⟨⟨_, rfl⟩, .inr ⟨ls.attach.take (k + 1), List.take_prefix _ _, by rw [HTA.out]; exact hJx3⟩⟩
    · obtain rfl : k = ls.length := by omega
      have hnn := run_neq_nil0
      rw [List.drop_length, show ptrOf [] = none from rfl]
      gi_wp2
      go_end0
      exact ⟨⟨_, rfl⟩, .inl ⟨_, rfl, by rw [List.take_of_length_le (by rw [List.length_attach]; exact Nat.le_refl _)] at hJ; exact hJ⟩⟩

theorem links_stops {so : Nat} (n Bp sb : Nat) (ls : List Lk) (hn : 1 ≤ n) (hl : ls.length ≤ 1000) (Kp : World → World → Prop) (hK : ∀ W W', LeadsL W ls → Kp W W' → LeadsL W' ls) (w : World)
    (hBp : w.cell? ⟨Bp, 0, none⟩ = some (.pointer (some ⟨sb, so, none⟩))) (hsb : w.cell? ⟨sb, so + 2, none⟩ = some (.pointer (ptrOf ls))) (hL : LeadsL w ls) :
    SeqStopsK Fence.wide n Tryz.prog 111 #[.pointer (some ⟨Bp, 0, none⟩)] (fun x : {x : Lk // x ∈ ls} => #[.pointer (some ⟨x.1.b, 0, none⟩)]) Kp (fun xs => xs = ls.attach) (fun pre => pre <+: ls.attach) ls.length w :=
  fun l J Jx W hW _ _ hY h0 => links1_in n l Bp sb ls hn hl J Jx Kp hK hY W ((hW.cell (p := ⟨Bp, 0, none⟩) (block_lt_of_cell hBp)).trans hBp) ((hW.cell (p := ⟨sb, so + 2, none⟩) (block_lt_of_cell hsb)).trans hsb) (hL.below hW) h0

/-- The cells of a block that holds a list from a place on, by its head; the block is no link. -/
structure Bx (cs : Option Addr → Array Value) (ct : TypeId) (so : Nat) (c z : Int) : Prop where
  e0 : ∀ p, (cs p)[so]? = some (.int .i64 c)
  e1 : ∀ p, (cs p)[so + 1]? = some (.int .i64 z)
  e2 : ∀ p, (cs p)[so + 2]? = some (.pointer p)
  e3 : ∀ p q, (cs p).setIfInBounds (so + 2) (.pointer q) = cs q
  e4 : ∃ x : Int, ∀ p, (cs p)[0]? = some (.int .i64 x)
theorem bx_list (c z : Int) : Bx (fun p => #[.int .i64 c, .int .i64 z, .pointer p]) 55 0 c z := ⟨fun _ => rfl, fun _ => rfl, fun _ => rfl, fun _ _ => rfl, c, fun _ => rfl⟩
end Go.Proofs.YtegldmdcdnnegaaGreatDoor
namespace Go.Proofs.YtegldmdcdnnegaaGreatDoor
open Go.ChangeShapes Go.WideShapes Go.ChangeAt Go.RowKit Go.Sort Go.Shelf
attribute [local go_sem] Oper.semAt_some

/-- Each place is met once: what is done at each is done to all. -/
def atEach {α : Type} {n : Nat} (f : α → α) (xs : List α) (pre : List (Fin n)) : List α := pre.foldl (fun ys i => ys.modify i.val f) xs
theorem atEach_snoc {α : Type} {n : Nat} (f : α → α) (xs : List α) (pre : List (Fin n)) (x : Fin n) : atEach f xs (pre ++ [x]) = (atEach f xs pre).modify x.val f := by
  unfold atEach; rw [List.foldl_append]; rfl
theorem atEach_len {α : Type} {n : Nat} (f : α → α) (pre : List (Fin n)) : ∀ (xs : List α), (atEach f xs pre).length = xs.length := by
  induction pre with
  | nil => intro xs; rfl
  | cons i pre ih => intro xs; show (atEach f (xs.modify i.val f) pre).length = _; rw [ih, List.length_modify]
theorem atEach_take {α : Type} (f : α → α) (xs : List α) : ∀ k, k ≤ xs.length → atEach f xs ((List.finRange xs.length).take k) = (xs.take k).map f ++ xs.drop k := by
  intro k
  induction k with
  | zero => intro _; simp [atEach]
  | succ k ih =>
    intro hk
    have hk' : k < xs.length := by omega
    rw [List.take_succ_eq_append_getElem (by rw [List.length_finRange]; exact hk'), atEach_snoc, ih (by omega), List.getElem_finRange]
    have e1 : (xs.take k ++ [xs[k]] : List α) = xs.take (k + 1) := (List.take_succ_eq_append_getElem hk').symm
    have hl : ((xs.take k).map f).length = k := by rw [List.length_map, List.length_take]; omega
    show List.modify ((xs.take k).map f ++ xs.drop k) k f = _
    rw [List.drop_eq_getElem_cons hk', ← e1, List.map_append, List.append_assoc]
    apply List.ext_getElem?
    intro i
    rw [List.getElem?_modify]
    by_cases hi : i < k
    · have hne : ¬ k = i := by omega
      rw [List.getElem?_append_left (by omega), List.getElem?_append_left (by omega)]
      simp [hne]
    · rw [List.getElem?_append_right (by omega), List.getElem?_append_right (by omega), hl]
      by_cases hik : i = k
      · subst hik; simp [List.getElem?_eq_getElem hk']
      · obtain ⟨j, hj⟩ : ∃ j, i - k = j + 1 := ⟨i - k - 1, by omega⟩
        have hne : ¬ k = i := by omega
        rw [hj]
        simp [hne, show k + (j + 1) = k + 1 + j by omega]
theorem atEach_all {α : Type} (f : α → α) (xs : List α) : atEach f xs (List.finRange xs.length) = xs.map f := by
  have h := atEach_take f xs xs.length (Nat.le_refl _)
  rw [List.take_of_length_le (by rw [List.length_finRange]; exact Nat.le_refl _), List.take_length, List.drop_length, List.append_nil] at h
  exact h

set_option maxHeartbeats 2000000 in
theorem linksF1_in {so : Nat} (n l Bp sb : Nat) (ls : List Lk) (hn : 1 ≤ n) (hl : ls.length ≤ 1000) (J Jx : List (Fin ls.length) → World → Prop) (Kp : World → World → Prop) (hK : ∀ W W', LeadsL W ls → Kp W W' → LeadsL W' ls)
    (hY : ∀ (pre : List (Fin ls.length)) (x : Fin ls.length) W, J pre W → pre.length < ls.length → YieldAt Fence.wide (n - 1) Tryz.prog l #[.pointer (some ⟨ls[x.val].b, 0, none⟩)] W fun e W' =>
      (e = .returned (.bool true) ∧ J (pre ++ [x]) W' ∧ Kp W W') ∨ (e = .returned (.bool false) ∧ Jx (pre ++ [x]) W'))
    (W : World) (hBp : W.cell? ⟨Bp, 0, none⟩ = some (.pointer (some ⟨sb, so, none⟩))) (hsb : W.cell? ⟨sb, so + 2, none⟩ = some (.pointer (ptrOf ls))) (hL : LeadsL W ls) (h0 : J [] W) :
    CallsIn Fence.wide n Tryz.prog 111 #[.func (.yield l) #[] #[], .pointer (some ⟨Bp, 0, none⟩)] W fun e W' => (∃ v, e = .returned v) ∧
      ((∃ ys, ys = (List.finRange ls.length) ∧ J ys W') ∨ (∃ pre, pre <+: (List.finRange ls.length) ∧ Jx pre W')) := by
  refine callsIn_of_wp Tryz.func111 rfl trivial ?_ rfl
  simp only [Tryz.ntmps111, List.size_toArray, List.length_cons, List.length_nil, Nat.reduceAdd, Nat.reduceSub, Array.replicate_succ, Array.replicate_zero, List.push_toArray, List.append_toArray, List.nil_append, List.cons_append]
  gi_wp2
  gi_loopw [3] (fun p wr => ∃ k : Nat, k ≤ ls.length ∧ p = .pointer (ptrOf (ls.drop k)) ∧ LeadsL wr ls ∧ J ((List.finRange ls.length).take k) wr) (fun p wr => leftL 1000 wr p)
  case atStart => exact ⟨0, by omega, rfl, hL, h0⟩
  case round =>
    obtain ⟨k, hk, rfl, hl1, hJ⟩ := hrel
    have HM := hid (leftL_eq hl1 1000 k hk (by omega))
    by_cases hlt : k < ls.length
    · have hta : (List.finRange ls.length).take (k + 1) = (List.finRange ls.length).take k ++ [⟨k, hlt⟩] := by rw [List.take_succ_eq_append_getElem (by rw [List.length_finRange]; exact hlt), List.getElem_finRange]; rfl
      have HTA := hid hta
      clear hta
      obtain ⟨fn, tmps, assign, body, hy, hR⟩ := hY ((List.finRange ls.length).take k) ⟨k, hlt⟩ wr hJ (by rw [List.length_take, List.length_finRange]; omega)
      have hnn := run_neq_nil ls[k].b
      have HP := hid (drop_ptr hlt)
      rw [HP.out]
      dsimp only at hy
      gi_wp2
      refine hR.mono ?_
      rintro e W3 (⟨rfl, hJ3, hk3⟩ | ⟨rfl, hJx3⟩)
      · have hl3 := hK _ _ hl1 hk3
        have hq3 := hl3 k hlt
        gi_wp2
        go_roundw
        case rel => exact ⟨k + 1, by omega, rfl, hl3, by rw [HTA.out]; exact hJ3⟩
        case measure => rw [leftL_eq hl3 1000 (k + 1) (by omega) (by omega), ← HP.out, HM.out]; omega
      · gi_wp2
        refine bodyPost_ret (results_none rfl _ _ _) rfl ?_
        exact ⟨⟨_, rfl⟩, .inr ⟨(List.finRange ls.length).take (k + 1), List.take_prefix _ _, by rw [HTA.out]; exact hJx3⟩⟩
    · obtain rfl : k = ls.length := by omega
      have hnn := run_neq_nil0
      rw [List.drop_length, show ptrOf [] = none from rfl]
      gi_wp2
      go_end0
      exact ⟨⟨_, rfl⟩, .inl ⟨_, rfl, by rw [List.take_of_length_le (by rw [List.length_finRange]; exact Nat.le_refl _)] at hJ; exact hJ⟩⟩

theorem linksF_stops {so : Nat} (n Bp sb : Nat) (ls : List Lk) (hn : 1 ≤ n) (hl : ls.length ≤ 1000) (Kp : World → World → Prop) (hK : ∀ W W', LeadsL W ls → Kp W W' → LeadsL W' ls) (w : World)
    (hBp : w.cell? ⟨Bp, 0, none⟩ = some (.pointer (some ⟨sb, so, none⟩))) (hsb : w.cell? ⟨sb, so + 2, none⟩ = some (.pointer (ptrOf ls))) (hL : LeadsL w ls) :
    SeqStopsK Fence.wide n Tryz.prog 111 #[.pointer (some ⟨Bp, 0, none⟩)] (fun x : Fin ls.length => #[.pointer (some ⟨ls[x.val].b, 0, none⟩)]) Kp (fun xs => xs = (List.finRange ls.length)) (fun pre => pre <+: (List.finRange ls.length)) ls.length w :=
  fun l J Jx W hW _ _ hY h0 => linksF1_in n l Bp sb ls hn hl J Jx Kp hK hY W ((hW.cell (p := ⟨Bp, 0, none⟩) (block_lt_of_cell hBp)).trans hBp) ((hW.cell (p := ⟨sb, so + 2, none⟩) (block_lt_of_cell hsb)).trans hsb) (hL.below hW) h0
end Go.Proofs.YtegldmdcdnnegaaGreatDoor
