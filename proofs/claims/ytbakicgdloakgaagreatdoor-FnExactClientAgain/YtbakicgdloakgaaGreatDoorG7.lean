/- A plan copied by the program: rows of its own. A region that draws its order, in a round of a range over a function: walked there by the plain words. In a round: reads, what lays memory, and stores, walked once. A region that draws its order: reads in an order of our own, then calls that lay memory, then stores: walked once. A range over a function whose iterator keeps cells of its own: what the caller says speaks of what lay ahead of the loop. -/
import Derived.Test.YtbakicgdloakgaaGreatDoorG5
import Derived.Test.YtbakicgdloakgaaGreatDoorG0
import Derived.Deep.RegionWith
import Derived.RangeFuncNested
import Derived.RangeFuncBound
import Derived.RangeFuncCalls
import Derived.RangeFuncLeaves
import Derived.RangeFuncBox
import Derived.Shelf.Abstract
import Derived.Shelf.RegionOpen
import Derived.WalkKit
import Derived.OwnWalkIn
import Derived.TacticsInMore
import Derived.LoopNIn
import Derived.LoopIn
import Derived.OrdersIn
import Derived.Test.YtbakicgdloakgaaGreatDoorG1
import Derived.Test.YtbakicgdloakgaaGreatDoorG3
namespace Go.Proofs.YtbakicgdloakgaaGreatDoor
open Go.ChangeShapes Go.WideShapes Go.ChangeAt Go.RowKit Go.Sort

theorem clone_ints (b o c : Nat) (xs : List Int) (w : World) (h : ∀ i, i < xs.length → w.cell? ⟨b, o + i, none⟩ = some (.int .i64 (xs.getD i 0))) (hn : xs.length ≤ 1000) :
    Calls Tryz.prog 102 #[.slice (some ⟨b, o, none⟩) xs.length c] w fun e w' => ∃ a d, e = .returned (.slice a xs.length d) ∧ w'.ownsRow w.heap.size 3 1 (.slice a xs.length d) xs.length (xs.map (Value.int .i64)) ∧ Below w.heap.size w w' := by
  refine (Tryz.slices_Clone_int b o xs.length c xs w (Nat.le_refl _) (by omega) h).mono ?_
  rintro e w' ⟨v, rfl, h1, _, h2⟩
  rw [List.take_length] at h1
  obtain ⟨a, d, rfl⟩ := owns_slice h1
  exact ⟨a, d, rfl, h1, h2⟩

set_option maxHeartbeats 4000000 in
set_option maxRecDepth 100000 in
theorem copied_any (long size : Int) (b1 o1 b2 o2 c1 c2 : Nat) (ws gs : List Int) (w : World) (h1 : ∀ i, i < ws.length → w.cell? ⟨b1, o1 + i, none⟩ = some (.int .i64 (ws.getD i 0))) (h2 : ∀ i, i < gs.length → w.cell? ⟨b2, o2 + i, none⟩ = some (.int .i64 (gs.getD i 0)))
    (n1 : ws.length ≤ 1000) (n2 : gs.length ≤ 1000) (p1 : 1 ≤ ws.length) (p2 : 1 ≤ gs.length) :
    Calls Tryz.prog 92 #[.agg #[.int .i64 long, .int .i64 size, .slice (some ⟨b1, o1, none⟩) ws.length c1, .slice (some ⟨b2, o2, none⟩) gs.length c2]] w fun e w' => ∃ v, e = .returned v ∧ PlanO w' w.heap.size long size ws gs v ∧ Below w.heap.size w w' := by
  have l1 := block_lt_of_cell (h1 0 (by omega))
  have l2 := block_lt_of_cell (h2 0 (by omega))
  have H1 := hid h1
  have H2 := hid h2
  have N1 := hid n1
  have N2 := hid n2
  obtain ⟨V, hV⟩ : ∃ V, V = (w.alloc (.cells #[.int .i64 long, .int .i64 size, .slice (some ⟨b1, o1, none⟩) ws.length c1, .slice (some ⟨b2, o2, none⟩) gs.length c2] 33)).alloc (.cells #[.int .i64 0, .int .i64 0, .slice none 0 0, .slice none 0 0] 33) := ⟨_, rfl⟩
  have X0 : V.heap[w.heap.size]? = some (.cells #[.int .i64 long, .int .i64 size, .slice (some ⟨b1, o1, none⟩) ws.length c1, .slice (some ⟨b2, o2, none⟩) gs.length c2] 33 (0, 0)) := by
    rw [hV]; exact kept (laid w _ _) (below_alloc' _ _)
  have R0 : V.heap[w.heap.size + 1]? = some (.cells #[.int .i64 0, .int .i64 0, .slice none 0 0, .slice none 0 0] 33 (0, 0)) := by
    rw [hV]
    have := laid (w.alloc (.cells #[.int .i64 long, .int .i64 size, .slice (some ⟨b1, o1, none⟩) ws.length c1, .slice (some ⟨b2, o2, none⟩) gs.length c2] 33)) #[.int .i64 0, .int .i64 0, .slice none 0 0, .slice none 0 0] 33
    rw [World.size_alloc'] at this
    exact this
  have B0 : Below w.heap.size w V := by rw [hV]; exact below2' w _ _
  have hVs : V.heap.size = w.heap.size + 2 := by rw [hV]; simp
  have XH : Hid (V.drew.heap[w.heap.size]? = some (.cells #[.int .i64 long, .int .i64 size, .slice (some ⟨b1, o1, none⟩) ws.length c1, .slice (some ⟨b2, o2, none⟩) gs.length c2] 33 (0, 0))) := hid X0
  have RH : Hid (V.drew.heap[w.heap.size + 1]? = some (.cells #[.int .i64 0, .int .i64 0, .slice none 0 0, .slice none 0 0] 33 (0, 0))) := hid R0
  have BH : Hid (Below w.heap.size w V.drew) := hid B0.drew
  have q2 := box_cell X0 2 (v := .slice (some ⟨b1, o1, none⟩) ws.length c1) rfl
  have q3 := box_cell X0 3 (v := .slice (some ⟨b2, o2, none⟩) gs.length c2) rfl
  have VS := hid hVs
  clear h1 h2 n1 n2 p1 p2 X0 R0 B0 hVs
  go_enter Tryz.func92, Tryz.ntmps92
  go_wp2_with fail
  rw [← hV]
  clear hV
  go_region_with (first
    | (go_at_call_of 102 (Value.slice (some ⟨b1, o1, none⟩) ws.length c1)
       refine (clone_ints b1 o1 c1 ws V.drew (fun i hi => (BH.out.cell (p := ⟨b1, o1 + i, none⟩) l1).trans (H1.out i hi)) N1.out).mono ?_
       rintro e w1 ⟨a1, d1, rfl, ow1, bw1⟩
       have O1 := hid ow1
       have X1 := hid (kept XH.out bw1)
       have R1 := hid (kept RH.out bw1)
       have B1 := hid (below_cat' BH.out bw1)
       have S1 := hid bw1.size
       clear ow1 bw1 q2
       have q3' := box_cell X1.out 3 (v := .slice (some ⟨b2, o2, none⟩) gs.length c2) rfl)
    | (go_at_call_of 102 (Value.slice (some ⟨b2, o2, none⟩) gs.length c2)
       refine (clone_ints b2 o2 c2 gs w1 (fun i hi => (B1.out.cell (p := ⟨b2, o2 + i, none⟩) l2).trans (H2.out i hi)) N2.out).mono ?_
       rintro e w2 ⟨a2, d2, rfl, ow2, bw2⟩
       have O2 := hid (owns_below O1.out bw2)
       have O3 := hid ow2
       have AP := hid (owns_apart O1.out ow2 (Nat.le_refl _))
       have X2 := hid (kept X1.out bw2)
       have R2 := hid (kept R1.out bw2)
       have B2 := hid (below_cat' B1.out bw2)
       clear ow2 bw2
       have x0 := box_cell X2.out 0 (v := .int .i64 long) rfl
       have x1 := box_cell X2.out 1 (v := .int .i64 size) rfl
       have x2 := box_cell X2.out 2 (v := .slice (some ⟨b1, o1, none⟩) ws.length c1) rfl
       have x3 := box_cell X2.out 3 (v := .slice (some ⟨b2, o2, none⟩) gs.length c2) rfl
       have y2 := box_frozen X2.out 2
       have y3 := box_frozen X2.out 3
       have r0 := box_cell R2.out 0 (v := .int .i64 0) rfl
       have r1 := box_cell R2.out 1 (v := .int .i64 0) rfl
       have r2 := box_cell R2.out 2 (v := .slice none 0 0) rfl
       have r3 := box_cell R2.out 3 (v := .slice none 0 0) rfl
       have z0 := box_frozen R2.out 0
       have z1 := box_frozen R2.out 1
       have z2 := box_frozen R2.out 2
       have z3 := box_frozen R2.out 3
       have lx := lt_of_block X2.out
       have lr := lt_of_block R2.out))
  all_goals go_wp2_with fail
  all_goals
    (have Y := set_block (set_block (set_block (set_block (set_other (g := w.heap.size) (set_other (g := w.heap.size) R2.out (by omega) 2 (.slice a1 ws.length d1)) (by omega) 3 (.slice a2 gs.length d2)) 0 (.int .i64 long)) 1 (.int .i64 size)) 2 (.slice a1 ws.length d1)) 3 (.slice a2 gs.length d2)
     have q0 := box_cell Y 0 (v := .int .i64 long) rfl
     have q1 := box_cell Y 1 (v := .int .i64 size) rfl
     have q2 := box_cell Y 2 (v := .slice a1 ws.length d1) rfl
     have q3 := box_cell Y 3 (v := .slice a2 gs.length d2) rfl
     have hs1 : w.heap.size + 2 ≤ w1.heap.size := by have h1 := S1.out; have h2 := VS.out; have h3 : V.drew.heap.size = V.heap.size := rfl; omega
     have hd : V.drew.heap.size = w.heap.size + 2 := VS.out
     refine bodyPost_ret (v := .agg #[.int .i64 long, .int .i64 size, .slice a1 ws.length d1, .slice a2 gs.length d2]) ?_ rfl ⟨_, rfl, ⟨_, _, rfl, ?_, ?_, AP.out⟩, ?_⟩
     · unfold results; rw [Tryz.results92]; simp [go_sem, q0, q1, q2, q3]
     · exact owns_base (owns_set (owns_set (owns_set (owns_set (owns_set (owns_set O2.out (by rw [hd]; simp) _) (by rw [hd]; simp) _) (by rw [hd]; simp) _) (by rw [hd]; simp) _) (by rw [hd]; simp) _) (by rw [hd]; simp) _) (by rw [hd]; simp)
     · exact owns_base (owns_set (owns_set (owns_set (owns_set (owns_set (owns_set O3.out (by simp; omega) _) (by simp; omega) _) (by simp; omega) _) (by simp; omega) _) (by simp; omega) _) (by simp; omega) _) (by omega)
     · exact below_set' (below_set' (below_set' (below_set' (below_set' (below_set' B2.out (by simp) _) (by simp) _) (by simp) _) (by simp) _) (by simp) _) (by simp) _)
end Go.Proofs.YtbakicgdloakgaaGreatDoor
namespace Go.Proofs.YtbakicgdloakgaaGreatDoor
open Go.ChangeShapes Go.WideShapes Go.ChangeAt Go.RowKit Go.Sort

/-- An operation that defers nothing. -/
def noDefer (o : Oper) : Bool := match o.op with | .defer _ => false | _ => true

theorem semAt_nd {o : Oper} (h : noDefer o = true) (ro : Option Nat) (ρ : Operand → Value) : o.semAt ro ρ = execOp ρ o :=
  Oper.semAt_eq _ _ _ (fun c hc => by simp [noDefer, hc] at h)

theorem inR_op {P : Program} {o : Oper} {a : Act} {w : World} {next : Act → World → Prop} {Q : Exit → Act → World → Prop} {l n : Nat} (hn : noDefer o = true) (h : o.wp P a w next Q) :
    o.wpIn (Fence.wide.inRound l) n P a w next Q := by
  unfold Oper.wpIn
  refine ⟨fun _ _ => trivial, ?_⟩
  rw [semAt_nd hn]
  unfold Oper.wp at h
  generalize (execOp a.eval o).run P w = r at *
  cases r with
  | ok x w' =>
    cases x <;> simp only [Oper.upon] at h <;> simp only [Oper.uponIn]
    case value v => exact h
    case skip => exact h
    case defer d => exact h
    case enter f args => exact ⟨fun hd => (by cases hd), (CallsIn.inRound l (callsIn_wide.2 h)).mono (fun e w'' he => by cases e <;> exact he)⟩
    case row row args =>
      refine ⟨fun hd => (by cases hd), fun c cs _ => ?_⟩
      obtain ⟨v, w'', r, s⟩ := h c cs
      exact ⟨v, w'', r, stepsIn_wide.2 s⟩
  | halt x w' => cases x <;> simp only [Oper.upon] at h <;> first | exact h | exact h.elim

theorem inR_any {P : Program} {md : Region.Mode} {ops : Array Oper} {Q : Exit → Act → World → Prop} {l n : Nat} (hQ : ¬ LetsOut Q) (hn : ∀ (i : Nat) (o : Oper), ops[i]? = some o → noDefer o = true) :
    ∀ (fuel : Nat) (listed : Array Bool) (a : Act) (w : World), wpAny P md ops Q fuel listed a w → wpAnyIn (Fence.wide.inRound l) n P md ops Q fuel listed a w
  | 0, _, _, _, h => h
  | fuel + 1, listed, a, w, h => by
    refine ⟨h.1, fun i hi => ?_⟩
    have h1 := h.2 i hi
    unfold wpOp at h1
    unfold wpOpIn
    cases ho : ops[i]? with
    | none => simp only [ho] at h1 ⊢; exact inR_any hQ hn fuel _ _ _ h1
    | some o =>
      simp only [ho] at h1 ⊢
      by_cases hw : Region.wanted o (yielded ops a.tmps) = true
      · simp only [hw, if_true] at h1 ⊢
        rcases h1 with h1 | ⟨_, h2⟩
        · exact inR_op (hn i o ho) (Oper.wp_mono (fun a w k => inR_any hQ hn fuel _ a w k) h1)
        · exact absurd h2 hQ
      · simp only [hw] at h1 ⊢
        exact ⟨fun _ _ => trivial, inR_any hQ hn fuel _ _ _ h1⟩

theorem nd_all {l : List Oper} (h : l.all noDefer = true) (i : Nat) (o : Oper) (hi : l.toArray[i]? = some o) : noDefer o = true :=
  List.all_eq_true.1 h o (List.mem_of_getElem? (by simpa using hi))

/-- In a round: walked once, in the order of the text, the callees laying memory of their own. -/
theorem inR_below {P : Program} {id : Nat} {Q : Exit → Act → World → Prop} {a : Act} {w : World} {l : List Oper} {r n : Nat} (hm : P.follows .mixedOrders = true) (hB : Region.lexB .any l.toArray = true) (hn : l.all noDefer = true) (hQ : ¬ LetsOut Q)
    (h : wpQuiet P l.toArray (fun w' => ∃ p : Regrown, w' = grow (redrawn w p.d) p.os) (fun a' => ∀ w', (∃ p : Regrown, w' = grow (redrawn w p.d) p.os) → Q .normal a' w') l a) : (Code.region id l.toArray true).wpIn (Fence.wide.inRound r) n P Q a w := by
  simp only [Region.lexB, Bool.and_eq_true] at hB
  refine wpIn_region_any hm (inR_any hQ (nd_all hn) _ _ _ _ (wpAny_of_quiet (C := fun w' => ∃ p : Regrown, w' = grow (redrawn w p.d) p.os) (Q := fun a' => ∀ w', (∃ p : Regrown, w' = grow (redrawn w p.d) p.os) → Q .normal a' w') (fun _ w' hw' h => h w' hw') _ _ _ _ ⟨⟨w.drawn + 1, #[]⟩, by rw [grow_empty]; rfl⟩ ?_))
  have := wpAnyQ_lex (P := P) (C := fun w' => ∃ p : Regrown, w' = grow (redrawn w p.d) p.os) (md := .any) hB.1 l 0 (Array.replicate l.toArray.size false) a (by simp) (by simpa using hB.2) h
  simpa using this
theorem own_blk {W W' : World} {row : Option Nat} {k : Nat} {c : Array Value} {t : TypeId} {z : Nat × Nat} (h : W.heap[k]? = some (.cells c t z)) (hg : W.grownBy W' row) {B : Nat} (hr : ∀ r, row = some r → B ≤ r ∧ ∃ o : Obj, W.heap[r]? = some o ∧ o.isCells = false) : W'.heap[k]? = some (.cells c t z) :=
  (grownBy_keeps_cells hg (fun r e => (hr r e).2) h rfl).trans h
theorem own_row {W W' : World} {row : Option Nat} {base : Nat} {e : TypeId} {size : Nat} {v : Value} {n : Nat} {xs : List Value} (h : W.ownsRow base e size v n xs) (hg : W.grownBy W' row) {B : Nat} (hr : ∀ r, row = some r → B ≤ r ∧ ∃ o : Obj, W.heap[r]? = some o ∧ o.isCells = false) : W'.ownsRow base e size v n xs := by
  obtain ⟨h1, h2⟩ := h
  refine ⟨h1, ?_⟩
  rcases h2 with h2 | ⟨g, cap, cur, hv, hg', hh, r⟩
  · exact Or.inl h2
  · exact Or.inr ⟨g, cap, cur, hv, hg', own_blk hh hg hr, r⟩
theorem keeps_below {W W' : World} (hb : Below W.heap.size W W') : KeepsOthers W W' := ⟨hb.size, fun k _ hk _ => (hb.block k (lt_of_block hk)).trans hk⟩
end Go.Proofs.YtbakicgdloakgaaGreatDoor
namespace Go.Proofs.YtbakicgdloakgaaGreatDoor
open Go.ChangeShapes Go.WideShapes Go.ChangeAt Go.RowKit Go.Sort

/-- The rest of the region, in a round, is walked plainly. -/
theorem class_of {w w' : World} (h : Below w.heap.size w w') : ∃ p : Regrown, w' = grow (redrawn w p.d) p.os := regrown_of_below h
theorem of_class {w w' : World} (h : ∃ p : Regrown, w' = grow (redrawn w p.d) p.os) : Below w.heap.size w w' := by
  obtain ⟨p, rfl⟩ := h
  exact below_regrown _ _ _
end Go.Proofs.YtbakicgdloakgaaGreatDoor
namespace Go.Proofs.YtbakicgdloakgaaGreatDoor
open Go.ChangeShapes Go.WideShapes Go.ChangeAt Go.RowKit Go.Sort

def ixs : List (Nat × Nat) → List Nat
  | [] => []
  | (s, n) :: ps => List.range' s n ++ ixs ps
def cutOut (l : List Oper) : List (Nat × Nat) → List Oper
  | [] => []
  | (s, n) :: ps => (l.drop s).take n ++ cutOut l ps
/-- Those places hold those operations. -/
def Lies (ops : Array Oper) : List Nat → List Oper → Prop
  | [], [] => True
  | i :: is, o :: l => ops[i]? = some o ∧ Lies ops is l
  | _, _ => False
theorem Lies.append {ops : Array Oper} : ∀ {is : List Nat} {l : List Oper} {js : List Nat} {m : List Oper}, Lies ops is l → Lies ops js m → Lies ops (is ++ js) (l ++ m)
  | [], [], _, _, _, h => h
  | _ :: _, _ :: _, _, _, h, k => ⟨h.1, h.2.append k⟩
  | [], _ :: _, _, _, h, _ => h.elim
  | _ :: _, [], _, _, h, _ => h.elim
theorem lies_range (l : List Oper) : ∀ (n s : Nat), s + n ≤ l.length → Lies l.toArray (List.range' s n) ((l.drop s).take n)
  | 0, s, _ => by simp [Lies]
  | n + 1, s, h => by
    have hs : s < l.length := by omega
    rw [List.range'_succ, List.drop_eq_getElem_cons hs, List.take_succ_cons]
    exact ⟨by simp [List.getElem?_eq_getElem hs], lies_range l n (s + 1) (by omega)⟩
theorem lies_cut (l : List Oper) : ∀ (ps : List (Nat × Nat)), ps.all (fun p => decide (p.1 + p.2 ≤ l.length)) = true → Lies l.toArray (ixs ps) (cutOut l ps)
  | [], _ => trivial
  | (s, n) :: ps, h => by
    simp only [List.all_cons, Bool.and_eq_true, decide_eq_true_eq] at h
    exact (lies_range l n s h.1).append (lies_cut l ps h.2)
theorem lies_len {ops : Array Oper} : ∀ {is : List Nat} {l : List Oper}, Lies ops is l → is.length = l.length
  | [], [], _ => rfl
  | _ :: _, _ :: _, h => by simp [lies_len h.2]
  | [], _ :: _, h => h.elim
  | _ :: _, [], h => h.elim

def frontL (md : Region.Mode) (ops : Array Oper) (L1 : Array Bool) : List Nat → Array Bool → Bool
  | [], listed => listed == L1
  | k :: is, listed => (Region.ready md ops listed).contains k && Region.free md ops listed k && frontL md ops L1 is (listed.setIfInBounds k true)
def backL (md : Region.Mode) (ops : Array Oper) : List Nat → Array Bool → Bool
  | [], listed => Region.ready md ops listed == []
  | k :: js, listed => Region.ready md ops listed == [k] && backL md ops js (listed.setIfInBounds k true)
/-- The first n are ahead of c, the others are not. -/
def ordB (c : Nat) : Nat → List Nat → Bool
  | 0, js => js.all (fun j => decide (c ≤ j))
  | _ + 1, [] => true
  | n + 1, j :: js => decide (j < c) && ordB c n js

section
variable {P : Program} {ops : Array Oper} {md : Region.Mode} {Q : Exit → Act → World → Prop} {C : World → Prop} {c : Nat}

theorem wpMid_lexL (hs : Region.noSelect ops = true) (hQ : ∀ c a d v w, Q (.panic c) (a.put d v) w → Q (.panic c) a w)
    {L1 : Array Bool} {b : Nat} {K : Act → Prop} (hK : ∀ a w, C w → K a → wpMid P md ops Q C c b L1 a w) :
    ∀ (is : List Nat) (l : List Oper) (listed : Array Bool) (a : Act) (w : World), Lies ops is l → (∀ i ∈ is, i < c ∧ ∀ j, c ≤ j → j < ops.size → behind md ops i ops.size j = true) →
      Shut md ops listed → C w → l.all readOp = true → frontL md ops L1 is listed = true → wpQuiet P ops C K l a → wpMid P md ops Q C c (l.length + b) listed a w
  | [], [], listed, a, w, _, _, _, hw, _, hB, h => by
    have e : listed = L1 := by simpa [frontL] using hB
    rw [e, List.length_nil, Nat.zero_add]
    exact hK a w hw h
  | k :: is, o :: l, listed, a, w, hl, hpost, hsh, hw, hp, hB, h => by
    have h0 : ops[k]? = some o := hl.1
    simp only [frontL, Bool.and_eq_true] at hB
    obtain ⟨⟨hr, hf⟩, hB'⟩ := hB
    simp only [List.all_cons, Bool.and_eq_true] at hp
    have hst : qOp P ops C k (wpQuiet P ops C K l) a := by unfold qOp; simp only [h0]; exact h
    obtain ⟨v, hy, hK'⟩ := yieldsIn_of_qOp h0 hst
    have hY : YieldsIf P ops C o v a := by
      rcases hy with ⟨h1, h2⟩ | h1
      · exact .inl ⟨h1, fun w' hw' => readOp_run hp.1 _ w' (h2 w' hw')⟩
      · exact .inr h1
    have hr' : k ∈ Region.ready md ops listed := by simpa using hr
    have hc := hpost k (List.mem_cons_self ..)
    rw [show (o :: l).length + b = (l.length + b) + 1 by simp; omega]
    exact wpMid_first h0 hs hQ hc.2 hc.1 _ listed a w hsh (Region.free_spec h0 hf) hr' hY hw
      (wpMid_lexL hs hQ hK is l _ _ w hl.2 (fun i hi => hpost i (List.mem_cons_of_mem _ hi)) (hsh.set hr') hw hp.2 hB' hK')
  | [], _ :: _, _, _, _, h, _, _, _, _, _, _ => h.elim
  | _ :: _, [], _, _, _, h, _, _, _, _, _, _ => h.elim

theorem wpMid_backL : ∀ (n : Nat) (js : List Nat) (l : List Oper) (listed : Array Bool) (a : Act) (w : World), Lies ops js l → ordB c n js = true →
    backL md ops js listed = true → wpRest P ops Q C n l a w → wpMid P md ops Q C c l.length listed a w
  | n, [], [], listed, a, w, _, _, hB, h => by
    refine ⟨by simpa [backL] using hB, ?_⟩
    cases n with
    | zero => exact h
    | succ n => exact h
  | 0, k :: js, o :: l, listed, a, w, hl, ho, hB, h => by
    have h0 : ops[k]? = some o := hl.1
    simp only [backL, Bool.and_eq_true, beq_iff_eq] at hB
    simp only [ordB, List.all_cons, Bool.and_eq_true, decide_eq_true_eq] at ho
    refine ⟨fun he => (by rw [hB.1] at he; cases he), fun i hi => ?_⟩
    rw [hB.1] at hi
    obtain rfl : i = k := by simpa using hi
    unfold wpOp
    simp only [h0]
    have h' : wpList P ops Q (o :: l) a w := h
    have go : ∀ a' w', wpList P ops Q l a' w' → (i < c → C w') ∧ wpMid P md ops Q C c l.length (listed.setIfInBounds i true) a' w' := fun a' w' h2 =>
      ⟨fun hc => by omega, wpMid_backL 0 js l _ a' w' hl.2 ho.2 hB.2 h2⟩
    unfold wpList at h'
    by_cases hw : Region.wanted o (yielded ops a.tmps) = true
    · simp only [hw, if_true] at h' ⊢
      exact h'.imp (Oper.wp_mono go) id
    · simp only [hw] at h' ⊢
      exact go _ _ h'
  | n + 1, k :: js, o :: l, listed, a, w, hl, ho, hB, h => by
    have h0 : ops[k]? = some o := hl.1
    simp only [backL, Bool.and_eq_true, beq_iff_eq] at hB
    simp only [ordB, Bool.and_eq_true, decide_eq_true_eq] at ho
    refine ⟨fun he => (by rw [hB.1] at he; cases he), fun i hi => ?_⟩
    rw [hB.1] at hi
    obtain rfl : i = k := by simpa using hi
    unfold wpOp
    simp only [h0]
    have go : ∀ a' w', (C w' ∧ wpRest P ops Q C n l a' w') → (i < c → C w') ∧ wpMid P md ops Q C c l.length (listed.setIfInBounds i true) a' w' := fun a' w' h2 =>
      ⟨fun _ => h2.1, wpMid_backL n js l _ a' w' hl.2 ho.2 hB.2 h2.2⟩
    unfold wpRest at h
    by_cases hw : Region.wanted o (yielded ops a.tmps) = true
    · simp only [hw, if_true] at h ⊢
      exact .inl (Oper.wp_mono go h)
    · simp only [hw] at h ⊢
      exact go _ _ h
  | _, [], _ :: _, _, _, _, h, _, _, _ => h.elim
  | 0, _ :: _, [], _, _, _, h, _, _, _ => h.elim
  | _ + 1, _ :: _, [], _, _, _, h, _, _, _ => h.elim
end

def pickB (l : List Oper) (c n : Nat) (ps qs : List (Nat × Nat)) : Bool :=
  ps.all (fun p => decide (p.1 + p.2 ≤ l.length)) && qs.all (fun p => decide (p.1 + p.2 ≤ l.length)) && ((ixs ps).length + (ixs qs).length == l.length) && Region.noSelect l.toArray &&
    frontL .any l.toArray ((ixs ps).foldl (fun b k => b.setIfInBounds k true) (Array.replicate l.length false)) (ixs ps) (Array.replicate l.length false) && (cutOut l ps).all readOp &&
    (ixs ps).all (fun i => decide (i < c) && (List.range' c (l.length - c)).all (fun j => behind .any l.toArray i l.length j)) &&
    backL .any l.toArray (ixs qs) ((ixs ps).foldl (fun b k => b.setIfInBounds k true) (Array.replicate l.length false)) && ordB c n (ixs qs)

theorem any_pick {P : Program} {C : World → Prop} {Q : Exit → Act → World → Prop} {a : Act} {w : World} {l : List Oper} (c n : Nat) (ps qs : List (Nat × Nat)) (hB : pickB l c n ps qs = true) (hQ : ∀ c a d v w, Q (.panic c) (a.put d v) w → Q (.panic c) a w) (hC : C w)
    (h : wpQuiet P l.toArray C (fun a' => ∀ w', C w' → wpRest P l.toArray Q C n (cutOut l qs) a' w') (cutOut l ps) a) : wpAny P .any l.toArray Q l.toArray.size (Array.replicate l.toArray.size false) a w := by
  simp only [pickB, Bool.and_eq_true, beq_iff_eq] at hB
  obtain ⟨⟨⟨⟨⟨⟨⟨⟨hp, hq⟩, hlen⟩, hs⟩, hf⟩, hrd⟩, hpost⟩, hb⟩, ho⟩ := hB
  have hlp := lies_cut l ps hp
  have hlq := lies_cut l qs hq
  have h1 := wpMid_lexL (P := P) (Q := Q) (C := C) (md := .any) (ops := l.toArray) (c := c) (b := (cutOut l qs).length) hs hQ (K := fun a' => ∀ w', C w' → wpRest P l.toArray Q C n (cutOut l qs) a' w')
    (fun a' w' hw' hK => wpMid_backL n (ixs qs) (cutOut l qs) _ a' w' hlq ho hb (hK w' hw'))
    (ixs ps) (cutOut l ps) (Array.replicate l.length false) a w hlp (fun i hi => by
      have h2 := List.all_eq_true.1 hpost i hi
      simp only [Bool.and_eq_true, decide_eq_true_eq] at h2
      refine ⟨h2.1, fun j hj hjl => ?_⟩
      have hjl' : j < l.length := by simpa using hjl
      have h3 := List.all_eq_true.1 h2.2 j (List.mem_range'_1.2 ⟨hj, by omega⟩)
      simpa using h3)
    (fun k o _ hk => by simp [Array.getElem?_replicate] at hk; split at hk <;> simp_all) hC hrd hf h
  have e : (cutOut l ps).length + (cutOut l qs).length = l.length := by rw [← lies_len hlp, ← lies_len hlq]; exact hlen
  rw [e] at h1
  have h2 := wpAny_of_wpMid _ _ _ _ h1
  simpa using h2
theorem wp_pick {P : Program} {id : Nat} {Q : Exit → Act → World → Prop} {a : Act} {w : World} {l : List Oper} (c n : Nat) (ps qs : List (Nat × Nat)) (hm : P.follows .mixedOrders = true) (hB : pickB l c n ps qs = true) (hQ : ∀ c a d v w, Q (.panic c) (a.put d v) w → Q (.panic c) a w)
    (h : wpQuiet P l.toArray (fun w' => ∃ p : Regrown, w' = grow (redrawn w p.d) p.os) (fun a' => ∀ w', (∃ p : Regrown, w' = grow (redrawn w p.d) p.os) → wpRest P l.toArray Q (fun w' => ∃ p : Regrown, w' = grow (redrawn w p.d) p.os) n (cutOut l qs) a' w') (cutOut l ps) a) : (Code.region id l.toArray true).wp P Q a w :=
  wp_region_any hm (any_pick (C := fun w' => ∃ p : Regrown, w' = grow (redrawn w p.d) p.os) c n ps qs hB hQ ⟨⟨w.drawn + 1, #[]⟩, by rw [grow_empty]; rfl⟩ h)
theorem inR_pick {P : Program} {id : Nat} {Q : Exit → Act → World → Prop} {a : Act} {w : World} {l : List Oper} {r n' : Nat} (c n : Nat) (ps qs : List (Nat × Nat)) (hm : P.follows .mixedOrders = true) (hB : pickB l c n ps qs = true) (hn : l.all noDefer = true) (hQ0 : ¬ LetsOut Q) (hQ : ∀ c a d v w, Q (.panic c) (a.put d v) w → Q (.panic c) a w)
    (h : wpQuiet P l.toArray (fun w' => ∃ p : Regrown, w' = grow (redrawn w p.d) p.os) (fun a' => ∀ w', (∃ p : Regrown, w' = grow (redrawn w p.d) p.os) → wpRest P l.toArray Q (fun w' => ∃ p : Regrown, w' = grow (redrawn w p.d) p.os) n (cutOut l qs) a' w') (cutOut l ps) a) : (Code.region id l.toArray true).wpIn (Fence.wide.inRound r) n' P Q a w :=
  wpIn_region_any hm (inR_any hQ0 (nd_all hn) _ _ _ _ (any_pick (C := fun w' => ∃ p : Regrown, w' = grow (redrawn w p.d) p.os) c n ps qs hB hQ ⟨⟨w.drawn + 1, #[]⟩, by rw [grow_empty]; rfl⟩ h))
end Go.Proofs.YtbakicgdloakgaaGreatDoor
namespace Go.Proofs.YtbakicgdloakgaaGreatDoor
open Go.ChangeShapes Go.WideShapes Go.ChangeAt Go.RowKit Go.Sort Go.Shelf

/-- But for some blocks nothing turns. -/
structure Spare (mine : Nat → Prop) (W W' : World) : Prop where
  os : W'.os = W.os
  tape : W'.tape = W.tape
  output : W'.output = W.output
  size : W.heap.size ≤ W'.heap.size
  same : ∀ k, k < W.heap.size → ¬ mine k → W'.heap[k]? = W.heap[k]?
theorem Spare.refl (m : Nat → Prop) (W : World) : Spare m W W := ⟨rfl, rfl, rfl, Nat.le_refl _, fun _ _ _ => rfl⟩
theorem Spare.trans {m : Nat → Prop} {A B C : World} (h : Spare m A B) (k : Spare m B C) : Spare m A C :=
  ⟨k.os.trans h.os, k.tape.trans h.tape, k.output.trans h.output, Nat.le_trans h.size k.size, fun j hj hm => (k.same j (Nat.lt_of_lt_of_le hj h.size) hm).trans (h.same j hj hm)⟩
theorem Spare.below {m : Nat → Prop} {A B : World} (h : Spare m A B) {n : Nat} (hn : n ≤ A.heap.size) (hm : ∀ k, m k → n ≤ k) : Below n A B :=
  ⟨h.os, h.tape, h.output, h.size, fun k hk => h.same k (by omega) (fun x => by have := hm k x; omega)⟩
theorem Spare.setCell {m : Nat → Prop} (W : World) {g : Nat} (hg : m g) (i : Nat) (v : Value) : Spare m W (W.setCell ⟨g, i, none⟩ v) :=
  ⟨rfl, rfl, rfl, by show W.heap.size ≤ (W.heap.modify _ _).size; rw [Array.size_modify]; exact Nat.le_refl _, fun k _ hn => Below.heap_setCell W ⟨g, i, none⟩ v k (fun e => hn (by rw [e]; exact hg))⟩
end Go.Proofs.YtbakicgdloakgaaGreatDoor
