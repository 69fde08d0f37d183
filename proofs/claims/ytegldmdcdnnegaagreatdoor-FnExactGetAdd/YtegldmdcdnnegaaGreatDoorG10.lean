/- What is in just one of two rows: the model's and the program's. Texts and their bytes. A region that draws its order: reads in an order of our own, then calls that lay memory, then stores: walked once. -/
import Derived.Test.YtegldmdcdnnegaaGreatDoorG2
import Derived.Test.YtegldmdcdnnegaaGreatDoorG7
import Derived.Laws.BitsAllLaws
import Derived.Test.YtegldmdcdnnegaaGreatDoorG6
namespace Go.Proofs.YtegldmdcdnnegaaGreatDoor
open Go.ChangeShapes Go.WideShapes Go.ChangeAt Go.RowKit

theorem drop_cons {xs : List Int} {k : Nat} (h : k < xs.length) : xs.drop k = xs.getD k 0 :: xs.drop (k + 1) := by rw [List.drop_eq_getElem_cons h, getD_eq h]
theorem setI_small {xs : List Int} (h : ascB (-1) 24 xs = true) : setI xs < 16777216 := by
  have : ∀ k, k ≤ xs.length → setI (xs.take k) < 16777216 := by
    intro k
    induction k with
    | zero => intro _; simp [setI]
    | succ k ih =>
      intro hk
      rw [setI_snoc xs k hk]
      have := asc_mem h (x := xs.getD k 0) (by rw [getD_eq hk]; exact List.getElem_mem hk)
      exact setI_lt _ _ (ih (by omega)) (by omega)
  have h2 := this xs.length (Nat.le_refl _)
  rwa [List.take_length] at h2

theorem xorM_left (a : List Int) : xorM [] a = a := by simp [xorM]

set_option maxHeartbeats 4000000 in
set_option maxRecDepth 100000 in
theorem l2Xor_any (a b : Option Addr) (ca cb : Nat) (xs ys : List Int) (w : World) (ha : IntsAt w a xs) (hb : IntsAt w b ys) (hx : xs.length ≤ 1048576) (hy : ys.length ≤ 1048576) :
    Calls Tryz.prog 40 #[.slice a xs.length ca, .slice b ys.length cb] w fun e w' => ∃ v, e = .returned v ∧ w'.ownsRow w.heap.size 3 1 v (xorM xs ys).length ((xorM xs ys).map (Value.int .i64)) ∧ Below w.heap.size w w' := by
  obtain ⟨i0, hi, hz0, hz1, hz2⟩ := info_parts Tryz.info3
  go_enter Tryz.func40, Tryz.ntmps40
  go_wp2
  go_loopw [5, 6, 7] (fun v i j wr => ∃ (k l : Nat) (out : List Int), i = .int .i64 k ∧ j = .int .i64 l ∧ k ≤ xs.length ∧ l ≤ ys.length ∧ out.length ≤ k + l ∧ out ++ xorM (xs.drop k) (ys.drop l) = xorM xs ys ∧ wr.ownsRow w.heap.size 3 1 v out.length (out.map (Value.int .i64)) ∧ Below w.heap.size w wr) (fun _ i j _ => xs.length - (intOf i).toNat + (ys.length - (intOf j).toNat))
  case atStart => exact ⟨0, 0, [], rfl, rfl, Nat.zero_le _, Nat.zero_le _, Nat.zero_le _, rfl, World.ownsRow_lit w #[] 0 (Nat.le_refl _) (Nat.zero_le _) rfl, (Below.refl _ _).alloc (Nat.le_refl _) _⟩
  case round =>
    obtain ⟨k, l, out, rfl, rfl, hk, hl, hol, he, hown, hnx⟩ := hrel
    have hsz := hnx.size
    have HE := hid he
    clear he
    by_cases hkx : k < xs.length
    · obtain ⟨b1, o1, rfl, i1⟩ := ha (by intro h; simp [h] at hkx)
      have c1 := (hnx.cell (p := ⟨b1, o1 + k, none⟩) (block_lt_of_cell (i1 k hkx))).trans (i1 k hkx)
      have d1 := drop_cons hkx
      obtain ⟨X, hX⟩ : ∃ X, X = xs.getD k 0 := ⟨_, rfl⟩
      rw [← hX] at c1 d1
      have D1 := hid d1
      clear d1 hX i1
      by_cases hly : l < ys.length
      · obtain ⟨b2, o2, rfl, i2⟩ := hb (by intro h; simp [h] at hly)
        have c2 := (hnx.cell (p := ⟨b2, o2 + l, none⟩) (block_lt_of_cell (i2 l hly))).trans (i2 l hly)
        have d2 := drop_cons hly
        obtain ⟨Y, hY⟩ : ∃ Y, Y = ys.getD l 0 := ⟨_, rfl⟩
        rw [← hY] at c2 d2
        have D2 := hid d2
        clear d2 hY i2
        have g1 : decide ((ys.length : Int) ≤ (l : Int)) = false := by simp; omega
        have g2 : decide ((xs.length : Int) ≤ (k : Int)) = false := by simp; omega
        rcases Int.lt_trichotomy X Y with h | h | h
        · have t1 : decide (X < Y) = true := by simp; omega
          go_wp2
          go_quiet (fail)
          go_wp2_with (at_builtin; refine append_one 22 3 i0 _ 8 Tryz.underlying22 hi hz0 hz1 hz2 rfl _ _ rfl rfl rfl rfl rfl rfl (owns_below hown (below_drewN (Below.refl _ _) _)) hsz (by omega) (by omega) ?_; intro v' w1 hown1 hb1)
          go_roundw
          case rel =>
            refine ⟨k + 1, l, out ++ [X], by go_num, by go_num, by omega, by omega, by rw [List.length_append]; simp; omega, ?_, by rw [List.length_append, List.map_append]; exact hown1, (below_drewN hnx _).trans hb1⟩
            rw [← HE.out, D1.out, D2.out, xorM_lt h, List.append_assoc]
            rfl
          case measure => simp [intOf]; omega
        · subst h
          have t1 : decide (X < X) = false := by simp
          go_wp2
          go_quiet (fail)
          go_wp2
          go_quiet (fail)
          go_wp2
          go_roundw
          case rel =>
            refine ⟨k + 1, l + 1, out, by go_num, by go_num, by omega, by omega, by omega, ?_, owns_below hown (below_drewN (Below.refl _ _) _), below_drewN hnx _⟩
            rw [← HE.out, D1.out, D2.out, xorM_eq]
          case measure => simp [intOf]; omega
        · have t1 : decide (X < Y) = false := by simp; omega
          have t2 : decide (Y < X) = true := by simp; omega
          go_wp2
          go_quiet (fail)
          go_wp2
          go_quiet (fail)
          go_wp2_with (at_builtin; refine append_one 22 3 i0 _ 8 Tryz.underlying22 hi hz0 hz1 hz2 rfl _ _ rfl rfl rfl rfl rfl rfl (owns_below hown (below_drewN (Below.refl _ _) _)) hsz (by omega) (by omega) ?_; intro v' w1 hown1 hb1)
          go_roundw
          case rel =>
            refine ⟨k, l + 1, out ++ [Y], by go_num, by go_num, by omega, by omega, by rw [List.length_append]; simp; omega, ?_, by rw [List.length_append, List.map_append]; exact hown1, (below_drewN hnx _).trans hb1⟩
            rw [← HE.out, D1.out, D2.out, xorM_gt h, List.append_assoc]
            rfl
          case measure => simp [intOf]; omega
      · have hn : ys.drop l = [] := List.drop_eq_nil_of_le (by omega)
        have g1 : (ys.length : Int) ≤ (l : Int) := by omega
        have g1' : decide (ys.length ≤ l) = true := by simp; omega
        have DN := hid hn
        clear hn
        go_wp2
        go_quiet (fail)
        go_wp2_with (at_builtin; refine append_one 22 3 i0 _ 8 Tryz.underlying22 hi hz0 hz1 hz2 rfl _ _ rfl rfl rfl rfl rfl rfl (owns_below hown (below_drewN (Below.refl _ _) _)) hsz (by omega) (by omega) ?_; intro v' w1 hown1 hb1)
        go_roundw
        case rel =>
          refine ⟨k + 1, l, out ++ [X], by go_num, by go_num, by omega, by omega, by rw [List.length_append]; simp; omega, ?_, by rw [List.length_append, List.map_append]; exact hown1, (below_drewN hnx _).trans hb1⟩
          rw [← HE.out, D1.out, DN.out, xorM_nil, xorM_nil, List.append_assoc]
          rfl
        case measure => simp [intOf]; omega
    · have hk2 : xs.drop k = [] := List.drop_eq_nil_of_le (by omega)
      have g2 : (xs.length : Int) ≤ (k : Int) := by omega
      have g2' : decide (xs.length ≤ k) = true := by simp; omega
      have DK := hid hk2
      clear hk2
      by_cases hly : l < ys.length
      · obtain ⟨b2, o2, rfl, i2⟩ := hb (by intro h; simp [h] at hly)
        have c2 := (hnx.cell (p := ⟨b2, o2 + l, none⟩) (block_lt_of_cell (i2 l hly))).trans (i2 l hly)
        have d2 := drop_cons hly
        obtain ⟨Y, hY⟩ : ∃ Y, Y = ys.getD l 0 := ⟨_, rfl⟩
        rw [← hY] at c2 d2
        have D2 := hid d2
        clear d2 hY i2
        have g1 : decide (ys.length ≤ l) = false := by simp; omega
        have g3 : decide (k < xs.length) = false := by simp; omega
        go_wp2
        go_quiet (fail)
        go_wp2
        go_quiet (fail)
        go_wp2_with (at_builtin; refine append_one 22 3 i0 _ 8 Tryz.underlying22 hi hz0 hz1 hz2 rfl _ _ rfl rfl rfl rfl rfl rfl (owns_below hown (below_drewN (Below.refl _ _) _)) hsz (by omega) (by omega) ?_; intro v' w1 hown1 hb1)
        go_roundw
        case rel =>
          refine ⟨k, l + 1, out ++ [Y], by go_num, by go_num, by omega, by omega, by rw [List.length_append]; simp; omega, ?_, by rw [List.length_append, List.map_append]; exact hown1, (below_drewN hnx _).trans hb1⟩
          rw [← HE.out, DK.out, D2.out, xorM_left, xorM_left, List.append_assoc]
          rfl
        case measure => simp [intOf]; omega
      · have hl2 : ys.drop l = [] := List.drop_eq_nil_of_le (by omega)
        have DL := hid hl2
        have HW := hid hown
        clear hl2 hown
        go_wp2
        go_ret
        refine ⟨_, rfl, ?_, hnx⟩
        have e : xorM xs ys = out := by rw [← HE.out, DK.out, DL.out, xorM_nil, List.append_nil]
        rw [e]
        exact HW.out
end Go.Proofs.YtegldmdcdnnegaaGreatDoor
namespace Go.Proofs.YtegldmdcdnnegaaGreatDoor
open Go.ChangeShapes Go.WideShapes Go.ChangeAt Go.RowKit

theorem xor_bd (x y : Int) : 0 ≤ bits .xor .u8 x y ∧ bits .xor .u8 x y ≤ 255 := by
  have h : bits .xor .u8 x y = IntKind.u8.wrap ((BitVec.ofInt 8 x ^^^ BitVec.ofInt 8 y).toNat : Int) := rfl
  rw [h, IntKind.wrap_u8']
  omega
def BytesL (xs : List Int) : Prop := ∀ x ∈ xs, 0 ≤ x ∧ x ≤ 255
theorem xorL_bytes (xs ys : List Int) : BytesL (xorL xs ys) := by
  intro x hx
  unfold xorL at hx
  rw [List.zipWith_eq_zipWith_take_min] at hx
  obtain ⟨i, hi, rfl⟩ := List.getElem_of_mem hx
  rw [List.getElem_zipWith]
  exact xor_bd _ _
theorem nums_str {xs : List Int} (h : BytesL xs) : nums (strOfNums xs) = xs := by
  unfold nums
  rw [strOfNums_data, List.map_map]
  conv => rhs; rw [← List.map_id xs]
  apply List.map_congr_left
  intro x hx
  have := h x hx
  simp
  omega
theorem str_size (xs : List Int) : (strOfNums xs).size = xs.length := strOfNums_size xs
theorem nums_bytes (s : ByteArray) : BytesL (nums s) := by
  intro x hx
  unfold nums at hx
  obtain ⟨c, -, rfl⟩ := List.mem_map.1 hx
  have := c.toNat_lt
  omega
end Go.Proofs.YtegldmdcdnnegaaGreatDoor
namespace Go.Proofs.YtegldmdcdnnegaaGreatDoor
open Go.ChangeShapes Go.WideShapes Go.ChangeAt Go.RowKit Go.Sort

def ixs : List (Nat × Nat) → List Nat
  | [] => []
  | (s, n) :: ps => List.range' s n ++ ixs ps
def cutOut (l : List Oper) : List (Nat × Nat) → List Oper
  | [] => []
  | (s, n) :: ps => (l.drop s).take n ++ cutOut l ps
/-- Those places hold those operations. -/
def Lies (ops : Array Oper) : List Nat → List Oper → Prop
  | [], [] => True
  | i :: is, o :: l => ops[i]? = some o ∧ Lies ops is l
  | _, _ => False
theorem Lies.append {ops : Array Oper} : ∀ {is : List Nat} {l : List Oper} {js : List Nat} {m : List Oper}, Lies ops is l → Lies ops js m → Lies ops (is ++ js) (l ++ m)
  | [], [], _, _, _, h => h
  | _ :: _, _ :: _, _, _, h, k => ⟨h.1, h.2.append k⟩
  | [], _ :: _, _, _, h, _ => h.elim
  | _ :: _, [], _, _, h, _ => h.elim
theorem lies_range (l : List Oper) : ∀ (n s : Nat), s + n ≤ l.length → Lies l.toArray (List.range' s n) ((l.drop s).take n)
  | 0, s, _ => by simp [Lies]
  | n + 1, s, h => by
    have hs : s < l.length := by omega
    rw [List.range'_succ, List.drop_eq_getElem_cons hs, List.take_succ_cons]
    exact ⟨by simp [List.getElem?_eq_getElem hs], lies_range l n (s + 1) (by omega)⟩
theorem lies_cut (l : List Oper) : ∀ (ps : List (Nat × Nat)), ps.all (fun p => decide (p.1 + p.2 ≤ l.length)) = true → Lies l.toArray (ixs ps) (cutOut l ps)
  | [], _ => trivial
  | (s, n) :: ps, h => by
    simp only [List.all_cons, Bool.and_eq_true, decide_eq_true_eq] at h
    exact (lies_range l n s h.1).append (lies_cut l ps h.2)
theorem lies_len {ops : Array Oper} : ∀ {is : List Nat} {l : List Oper}, Lies ops is l → is.length = l.length
  | [], [], _ => rfl
  | _ :: _, _ :: _, h => by simp [lies_len h.2]
  | [], _ :: _, h => h.elim
  | _ :: _, [], h => h.elim

def frontL (md : Region.Mode) (ops : Array Oper) (L1 : Array Bool) : List Nat → Array Bool → Bool
  | [], listed => listed == L1
  | k :: is, listed => (Region.ready md ops listed).contains k && Region.free md ops listed k && frontL md ops L1 is (listed.setIfInBounds k true)
def backL (md : Region.Mode) (ops : Array Oper) : List Nat → Array Bool → Bool
  | [], listed => Region.ready md ops listed == []
  | k :: js, listed => Region.ready md ops listed == [k] && backL md ops js (listed.setIfInBounds k true)
/-- The first n are ahead of c, the others are not. -/
def ordB (c : Nat) : Nat → List Nat → Bool
  | 0, js => js.all (fun j => decide (c ≤ j))
  | _ + 1, [] => true
  | n + 1, j :: js => decide (j < c) && ordB c n js

section
variable {P : Program} {ops : Array Oper} {md : Region.Mode} {Q : Exit → Act → World → Prop} {C : World → Prop} {c : Nat}

theorem wpMid_lexL (hs : Region.noSelect ops = true) (hQ : ∀ c a d v w, Q (.panic c) (a.put d v) w → Q (.panic c) a w)
    {L1 : Array Bool} {b : Nat} {K : Act → Prop} (hK : ∀ a w, C w → K a → wpMid P md ops Q C c b L1 a w) :
    ∀ (is : List Nat) (l : List Oper) (listed : Array Bool) (a : Act) (w : World), Lies ops is l → (∀ i ∈ is, i < c ∧ ∀ j, c ≤ j → j < ops.size → behind md ops i ops.size j = true) →
      Shut md ops listed → C w → l.all readOp = true → frontL md ops L1 is listed = true → wpQuiet P ops C K l a → wpMid P md ops Q C c (l.length + b) listed a w
  | [], [], listed, a, w, _, _, _, hw, _, hB, h => by
    have e : listed = L1 := by simpa [frontL] using hB
    rw [e, List.length_nil, Nat.zero_add]
    exact hK a w hw h
  | k :: is, o :: l, listed, a, w, hl, hpost, hsh, hw, hp, hB, h => by
    have h0 : ops[k]? = some o := hl.1
    simp only [frontL, Bool.and_eq_true] at hB
    obtain ⟨⟨hr, hf⟩, hB'⟩ := hB
    simp only [List.all_cons, Bool.and_eq_true] at hp
    have hst : qOp P ops C k (wpQuiet P ops C K l) a := by unfold qOp; simp only [h0]; exact h
    obtain ⟨v, hy, hK'⟩ := yieldsIn_of_qOp h0 hst
    have hY : YieldsIf P ops C o v a := by
      rcases hy with ⟨h1, h2⟩ | h1
      · exact .inl ⟨h1, fun w' hw' => readOp_run hp.1 _ w' (h2 w' hw')⟩
      · exact .inr h1
    have hr' : k ∈ Region.ready md ops listed := by simpa using hr
    have hc := hpost k (List.mem_cons_self ..)
    rw [show (o :: l).length + b = (l.length + b) + 1 by simp; omega]
    exact wpMid_first h0 hs hQ hc.2 hc.1 _ listed a w hsh (Region.free_spec h0 hf) hr' hY hw
      (wpMid_lexL hs hQ hK is l _ _ w hl.2 (fun i hi => hpost i (List.mem_cons_of_mem _ hi)) (hsh.set hr') hw hp.2 hB' hK')
  | [], _ :: _, _, _, _, h, _, _, _, _, _, _ => h.elim
  | _ :: _, [], _, _, _, h, _, _, _, _, _, _ => h.elim

theorem wpMid_backL : ∀ (n : Nat) (js : List Nat) (l : List Oper) (listed : Array Bool) (a : Act) (w : World), Lies ops js l → ordB c n js = true →
    backL md ops js listed = true → wpRest P ops Q C n l a w → wpMid P md ops Q C c l.length listed a w
  | n, [], [], listed, a, w, _, _, hB, h => by
    refine ⟨by simpa [backL] using hB, ?_⟩
    cases n with
    | zero => exact h
    | succ n => exact h
  | 0, k :: js, o :: l, listed, a, w, hl, ho, hB, h => by
    have h0 : ops[k]? = some o := hl.1
    simp only [backL, Bool.and_eq_true, beq_iff_eq] at hB
    simp only [ordB, List.all_cons, Bool.and_eq_true, decide_eq_true_eq] at ho
    refine ⟨fun he => (by rw [hB.1] at he; cases he), fun i hi => ?_⟩
    rw [hB.1] at hi
    obtain rfl : i = k := by simpa using hi
    unfold wpOp
    simp only [h0]
    have h' : wpList P ops Q (o :: l) a w := h
    have go : ∀ a' w', wpList P ops Q l a' w' → (i < c → C w') ∧ wpMid P md ops Q C c l.length (listed.setIfInBounds i true) a' w' := fun a' w' h2 =>
      ⟨fun hc => by omega, wpMid_backL 0 js l _ a' w' hl.2 ho.2 hB.2 h2⟩
    unfold wpList at h'
    by_cases hw : Region.wanted o (yielded ops a.tmps) = true
    · simp only [hw, if_true] at h' ⊢
      exact h'.imp (Oper.wp_mono go) id
    · simp only [hw] at h' ⊢
      exact go _ _ h'
  | n + 1, k :: js, o :: l, listed, a, w, hl, ho, hB, h => by
    have h0 : ops[k]? = some o := hl.1
    simp only [backL, Bool.and_eq_true, beq_iff_eq] at hB
    simp only [ordB, Bool.and_eq_true, decide_eq_true_eq] at ho
    refine ⟨fun he => (by rw [hB.1] at he; cases he), fun i hi => ?_⟩
    rw [hB.1] at hi
    obtain rfl : i = k := by simpa using hi
    unfold wpOp
    simp only [h0]
    have go : ∀ a' w', (C w' ∧ wpRest P ops Q C n l a' w') → (i < c → C w') ∧ wpMid P md ops Q C c l.length (listed.setIfInBounds i true) a' w' := fun a' w' h2 =>
      ⟨fun _ => h2.1, wpMid_backL n js l _ a' w' hl.2 ho.2 hB.2 h2.2⟩
    unfold wpRest at h
    by_cases hw : Region.wanted o (yielded ops a.tmps) = true
    · simp only [hw, if_true] at h ⊢
      exact .inl (Oper.wp_mono go h)
    · simp only [hw] at h ⊢
      exact go _ _ h
  | _, [], _ :: _, _, _, _, h, _, _, _ => h.elim
  | 0, _ :: _, [], _, _, _, h, _, _, _ => h.elim
  | _ + 1, _ :: _, [], _, _, _, h, _, _, _ => h.elim
end

def pickB (l : List Oper) (c n : Nat) (ps qs : List (Nat × Nat)) : Bool :=
  ps.all (fun p => decide (p.1 + p.2 ≤ l.length)) && qs.all (fun p => decide (p.1 + p.2 ≤ l.length)) && ((ixs ps).length + (ixs qs).length == l.length) && Region.noSelect l.toArray &&
    frontL .any l.toArray ((ixs ps).foldl (fun b k => b.setIfInBounds k true) (Array.replicate l.length false)) (ixs ps) (Array.replicate l.length false) && (cutOut l ps).all readOp &&
    (ixs ps).all (fun i => decide (i < c) && (List.range' c (l.length - c)).all (fun j => behind .any l.toArray i l.length j)) &&
    backL .any l.toArray (ixs qs) ((ixs ps).foldl (fun b k => b.setIfInBounds k true) (Array.replicate l.length false)) && ordB c n (ixs qs)

theorem any_pick {P : Program} {C : World → Prop} {Q : Exit → Act → World → Prop} {a : Act} {w : World} {l : List Oper} (c n : Nat) (ps qs : List (Nat × Nat)) (hB : pickB l c n ps qs = true) (hQ : ∀ c a d v w, Q (.panic c) (a.put d v) w → Q (.panic c) a w) (hC : C w)
    (h : wpQuiet P l.toArray C (fun a' => ∀ w', C w' → wpRest P l.toArray Q C n (cutOut l qs) a' w') (cutOut l ps) a) : wpAny P .any l.toArray Q l.toArray.size (Array.replicate l.toArray.size false) a w := by
  simp only [pickB, Bool.and_eq_true, beq_iff_eq] at hB
  obtain ⟨⟨⟨⟨⟨⟨⟨⟨hp, hq⟩, hlen⟩, hs⟩, hf⟩, hrd⟩, hpost⟩, hb⟩, ho⟩ := hB
  have hlp := lies_cut l ps hp
  have hlq := lies_cut l qs hq
  have h1 := wpMid_lexL (P := P) (Q := Q) (C := C) (md := .any) (ops := l.toArray) (c := c) (b := (cutOut l qs).length) hs hQ (K := fun a' => ∀ w', C w' → wpRest P l.toArray Q C n (cutOut l qs) a' w')
    (fun a' w' hw' hK => wpMid_backL n (ixs qs) (cutOut l qs) _ a' w' hlq ho hb (hK w' hw'))
    (ixs ps) (cutOut l ps) (Array.replicate l.length false) a w hlp (fun i hi => by
      have h2 := List.all_eq_true.1 hpost i hi
      simp only [Bool.and_eq_true, decide_eq_true_eq] at h2
      refine ⟨h2.1, fun j hj hjl => ?_⟩
      have hjl' : j < l.length := by simpa using hjl
      have h3 := List.all_eq_true.1 h2.2 j (List.mem_range'_1.2 ⟨hj, by omega⟩)
      simpa using h3)
    (fun k o _ hk => by simp [Array.getElem?_replicate] at hk; split at hk <;> simp_all) hC hrd hf h
  have e : (cutOut l ps).length + (cutOut l qs).length = l.length := by rw [← lies_len hlp, ← lies_len hlq]; exact hlen
  rw [e] at h1
  have h2 := wpAny_of_wpMid _ _ _ _ h1
  simpa using h2
theorem wp_pick {P : Program} {id : Nat} {Q : Exit → Act → World → Prop} {a : Act} {w : World} {l : List Oper} (c n : Nat) (ps qs : List (Nat × Nat)) (hm : P.follows .mixedOrders = true) (hB : pickB l c n ps qs = true) (hQ : ∀ c a d v w, Q (.panic c) (a.put d v) w → Q (.panic c) a w)
    (h : wpQuiet P l.toArray (fun w' => ∃ p : Regrown, w' = grow (redrawn w p.d) p.os) (fun a' => ∀ w', (∃ p : Regrown, w' = grow (redrawn w p.d) p.os) → wpRest P l.toArray Q (fun w' => ∃ p : Regrown, w' = grow (redrawn w p.d) p.os) n (cutOut l qs) a' w') (cutOut l ps) a) : (Code.region id l.toArray true).wp P Q a w :=
  wp_region_any hm (any_pick (C := fun w' => ∃ p : Regrown, w' = grow (redrawn w p.d) p.os) c n ps qs hB hQ ⟨⟨w.drawn + 1, #[]⟩, by rw [grow_empty]; rfl⟩ h)
theorem inR_pick {P : Program} {id : Nat} {Q : Exit → Act → World → Prop} {a : Act} {w : World} {l : List Oper} {r n' : Nat} (c n : Nat) (ps qs : List (Nat × Nat)) (hm : P.follows .mixedOrders = true) (hB : pickB l c n ps qs = true) (hn : l.all noDefer = true) (hQ0 : ¬ LetsOut Q) (hQ : ∀ c a d v w, Q (.panic c) (a.put d v) w → Q (.panic c) a w)
    (h : wpQuiet P l.toArray (fun w' => ∃ p : Regrown, w' = grow (redrawn w p.d) p.os) (fun a' => ∀ w', (∃ p : Regrown, w' = grow (redrawn w p.d) p.os) → wpRest P l.toArray Q (fun w' => ∃ p : Regrown, w' = grow (redrawn w p.d) p.os) n (cutOut l qs) a' w') (cutOut l ps) a) : (Code.region id l.toArray true).wpIn (Fence.wide.inRound r) n' P Q a w :=
  wpIn_region_any hm (inR_any hQ0 (nd_all hn) _ _ _ _ (any_pick (C := fun w' => ∃ p : Regrown, w' = grow (redrawn w p.d) p.os) c n ps qs hB hQ ⟨⟨w.drawn + 1, #[]⟩, by rw [grow_empty]; rfl⟩ h))
end Go.Proofs.YtegldmdcdnnegaaGreatDoor
