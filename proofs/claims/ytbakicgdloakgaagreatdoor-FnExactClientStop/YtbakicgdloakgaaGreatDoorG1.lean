/- Rows of ints in the laws: held against each other, marked, held again. A copy of ints, as the laws make it. Rows of ints in the laws: held against each other, marked, held again. The number of blocks by a part: the program's and the model's. A region that draws its order, whose callees make memory of their own and turn nothing: walked once, in the order of the text. Small words on worlds of which the older part stays. A region that draws its order: first reads and calls in any order, then, behind all of them, the stores in order: walked once. An append of one thing of several cells. A text that is not empty. Rows: what is one, by the program. Words: what is ok by the program. A client that wants nothing: the same, marked, held, as the laws do it. -/
import Derived.Test.YtbakicgdloakgaaGreatDoorG0
import Derived.Lib.QuietBelow
import Derived.Laws.BitsAllLaws
namespace Go.Proofs.YtbakicgdloakgaaGreatDoor
open Go.ChangeShapes Go.WideShapes Go.ChangeAt Go.RowKit

/-- Numbers from k on. -/
def marks (k : Int) (n : Nat) : List Int := (List.range n).map fun (i : Nat) => k + (i : Int)
theorem marks_len (k : Int) (n : Nat) : (marks k n).length = n := by simp [marks]
theorem marks_at (k : Int) (n i : Nat) (h : i < n) : (marks k n).getD i 0 = k + i := by simp [marks, List.getD, h]
theorem marks_set (k : Int) (i : Nat) (xs : List Int) (h : i < xs.length) : (marks k i ++ xs.drop i).set i (k + i) = marks k (i + 1) ++ xs.drop (i + 1) := by
  rw [List.set_append_right _ _ (by rw [marks_len]; exact Nat.le_refl _), marks_len, Nat.sub_self, List.drop_eq_getElem_cons h, List.set_cons_zero]
  simp [marks, List.range_succ]
set_option maxRecDepth 100000 in
set_option maxHeartbeats 1000000 in
theorem markIntS_any (base : Nat) (v : Value) (n : Nat) (xs : List Int) (k : Int) (w : World) (hown : w.ownsRow base 3 1 v n (xs.map (Value.int .i64))) (hn : n ≤ 1152921504606846976) (hk0 : 0 ≤ k) (hk : k ≤ 1152921504606846976) :
    Calls Tryz.prog 81 #[v, .int .i64 k] w fun e w' => e = .returned (.int .i64 (k + n)) ∧ w'.ownsRow base 3 1 v n ((marks k n).map (Value.int .i64)) ∧ w.grownBy w' v.ownBlock := by
  have hl : xs.length = n := by simpa using hown.1
  rcases Nat.eq_zero_or_pos n with h0 | h0
  · subst h0
    obtain ⟨a, cap, rfl⟩ := owns_slice hown
    have hx : xs = [] := List.eq_nil_of_length_eq_zero hl
    subst hx
    have HO : Hid (w.ownsRow base 3 1 (.slice a 0 cap) 0 ((marks k 0).map (Value.int .i64))) := hown
    clear hown hl
    go_enter Tryz.func81, Tryz.ntmps81
    go_wp2
    refine wp_loop_rounds 1 ?_
    rw [rounds_succ]
    go_wp2
    go_ret
    exact ⟨ret_int (by simp), HO.out, ⟨rfl, rfl, rfl, Nat.le_refl _, fun _ _ _ => rfl⟩⟩
  · obtain ⟨g, cap, rfl, hg⟩ := owns_shape hown (by intro e; simp at e; rw [e] at hl; simp at hl; omega)
    have HL : Hid _ := hl
    have HO : Hid _ := hown
    clear hown hl
    go_enter Tryz.func81, Tryz.ntmps81
    go_wp2
    go_loopw [1, 5] (fun q i wr => ∃ j : Nat, j ≤ n ∧ i = .int .i64 j ∧ q = .int .i64 (k + j) ∧ wr.ownsRow base 3 1 (.slice (some ⟨g, 0, none⟩) n cap) n ((marks k j ++ xs.drop j).map (Value.int .i64)) ∧ w.grownBy wr (some g)) (fun _ i _ => n - (intOf i).toNat)
    case atStart => exact ⟨0, Nat.zero_le _, rfl, by go_num, HO.out, ⟨rfl, rfl, rfl, Nat.le_refl _, fun _ _ _ => rfl⟩⟩
    case round =>
      obtain ⟨j, hj, rfl, rfl, hown, hgr⟩ := hrel
      by_cases hlt : j < n
      · have hc := hown.cellAt j (by omega)
        have hf := hown.frozenAt j
        obtain ⟨u, hu⟩ : ∃ u, wr.cell? ⟨g, j, none⟩ = some u := by
          rw [hc]; exact ⟨_, List.getElem?_eq_getElem (by simp [marks_len, HL.out]; omega)⟩
        have hst := hown.stored j (.int .i64 (k + j))
        have HST : Hid _ := hst
        clear hst hc hown
        go_wp2
        go_roundw
        case rel =>
          refine ⟨j + 1, by omega, by go_num, by go_num, ?_, ?_⟩
          · have h1 := HST.out.1
            have e := marks_set k j xs (by rw [HL.out]; exact hlt)
            rw [← e, List.map_set]
            exact h1
          · have h2 := HST.out.2
            exact ⟨h2.os.trans hgr.os, h2.tape.trans hgr.tape, h2.output.trans hgr.output, Nat.le_trans hgr.size h2.size, fun i hi hr => (h2.block i (Nat.lt_of_lt_of_le hi hgr.size) hr).trans (hgr.block i hi hr)⟩
        case measure => simp [intOf]; omega
      · obtain rfl : j = n := by omega
        have HW : Hid _ := hown
        clear hown
        go_wp2
        go_ret
        refine ⟨rfl, ?_, hgr⟩
        have := HW.out
        rw [List.drop_of_length_le (by rw [HL.out]; exact Nat.le_refl _), List.append_nil] at this
        exact this
end Go.Proofs.YtbakicgdloakgaaGreatDoor
namespace Go.Proofs.YtbakicgdloakgaaGreatDoor
open Go.ChangeShapes Go.WideShapes Go.ChangeAt Go.RowKit

set_option maxRecDepth 100000 in
set_option maxHeartbeats 1000000 in
theorem toIntS_any (a : Option Addr) (cap : Nat) (xs : List Int) (w : World) (ha : IntsAt w a xs) (hx : xs.length ≤ 1048576) :
    Calls Tryz.prog 73 #[.slice a xs.length cap] w fun e w' => ∃ v, e = .returned v ∧ w'.ownsRow w.heap.size 3 1 v xs.length (xs.map (Value.int .i64)) ∧ Below w.heap.size w w' := by
  obtain ⟨i0, hi, hz0, hz1, hz2⟩ := info_parts Tryz.info3
  go_enter Tryz.func73, Tryz.ntmps73
  go_wp2_with (at_make; refine wpList_make_full _ rfl _ _ 22 rfl w.heap.size 3 i0 (.int .i64 0) 1 Tryz.underlying22 hi hz0 hz1 _ _ _ _ xs.length rfl rfl rfl rfl (by rw [hz2]; omega) (by unfold maxLen; omega) (Nat.le_refl _) ?_; intro w1 hown1 hgr1)
  have hb1 : Below w.heap.size w w1 := (Below.refl _ _).grown hgr1 (Nat.le_refl _) (fun k hk => by simp at hk)
  rw [made_ints] at hown1
  have HO : Hid _ := hown1
  clear hown1 hgr1
  go_loopw [4] (fun i wr => ∃ k : Nat, k ≤ xs.length ∧ i = .int .i64 k ∧ wr.ownsRow w.heap.size 3 1 (.slice (some ⟨w.heap.size, 0, none⟩) xs.length xs.length) xs.length ((xs.take k ++ List.replicate (xs.length - k) (0 : Int)).map (Value.int .i64)) ∧ Below w.heap.size w wr) (fun i _ => xs.length - (intOf i).toNat)
  case atStart => exact ⟨0, Nat.zero_le _, rfl, HO.out, hb1⟩
  case round =>
    obtain ⟨k, hk, rfl, hown, hnx⟩ := hrel
    by_cases hlt : k < xs.length
    · obtain ⟨b, off, rfl, hc⟩ := ha (by intro h; simp [h] at hlt)
      have hck := hc k hlt
      have hck' := (hnx.cell (p := ⟨b, off + k, none⟩) (block_lt_of_cell hck)).trans hck
      have hcell := hown.cellAt k (by omega)
      have hf := hown.frozenAt k
      obtain ⟨u, hu⟩ : ∃ u, wr.cell? ⟨w.heap.size, k, none⟩ = some u := by
        rw [hcell]; exact ⟨_, List.getElem?_eq_getElem (by simp; omega)⟩
      have HST : Hid _ := hown.stored k (.int .i64 (xs.getD k 0))
      obtain ⟨X, hX⟩ : ∃ X, X = xs.getD k 0 := ⟨_, rfl⟩
      rw [← hX] at hck'
      have HX : Hid _ := hX
      clear hcell hown hck hc hX
      go_wp2
      go_roundw
      case rel =>
        refine ⟨k + 1, by omega, by go_num, ?_, hnx.setCell (Nat.le_refl _) _⟩
        have h1 := HST.out.1
        rw [← copy_set xs k hlt, List.map_set]
        rw [← HX.out] at h1 ⊢
        exact h1
      case measure => simp [intOf]; omega
    · obtain rfl : k = xs.length := by omega
      have HW : Hid _ := hown
      clear hown
      go_wp2
      go_ret
      refine ⟨_, rfl, ?_, hnx⟩
      have := HW.out
      rw [List.take_length, Nat.sub_self, List.replicate_zero, List.append_nil] at this
      exact this
end Go.Proofs.YtbakicgdloakgaaGreatDoor
namespace Go.Proofs.YtbakicgdloakgaaGreatDoor
open Go.ChangeShapes Go.WideShapes Go.ChangeAt Go.RowKit

set_option maxRecDepth 100000 in
set_option maxHeartbeats 1000000 in
theorem heldIntS_any (a : Option Addr) (cap n : Nat) (k : Int) (w : World) (ha : IntsAt w a (marks k n)) (hn : n ≤ 1152921504606846976) (hk0 : 0 ≤ k) (hk : k ≤ 1152921504606846976) :
    Calls Tryz.prog 83 #[.slice a n cap, .int .i64 k] w fun e w' => e = .returned (.int .i64 (k + n)) ∧ w' = w := by
  go_enter Tryz.func83, Tryz.ntmps83
  go_wp2
  go_loop [1, 5] (fun q i => ∃ j : Nat, j ≤ n ∧ i = .int .i64 j ∧ q = .int .i64 (k + j)) (fun _ i => n - (intOf i).toNat)
  case atStart => exact ⟨0, Nat.zero_le _, rfl, by go_num⟩
  case round =>
    obtain ⟨j, hj, rfl, rfl⟩ := hrel
    by_cases hlt : j < n
    · obtain ⟨b1, o1, rfl, h1⟩ := ha (by intro h; have := marks_len k n; rw [h] at this; simp at this; omega)
      have c1 := h1 j (by rw [marks_len]; exact hlt)
      rw [marks_at k n j hlt] at c1
      clear h1
      go_wp2
      go_round
      case rel => exact ⟨j + 1, by omega, by go_num, by go_num⟩
      case measure => simp [intOf]; omega
    · obtain rfl : j = n := by omega
      go_wp2
      go_ret
      exact ⟨rfl, rfl⟩
end Go.Proofs.YtbakicgdloakgaaGreatDoor
namespace Go.Proofs.YtbakicgdloakgaaGreatDoor
open Go.ChangeShapes Go.WideShapes Go.ChangeAt Go.RowKit

end Go.Proofs.YtbakicgdloakgaaGreatDoor
namespace Go.Proofs.YtbakicgdloakgaaGreatDoor
open Go.ChangeShapes Go.WideShapes Go.ChangeAt Go.RowKit Go.Sort

/-- A contract that ends in 'Below', offered in every world of the class. -/
theorem rg {P : Program} {f : FuncId} {args : Array Value} {w : World} {v : Value}
    (h : ∀ w', Below w.heap.size w w' → Calls P f args w' fun e w'' => e = .returned v ∧ Below w'.heap.size w' w'') (d : Nat) (os : Array Obj) :
    Calls P f args (grow (redrawn w d) os) fun e w'' => e = .returned v ∧ ∃ p : Regrown, w'' = grow (redrawn w p.d) p.os :=
  Calls.regrown_of (h _ (below_regrown w d os))
/-- .. of a callee that leaves the world as it was. -/
theorem rgs {P : Program} {f : FuncId} {args : Array Value} {w : World} {v : Value}
    (h : ∀ w', Calls P f args w' fun e w'' => e = .returned v ∧ w'' = w') (d : Nat) (os : Array Obj) :
    Calls P f args (grow (redrawn w d) os) fun e w'' => e = .returned v ∧ ∃ p : Regrown, w'' = grow (redrawn w p.d) p.os :=
  (h _).mono fun _ _ ⟨he, hw⟩ => ⟨he, ⟨⟨d, os⟩, hw⟩⟩
/-- A block of cells, by its cells. -/
theorem box_cell {w : World} {g : Nat} {cs : Array Value} {t : TypeId} (h : w.heap[g]? = some (.cells cs t (0, 0))) (i : Nat) {v : Value} (hi : cs[i]? = some v) : w.cell? ⟨g, i, none⟩ = some v := by
  simp [World.cell?, h, hi]
/-- A block stays as it is where all that was there stays. -/
theorem kept {w w' : World} {g : Nat} {o : Obj} (h : w.heap[g]? = some o) (hb : Below w.heap.size w w') : w'.heap[g]? = some o := (hb.block g (lt_of_block h)).trans h
/-- A block that was just laid. -/
theorem laid (w : World) (cs : Array Value) (t : TypeId) : (w.alloc (.cells cs t)).heap[w.heap.size]? = some (.cells cs t (0, 0)) := heap_alloc_new w _
theorem set_block {w : World} {g : Nat} {cs : Array Value} {t : TypeId} (h : w.heap[g]? = some (.cells cs t (0, 0))) (i : Nat) (u : Value) : (w.setCell ⟨g, i, none⟩ u).heap[g]? = some (.cells (cs.setIfInBounds i u) t (0, 0)) := by
  simp only [World.setCell, Array.getElem?_modify, h, if_true, Option.map_some]
  rfl
theorem box_frozen {w : World} {g : Nat} {cs : Array Value} {t : TypeId} (h : w.heap[g]? = some (.cells cs t (0, 0))) (i : Nat) : w.frozen? ⟨g, i, none⟩ = false := by
  simp [World.frozen?, h]
theorem set_other {w : World} {g k : Nat} {o : Option Obj} (h : w.heap[k]? = o) (hk : k ≠ g) (i : Nat) (u : Value) : (w.setCell ⟨g, i, none⟩ u).heap[k]? = o := by
  rw [Below.heap_setCell _ _ _ _ hk]; exact h
end Go.Proofs.YtbakicgdloakgaaGreatDoor
namespace Go.Proofs.YtbakicgdloakgaaGreatDoor
open Go.ChangeShapes Go.WideShapes Go.ChangeAt Go.RowKit Go.Sort

theorem u_cell {W w1 : World} {n : Nat} (hb : Below n W w1) : (∀ b o, b < n → w1.cell? ⟨b, o, none⟩ = W.cell? ⟨b, o, none⟩) ∧ (∀ b o, b < n → w1.frozen? ⟨b, o, none⟩ = W.frozen? ⟨b, o, none⟩) :=
  ⟨fun b o h => hb.cell (p := ⟨b, o, none⟩) h, fun b o h => hb.frozen (p := ⟨b, o, none⟩) h⟩
theorem u_cat {a b c : World} (h : Below a.heap.size a b) (k : Below b.heap.size b c) : Below a.heap.size a c := h.trans (k.mono h.size)
theorem u_catn {n : Nat} {a b c : World} (h : Below n a b) (hn : n ≤ a.heap.size) (k : Below b.heap.size b c) : Below n a c := h.trans (k.mono (Nat.le_trans hn h.size))
theorem u_b1 (w : World) (a : Obj) : Below w.heap.size w (w.alloc a) := (Below.refl _ _).alloc (Nat.le_refl _) _
theorem u_b2 (w : World) (a b : Obj) : Below w.heap.size w ((w.alloc a).alloc b) := ((Below.refl _ _).alloc (Nat.le_refl _) _).alloc (by simp) _
theorem u_b3 (w : World) (a b c : Obj) : Below w.heap.size w (((w.alloc a).alloc b).alloc c) := (((Below.refl _ _).alloc (Nat.le_refl _) _).alloc (by simp) _).alloc (by simp; omega) _
theorem u_set {n : Nat} {w w' : World} (h : Below n w w') {g : Nat} (hg : n ≤ g) (k : Nat) (u : Value) : Below n w (w'.setCell ⟨g, k, none⟩ u) := h.setCell (p := ⟨g, k, none⟩) hg u
theorem u_laid (w : World) (cs : Array Value) (t : TypeId) {g : Nat} (hg : g = w.heap.size) : (w.alloc (.cells cs t)).heap[g]? = some (.cells cs t (0, 0)) := by rw [hg]; exact laid w cs t
theorem u_box2 {w w1 : World} {c d : Array Value} {t s : TypeId} (h : Below ((w.alloc (.cells c t)).alloc (.cells d s)).heap.size ((w.alloc (.cells c t)).alloc (.cells d s)) w1) :
    w1.heap[w.heap.size]? = some (.cells c t (0, 0)) ∧ w1.heap[w.heap.size + 1]? = some (.cells d s (0, 0)) ∧ Below w.heap.size w w1 := by
  have h1 := kept (laid (w.alloc (.cells c t)) d s) h
  rw [World.size_alloc] at h1
  exact ⟨kept ((Below.heap_alloc _ _ _ (by simp)).trans (laid w c t)) h, h1, u_cat (u_b2 _ _ _) h⟩
theorem u_box3 {w w1 : World} {c d f : Array Value} {t s r : TypeId} (h : Below (((w.alloc (.cells c t)).alloc (.cells d s)).alloc (.cells f r)).heap.size (((w.alloc (.cells c t)).alloc (.cells d s)).alloc (.cells f r)) w1) :
    w1.heap[w.heap.size]? = some (.cells c t (0, 0)) ∧ w1.heap[w.heap.size + 1]? = some (.cells d s (0, 0)) ∧ w1.heap[w.heap.size + 2]? = some (.cells f r (0, 0)) ∧ Below w.heap.size w w1 := by
  have h1 := kept (laid ((w.alloc (.cells c t)).alloc (.cells d s)) f r) h
  rw [World.size_alloc, World.size_alloc] at h1
  have h2 := u_box2 (w := w) (c := c) (t := t) (d := d) (s := s) (w1 := ((w.alloc (.cells c t)).alloc (.cells d s)).alloc (.cells f r)) (u_b1 _ _)
  exact ⟨kept h2.1 h, kept h2.2.1 h, h1, u_cat (u_b3 _ _ _ _) h⟩
/-- What is owned stays owned where only other blocks turn. -/
theorem u_owns {w w' : World} {base : Nat} {e : TypeId} {size : Nat} {v : Value} {n : Nat} {xs : List Value} (h : w.ownsRow base e size v n xs) (hb : ∀ k, v.ownBlock = some k → w'.heap[k]? = w.heap[k]?) : w'.ownsRow base e size v n xs := by
  obtain ⟨h1, h2⟩ := h
  refine ⟨h1, ?_⟩
  rcases h2 with h2 | ⟨g, cap, cur, hv, hg, hh, r⟩
  · exact Or.inl h2
  · exact Or.inr ⟨g, cap, cur, hv, hg, by rw [hb g (by rw [hv]; rfl)]; exact hh, r⟩
end Go.Proofs.YtbakicgdloakgaaGreatDoor
namespace Go.Proofs.YtbakicgdloakgaaGreatDoor
open Go.ChangeShapes Go.WideShapes Go.ChangeAt Go.RowKit Go.Sort

section
variable {P : Program} {ops : Array Oper} {md : Region.Mode} {C : World → Prop} {L1 : Array Bool} {K : Act → Prop} {m : Nat}

theorem unready {i j : Nat} {listed : Array Bool} (hi : i ∈ Region.ready md ops listed) (hj : j ∈ Region.ready md ops listed) {oj : Oper} (hoj : ops[j]? = some oj) :
    ∀ e ∈ oj.after, Region.binds md e = true → e.on ≠ i := by
  intro e he hb heq
  obtain ⟨_, o, ho, hall⟩ := mem_ready.1 hj
  rw [hoj] at ho
  cases ho
  have h1 := hall e he hb
  have h0 := (mem_ready.1 hi).1
  rw [heq] at h1
  by_cases h' : i < listed.size
  · simp [h'] at h0 h1; rw [h0] at h1; cases h1
  · simp [Array.getElem?_eq_none (Nat.le_of_not_lt h')] at h1

end

/-- An operation that looks at no memory. -/
def pureOp (o : Oper) : Bool := match o.op with | .move _ | .assign _ | .pick _ _ _ => true | _ => false
theorem pureOp_run {P : Program} {o : Oper} (h : pureOp o = true) (ρ : Operand → Value) (w w' : World) {C : World → Prop} {v : Value} (hq : Oper.quietUpon P C w v ((execOp ρ o).run P w)) : (execOp ρ o).run P w' = .ok (.value v) w' := by
  obtain ⟨dst, op, type, pos, after, guard⟩ := o
  cases op <;> simp only [pureOp] at h <;> try cases h
  case move x => simp only [execOp] at hq ⊢; obtain ⟨_, h2⟩ := hq; rw [← h2]; rfl
  case assign x => simp only [execOp] at hq ⊢; obtain ⟨_, h2⟩ := hq; rw [← h2]; rfl
  case pick c x y =>
    simp only [execOp] at hq ⊢
    generalize ρ c = u at hq ⊢
    cases u
    case bool b =>
      have e : ∀ w, ((do pure (.value (if ← asBool (.bool b) then ρ x else ρ y)) : Sem Next)).run P w = .ok (.value (if b then ρ x else ρ y)) w := fun w => by simp [asBool]
      rw [e] at hq ⊢
      obtain ⟨_, h2⟩ := hq
      rw [← h2]
    all_goals exact absurd hq (by simp [asBool, Oper.quietUpon])

section
variable {P : Program} {ops : Array Oper} {md : Region.Mode} {C : World → Prop} {L1 : Array Bool} {K : Act → Prop} {m : Nat}

/-- One comes behind another one, over others. -/
def behind (md : Region.Mode) (ops : Array Oper) (i : Nat) : Nat → Nat → Bool
  | 0, _ => false
  | fuel + 1, j => match ops[j]? with
    | none => false
    | some oj => oj.after.any (fun e => Region.binds md e && (e.on == i || behind md ops i fuel e.on))
/-- All that a listed one waits for is listed. -/
def Shut (md : Region.Mode) (ops : Array Oper) (listed : Array Bool) : Prop :=
  ∀ (k : Nat) (o : Oper), ops[k]? = some o → listed.getD k false = true → ∀ e ∈ o.after, Region.binds md e = true → listed.getD e.on false = true
theorem Shut.set {listed : Array Bool} {i : Nat} (h : Shut md ops listed) (hr : i ∈ Region.ready md ops listed) : Shut md ops (listed.setIfInBounds i true) := by
  intro k o ho hk e he hb
  by_cases hik : i = k
  · subst hik
    obtain ⟨_, o', ho', hall⟩ := mem_ready.1 hr
    rw [ho] at ho'
    cases ho'
    exact getD_set_true (hall e he hb)
  · rw [getD_set_ne false hik] at hk
    exact getD_set_true (h k o ho hk e he hb)
theorem behind_listed {listed : Array Bool} {i : Nat} (h : Shut md ops listed) : ∀ (fuel j : Nat), behind md ops i fuel j = true → (∀ oj, ops[j]? = some oj → ∀ e ∈ oj.after, Region.binds md e = true → listed.getD e.on false = true) → listed.getD i false = true
  | 0, _, hb, _ => by simp [behind] at hb
  | fuel + 1, j, hb, hj => by
    unfold behind at hb
    cases ho : ops[j]? with
    | none => simp [ho] at hb
    | some oj =>
      simp only [ho] at hb
      rw [Array.any_eq_true] at hb
      obtain ⟨k, hk, h2⟩ := hb
      simp only [Bool.and_eq_true, Bool.or_eq_true, beq_iff_eq] at h2
      have h3 := hj oj ho _ (Array.getElem_mem hk) h2.1
      rcases h2.2 with h4 | h4
      · rw [← h4]; exact h3
      · exact behind_listed h fuel _ h4 (fun o' ho' => h _ o' ho' h3)
theorem not_ready {listed : Array Bool} {i : Nat} (hr : i ∈ Region.ready md ops listed) : ¬ listed.getD i false = true := by
  intro h1
  have h0 := (mem_ready.1 hr).1
  by_cases h' : i < listed.size
  · simp [h'] at h0 h1; rw [h0] at h1; cases h1
  · simp [Array.getElem?_eq_none (Nat.le_of_not_lt h')] at h1

end

end Go.Proofs.YtbakicgdloakgaaGreatDoor
namespace Go.Proofs.YtbakicgdloakgaaGreatDoor
open Go.ChangeShapes Go.WideShapes Go.ChangeAt Go.RowKit Go.Sort

/-- 'out = append(out, x)', x of several cells that were just laid. -/
theorem append_many {P : Program} {w : World} {ops : Array Oper} {rest : List Oper} {o : Oper} {a : Act} {Q : Exit → Act → World → Prop} (t e : TypeId) (i : TypeInfo) (z : Value) (size bytes : Nat)
    (ht : P.underlying t = some (.slice e)) (hi : P.info? e = some i) (hz : i.zero = some z) (hz1 : i.size = size) (hz2 : i.bytes = bytes) (hzs : z.cells.size = size) (hpos : 0 < size)
    {base n g : Nat} {v : Value} {xs : List Value} (us : Array Value) (hus : us.size = size) (s x : Operand) (hgd : o.guard = none) (ho : o.op = .call { callee := .builtin .append, args := #[s, x], argTypes := #[t, t] })
    (hs : a.eval s = v) (hx : a.eval x = .slice (some ⟨g, 0, none⟩) 1 1) (hg : g = w.heap.size) (hu : ∀ u ∈ us.toList, u.oneCell' = true)
    (hown : w.ownsRow base e size v n xs) (hbs : base ≤ w.heap.size) (hbd : (n + 1) * bytes ≤ 140737488355328) (hml : n + 1 ≤ 9223372036854775807)
    (h : ∀ v' w', w'.ownsRow base e size v' (n + 1) (xs ++ us.toList) → (w.alloc (.cells us e)).grownBy w' v.ownBlock → wpList P ops Q rest (a.put o.dst v') w') :
    wpList P ops Q (o :: rest) a (w.alloc (.cells us e)) := by
  subst hg
  refine wpList_append_own _ hgd s x t ho base e i z size bytes ht hi hz hz1 hz2 hzs hpos v n xs hs (hown.alloc _) ⟨w.heap.size, 0, none⟩ 1 1 us.toList hx (by simp [hus]) ?_ hu hml hbd (by simp; omega) ?_
  · intro j u' hj
    rw [addr_add, Nat.zero_add]
    exact box_cell (laid w us e) j (by simpa using hj)
  · intro v' w' h1 h2 _
    exact h v' w' h1 h2
/-- Rows of unlike elements lie apart. -/
theorem owns_kinds {w : World} {b1 b2 s1 s2 n1 n2 : Nat} {e1 e2 : TypeId} {v1 v2 : Value} {x1 x2 : List Value} (h1 : w.ownsRow b1 e1 s1 v1 n1 x1) (h2 : w.ownsRow b2 e2 s2 v2 n2 x2) (he : e1 ≠ e2) : ∀ k, v1.ownBlock = some k → v2.ownBlock ≠ some k := by
  intro k k1 k2
  rcases h1.2 with ⟨hv, -⟩ | ⟨g, cap, cur, hv, -, hh, -⟩
  · rw [hv] at k1; cases k1
  · rw [hv] at k1
    cases k1
    rcases h2.2 with ⟨hv2, -⟩ | ⟨g2, cap2, cur2, hv2, -, hh2, -⟩
    · rw [hv2] at k2; cases k2
    · rw [hv2] at k2
      cases k2
      rw [hh] at hh2
      cases hh2
      exact he rfl
end Go.Proofs.YtbakicgdloakgaaGreatDoor
namespace Go.Proofs.YtbakicgdloakgaaGreatDoor
theorem ne_toList {nm : ByteArray} (h : nm ≠ ⟨#[]⟩) : ¬ nm.toList = [] := fun e => h (ByteArray.ext (Array.toList_inj.1 (by rw [← ByteArray.toList_eq, e])))
end Go.Proofs.YtbakicgdloakgaaGreatDoor
namespace Go.Proofs.YtbakicgdloakgaaGreatDoor
open Go.ChangeShapes Go.WideShapes Go.ChangeAt Go.RowKit

theorem or_pow (s n : Nat) (hs : s < 4294967296) (hn : n < 24) : bits .or .u32 (s : Int) (2 ^ n % 4294967296) = ((s ||| 2 ^ n : Nat) : Int) := by
  have h1 : 2 ^ n < 2 ^ 24 := Nat.pow_lt_pow_right (by omega) hn
  have h2 : ((2 : Int) ^ n % 4294967296) = ((2 ^ n : Nat) : Int) := by
    have : ((2 : Int) ^ n) = ((2 ^ n : Nat) : Int) := by simp
    rw [this]
    generalize 2 ^ n = P at h1
    omega
  rw [h2]
  exact u32_or_nat s (2 ^ n) hs (by omega)

set_option maxRecDepth 100000 in
theorem with_any (s n : Nat) (w : World) (hs : s < 4294967296) (hn : n < 24) :
    Calls Tryz.prog 105 #[.int .u32 s, .int .i64 n] w fun e w' => e = .returned (.int .u32 ((s ||| 2 ^ n : Nat) : Int)) ∧ w' = w := by
  go_enter Tryz.func105, Tryz.ntmps105
  go_wp2
  go_ret
  exact ⟨ret_int (or_pow s n hs hn), rfl⟩

/-- All above 'lo', ascending, below 'hi'. -/
def ascB (lo hi : Int) : List Int → Bool
  | [] => true
  | x :: r => decide (lo < x ∧ x < hi) && ascB x hi r
/-- The number ahead of a place. -/
def prevI (xs : List Int) (k : Nat) : Int := if k = 0 then -1 else xs.getD (k - 1) 0
/-- The numbers as bits. -/
def setI (xs : List Int) : Nat := xs.foldl (fun s x => s ||| 2 ^ x.toNat) 0

/-- The bits of a row, nothing of what is none. -/
def rowBits (xs : List Int) (c : Int) : Nat := if ascB (-1) c xs then setI xs else 0
theorem rowBits_no {xs : List Int} {c : Int} (h : ascB (-1) c xs = false) : rowBits xs c = 0 := by simp [rowBits, h]
theorem rowBits_yes {xs : List Int} {c : Int} (h : ascB (-1) c xs = true) : rowBits xs c = setI xs := by simp [rowBits, h]
theorem prevI_succ (xs : List Int) (k : Nat) : prevI xs (k + 1) = xs.getD k 0 := by simp [prevI]
theorem asc_step (xs : List Int) (k : Nat) (hi : Int) (h : k < xs.length) :
    ascB (prevI xs k) hi (xs.drop k) = (decide (prevI xs k < xs.getD k 0 ∧ xs.getD k 0 < hi) && ascB (prevI xs (k + 1)) hi (xs.drop (k + 1))) := by
  rw [List.drop_eq_getElem_cons h, ascB, prevI_succ, getD_eq h]
theorem setI_snoc (xs : List Int) (k : Nat) (h : k < xs.length) : setI (xs.take (k + 1)) = setI (xs.take k) ||| 2 ^ (xs.getD k 0).toNat := by
  unfold setI
  rw [List.take_succ_eq_append_getElem h, List.foldl_append, getD_eq h]
  rfl
theorem setI_lt (s : Nat) (n : Nat) (hs : s < 16777216) (hn : n < 24) : s ||| 2 ^ n < 16777216 := by
  have h1 : 2 ^ n < 2 ^ 24 := Nat.pow_lt_pow_right (by omega) hn
  exact Nat.or_lt_two_pow (n := 24) (by omega) h1

set_option maxRecDepth 100000 in
set_option maxHeartbeats 1000000 in
theorem rowSetOf_in (a : Option Addr) (cap : Nat) (xs : List Int) (c : Int) (w : World) (ha : IntsAt w a xs) (hx : xs.length ≤ 1152921504606846976) (c1 : 0 ≤ c) (c2 : c ≤ 24) :
    Calls Tryz.prog 96 #[.slice a xs.length cap, .int .i64 c] w fun e w' => e = .returned (.tuple #[.int .u32 (rowBits xs c : Nat), .bool (ascB (-1) c xs)]) ∧ w' = w := by
  have c2' : decide (24 < c) = false := by simp; omega
  go_enter Tryz.func96, Tryz.ntmps96
  go_wp2
  go_loop [6, 7, 18] (fun s l i => ∃ k : Nat, k ≤ xs.length ∧ i = .int .i64 k ∧ l = .int .i64 (prevI xs k) ∧ s = .int .u32 (setI (xs.take k) : Nat) ∧ setI (xs.take k) < 16777216 ∧ -1 ≤ prevI xs k ∧ ascB (-1) c xs = ascB (prevI xs k) c (xs.drop k)) (fun _ _ i => xs.length - (intOf i).toNat)
  case atStart => exact ⟨0, Nat.zero_le _, rfl, rfl, rfl, by simp [setI], by simp [prevI], rfl⟩
  case round =>
    obtain ⟨k, hk, rfl, rfl, rfl, hs, hp, he⟩ := hrel
    by_cases hlt : k < xs.length
    · obtain ⟨b, off, rfl, hc⟩ := ha (by intro h; simp [h] at hlt)
      have hck := hc k hlt
      have e1 := asc_step xs k c hlt
      have e2 := setI_snoc xs k hlt
      have e3 := prevI_succ xs k
      obtain ⟨X, hX⟩ : ∃ X, X = xs.getD k 0 := ⟨_, rfl⟩
      obtain ⟨L, hL⟩ : ∃ L, L = prevI xs k := ⟨_, rfl⟩
      obtain ⟨S, hS⟩ : ∃ S, S = setI (xs.take k) := ⟨_, rfl⟩
      rw [← hX] at hck e1 e2 e3
      rw [← hL] at e1 hp he ⊢
      rw [← hS] at e2 hs ⊢
      have H1 : Hid _ := e1
      have H2 : Hid _ := e2
      have H3 : Hid _ := e3
      have HE : Hid _ := he
      clear e1 e2 e3 he hX hL hS hc
      by_cases h1 : X ≤ L
      · go_wp2
        go_ret2
        have : ascB (-1) c xs = false := by rw [HE.out, H1.out]; simp; omega
        rw [rowBits_no this, this]
        exact ⟨rfl, rfl⟩
      · by_cases h2 : c ≤ X
        · have h1' : decide (X ≤ L) = false := by simp; omega
          go_wp2
          go_ret2
          have : ascB (-1) c xs = false := by rw [HE.out, H1.out]; simp; omega
          rw [rowBits_no this, this]
          exact ⟨rfl, rfl⟩
        · have h1' : decide (X ≤ L) = false := by simp; omega
          have h2' : decide (c ≤ X) = false := by simp; omega
          obtain ⟨x, rfl⟩ := Int.eq_ofNat_of_zero_le (show 0 ≤ X by omega)
          go_wp2_with (go_at_call 105; refine (with_any S x _ (by omega) (by omega)).mono ?_; rintro e w' ⟨rfl, rfl⟩)
          go_round
          case rel =>
            refine ⟨k + 1, by omega, by go_num, by rw [H3.out], by rw [H2.out]; simp, by rw [H2.out]; exact setI_lt S _ hs (by omega), by rw [H3.out]; omega, ?_⟩
            rw [HE.out, H1.out]
            simp; omega
          case measure => simp [intOf]; omega
    · obtain rfl : k = xs.length := by omega
      have h1 : ascB (-1) c xs = true := by rw [he, List.drop_length]; rfl
      have H1 : Hid _ := h1
      clear h1 he
      go_wp2
      go_ret2
      rw [rowBits_yes H1.out, H1.out]
      exact ⟨rfl, rfl⟩
end Go.Proofs.YtbakicgdloakgaaGreatDoor
namespace Go.Proofs.YtbakicgdloakgaaGreatDoor
open Go.ChangeShapes Go.WideShapes Go.ChangeAt Go.RowKit Go.Sort

theorem below_allocW (w : World) (o : Obj) : Below w.heap.size w (w.alloc o) := (Below.refl _ _).alloc (Nat.le_refl _) o
theorem below_catW {a b c : World} (h : Below a.heap.size a b) (k : Below b.heap.size b c) : Below a.heap.size a c := h.trans (k.mono h.size)
end Go.Proofs.YtbakicgdloakgaaGreatDoor
namespace Go.Proofs.YtbakicgdloakgaaGreatDoor
open Go.ChangeShapes Go.WideShapes Go.ChangeAt Go.RowKit

end Go.Proofs.YtbakicgdloakgaaGreatDoor
