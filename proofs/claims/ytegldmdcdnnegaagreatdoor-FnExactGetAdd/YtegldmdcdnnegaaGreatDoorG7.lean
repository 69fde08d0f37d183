/- A list of a solver, ok or not; links of one block. Blocks put together: the program's and the model's. A range over a function whose iterator keeps cells of its own: what the caller says speaks of what lay ahead of the loop. Sets of bits put together, bytes put together, an equation without the first numbers of those that are known: the program's. What is left of an equation, link by link: the program's iterator. -/
import Derived.Test.YtegldmdcdnnegaaGreatDoorG6
import Derived.Test.YtegldmdcdnnegaaGreatDoorG0
import Derived.Laws.BytesArg
import Derived.Deep.RegionLaw
import Derived.BigRegion
import Derived.Deep.RegionHeld3
namespace Go.Proofs.YtegldmdcdnnegaaGreatDoor
open Go.ChangeShapes Go.WideShapes Go.ChangeAt Go.RowKit Go.Sort Go.Shelf
attribute [local go_sem] Oper.semAt_some

theorem one_row (r : List Int) (at' : Int) : (r.length = 1 ∧ hd r = at') ↔ r = [at'] := by
  constructor
  · rintro ⟨h1, h2⟩
    match r, h1 with
    | [x], _ => rw [show x = at' from h2]
  · rintro rfl; exact ⟨rfl, rfl⟩
/-- The equations of a solver that is ok; none of others. -/
def eqsOf (c z : Int) (es : List EqV) : List EqV := if solverP c z es then es else []
/-- What a list of a solver is, ok or not. -/
theorem listO_any {w : World} {c z : Int} {es : List EqV} {e : Ending} {w' : World} (h : ListO w c z es e w') :
    ∃ (c' z' : Int) (ls : List Lk), e = .returned (.tuple #[.agg #[.int .i64 c', .int .i64 z', .pointer (ptrOf ls)], .bool (decide (solverP c z es))]) ∧ LksAt w' w.heap.size ls ∧ SameE ls (eqsOf c z es) ∧ RowsL ls ∧ ls.length ≤ 24 ∧ Below w.heap.size w w' := by
  obtain ⟨b, ⟨hp, ls, rfl, hL, hs⟩ | ⟨hp, rfl⟩⟩ := h
  · have he : eqsOf c z es = es := if_pos hp
    refine ⟨c, z, ls, by rw [decide_eq_true hp], hL, by rw [he]; exact hs, hs.rows hp.1.1.2 hp.2, ?_, b⟩
    have h1 := congrArg List.length hs.1
    rw [List.length_map, List.length_map] at h1
    have := okE_24 hp.2 (by have := hp.1.1.1; omega) hp.1.1.2
    omega
  · have he : eqsOf c z es = [] := if_neg hp
    exact ⟨0, 0, [], by rw [decide_eq_false hp]; rfl, LksAt.nil _ _, by rw [he]; exact ⟨rfl, rfl⟩, fun l hl => by simp at hl, by simp, b⟩
end Go.Proofs.YtegldmdcdnnegaaGreatDoor
namespace Go.Proofs.YtegldmdcdnnegaaGreatDoor
open Go.ChangeShapes Go.WideShapes Go.ChangeAt Go.RowKit

theorem Tryz.info5 : (Tryz.prog.info? 5).map (fun i => (i.zero, i.size, i.bytes)) = some (some (.int .u8 0), 1, 1) := by kernel_rfl

/-- 'out = append(out, x)' as one step of a region that draws its order. -/
theorem step_append_one {P : Program} {w : World} {ops : Array Oper} {o : Oper} {a : Act} {K : Act → World → Prop} {Q : Exit → Act → World → Prop} {E : Prop} (t e : TypeId) (i : TypeInfo) (z : Value) (bytes : Nat)
    (ht : P.underlying t = some (.slice e)) (hi : P.info? e = some i) (hz : i.zero = some z) (hz1 : i.size = 1) (hz2 : i.bytes = bytes) (hzs : z.cells.size = 1)
    {base n g : Nat} {v u : Value} {xs : List Value} (s x : Operand) (hgd : o.guard = none) (ho : o.op = .call { callee := .builtin .append, args := #[s, x], argTypes := #[t, t] })
    (hs : a.eval s = v) (hx : a.eval x = .slice (some ⟨g, 0, none⟩) 1 1) (hg : g = w.heap.size) (hu : u.oneCell' = true)
    (hown : w.ownsRow base e 1 v n xs) (hbs : base ≤ w.heap.size) (hbd : (n + 1) * bytes ≤ 140737488355328) (hml : n + 1 ≤ 9223372036854775807)
    (h : ∀ v' w', w'.ownsRow base e 1 v' (n + 1) (xs ++ [u]) → Below base w w' → K (a.put o.dst v') w') :
    if Region.wanted o (yielded ops a.tmps) = true then Oper.wp P o a (w.alloc (.cells #[u] e)) K Q else E := by
  have hw : Region.wanted o (yielded ops a.tmps) = true := by simp [Region.wanted, hgd]
  rw [if_pos hw]
  subst hg
  obtain ⟨v', w', hrun, r1, r2, _⟩ := run_append_own (P := P) (w.alloc (.cells #[u] e)) base t o.type e i z 1 bytes ht hi hz hz1 hz2 hzs (by decide) v n xs (hown.alloc _) ⟨w.heap.size, 0, none⟩ 1 1 [u] rfl
    (by intro j u' hj
        match j, hj with
        | 0, hj => simp at hj; subst hj; simp [Addr.add])
    (by intro u' hu'; simp at hu'; subst hu'; exact hu) hml hbd (Nat.le_trans hbs (by rw [World.size_alloc]; omega))
  unfold Oper.wp
  simp [execOp, ho, resolve, invoke, builtin, hs, hx, hrun, Result.andThen]
  refine h v' w' r1 (((Below.refl _ _).alloc hbs _).grown r2 (Nat.le_trans hbs (by rw [World.size_alloc]; omega)) (fun j hj => ?_))
  have := (hown.lt j hj).1; omega

/-- The bytes of a text, as numbers. -/
def nums (s : ByteArray) : List Int := s.data.toList.map fun c => (c.toNat : Int)
theorem nums_len (s : ByteArray) : (nums s).length = s.size := by
  unfold nums
  rw [List.length_map, Array.length_toList]
  rfl
theorem nums_at (s : ByteArray) (k : Nat) (h : k < s.size) : (nums s).getD k 0 = ((s[k]'h).toNat : Int) := by
  have h' : k < s.data.toList.length := by simpa using h
  have h2 : (nums s)[k]? = some ((s.data.toList[k].toNat : Int)) := by
    unfold nums
    rw [List.getElem?_map, List.getElem?_eq_getElem h']
    rfl
  unfold List.getD
  rw [h2]
  rfl
theorem nums_bd (s : ByteArray) (k : Nat) : 0 ≤ (nums s).getD k 0 ∧ (nums s).getD k 0 ≤ 255 := by
  by_cases h : k < s.size
  · rw [nums_at s k h]
    have := (s[k]'h).toNat_lt
    omega
  · simp [List.getD, List.getElem?_eq_none (by rw [nums_len]; omega : (nums s).length ≤ k)]
/-- Two lists of bytes, bit by bit unlike. -/
def xorL (xs ys : List Int) : List Int := List.zipWith (fun x y => bits .xor .u8 x y) xs ys
theorem xorL_len (xs ys : List Int) (h : xs.length = ys.length) : (xorL xs ys).length = xs.length := by simp [xorL, h]
theorem xorL_take (xs ys : List Int) (k : Nat) (h1 : k < xs.length) (h2 : k < ys.length) :
    (xorL xs ys).take (k + 1) = (xorL xs ys).take k ++ [bits .xor .u8 (xs.getD k 0) (ys.getD k 0)] := by
  have h : k < (xorL xs ys).length := by simp [xorL]; omega
  rw [List.take_succ_eq_append_getElem h]
  simp [xorL, List.getD, h1, h2]

/-- Bytes that are owned, as a text. -/
theorem owns_text {P : Program} {w : World} {base : Nat} {src dst e : TypeId} {v : Value} {n : Nat} {xs : List Int} (h : w.ownsRow base e 1 v n (xs.map (Value.int .u8)))
    (hs : P.underlying src = some (.slice e)) (he : P.underlying e = some (.int .u8)) (hd : P.underlying dst = some .string) : (convert src dst v).run P w = .ok (.string (strOfNums xs)) w := by
  have hl : xs.length = n := by simpa using h.1
  rcases h.2 with ⟨rfl, h0⟩ | ⟨g, cap, cur, rfl, _⟩
  · obtain rfl : xs = [] := List.eq_nil_of_length_eq_zero (by omega)
    rw [run_convert_bytes_nil w src e hs he 0 0 dst hd]
    rfl
  · refine run_convert_bytes_arg w src e hs he g 0 n cap xs hl (fun i hi => ?_) dst hd
    rw [Nat.zero_add, h.cellAt i (by omega)]
    simp [List.getD, hl, hi]

set_option maxRecDepth 100000 in
set_option maxHeartbeats 1000000 in
theorem l2Block_any (a b : ByteArray) (w : World) (h : a.size = b.size) (hl : a.size ≤ 1048576) :
    Calls Tryz.prog 41 #[.string a, .string b] w fun e w' => e = .returned (.string (strOfNums (xorL (nums a) (nums b)))) ∧ Below w.heap.size w w' := by
  obtain ⟨i0, hi, hz0, hz1, hz2⟩ := info_parts Tryz.info5
  have HH : Hid _ := h
  clear h
  go_enter Tryz.func41, Tryz.ntmps41
  go_wp2
  go_loopw [5, 6] (fun v i wr => ∃ k : Nat, k ≤ a.size ∧ i = .int .i64 k ∧ wr.ownsRow w.heap.size 5 1 v k (((xorL (nums a) (nums b)).take k).map (Value.int .u8)) ∧ Below w.heap.size w wr) (fun _ i _ => a.size - (intOf i).toNat)
  case atStart =>
    exact ⟨0, by omega, rfl, World.ownsRow_lit w #[] 0 (Nat.le_refl _) (Nat.zero_le _) rfl, (Below.refl _ _).alloc (Nat.le_refl _) _⟩
  case round =>
    obtain ⟨k, hk, rfl, hown, hnx⟩ := hrel
    have hsz := hnx.size
    by_cases hlt : k < a.size
    · have hlt2 : k < b.size := by have := HH.out; omega
      have hown' := hown.drew
      go_wp2
      go_region_law (refine step_append_one (w := wr.drew) 102 5 i0 _ 1 Tryz.underlying102 hi hz0 hz1 hz2 rfl _ _ rfl rfl rfl rfl rfl rfl hown' hsz (by omega) (by omega) ?_; intro v' w1 hown1 hb1)
      all_goals
        go_wp2
        go_roundw
        case rel =>
          refine ⟨k + 1, by omega, by go_num, ?_, (hnx.drew).trans hb1⟩
          rw [xorL_take _ _ k (by rw [nums_len]; exact hlt) (by rw [nums_len]; exact hlt2), nums_at a k hlt, nums_at b k hlt2, List.map_append]
          exact hown1
        case measure => simp [intOf]; omega
    · obtain rfl : k = a.size := by omega
      have hcv := owns_text (P := Tryz.prog) (src := 102) (dst := 9) hown Tryz.underlying102 Tryz.underlying5 Tryz.underlying9
      go_wp2
      go_ret
      have e1 : (xorL (nums a) (nums b)).take a.size = xorL (nums a) (nums b) := List.take_of_length_le (by rw [xorL_len _ _ (by rw [nums_len, nums_len]; exact HH.out), nums_len]; exact Nat.le_refl _)
      rw [e1]
      exact ⟨rfl, hnx⟩
end Go.Proofs.YtegldmdcdnnegaaGreatDoor
namespace Go.Proofs.YtegldmdcdnnegaaGreatDoor
open Go.ChangeShapes Go.WideShapes Go.ChangeAt Go.RowKit Go.Sort Go.Shelf

/-- But for some blocks nothing turns. -/
structure Spare (mine : Nat → Prop) (W W' : World) : Prop where
  os : W'.os = W.os
  tape : W'.tape = W.tape
  output : W'.output = W.output
  size : W.heap.size ≤ W'.heap.size
  same : ∀ k, k < W.heap.size → ¬ mine k → W'.heap[k]? = W.heap[k]?
theorem Spare.refl (m : Nat → Prop) (W : World) : Spare m W W := ⟨rfl, rfl, rfl, Nat.le_refl _, fun _ _ _ => rfl⟩
theorem Spare.trans {m : Nat → Prop} {A B C : World} (h : Spare m A B) (k : Spare m B C) : Spare m A C :=
  ⟨k.os.trans h.os, k.tape.trans h.tape, k.output.trans h.output, Nat.le_trans h.size k.size, fun j hj hm => (k.same j (Nat.lt_of_lt_of_le hj h.size) hm).trans (h.same j hj hm)⟩
theorem Spare.weak {m m' : Nat → Prop} {A B : World} (h : Spare m A B) (hm : ∀ k, m k → m' k) : Spare m' A B := ⟨h.os, h.tape, h.output, h.size, fun k hk hn => h.same k hk (fun x => hn (hm k x))⟩
theorem Spare.below {m : Nat → Prop} {A B : World} (h : Spare m A B) {n : Nat} (hn : n ≤ A.heap.size) (hm : ∀ k, m k → n ≤ k) : Below n A B :=
  ⟨h.os, h.tape, h.output, h.size, fun k hk => h.same k (by omega) (fun x => by have := hm k x; omega)⟩
theorem Spare.putObj {m : Nat → Prop} (W : World) {l : Nat} (hl : m l) (o : Obj) : Spare m W (W.putObj l o) :=
  ⟨rfl, rfl, rfl, by simp, fun k _ hn => World.putObj_heap_other (fun e => hn (by rw [e]; exact hl))⟩
theorem Spare.setCell {m : Nat → Prop} (W : World) {g : Nat} (hg : m g) (i : Nat) (v : Value) : Spare m W (W.setCell ⟨g, i, none⟩ v) :=
  ⟨rfl, rfl, rfl, by show W.heap.size ≤ (W.heap.modify _ _).size; rw [Array.size_modify]; exact Nat.le_refl _, fun k _ hn => Below.heap_setCell W ⟨g, i, none⟩ v k (fun e => hn (by rw [e]; exact hg))⟩
theorem below_putObj {n : Nat} (W : World) {l : Nat} (hl : n ≤ l) (o : Obj) : Below n W (W.putObj l o) :=
  ⟨rfl, rfl, rfl, by simp, fun k hk => World.putObj_heap_other (by omega)⟩

theorem wpIn_rangeFunc_old {α : Type} {F : Fence} {n : Nat} {P : Program} {g : Operand} {ps : Array Tmp} {assign body : Code} {Q : Exit → Act → World → Prop} {a : Act} {w : World}
    (hro : F.round = none) (h1 : 1 ≤ n) {gf : Nat} {lb : Array Value} (hg : a.eval g = .func (.func gf) #[] lb) (hFg : F.fn gf) (eg : ∀ args w, (callFunc gf args).run P w = .ok (.enter gf args) w)
    {encs : α → Array Value} (hps : ∀ x, (encs x).size = ps.size)
    (Fin S : α → World → Prop) (I : Option α → World → Prop) (mine : Nat → Prop)
    (hI : ∀ s A B, I s A → Below w.heap.size A B → I s B) (hm : ∀ k, mine k → k < w.heap.size) (h0 : I none w)
    (hS : ∀ x W o r, S x W → W.heap[w.heap.size + 1]? = some (.loop r) → S x (W.putObj (w.heap.size + 1) o))
    (hseq : ∀ (J : Option α → World → Prop) (W : World), Below w.heap.size w W → W.heap.size = w.heap.size + 2 → (∀ s A B, J s A → Below W.heap.size A B → J s B) →
      (∀ s x W1, J s W1 → Fin x W1 → W.heap.size ≤ W1.heap.size → YieldAt F (n - 1 - 1) P (w.heap.size + 1) (encs x) W1 fun e W' => e = .returned (.bool true) ∧ J (some x) W' ∧ Spare (fun k => mine k ∨ k = w.heap.size + 1) W1 W') →
      J none W → CallsIn F (n - 1) P gf (#[.func (.yield (w.heap.size + 1)) #[] #[]] ++ lb) W fun e W' => (∃ v, e = .returned v) ∧ ∃ x, S x W' ∧ J (some x) W')
    (a₁ : α → Act)
    (hassign : ∀ (l : Nat) (x : α) (W : World) (K : Act → World → Prop), K (a₁ x) W →
      assign.wpIn (F.inRound l) (n - 1 - 1) P (Exit.then K (fun _ _ _ => False)) { tmps := (ps.zip (encs x)).foldl (fun t (p, v) => t.setIfInBounds p v) a.tmps, defers := [] } W)
    (hbody : ∀ (l : Nat) (s : Option α) (x : α) (W : World), I s W → body.wpIn (F.inRound l) (n - 1 - 1) P (fun e _ W' => e = .normal ∧ Spare mine W W' ∧ I (some x) W') (a₁ x) W)
    (hdone : ∀ (x : α) (W : World), S x W → I (some x) W → W.heap[w.heap.size]? = some (.deferred (some [])) → Q .normal { a with defers := { target := .collected w.heap.size, args := #[] } :: a.defers } W) :
    (Code.rangeFunc g ps assign body).wpIn F n P Q a w := by
  refine wpIn_rangeFunc ?_
  intro fn hfn
  rw [hro]
  obtain ⟨rec, hrec⟩ : ∃ rec : LoopState → Option Code → Loop, rec = fun st pe => { state := st, pending := pe, fn, tmps := a.tmps, params := ps, assign, body, defers := w.heap.size } := ⟨_, rfl⟩
  obtain ⟨W1, hW1⟩ : ∃ W1, W1 = (w.alloc (.deferred (some []))).alloc (.loop (rec .ready none)) := ⟨_, rfl⟩
  have hsz : W1.heap.size = w.heap.size + 2 := by rw [hW1]; simp
  have hb1 : Below w.heap.size w W1 := by rw [hW1]; exact ((Below.refl _ w).alloc (Nat.le_refl _) _).alloc (by simp) _
  have hL1 : W1.heap[w.heap.size + 1]? = some (.loop (rec .ready none)) := by
    rw [hW1]
    have := World.alloc_heap_new (w.alloc (.deferred (some []))) (.loop (rec .ready none))
    rwa [World.size_alloc] at this
  have hK1 : W1.heap[w.heap.size]? = some (.deferred (some [])) := by
    rw [hW1]; exact (Below.heap_alloc _ _ _ (by simp)).trans (World.alloc_heap_new w _)
  refine ⟨w.heap.size + 1, [{ target := .collected w.heap.size, args := #[] }], W1, { target := .fn (.func gf) lb, args := #[.func (.yield (w.heap.size + 1)) #[] #[]] }, W1, gf,
    #[.func (.yield (w.heap.size + 1)) #[] #[]] ++ lb, W1, ?_, ?_, ?_, ?_, fun _ => h1, ?_⟩
  · rw [hW1, hrec]; exact run_enterLoop_outer _ _ _ _ _
  · simp only [resolve, hg]
    simp [go_sem]
  · intro f' hf'; simp [Target.leads] at hf'; subst hf'; exact hFg
  · simp [invoke, go_sem, eg]
  · refine (hseq (fun s W => I s W ∧ W.heap[w.heap.size + 1]? = some (.loop (rec .ready none)) ∧ W.heap[w.heap.size]? = some (.deferred (some []))) W1 hb1 hsz
      (fun s A B ⟨hi, hl, hk⟩ hb => ⟨hI s A B hi (hb.mono (by omega)), (hb.block _ (by omega)).trans hl, (hb.block _ (by omega)).trans hk⟩)
      ?_ ⟨hI _ _ _ h0 hb1, hL1, hK1⟩).mono ?_
    · rintro s x W ⟨hi, hl, hk⟩ _ _
      have hlt : w.heap.size + 1 < W.heap.size := (Array.getElem?_eq_some_iff.1 hl).1
      have hy := run_yield (P := P) (args := encs x) hl (by rw [hrec]; exact hps x)
      rw [hrec] at hy
      refine ⟨fn, _, assign, body, hy, roundIn_of_wpIn hfn (hassign _ x W _ ?_)⟩
      clear hy
      obtain ⟨Wb, hWb⟩ : ∃ Wb, Wb = W.putObj (w.heap.size + 1) (.loop { rec .ready none with state := .busy }) := ⟨_, rfl⟩
      refine ⟨Wb, by rw [hWb]; exact run_beginRound hl (by rw [hrec]), ?_⟩
      have hlb : Wb.heap[w.heap.size + 1]? = some (.loop { rec .ready none with state := .busy }) := by rw [hWb]; exact World.putObj_heap_same hlt
      have hkb : Wb.heap[w.heap.size]? = some (.deferred (some [])) := by rw [hWb]; exact (World.putObj_heap_other (by omega)).trans hk
      have hib : I s Wb := by rw [hWb]; exact hI _ _ _ hi (below_putObj W (by omega) _)
      have hsb : Spare (fun k => mine k ∨ k = w.heap.size + 1) W Wb := by rw [hWb]; exact Spare.putObj W (.inr rfl) _
      refine wpIn_mono (hbody _ s x Wb hib) ?_
      rintro e a3 W3 ⟨rfl, hsp, hi3⟩
      have hl3 : W3.heap[w.heap.size + 1]? = some (.loop { rec .ready none with state := .busy }) := (hsp.same _ (by have := hsb.size; omega) (fun h => by have := hm _ h; omega)).trans hlb
      have hk3 : W3.heap[w.heap.size]? = some (.deferred (some [])) := (hsp.same _ (by have := hsb.size; omega) (fun h => by have := hm _ h; omega)).trans hkb
      have hr := run_endRound (P := P) none hl3
      have hlt3 : w.heap.size + 1 < W3.heap.size := (Array.getElem?_eq_some_iff.1 hl3).1
      refine ⟨_, _, hr, rfl, ⟨hI _ _ _ hi3 (below_putObj W3 (by omega) _), ?_, (World.putObj_heap_other (by omega)).trans hk3⟩, (hsb.trans (hsp.weak (fun k h => .inl h))).trans (Spare.putObj W3 (.inr rfl) _)⟩
      rw [World.putObj_heap_same hlt3, hrec]
      rfl
    · rintro e W2 ⟨⟨v, rfl⟩, x, hx, hi, hl, hk⟩
      refine ⟨none, _, by have := run_endLoop (P := P) hl (by rw [hrec]; simp); rw [hrec] at this; exact this, ?_⟩
      exact hdone x _ (hS x W2 _ _ hx hl) (hI _ _ _ hi (below_putObj W2 (by omega) _)) ((World.putObj_heap_other (by omega)).trans hk)
end Go.Proofs.YtegldmdcdnnegaaGreatDoor
namespace Go.Proofs.YtegldmdcdnnegaaGreatDoor
open Go.ChangeShapes Go.WideShapes Go.ChangeAt Go.RowKit Go.Sort Go.Shelf
attribute [local go_sem] Oper.semAt_some

theorem setI_bitsOf {r : Nat} (hr : r < 16777216) : setI (bitsOf r) = r := by
  apply Nat.eq_of_testBit_eq
  intro i
  rw [Bool.eq_iff_iff, setI_mem (bitsOf_asc r) i, bitsOf_mem]
  constructor
  · rintro ⟨j, hj, _, hb⟩
    obtain rfl : i = j := by omega
    exact hb
  · intro hb
    refine ⟨i, rfl, ?_, hb⟩
    rcases Nat.lt_or_ge i 24 with h | h
    · exact h
    · rw [Nat.testBit_lt_two_pow (Nat.lt_of_lt_of_le hr (Nat.pow_le_pow_right (by omega) h : 2 ^ 24 ≤ 2 ^ i))] at hb
      cases hb
theorem setI_xorM {xs ys : List Int} (hx : ascB (-1) 24 xs = true) (hy : ascB (-1) 24 ys = true) : setI (xorM xs ys) = setI xs ^^^ setI ys := by
  rw [xorM_bits hx hy, setI_bitsOf (Nat.xor_lt_two_pow (n := 24) (setS_small hx) (setS_small hy))]
theorem xorM_asc {xs ys : List Int} (hx : ascB (-1) 24 xs = true) (hy : ascB (-1) 24 ys = true) : ascB (-1) 24 (xorM xs ys) = true := by
  rw [xorM_bits hx hy]; exact bitsOf_asc _
set_option maxRecDepth 100000 in
theorem xorS {xs ys : List Int} (hx : ascB (-1) 24 xs = true) (hy : ascB (-1) 24 ys = true) (w : World) :
    Calls Tryz.prog 92 #[.int .u32 (setI xs : Nat), .int .u32 (setI ys : Nat)] w fun e w' => e = .returned (.int .u32 (setI (xorM xs ys) : Nat)) ∧ w' = w := by
  have hb := u32_xor_nat (setI xs) (setI ys) (by have := setS_small hx; omega) (by have := setS_small hy; omega)
  have HE := hid (show bits .xor .u32 (setI xs : Nat) (setI ys : Nat) = ((setI (xorM xs ys) : Nat) : Int) by rw [hb, setI_xorM hx hy])
  clear hb
  go_enter Tryz.func92, Tryz.ntmps92
  go_wp2
  go_ret
  exact ⟨ret_int HE.out, rfl⟩

theorem made_byts (n : Nat) : (madeCells (Value.int .u8 0).cells (n * 1)).toList = (List.replicate n (0 : Int)).map (Value.int .u8) := by
  apply List.ext_getElem
  · simp [madeCells]
  · intro i h1 h2
    simp [madeCells, Value.cells, Nat.mod_one]
theorem fill_byts (xs : List Int) (n k : Nat) (x : Int) (h : k < n) (hl : xs.length = n) (hx : xs.take (k + 1) = xs.take k ++ [x]) :
    (xs.take k ++ List.replicate (n - k) (0 : Int)).set k x = xs.take (k + 1) ++ List.replicate (n - (k + 1)) 0 := by
  have hk : (xs.take k).length = k := by rw [List.length_take]; omega
  rw [List.set_append_right _ _ (by omega), hk, Nat.sub_self, hx]
  obtain ⟨m, hm⟩ : ∃ m, n - k = m + 1 := ⟨n - k - 1, by omega⟩
  rw [hm, List.replicate_succ, List.set_cons_zero, show n - (k + 1) = m by omega, List.append_assoc, List.singleton_append]
theorem byts_own {w : World} {base g n cap : Nat} {d : List Int} (h : w.ownsRow base 5 1 (.slice (some ⟨g, 0, none⟩) n cap) n (d.map (Value.int .u8))) (hd : d.length = n) : BytsAt w g d :=
  ⟨(h.lt g rfl).2, fun i hi => by rw [h.cellAt i (by omega), List.getElem?_map]; simp [List.getD, hi]⟩

set_option maxRecDepth 100000 in
set_option maxHeartbeats 2000000 in
theorem bmix_any (q1 q2 c1 c2 : Nat) (xs ys : List Int) (w : World) (h1 : BytsAt w q1 xs) (h2 : BytsAt w q2 ys) (hl : ys.length = xs.length) (hx : xs.length ≤ 1048576) :
    Calls Tryz.prog 93 #[.slice (some ⟨q1, 0, none⟩) xs.length c1, .slice (some ⟨q2, 0, none⟩) ys.length c2] w fun e w' => ∃ q c, e = .returned (.slice (some ⟨q, 0, none⟩) xs.length c) ∧ w.heap.size ≤ q ∧ BytsAt w' q (xorL xs ys) ∧ Below w.heap.size w w' := by
  obtain ⟨i0, hi, hz0, hz1, hz2⟩ := info_parts Tryz.info5
  have HH := hid hl
  have Q1 := hid h1
  have Q2 := hid h2
  rw [hl]
  clear hl h1 h2
  go_enter Tryz.func93, Tryz.ntmps93
  go_wp2_with (at_make; refine wpList_make_full _ rfl _ _ 102 rfl w.heap.size 5 i0 (.int .u8 0) 1 Tryz.underlying102 hi hz0 hz1 _ _ _ _ xs.length rfl rfl rfl rfl (by rw [hz2]; omega) (by unfold maxLen; omega) (Nat.le_refl _) ?_; intro w1 hown1 hgr1)
  have hb1 : Below w.heap.size w w1 := (Below.refl _ _).grown hgr1 (Nat.le_refl _) (fun k hk => by simp at hk)
  rw [made_byts] at hown1
  have HO := hid hown1
  clear hown1 hgr1
  go_loopw [12] (fun i wr => ∃ k : Nat, k ≤ xs.length ∧ i = .int .i64 k ∧ wr.ownsRow w.heap.size 5 1 (.slice (some ⟨w.heap.size, 0, none⟩) xs.length xs.length) xs.length (((xorL xs ys).take k ++ List.replicate (xs.length - k) (0 : Int)).map (Value.int .u8)) ∧ Below w.heap.size w wr) (fun i _ => xs.length - (intOf i).toNat)
  case atStart => exact ⟨0, Nat.zero_le _, rfl, HO.out, hb1⟩
  case round =>
    obtain ⟨k, hk, rfl, hown, hnx⟩ := hrel
    have hxl : (xorL xs ys).length = xs.length := xorL_len _ _ HH.out.symm
    by_cases hlt : k < xs.length
    · have hlt2 : k < ys.length := by have := HH.out; omega
      have hcell := hown.cellAt k (by omega)
      have hf := hown.frozenAt k
      obtain ⟨u, hu⟩ : ∃ u, wr.cell? ⟨w.heap.size, k, none⟩ = some u := by
        rw [hcell]; exact ⟨_, List.getElem?_eq_getElem (by rw [List.length_map, List.length_append, List.length_take, List.length_replicate]; omega)⟩
      have hx := xorL_take xs ys k hlt hlt2
      have e1 := (Q1.out.below hnx).2 k hlt
      have e2 := (Q2.out.below hnx).2 k hlt2
      obtain ⟨x, hx0⟩ : ∃ x, x = xs.getD k 0 := ⟨_, rfl⟩
      obtain ⟨y, hy0⟩ : ∃ y, y = ys.getD k 0 := ⟨_, rfl⟩
      rw [← hx0] at e1 hx
      rw [← hy0] at e2 hx
      have HST : Hid _ := hown.stored k (.int .u8 (bits .xor .u8 x y))
      have HX : Hid _ := hx
      have HXL : Hid _ := hxl
      clear hcell hown hx hxl hx0 hy0 hlt2
      go_wp2
      go_region
      all_goals
        go_wp2
        go_roundw
        case rel =>
          refine ⟨k + 1, by omega, by go_num, ?_, (hnx.setCell (Nat.le_refl _) _).drew⟩
          rw [← fill_byts _ xs.length k _ hlt HXL.out HX.out, List.map_set]
          exact HST.out.1.drew
        case measure => simp [intOf]; omega
    · obtain rfl : k = xs.length := by omega
      have HW : Hid _ := hown
      have HXL : Hid _ := hxl
      clear hown hxl
      go_wp2
      go_ret
      refine ⟨w.heap.size, _, rfl, Nat.le_refl _, ?_, hnx⟩
      have := HW.out
      rw [List.take_of_length_le (by rw [HXL.out]; exact Nat.le_refl _), Nat.sub_self, List.replicate_zero, List.append_nil] at this
      exact byts_own this HXL.out
end Go.Proofs.YtegldmdcdnnegaaGreatDoor
namespace Go.Proofs.YtegldmdcdnnegaaGreatDoor
open Go.ChangeShapes Go.WideShapes Go.ChangeAt Go.RowKit Go.Sort Go.Shelf
attribute [local go_sem] Oper.semAt_some

/-- What is left: the row, where the data lie, what they are. -/
structure El where
  r : List Int
  q : Nat
  c : Nat
  d : List Int
/-- One link more is taken out. -/
def stepL (s : List Int × List Int) (l : Lk) : List Int × List Int := if hd l.r ∈ s.1 then (xorM s.1 l.r, xorL s.2 l.d) else s
theorem roundIn_w {n n' l : Nat} {P : Program} {f : FuncId} {tmps : Array Value} {assign body : Code} {w : World} {R : Ending → World → Prop} (h : RoundIn Fence.wide n P l f tmps assign body w R) : RoundIn Fence.wide n' P l f tmps assign body w R :=
  ⟨h.1, fun c cs _ => h.2 c cs (room_wide _)⟩
theorem roundIn_r {n n' l l' : Nat} {P : Program} {f : FuncId} {tmps : Array Value} {assign body : Code} {w : World} {R : Ending → World → Prop} (h : RoundIn Fence.wide n P l f tmps assign body w R) : RoundIn (Fence.wide.inRound l') n' P l f tmps assign body w R :=
  ⟨h.1, fun c cs _ => h.2 c cs (room_wide _)⟩
theorem BytsAt.own {W W' : World} {q : Nat} {d : List Int} {row : Option Nat} (h : BytsAt W q d) (hg : W.grownBy W' row) (hr : ∀ r, row = some r → ∃ o : Obj, W.heap[r]? = some o ∧ o.isCells = false) : BytsAt W' q d :=
  ⟨Nat.lt_of_lt_of_le h.1 hg.size, fun i hi => cell_kept (h.2 i hi) hg hr⟩
theorem below_gr {n : Nat} {A B : World} {row : Option Nat} (hg : A.grownBy B row) (hn : n ≤ A.heap.size) (hr : ∀ r, row = some r → n ≤ r) : Below n A B := (Below.refl _ _).grown hg hn hr
theorem stepL_asc {s : List Int × List Int} {l : Lk} (h : ascB (-1) 24 s.1 = true) (hl : ascB (-1) 24 l.r = true) : ascB (-1) 24 (stepL s l).1 = true := by
  unfold stepL
  split
  · exact xorM_asc h hl
  · exact h
theorem stepL_len {s : List Int × List Int} {l : Lk} (h : l.d.length = s.2.length) : (stepL s l).2.length = s.2.length := by
  unfold stepL
  split
  · exact xorL_len _ _ h.symm
  · rfl
theorem Spare.keeps {m : Nat → Prop} {A B : World} (h : Spare m A B) {n : Nat} (hm : ∀ k, m k → k < n) : KeepsFrom n A B :=
  ⟨h.size, fun k o hk ho _ => (h.same k (Array.getElem?_eq_some_iff.1 ho).1 (fun hx => by have := hm k hx; omega)).trans ho⟩
/-- Link by link. -/
def stL {ls : List Lk} (pre : List {x : Lk // x ∈ ls}) (s : List Int × List Int) : List Int × List Int := pre.foldl (fun s x => stepL s x.1) s
theorem stL_snoc {ls : List Lk} (pre : List {x : Lk // x ∈ ls}) (x : {x : Lk // x ∈ ls}) (s : List Int × List Int) : stL (pre ++ [x]) s = stepL (stL pre s) x.1 := by simp [stL]
theorem stL_all (ls : List Lk) (s : List Int × List Int) : stL ls.attach s = ls.foldl stepL s := by
  unfold stL
  have : ∀ (xs : List {x : Lk // x ∈ ls}) (s : List Int × List Int), xs.foldl (fun s x => stepL s x.1) s = (xs.map (fun x => x.1)).foldl stepL s := fun xs => by
    induction xs with
    | nil => intro s; rfl
    | cons x xs ih => intro s; exact ih _
  rw [this, List.attach_map_subtype_val]
/-- Between two links. -/
structure LeftI (w0 A : World) (nV b4 b5 b6 l dl : Nat) (J : Option El → World → Prop) (s : List Int × List Int) : Prop where
  b : Below w0.heap.size w0 A
  n : nV ≤ A.heap.size
  y4 : A.heap[b4]? = some (.cells #[.func (.yield l) #[] #[]] 170 (0, 0))
  y5 : A.heap[b5]? = some (.cells #[.int .u32 (setI s.1 : Nat)] 97 (0, 0))
  ex : ∃ q c, A.heap[b6]? = some (.cells #[.slice (some ⟨q, 0, none⟩) s.2.length c] 102 (0, 0)) ∧ BytsAt A q s.2 ∧ J (some ⟨s.1, q, c, s.2⟩) A
  asc : ascB (-1) 24 s.1 = true
  len : s.2.length = dl
theorem LeftI.own {w0 A B : World} {nV b4 b5 b6 l dl n : Nat} {J : Option El → World → Prop} {s : List Int × List Int} {row : Option Nat} (h : LeftI w0 A nV b4 b5 b6 l dl J s) (hJ : ∀ s A B, J s A → Below n A B → J s B) (hn : n ≤ nV) (hw : w0.heap.size ≤ n)
    (hg : A.grownBy B row) (hr : ∀ r, row = some r → n ≤ r ∧ ∃ o : Obj, A.heap[r]? = some o ∧ o.isCells = false) : LeftI w0 B nV b4 b5 b6 l dl J s := by
  obtain ⟨h1, h2, h3, h4, ⟨q, c, h5, h6, h7⟩, h8, h9⟩ := h
  have hb : Below n A B := below_gr hg (by omega) (fun r e => (hr r e).1)
  exact ⟨h1.trans (hb.mono hw), Nat.le_trans h2 hg.size, own_blk h3 hg hr, own_blk h4 hg hr, ⟨q, c, own_blk h5 hg hr, h6.own hg (fun r e => (hr r e).2), hJ _ _ _ h7 hb⟩, h8, h9⟩
theorem new2a (V : World) (A B : Obj) {n : Nat} (h : V.heap.size = n + 1) : (((V.alloc A).alloc B).drew).heap[n + 1]? = some A := by
  rw [← h]
  exact (Below.heap_alloc (V.alloc A) B _ (by simp)).trans (heap_alloc_new V A)
theorem new2b (V : World) (A B : Obj) {n : Nat} (h : V.heap.size = n + 1) : (((V.alloc A).alloc B).drew).heap[n + 1 + 1]? = some B := by
  rw [← h]
  have := heap_alloc_new (V.alloc A) B
  rw [World.size_alloc] at this
  exact this
end Go.Proofs.YtegldmdcdnnegaaGreatDoor
