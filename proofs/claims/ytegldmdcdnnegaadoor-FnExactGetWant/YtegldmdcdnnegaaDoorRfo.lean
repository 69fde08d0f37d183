/- A range over a function whose iterator keeps cells of its own: what the caller says speaks of what lay ahead of the loop. -/
import Derived.Test.YtegldmdcdnnegaaDoorInrL
namespace Go.Proofs.YtegldmdcdnnegaaDoor
open Go.ChangeShapes Go.WideShapes Go.ChangeAt Go.RowKit Go.Sort Go.Shelf

/-- But for some blocks nothing turns. -/
structure Spare (mine : Nat → Prop) (W W' : World) : Prop where
  os : W'.os = W.os
  tape : W'.tape = W.tape
  output : W'.output = W.output
  size : W.heap.size ≤ W'.heap.size
  same : ∀ k, k < W.heap.size → ¬ mine k → W'.heap[k]? = W.heap[k]?
theorem Spare.refl (m : Nat → Prop) (W : World) : Spare m W W := ⟨rfl, rfl, rfl, Nat.le_refl _, fun _ _ _ => rfl⟩
theorem Spare.trans {m : Nat → Prop} {A B C : World} (h : Spare m A B) (k : Spare m B C) : Spare m A C :=
  ⟨k.os.trans h.os, k.tape.trans h.tape, k.output.trans h.output, Nat.le_trans h.size k.size, fun j hj hm => (k.same j (Nat.lt_of_lt_of_le hj h.size) hm).trans (h.same j hj hm)⟩
theorem Spare.weak {m m' : Nat → Prop} {A B : World} (h : Spare m A B) (hm : ∀ k, m k → m' k) : Spare m' A B := ⟨h.os, h.tape, h.output, h.size, fun k hk hn => h.same k hk (fun x => hn (hm k x))⟩
theorem Spare.below {m : Nat → Prop} {A B : World} (h : Spare m A B) {n : Nat} (hn : n ≤ A.heap.size) (hm : ∀ k, m k → n ≤ k) : Below n A B :=
  ⟨h.os, h.tape, h.output, h.size, fun k hk => h.same k (by omega) (fun x => by have := hm k x; omega)⟩
theorem Spare.putObj {m : Nat → Prop} (W : World) {l : Nat} (hl : m l) (o : Obj) : Spare m W (W.putObj l o) :=
  ⟨rfl, rfl, rfl, by simp, fun k _ hn => World.putObj_heap_other (fun e => hn (by rw [e]; exact hl))⟩
theorem Spare.setCell {m : Nat → Prop} (W : World) {g : Nat} (hg : m g) (i : Nat) (v : Value) : Spare m W (W.setCell ⟨g, i, none⟩ v) :=
  ⟨rfl, rfl, rfl, by show W.heap.size ≤ (W.heap.modify _ _).size; rw [Array.size_modify]; exact Nat.le_refl _, fun k _ hn => Below.heap_setCell W ⟨g, i, none⟩ v k (fun e => hn (by rw [e]; exact hg))⟩
theorem below_putObj {n : Nat} (W : World) {l : Nat} (hl : n ≤ l) (o : Obj) : Below n W (W.putObj l o) :=
  ⟨rfl, rfl, rfl, by simp, fun k hk => World.putObj_heap_other (by omega)⟩

theorem wpIn_rangeFunc_old {α : Type} {F : Fence} {n : Nat} {P : Program} {g : Operand} {ps : Array Tmp} {assign body : Code} {Q : Exit → Act → World → Prop} {a : Act} {w : World}
    (hro : F.round = none) (h1 : 1 ≤ n) {gf : Nat} {lb : Array Value} (hg : a.eval g = .func (.func gf) #[] lb) (hFg : F.fn gf) (eg : ∀ args w, (callFunc gf args).run P w = .ok (.enter gf args) w)
    {encs : α → Array Value} (hps : ∀ x, (encs x).size = ps.size)
    (Fin S : α → World → Prop) (I : Option α → World → Prop) (mine : Nat → Prop)
    (hI : ∀ s A B, I s A → Below w.heap.size A B → I s B) (hm : ∀ k, mine k → k < w.heap.size) (h0 : I none w)
    (hS : ∀ x W o r, S x W → W.heap[w.heap.size + 1]? = some (.loop r) → S x (W.putObj (w.heap.size + 1) o))
    (hseq : ∀ (J : Option α → World → Prop) (W : World), Below w.heap.size w W → W.heap.size = w.heap.size + 2 → (∀ s A B, J s A → Below W.heap.size A B → J s B) →
      (∀ s x W1, J s W1 → Fin x W1 → W.heap.size ≤ W1.heap.size → YieldAt F (n - 1 - 1) P (w.heap.size + 1) (encs x) W1 fun e W' => e = .returned (.bool true) ∧ J (some x) W' ∧ Spare (fun k => mine k ∨ k = w.heap.size + 1) W1 W') →
      J none W → CallsIn F (n - 1) P gf (#[.func (.yield (w.heap.size + 1)) #[] #[]] ++ lb) W fun e W' => (∃ v, e = .returned v) ∧ ∃ x, S x W' ∧ J (some x) W')
    (a₁ : α → Act)
    (hassign : ∀ (l : Nat) (x : α) (W : World) (K : Act → World → Prop), K (a₁ x) W →
      assign.wpIn (F.inRound l) (n - 1 - 1) P (Exit.then K (fun _ _ _ => False)) { tmps := (ps.zip (encs x)).foldl (fun t (p, v) => t.setIfInBounds p v) a.tmps, defers := [] } W)
    (hbody : ∀ (l : Nat) (s : Option α) (x : α) (W : World), I s W → body.wpIn (F.inRound l) (n - 1 - 1) P (fun e _ W' => e = .normal ∧ Spare mine W W' ∧ I (some x) W') (a₁ x) W)
    (hdone : ∀ (x : α) (W : World), S x W → I (some x) W → W.heap[w.heap.size]? = some (.deferred (some [])) → Q .normal { a with defers := { target := .collected w.heap.size, args := #[] } :: a.defers } W) :
    (Code.rangeFunc g ps assign body).wpIn F n P Q a w := by
  refine wpIn_rangeFunc ?_
  intro fn hfn
  rw [hro]
  obtain ⟨rec, hrec⟩ : ∃ rec : LoopState → Option Code → Loop, rec = fun st pe => { state := st, pending := pe, fn, tmps := a.tmps, params := ps, assign, body, defers := w.heap.size } := ⟨_, rfl⟩
  obtain ⟨W1, hW1⟩ : ∃ W1, W1 = (w.alloc (.deferred (some []))).alloc (.loop (rec .ready none)) := ⟨_, rfl⟩
  have hsz : W1.heap.size = w.heap.size + 2 := by rw [hW1]; simp
  have hb1 : Below w.heap.size w W1 := by rw [hW1]; exact ((Below.refl _ w).alloc (Nat.le_refl _) _).alloc (by simp) _
  have hL1 : W1.heap[w.heap.size + 1]? = some (.loop (rec .ready none)) := by
    rw [hW1]
    have := World.alloc_heap_new (w.alloc (.deferred (some []))) (.loop (rec .ready none))
    rwa [World.size_alloc] at this
  have hK1 : W1.heap[w.heap.size]? = some (.deferred (some [])) := by
    rw [hW1]; exact (Below.heap_alloc _ _ _ (by simp)).trans (World.alloc_heap_new w _)
  refine ⟨w.heap.size + 1, [{ target := .collected w.heap.size, args := #[] }], W1, { target := .fn (.func gf) lb, args := #[.func (.yield (w.heap.size + 1)) #[] #[]] }, W1, gf,
    #[.func (.yield (w.heap.size + 1)) #[] #[]] ++ lb, W1, ?_, ?_, ?_, ?_, fun _ => h1, ?_⟩
  · rw [hW1, hrec]; exact run_enterLoop_outer _ _ _ _ _
  · simp only [resolve, hg]
    simp [go_sem]
  · intro f' hf'; simp [Target.leads] at hf'; subst hf'; exact hFg
  · simp [invoke, go_sem, eg]
  · refine (hseq (fun s W => I s W ∧ W.heap[w.heap.size + 1]? = some (.loop (rec .ready none)) ∧ W.heap[w.heap.size]? = some (.deferred (some []))) W1 hb1 hsz
      (fun s A B ⟨hi, hl, hk⟩ hb => ⟨hI s A B hi (hb.mono (by omega)), (hb.block _ (by omega)).trans hl, (hb.block _ (by omega)).trans hk⟩)
      ?_ ⟨hI _ _ _ h0 hb1, hL1, hK1⟩).mono ?_
    · rintro s x W ⟨hi, hl, hk⟩ _ _
      have hlt : w.heap.size + 1 < W.heap.size := (Array.getElem?_eq_some_iff.1 hl).1
      have hy := run_yield (P := P) (args := encs x) hl (by rw [hrec]; exact hps x)
      rw [hrec] at hy
      refine ⟨fn, _, assign, body, hy, roundIn_of_wpIn hfn (hassign _ x W _ ?_)⟩
      clear hy
      obtain ⟨Wb, hWb⟩ : ∃ Wb, Wb = W.putObj (w.heap.size + 1) (.loop { rec .ready none with state := .busy }) := ⟨_, rfl⟩
      refine ⟨Wb, by rw [hWb]; exact run_beginRound hl (by rw [hrec]), ?_⟩
      have hlb : Wb.heap[w.heap.size + 1]? = some (.loop { rec .ready none with state := .busy }) := by rw [hWb]; exact World.putObj_heap_same hlt
      have hkb : Wb.heap[w.heap.size]? = some (.deferred (some [])) := by rw [hWb]; exact (World.putObj_heap_other (by omega)).trans hk
      have hib : I s Wb := by rw [hWb]; exact hI _ _ _ hi (below_putObj W (by omega) _)
      have hsb : Spare (fun k => mine k ∨ k = w.heap.size + 1) W Wb := by rw [hWb]; exact Spare.putObj W (.inr rfl) _
      refine wpIn_mono (hbody _ s x Wb hib) ?_
      rintro e a3 W3 ⟨rfl, hsp, hi3⟩
      have hl3 : W3.heap[w.heap.size + 1]? = some (.loop { rec .ready none with state := .busy }) := (hsp.same _ (by have := hsb.size; omega) (fun h => by have := hm _ h; omega)).trans hlb
      have hk3 : W3.heap[w.heap.size]? = some (.deferred (some [])) := (hsp.same _ (by have := hsb.size; omega) (fun h => by have := hm _ h; omega)).trans hkb
      have hr := run_endRound (P := P) none hl3
      have hlt3 : w.heap.size + 1 < W3.heap.size := (Array.getElem?_eq_some_iff.1 hl3).1
      refine ⟨_, _, hr, rfl, ⟨hI _ _ _ hi3 (below_putObj W3 (by omega) _), ?_, (World.putObj_heap_other (by omega)).trans hk3⟩, (hsb.trans (hsp.weak (fun k h => .inl h))).trans (Spare.putObj W3 (.inr rfl) _)⟩
      rw [World.putObj_heap_same hlt3, hrec]
      rfl
    · rintro e W2 ⟨⟨v, rfl⟩, x, hx, hi, hl, hk⟩
      refine ⟨none, _, by have := run_endLoop (P := P) hl (by rw [hrec]; simp); rw [hrec] at this; exact this, ?_⟩
      exact hdone x _ (hS x W2 _ _ hx hl) (hI _ _ _ hi (below_putObj W2 (by omega) _)) ((World.putObj_heap_other (by omega)).trans hk)
end Go.Proofs.YtegldmdcdnnegaaDoor
