/- What is known behind an equation that was learnt: values alone. What an equation that is learnt makes of what is known: values alone. -/
import Derived.Test.YtpdaobiaekamoaaDoorG22
import Derived.Test.YtpdaobiaekamoaaDoorG9
import Derived.Test.YtpdaobiaekamoaaDoorG11
namespace Go.Proofs.YtpdaobiaekamoaaDoor
open Go.ChangeShapes Go.WideShapes Go.ChangeAt Go.RowKit Go.Sort Go.Shelf

/-- A row and its data. -/
abbrev Vl := List Int × ByteArray
def valsE (es : List EqV) : List Vl := es.map (fun e => (e.r, e.d))
theorem vals_same {fs es : List EqV} : valsE fs = valsE es ↔ SamV fs es := by
  constructor
  · intro h
    have h1 := congrArg (List.map Prod.fst) h
    have h2 := congrArg (List.map Prod.snd) h
    simp only [valsE, List.map_map] at h1 h2
    exact ⟨h1, h2⟩
  · rintro ⟨h1, h2⟩
    induction fs generalizing es with
    | nil => cases es with
      | nil => rfl
      | cons e es => simp at h1
    | cons f fs ih => cases es with
      | nil => simp at h1
      | cons e es =>
        simp only [List.map_cons, List.cons.injEq] at h1 h2
        simp only [valsE, List.map_cons, h1.1, h2.1]
        rw [show List.map (fun e => (e.r, e.d)) fs = List.map (fun e => (e.r, e.d)) es from ih h1.2 h2.2]
/-- Put together with what is learnt, where that one's first number is in the row. -/
def mixE (s : List Int × List Int) (k : Vl) : Vl := if hd s.1 ∈ k.1 then (xorM k.1 s.1, strOfNums (xorL (numsOf k.2) s.2)) else k
/-- Ahead of the first whose first number is greater. -/
def insE (e : Vl) : List Vl → List Vl
  | [] => [e]
  | k :: ks => if hd e.1 < hd k.1 then e :: k :: ks else k :: insE e ks
def learnE (s : List Int × List Int) (ks : List Vl) : List Vl := insE (s.1, strOfNums s.2) (ks.map (mixE s))
/-- What is still to be handed out: in its place, if that was not yet. -/
def restE (e : Vl) (done : Bool) (ks : List Vl) : List Vl := if done then ks else insE e ks
theorem rest_done (e k : Vl) (ks : List Vl) : restE e true (k :: ks) = k :: restE e true ks := rfl
theorem rest_new {e k : Vl} {ks : List Vl} (h : hd e.1 < hd k.1) : restE e false (k :: ks) = e :: k :: restE e true ks := by
  show insE e (k :: ks) = _
  rw [insE, if_pos h]
  rfl
theorem rest_old {e k : Vl} {ks : List Vl} (h : ¬ hd e.1 < hd k.1) : restE e false (k :: ks) = k :: restE e false ks := by
  show insE e (k :: ks) = _
  rw [insE, if_neg h]
  rfl
theorem ins_mem {e x : Vl} : ∀ {ks : List Vl}, x ∈ insE e ks ↔ x = e ∨ x ∈ ks
  | [] => by simp [insE]
  | k :: ks => by
    unfold insE
    split
    · simp
    · rw [List.mem_cons, ins_mem, List.mem_cons]
      constructor
      · rintro (h | h | h)
        · exact .inr (.inl h)
        · exact .inl h
        · exact .inr (.inr h)
      · rintro (h | h | h)
        · exact .inr (.inl h)
        · exact .inl h
        · exact .inr (.inr h)
theorem ins_len (e : Vl) : ∀ (ks : List Vl), (insE e ks).length = ks.length + 1
  | [] => rfl
  | k :: ks => by
    unfold insE
    split
    · rfl
    · rw [List.length_cons, ins_len e ks, List.length_cons]
theorem ins_pair {R : Vl → Vl → Prop} {e : Vl} : ∀ {ks : List Vl}, ks.Pairwise R → ks.Pairwise (fun a b => hd a.1 < hd b.1) → (∀ k ∈ ks, hd e.1 < hd k.1 → R e k) → (∀ k ∈ ks, ¬ hd e.1 < hd k.1 → R k e) → (insE e ks).Pairwise R
  | [], _, _, _, _ => by simp [insE]
  | k :: ks, hl, hu, h1, h2 => by
    obtain ⟨hl1, hl2⟩ := List.pairwise_cons.1 hl
    obtain ⟨hu1, hu2⟩ := List.pairwise_cons.1 hu
    unfold insE
    split
    · rename_i h
      refine List.pairwise_cons.2 ⟨fun x hx => ?_, hl⟩
      rcases List.mem_cons.1 hx with rfl | hx'
      · exact h1 _ (List.mem_cons_self ..) h
      · exact h1 x hx (by have := hu1 x hx'; omega)
    · rename_i h
      refine List.pairwise_cons.2 ⟨fun x hx => ?_, ins_pair hl2 hu2 (fun y hy => h1 y (List.mem_cons_of_mem _ hy)) (fun y hy => h2 y (List.mem_cons_of_mem _ hy))⟩
      rcases ins_mem.1 hx with rfl | hx'
      · exact h2 _ (List.mem_cons_self ..) h
      · exact hl1 x hx'
/-- In its form, by values. -/
def okV (c z : Int) (ks : List Vl) : Prop := (∀ k ∈ ks, ascB (-1) c k.1 = true ∧ (k.2.size : Int) = z ∧ k.1 ≠ []) ∧ ks.Pairwise (fun a b => fit1 a.1 b.1)
theorem ok_vals {c z : Int} {es : List EqV} : okE c z es ↔ okV c z (valsE es) := by
  rw [okE_iff]
  unfold okV valsE
  rw [List.pairwise_map, List.pairwise_iff_getElem]
  constructor
  · intro h
    refine ⟨fun k hk => ?_, fun i j hi hj hij => (h i hi).2 j hj hij⟩
    obtain ⟨e, he, rfl⟩ := List.mem_map.1 hk
    obtain ⟨i, hi, rfl⟩ := List.getElem_of_mem he
    exact (h i hi).1
  · rintro ⟨h1, h2⟩ i hi
    exact ⟨h1 _ (List.mem_map.2 ⟨es[i], List.getElem_mem hi, rfl⟩), fun j hj hij => h2 i j hi hj hij⟩
theorem mix_facts {s : List Int × List Int} {k : Vl} (hs : ascB (-1) 24 s.1 = true) (hk : ascB (-1) 24 k.1 = true) (hs0 : s.1 ≠ []) (hk0 : k.1 ≠ []) (hf : hd k.1 ∉ s.1) :
    (mixE s k).1 ≠ [] ∧ hd (mixE s k).1 = hd k.1 ∧ ascB (-1) 24 (mixE s k).1 = true ∧ hd s.1 ∉ (mixE s k).1 ∧ (∀ x, 0 ≤ x → x ∉ k.1 → x ∉ s.1 → x ∉ (mixE s k).1) := by
  have hm := hd_mem hs0
  have h0 := (asc_mem hs hm).1
  unfold mixE
  by_cases hin : hd s.1 ∈ k.1
  · rw [if_pos hin]
    have hx := hd_xor hk hs hs0 hin (fun e => hf (by rw [← e]; exact hm))
    refine ⟨hx.1, hx.2, xorM_asc hk hs, fun h => (mem_xor hk hs (by omega)).1 h ⟨fun _ => hm, fun _ => hin⟩, fun x x0 h1 h2 h => (mem_xor hk hs x0).1 h ⟨fun h3 => absurd h3 h1, fun h3 => absurd h3 h2⟩⟩
  · rw [if_neg hin]
    exact ⟨hk0, rfl, hk, hin, fun x _ h1 _ => h1⟩
theorem asc_low {lo hi hi' : Int} {xs : List Int} (h : ascB lo hi xs = true) (hb : ∀ x ∈ xs, x < hi') : ascB lo hi' xs = true := by
  induction xs generalizing lo with
  | nil => rfl
  | cons x r ih =>
    obtain ⟨h1, h2⟩ := asc_cons.1 h
    exact asc_cons.2 ⟨⟨h1.1, hb x (List.mem_cons_self ..)⟩, ih h2 (fun y hy => hb y (List.mem_cons_of_mem _ hy))⟩
theorem xor_low {xs ys : List Int} {c : Int} (hx : ascB (-1) 24 xs = true) (hy : ascB (-1) 24 ys = true) (bx : ∀ x ∈ xs, x < c) (b_y : ∀ x ∈ ys, x < c) : ∀ x ∈ xorM xs ys, x < c := fun x hm => by
  have h0 := (asc_mem (xorM_asc hx hy) hm).1
  by_cases h1 : x ∈ xs
  · exact bx x h1
  · by_cases h2 : x ∈ ys
    · exact b_y x h2
    · exact absurd ((mem_xor hx hy (by omega)).1 hm) (fun k => k ⟨fun h => absurd h h1, fun h => absurd h h2⟩)
theorem less_low {c z : Int} {es : List EqV} (hok : okE c z es) (hc : c ≤ 24) : ∀ {s : List Int × List Int}, ascB (-1) 24 s.1 = true → (∀ x ∈ s.1, x < c) → (s.2.length : Int) = z →
    ascB (-1) 24 (es.foldl stepE s).1 = true ∧ (∀ x ∈ (es.foldl stepE s).1, x < c) ∧ ((es.foldl stepE s).2.length : Int) = z := by
  induction es with
  | nil => intro s h1 h2 h3; exact ⟨h1, h2, h3⟩
  | cons e es ih =>
    intro s h1 h2 h3
    obtain ⟨⟨ha, hz, -⟩, hr⟩ := hok
    have ha24 := asc_up ha hc
    refine ih hr (stepE_asc h1 ha24) ?_ (by rw [stepE_len (by omega)]; exact h3)
    unfold stepE
    split
    · exact xor_low h1 ha24 h2 (fun x hx => (asc_mem ha hx).2)
    · exact h2
/-- What was in its form is in its form behind what was learnt. -/
theorem learn_ok {c z : Int} {es : List EqV} {row d : List Int} (hok : okE c z es) (hc : c ≤ 24) (hrow : ascB (-1) c row = true) (hd' : (d.length : Int) = z) (hne : (es.foldl stepE (row, d)).1 ≠ []) : okV c z (learnE (es.foldl stepE (row, d)) (valsE es)) := by
  obtain ⟨h1, h2, h3⟩ := less_low hok hc (s := (row, d)) (asc_up hrow hc) (fun x hx => (asc_mem hrow hx).2) hd'
  have hfree : ∀ e ∈ es, hd e.r ∉ (es.foldl stepE (row, d)).1 := fun e he => less_free hok hc (asc_up hrow hc) he
  obtain ⟨s, hs⟩ : ∃ s, s = es.foldl stepE (row, d) := ⟨_, rfl⟩
  rw [← hs] at h1 h2 h3 hfree hne ⊢
  have hv := ok_vals.1 hok
  have hfv : ∀ k ∈ valsE es, hd k.1 ∉ s.1 := fun k hk => by
    obtain ⟨e, he, rfl⟩ := List.mem_map.1 hk
    exact hfree e he
  have hmx : ∀ k ∈ valsE es, _ := fun k hk => mix_facts (s := s) (k := k) h1 (asc_up (hv.1 k hk).1 hc) hne (hv.1 k hk).2.2 (hfv k hk)
  have hpair : ((valsE es).map (mixE s)).Pairwise (fun a b => fit1 a.1 b.1) := by
    rw [List.pairwise_map]
    refine List.Pairwise.imp_of_mem (fun {a b} ha hb hab => ?_) hv.2
    obtain ⟨-, a2, -, -, a5⟩ := hmx a ha
    obtain ⟨-, b2, -, -, -⟩ := hmx b hb
    refine ⟨by rw [a2, b2]; exact hab.1, ?_⟩
    rw [b2]
    exact a5 _ (by have := (asc_mem (hv.1 b hb).1 (hd_mem (hv.1 b hb).2.2)).1; omega) hab.2 (hfv b hb)
  refine ⟨fun k hk => ?_, ins_pair hpair (hpair.imp (fun h => h.1)) ?_ ?_⟩
  · rcases ins_mem.1 hk with rfl | hk'
    · exact ⟨asc_low h1 h2, by rw [strOfNums_size]; exact h3, hne⟩
    · obtain ⟨k0, hk0, rfl⟩ := List.mem_map.1 hk'
      obtain ⟨m1, -, m3, -, -⟩ := hmx k0 hk0
      have hk1 := hv.1 k0 hk0
      refine ⟨asc_low m3 ?_, ?_, m1⟩
      · unfold mixE
        split
        · exact xor_low (asc_up hk1.1 hc) h1 (fun x hx => (asc_mem hk1.1 hx).2) h2
        · exact fun x hx => (asc_mem hk1.1 hx).2
      · unfold mixE
        split
        · show ((strOfNums (xorL (numsOf k0.2) s.2)).size : Int) = z
          rw [strOfNums_size, xorL_len _ _ (by rw [numsOf_len]; have := hk1.2.1; omega), numsOf_len]
          exact hk1.2.1
        · exact hk1.2.1
  · intro k hk hlt
    obtain ⟨k0, hk0, rfl⟩ := List.mem_map.1 hk
    obtain ⟨-, m2, -, -, -⟩ := hmx k0 hk0
    exact ⟨hlt, by rw [m2]; exact hfv k0 hk0⟩
  · intro k hk hge
    obtain ⟨k0, hk0, rfl⟩ := List.mem_map.1 hk
    obtain ⟨-, m2, -, m4, -⟩ := hmx k0 hk0
    refine ⟨?_, m4⟩
    have hneq : hd k0.1 ≠ hd s.1 := fun e => hfv k0 hk0 (by rw [e]; exact hd_mem hne)
    show hd (mixE s k0).1 < hd s.1
    have h4 : ¬ hd s.1 < hd (mixE s k0).1 := hge
    omega
end Go.Proofs.YtpdaobiaekamoaaDoor
namespace Go.Proofs.YtpdaobiaekamoaaDoor
open Go.ChangeShapes Go.WideShapes Go.ChangeAt Go.RowKit Go.Sort Go.Shelf

/-- What is known behind an equation that is right, and its code. -/
def learnV (es : List EqV) (row d : List Int) : List Vl := if (es.foldl stepE (row, d)).1 = [] then valsE es else learnE (es.foldl stepE (row, d)) (valsE es)
def learnC (es : List EqV) (row d : List Int) (n : Nat) : Int := if (es.foldl stepE (row, d)).1 = [] then codeK (es.foldl stepE (row, d)).2 n else 0
def addP (c z : Int) (es : List EqV) (row : List Int) (data : ByteArray) : Prop := solverP c z es ∧ ascB (-1) c row = true ∧ (data.size : Int) = z
def addV (_c _z : Int) (es : List EqV) (row : List Int) (data : ByteArray) (d : Bool) (e : Bool) : List Vl := if e then (if d then learnV es row (numsOf data) else valsE es) else []
def addC (es : List EqV) (row : List Int) (data : ByteArray) (d : Bool) : Int := if d then learnC es row (numsOf data) data.size else 3
/-- A solver and a code that were handed out, in memory of their own. -/
def AddO (w w' : World) (B : Nat) (c z : Int) (vs : List Vl) (code : Int) (e : Ending) : Prop :=
  ∃ a' c' gs, e = .returned (.tuple #[.agg #[.int .i64 c, .int .i64 z, .slice a' gs.length c'], .int .i64 code]) ∧ w'.ownsRow B 53 2 (.slice a' gs.length c') gs.length (eqCells gs) ∧ valsE gs = vs ∧ RowsOwn w' B gs ∧ Below w.heap.size w w'
theorem vals_len {gs : List EqV} {vs : List Vl} (h : valsE gs = vs) : gs.length = vs.length := by rw [← h]; simp [valsE]
end Go.Proofs.YtpdaobiaekamoaaDoor
