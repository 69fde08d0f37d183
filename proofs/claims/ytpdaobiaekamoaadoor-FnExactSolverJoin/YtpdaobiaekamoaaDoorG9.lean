/- Arguments that came in, read as data: numbers, texts, structs, slices of whatever. Slices of ints held against each other by the laws. Solvers that come in: read, measured, compared. -/
import Derived.Test.YtpdaobiaekamoaaDoorG0
import Derived.Deep.Slices
import Derived.SliceStrings
import Derived.Test.YtpdaobiaekamoaaDoorG8
namespace Go.Proofs.YtpdaobiaekamoaaDoor
open Go.ChangeShapes Go.WideShapes Go.ChangeAt Go.RowKit

/-- Cells that can be read as a value of a type. -/
def Reads (W : World) (t : TypeId) (cs : List Value) : Prop :=
  ∃ (H : Type) (enc : TypeId × Value → H) (fuel : Nat) (x : DataW H × List MemPlace), DataW.trod enc Tryd.prog W 0 (fun _ => true) true fuel t cs = some x

theorem Reads.int {W : World} {t : TypeId} {k : IntKind} {cs : List Value} (ht : Tryd.prog.underlying t = some (.int k)) (h : Reads W t cs) : ∃ n, cs = [.int k n] ∧ (Lit.int k n).wf = true := by
  obtain ⟨H, enc, fuel, x, h⟩ := h
  cases fuel with
  | zero => simp [DataW.trod] at h
  | succ n =>
    unfold DataW.trod at h
    rw [ht] at h
    split at h <;> simp_all
theorem Reads.string {W : World} {t : TypeId} {cs : List Value} (ht : Tryd.prog.underlying t = some .string) (h : Reads W t cs) : ∃ s, cs = [.string s] ∧ s.size ≤ maxLen := by
  obtain ⟨H, enc, fuel, x, h⟩ := h
  cases fuel with
  | zero => simp [DataW.trod] at h
  | succ n =>
    unfold DataW.trod at h
    rw [ht] at h
    split at h <;> simp_all
theorem Reads.bool {W : World} {t : TypeId} {cs : List Value} (ht : Tryd.prog.underlying t = some .bool) (h : Reads W t cs) : ∃ b, cs = [.bool b] := by
  obtain ⟨H, enc, fuel, x, h⟩ := h
  cases fuel with
  | zero => simp [DataW.trod] at h
  | succ n =>
    unfold DataW.trod at h
    rw [ht] at h
    split at h <;> simp_all
theorem Reads.struct {W : World} {t : TypeId} {fs : Array Field} {cs : List Value} (ht : Tryd.prog.underlying t = some (.struct fs)) (h : Reads W t cs) :
    cs.length = Tryd.prog.cellsOf t ∧ ∀ (i : Nat) (f : Field), fs[i]? = some f → Reads W f.type ((cs.drop f.offset).take (Tryd.prog.cellsOf f.type)) := by
  obtain ⟨H, enc, fuel, x, h⟩ := h
  obtain ⟨xs, n, _, _, hl, hx, hf⟩ := DataW.trod_struct ht h
  refine ⟨hl, fun i f hi => ?_⟩
  have h1 := hf i f hi
  have : i < fs.size := by
    rcases Nat.lt_or_ge i fs.size with h | h
    · exact h
    · rw [Array.getElem?_eq_none h] at hi; simp at hi
  rw [List.getElem?_eq_getElem (by omega)] at h1
  exact ⟨H, enc, n, _, h1⟩
theorem Reads.slice {W : World} {t e : TypeId} {cs : List Value} (ht : Tryd.prog.underlying t = some (.slice e)) (h : Reads W t cs) :
    cs = [.slice none 0 0] ∨ ∃ (a : Addr) (len cap : Nat), cs = [.slice (some a) len cap] ∧ len ≤ cap ∧ cap ≤ maxLen ∧
      ∀ i, i < cap → ∃ cs', W.cells? 0 (a.add (i * Tryd.prog.cellsOf e)) (Tryd.prog.cellsOf e) = some cs' ∧ Reads W e cs' := by
  obtain ⟨H, enc, fuel, x, h⟩ := h
  rcases Go.Deep.open_slice ht h with ⟨h0, _⟩ | ⟨a, len, cap, m, n, D, Pl, h0, _, hl, hm, hmm, _, hx⟩
  · exact Or.inl h0
  · refine Or.inr ⟨a, len, cap, h0, hl, hm, fun i hi => ?_⟩
    obtain ⟨cs', h1, h2⟩ := hx i (by rw [hmm]; simpa using hi)
    exact ⟨cs', h1, H, enc, n, _, h2⟩
theorem Reads.ints {W : World} {t e : TypeId} {k : IntKind} {cs : List Value} (ht : Tryd.prog.underlying t = some (.slice e)) (he : Tryd.prog.underlying e = some (.int k)) (hc : Tryd.prog.cellsOf e = 1) (h : Reads W t cs) :
    ∃ a len cap zs, cs = [.slice a len cap] ∧ IsRow k W a len cap zs := by
  obtain ⟨H, enc, fuel, x, h⟩ := h
  rcases open_ints ht he hc h with ⟨hcs, _⟩ | ⟨x, l, c, zs, hcs, _, hl, hm, hz, _, hcell, hwz⟩
  · exact ⟨none, 0, 0, [], hcs, .inl ⟨rfl, rfl, rfl, rfl⟩⟩
  · exact ⟨some x, l, c, zs, hcs, .inr ⟨_, rfl, hl, hm, by simpa using hz, hcell, hwz⟩⟩
set_option maxRecDepth 100000 in
/-- The cells of an argument that is a struct. -/
theorem Reads.arg {H : Type} {enc : TypeId × Value → H} {W : World} {t : TypeId} {fs : Array Field} {r : Reach} {b0 : Nat} {v : Value} {d : DataW H} {ps : List MemPlace} (ht : Tryd.prog.underlying t = some (.struct fs))
    (hv : Value.okWide Tryd.prog W r b0 t v) (h : DataW.Trod enc Tryd.prog W 0 (fun _ => true) true t v d ps) : ∃ cs : List Value, v = .agg cs.toArray ∧ Reads W t cs := by
  obtain ⟨cs, rfl, _⟩ := okWide_struct ht hv
  obtain ⟨m, hm⟩ := h
  refine ⟨cs.toList, by simp, H, enc, m, (d, ps), ?_⟩
  simpa [Value.cells] using hm
end Go.Proofs.YtpdaobiaekamoaaDoor
namespace Go.Proofs.YtpdaobiaekamoaaDoor
open Go.ChangeShapes Go.WideShapes Go.ChangeAt Go.RowKit

set_option maxHeartbeats 1000000 in
theorem eqIntS_any (a b : Option Addr) (ca cb : Nat) (xs ys : List Int) (w : World) (ha : IntsAt w a xs) (hb : IntsAt w b ys) (hx : xs.length ≤ 1152921504606846976) :
    Calls Tryd.prog 18 #[.slice a xs.length ca, .slice b ys.length cb] w fun e w' => e = .returned (.bool (decide (xs = ys))) ∧ ∃ n, w' = w.drewN n := by
  by_cases hl : xs.length = ys.length
  · have hl2 : ((xs.length : Int) != ys.length) = false := by simp [hl]
    have HL : Hid (xs.length = ys.length) := hl
    clear hl
    go_enter Tryd.func18, Tryd.ntmps18
    go_wp2
    go_loopw [5] (fun i wr => ∃ k : Nat, k ≤ xs.length ∧ i = .int .i64 k ∧ xs.take k = ys.take k ∧ ∃ n, wr = w.drewN n) (fun i _ => xs.length - (intOf i).toNat)
    case atStart => exact ⟨0, Nat.zero_le _, rfl, rfl, 0, rfl⟩
    case round =>
      obtain ⟨k, hk, rfl, he, n, rfl⟩ := hrel
      by_cases hlt : k < xs.length
      · have hne : xs ≠ [] := by intro h; simp [h] at hlt
        have hlt2 : k < ys.length := by have := HL.out; omega
        have hne2 : ys ≠ [] := by intro h; simp [h] at hlt2
        obtain ⟨b1, o1, rfl, h1⟩ := ha hne
        obtain ⟨b2, o2, rfl, h2⟩ := hb hne2
        have c1 := h1 k hlt
        have c2 := h2 k (by omega)
        have HE : Hid _ := he
        obtain ⟨X, hX⟩ : ∃ X, X = xs.getD k 0 := ⟨_, rfl⟩
        obtain ⟨Y, hY⟩ : ∃ Y, Y = ys.getD k 0 := ⟨_, rfl⟩
        rw [← hX] at c1
        rw [← hY] at c2
        have HX : Hid _ := hX
        have HY : Hid _ := hY
        clear he h1 h2 hX hY
        by_cases hxy : X = Y
        · have hxy' : (X != Y) = false := by simp [hxy]
          have HXY : Hid _ := hxy
          clear hxy
          go_wp2
          go_quiet (fail)
          go_wp2
          go_roundw
          case rel => exact ⟨k + 1, by omega, by go_num, take_eq HE.out hlt hlt2 (by rw [← HX.out, ← HY.out]; exact HXY.out), n + nq, rfl⟩
          case measure => simp [intOf]; omega
        · have hxy' : (X != Y) = true := by simp [hxy]
          have HXY : Hid _ := hxy
          clear hxy
          go_wp2
          go_quiet (fail)
          go_wp2
          go_ret
          exact ⟨ret_bool (by simpa using take_ne (by rw [← HX.out, ← HY.out]; exact HXY.out)), drewN_two w n nq⟩
      · go_wp2
        go_ret
        refine ⟨ret_bool ?_, n, rfl⟩
        have h1 : xs = ys := by
          have e1 : xs.take k = xs := List.take_of_length_le (by omega)
          have e2 : ys.take k = ys := List.take_of_length_le (by have := HL.out; omega)
          rw [e1, e2] at he; exact he
        simp [h1]
  · have hl2 : ((xs.length : Int) != ys.length) = true := by simp; omega
    have hne : xs ≠ ys := fun h => hl (by rw [h])
    have HN : Hid _ := hne
    clear hl hne
    go_enter Tryd.func18, Tryd.ntmps18
    go_wp2
    go_ret
    exact ⟨ret_bool (by simpa using HN.out), 0, rfl⟩
end Go.Proofs.YtpdaobiaekamoaaDoor
namespace Go.Proofs.YtpdaobiaekamoaaDoor
open Go.ChangeShapes Go.WideShapes Go.ChangeAt Go.RowKit Go.Sort Go.Shelf
attribute [local go_sem] Oper.semAt_some

/-- The same equations, wherever they lie. -/
def SamV (es fs : List EqV) : Prop := es.map EqV.r = fs.map EqV.r ∧ es.map EqV.d = fs.map EqV.d
theorem SamV.len {es fs : List EqV} (h : SamV es fs) : es.length = fs.length := by
  have := congrArg List.length h.1
  rwa [List.length_map, List.length_map] at this
theorem SamV.at {es fs : List EqV} (h : SamV es fs) {k : Nat} (h1 : k < es.length) (h2 : k < fs.length) : es[k].r = fs[k].r ∧ es[k].d = fs[k].d := by
  have e1 := congrArg (fun l => l[k]?) h.1
  have e2 := congrArg (fun l => l[k]?) h.2
  simp only [List.getElem?_map, List.getElem?_eq_getElem h1, List.getElem?_eq_getElem h2, Option.map_some, Option.some.injEq] at e1 e2
  exact ⟨e1, e2⟩
theorem SamV.symm {es fs : List EqV} (h : SamV es fs) : SamV fs es := ⟨h.1.symm, h.2.symm⟩
theorem SamV.trans {es fs gs : List EqV} (h : SamV es fs) (k : SamV fs gs) : SamV es gs := ⟨h.1.trans k.1, h.2.trans k.2⟩
theorem SamV.ok {c z : Int} : ∀ {es fs : List EqV}, SamV es fs → (okE c z es ↔ okE c z fs)
  | [], [], _ => Iff.rfl
  | [], f :: fs, h => by have := h.len; simp at this
  | e :: es, [], h => by have := h.len; simp at this
  | e :: es, f :: fs, h => by
    obtain ⟨h1, h2⟩ := h
    simp only [List.map_cons, List.cons.injEq] at h1 h2
    have ih := SamV.ok (c := c) (z := z) (es := es) (fs := fs) ⟨h1.2, h2.2⟩
    show (ascB (-1) c e.r = true ∧ (e.d.size : Int) = z ∧ fits e.r (es.map EqV.r)) ∧ okE c z es ↔ (ascB (-1) c f.r = true ∧ (f.d.size : Int) = z ∧ fits f.r (fs.map EqV.r)) ∧ okE c z fs
    rw [h1.1, h2.1, h1.2, ih]
theorem SamV.solver {c z : Int} {es fs : List EqV} (h : SamV es fs) : solverP c z es ↔ solverP c z fs := by
  unfold solverP
  rw [h.ok]
theorem SamV.small {es fs : List EqV} (h : SamV es fs) (hs : SmallE es) : SmallE fs := fun f hf => by
  obtain ⟨k, hk, rfl⟩ := List.getElem_of_mem hf
  have hk2 : k < es.length := by rw [h.len]; exact hk
  obtain ⟨e1, e2⟩ := h.at hk2 hk
  have := hs es[k] (List.getElem_mem hk2)
  rw [e1, e2] at this
  exact this

/-- What a measure says: too much, or what it has seen and what is left. -/
def szP (P : Prop) (left v : Int) : Prop := v < 0 ∨ P ∧ 0 ≤ v ∧ v ≤ left
theorem szIntS_ex (a : Option Addr) (n c : Nat) (left : Int) (w : World) (hn : n ≤ 9223372036854775807) (h0 : 0 ≤ left) (h1 : left ≤ 1048576) :
    Calls Tryd.prog 75 #[.slice a n c, .int .i64 left] w fun e w' => ∃ v : Int, e = .returned (.int .i64 v) ∧ szP ((n : Int) ≤ left) left v ∧ w' = w := by
  by_cases h : (n : Int) ≤ left
  · have h2 : ¬ (left - n < 0) := by omega
    have H := hid h
    clear h
    go_enter Tryd.func75, Tryd.ntmps75
    go_wp2
    go_ret
    exact ⟨_, rfl, .inr ⟨H.out, by omega, by omega⟩, rfl⟩
  · have h2 : left - n < 0 := by omega
    go_enter Tryd.func75, Tryd.ntmps75
    go_wp2
    go_ret
    exact ⟨_, rfl, .inl (by omega), rfl⟩

set_option maxHeartbeats 1000000 in
theorem szEq_ex (a : Option Addr) (n c : Nat) (d : ByteArray) (left : Int) (w : World) (hn : n ≤ 9223372036854775807) (hd : d.size ≤ 9223372036854775807) (h0 : 0 ≤ left) (h1 : left ≤ 1048576) :
    Calls Tryd.prog 54 #[.agg #[.slice a n c, .string d], .int .i64 left] w fun e w' => ∃ v : Int, e = .returned (.int .i64 v) ∧ szP ((n : Int) ≤ left ∧ (d.size : Int) ≤ left) left v ∧ Below w.heap.size w w' := by
  go_enter Tryd.func54, Tryd.ntmps54
  go_wp2_with fail
  refine (szIntS_ex a n c left _ hn h0 h1).mono ?_
  rintro e w1 ⟨v, rfl, hv, rfl⟩
  by_cases hv0 : v < 0
  · clear hv
    go_wp2_with fail
    go_ret
    exact ⟨_, rfl, .inl (by omega), u_b1 _ _⟩
  · obtain ⟨g1, g2, g3⟩ : (n : Int) ≤ left ∧ 0 ≤ v ∧ v ≤ left := hv.resolve_left hv0
    clear hv
    by_cases hs : (d.size : Int) ≤ v
    · have hs2 : ¬ (v - d.size < 0) := by omega
      go_wp2_with fail
      go_ret
      exact ⟨_, rfl, .inr ⟨⟨g1, by omega⟩, by omega, by omega⟩, u_b1 _ _⟩
    · have hs2 : v - d.size < 0 := by omega
      go_wp2_with fail
      go_ret
      exact ⟨_, rfl, .inl (by omega), u_b1 _ _⟩

/-- How long what comes in may be at all. -/
def LongE (es : List EqV) : Prop := ∀ e ∈ es, e.r.length ≤ 9223372036854775807 ∧ e.d.size ≤ 9223372036854775807

set_option maxHeartbeats 2000000 in
theorem szEqS_ex (a : Option Addr) (cap : Nat) (es : List EqV) (w : World) (ha : EqsAt w a es) (hn : es.length ≤ 9223372036854775807) (hL : LongE es) :
    Calls Tryd.prog 32 #[.slice a es.length cap, .int .i64 1048576] w fun e w' => ∃ v : Int, e = .returned (.int .i64 v) ∧ szP (es.length ≤ 1048576 ∧ SmallE es) 1048576 v ∧ Below w.heap.size w w' := by
  have HA := hid ha
  have HL := hid hL
  clear ha hL
  by_cases h : (es.length : Int) ≤ 1048576
  · have h2 : ¬ (1048576 - (es.length : Int) < 0) := by omega
    go_enter Tryd.func32, Tryd.ntmps32
    go_wp2
    go_loopw [1, 5] (fun l i wr => ∃ (k : Nat) (v : Int), k ≤ es.length ∧ i = .int .i64 k ∧ l = .int .i64 v ∧ 0 ≤ v ∧ v ≤ 1048576 ∧ (∀ j (hj : j < es.length), j < k → es[j].r.length ≤ 1048576 ∧ es[j].d.size ≤ 1048576) ∧ Below w.heap.size w wr) (fun _ i _ => es.length - (intOf i).toNat)
    case atStart => exact ⟨0, _, by omega, rfl, rfl, by omega, by omega, fun j hj h => by omega, Below.refl _ _⟩
    case round =>
      obtain ⟨k, v, hk, rfl, rfl, hv0, hv1, hall, B⟩ := hrel
      have HB := hid B
      have HS := hid hall
      clear hall
      by_cases hlt : k < es.length
      · obtain ⟨e, he⟩ : ∃ e, es[k] = e := ⟨_, rfl⟩
        have hm : e ∈ es := by rw [← he]; exact List.getElem_mem hlt
        obtain ⟨b, off, rfl, hc⟩ := (HA.out.below B) (by intro h; simp [h] at hlt)
        obtain ⟨c0, c1, -⟩ := hc k e (by rw [List.getElem?_eq_getElem hlt, he])
        have K := hid (szEq_ex e.a e.r.length e.c e.d v wr (HL.out e hm).1 (HL.out e hm).2 hv0 hv1)
        have HE := hid he
        clear hc he hm B
        go_wp2_with fail
        refine K.out.mono ?_
        rintro _ w1 ⟨u, rfl, hu, b1⟩
        have HU := hid hu
        clear hu c0 c1
        by_cases hu0 : u < 0
        · go_wp2_with fail
          go_ret
          exact ⟨_, rfl, .inl (by omega), u_cat HB.out b1⟩
        · have HU2 := hid (HU.out.resolve_left hu0)
          go_wp2_with fail
          go_roundw
          case rel => exact ⟨k + 1, u, by omega, by go_num, rfl, HU2.out.2.1, by have := HU2.out.2.2; omega, fun j hj hjk => (by
            rcases Nat.lt_succ_iff_lt_or_eq.1 hjk with h | h
            · exact HS.out j hj h
            · subst h; rw [HE.out]; have := HU2.out.1; omega), u_cat HB.out b1⟩
          case measure => simp [intOf]; omega
      · go_wp2
        go_ret
        exact ⟨_, rfl, .inr ⟨⟨by omega, fun e he => by
          obtain ⟨j, hj, rfl⟩ := List.getElem_of_mem he
          exact HS.out j hj (by omega)⟩, hv0, hv1⟩, HB.out⟩
  · have h2 : 1048576 - (es.length : Int) < 0 := by omega
    go_enter Tryd.func32, Tryd.ntmps32
    go_wp2
    go_ret
    exact ⟨_, rfl, .inl (by omega), Below.refl _ _⟩

set_option maxHeartbeats 1000000 in
theorem szSolver_ex (a : Option Addr) (cap : Nat) (es : List EqV) (c z : Int) (w : World) (ha : EqsAt w a es) (hn : es.length ≤ 9223372036854775807) (hL : LongE es) :
    Calls Tryd.prog 10 #[.agg #[.int .i64 c, .int .i64 z, .slice a es.length cap], .int .i64 1048576] w fun e w' => ∃ v : Int, e = .returned (.int .i64 v) ∧ szP (es.length ≤ 1048576 ∧ SmallE es) 1048576 v ∧ Below w.heap.size w w' := by
  have HA := hid ha
  clear ha
  go_enter Tryd.func10, Tryd.ntmps10
  go_wp2_with fail
  refine (szEqS_ex a cap es _ (HA.out.below (u_b1 _ _)) hn hL).mono ?_
  rintro e w1 ⟨v, rfl, hv, b1⟩
  have HB := hid (u_cat (u_b1 _ _) b1)
  clear b1
  by_cases hv0 : v < 0
  · clear hv
    go_wp2_with fail
    go_ret
    exact ⟨_, rfl, .inl (by omega), HB.out⟩
  · have HV := hid hv
    clear hv
    go_wp2_with fail
    go_ret
    exact ⟨_, rfl, HV.out, HB.out⟩

set_option maxHeartbeats 1000000 in
theorem eqEq_same (a b : Option Addr) (ca cb : Nat) (r : List Int) (d : ByteArray) (w : World) (ha : IntsAt w a r) (hb : IntsAt w b r) (hr : r.length ≤ 1048576) :
    Calls Tryd.prog 58 #[.agg #[.slice a r.length ca, .string d], .agg #[.slice b r.length cb, .string d]] w fun e w' => e = .returned (.bool true) ∧ Below w.heap.size w w' := by
  have HA := hid ha
  have HB := hid hb
  have B0 := u_b2 w (.cells #[.slice a r.length ca, .string d] 53) (.cells #[.slice b r.length cb, .string d] 53)
  have K := hid (eqIntS_any a b ca cb r r _ (HA.out.below B0) (HB.out.below B0) (by omega))
  rw [decide_eq_true rfl] at K
  clear ha hb
  go_enter Tryd.func58, Tryd.ntmps58
  go_wp2_with (go_at_call 18; refine K.out.mono ?_; rintro _ w1 ⟨rfl, n, rfl⟩)
  go_ret
  exact ⟨rfl, below_drewN B0 n⟩

set_option maxHeartbeats 2000000 in
theorem eqEqS_same (a b : Option Addr) (ca cb : Nat) (es fs : List EqV) (w : World) (ha : EqsAt w a es) (hb : EqsAt w b fs) (hs : SamV es fs) (hx : es.length ≤ 1048576) (hsm : SmallE es) :
    Calls Tryd.prog 38 #[.slice a es.length ca, .slice b fs.length cb] w fun e w' => e = .returned (.bool true) ∧ Below w.heap.size w w' := by
  have HA := hid ha
  have HB := hid hb
  have HM := hid hs
  have HS := hid hsm
  rw [← hs.len]
  clear ha hb hs hsm
  go_enter Tryd.func38, Tryd.ntmps38
  go_wp2
  go_loopw [5] (fun i wr => ∃ k : Nat, k ≤ es.length ∧ i = .int .i64 k ∧ Below w.heap.size w wr) (fun i _ => es.length - (intOf i).toNat)
  case atStart => exact ⟨0, Nat.zero_le _, rfl, Below.refl _ _⟩
  case round =>
    obtain ⟨k, hk, rfl, B⟩ := hrel
    by_cases hlt : k < es.length
    · have hlt2 : k < fs.length := by rw [← HM.out.len]; exact hlt
      obtain ⟨e, he⟩ : ∃ e, es[k] = e := ⟨_, rfl⟩
      obtain ⟨f, hf⟩ : ∃ f, fs[k] = f := ⟨_, rfl⟩
      obtain ⟨b1, o1, rfl, h1⟩ := (HA.out.below B) (by intro h; simp [h] at hlt)
      obtain ⟨b2, o2, rfl, h2⟩ := (HB.out.below B) (by intro h; simp [h] at hlt2)
      obtain ⟨c0, c1, crow⟩ := h1 k e (by rw [List.getElem?_eq_getElem hlt, he])
      obtain ⟨d0, d1, drow⟩ := h2 k f (by rw [List.getElem?_eq_getElem hlt2, hf])
      have hef := HM.out.at hlt hlt2
      rw [he, hf] at hef
      obtain ⟨hr, hd⟩ := hef
      rw [← hr] at d0 drow
      rw [← hd] at d1
      have hrl := (HS.out e (by rw [← he]; exact List.getElem_mem hlt)).1
      have k1 := hid (rg (w := wr) (fun w' hb => eqEq_same e.a f.a e.c f.c e.r e.d w' (crow.below hb) (drow.below hb) hrl))
      have r0 := cell_regrown c0
      have r1 := cell_regrown c1
      have s0 := cell_regrown d0
      have s1 := cell_regrown d1
      have HBB := hid B
      have n2 : (k : Int) < es.length := by omega
      clear c0 c1 d0 d1 h1 h2 he hf hr hd crow drow B
      go_wp2
      refine wp_region_quiet_below (by kernel_rfl) (by kernel_rfl) ?_
      repeat (first | go_big_quiet_step ((go_at_call 58; with_reducible exact k1.out _ _)) | quiet_step ((go_at_call 58; with_reducible exact k1.out _ _)))
      refine wpQuiet_nil ?_
      intro V2 hw'
      obtain ⟨⟨dq, osq⟩, hw''⟩ := hw'
      have hbq := below_regrown wr dq osq
      rw [← hw''] at hbq
      clear hw'' dq osq r0 r1 s0 s1
      go_wp2
      go_roundw
      case rel => exact ⟨k + 1, by omega, by go_num, u_cat HBB.out hbq⟩
      case measure => simp [intOf]; omega
    · go_wp2
      go_ret
      exact ⟨rfl, B⟩

set_option maxHeartbeats 1000000 in
theorem eqSolver_same (a b : Option Addr) (ca cb : Nat) (es fs : List EqV) (c z : Int) (w : World) (ha : EqsAt w a es) (hb : EqsAt w b fs) (hs : SamV es fs) (hx : es.length ≤ 1048576) (hsm : SmallE es) :
    Calls Tryd.prog 14 #[.agg #[.int .i64 c, .int .i64 z, .slice a es.length ca], .agg #[.int .i64 c, .int .i64 z, .slice b fs.length cb]] w fun e w' => e = .returned (.bool true) ∧ Below w.heap.size w w' := by
  have HA := hid ha
  have HB := hid hb
  clear ha hb
  have B0 := u_b2 w (.cells #[.int .i64 c, .int .i64 z, .slice a es.length ca] 29) (.cells #[.int .i64 c, .int .i64 z, .slice b fs.length cb] 29)
  have K := hid (eqEqS_same a b ca cb es fs _ (HA.out.below B0) (HB.out.below B0) hs hx hsm)
  go_enter Tryd.func14, Tryd.ntmps14
  go_wp2_with (go_at_call 38; refine K.out.mono ?_; rintro _ w1 ⟨rfl, b1⟩)
  go_ret
  exact ⟨rfl, u_cat B0 b1⟩
end Go.Proofs.YtpdaobiaekamoaaDoor
