/- A text many times. Zero bytes, by the model. An append of a whole row, as one step of a region that draws its order. A region that draws its order: reads first, then what lays memory in its order, one operation (an allocation) anywhere among them, then the rest. -/
import Derived.Test.YtpdaobiaekamoaaDoorG0
import Derived.Test.YtpdaobiaekamoaaDoorG3
import Derived.SliceStrings
import Derived.Test.YtpdaobiaekamoaaDoorG1
import Derived.Deep.RegionLaw
import Derived.BigRegion
import Derived.Test.YtpdaobiaekamoaaDoorFrp
namespace Go.Proofs.YtpdaobiaekamoaaDoor
open Go.ChangeShapes Go.WideShapes Go.ChangeAt Go.RowKit

/-- A text n times. -/
def rep : Nat → ByteArray → ByteArray
  | 0, _ => ⟨#[]⟩
  | n + 1, s => s ++ rep n s
theorem ba_ext {a b : ByteArray} (h : a.data = b.data) : a = b := by cases a; cases b; simp_all
theorem ba_nil (s : ByteArray) : (⟨#[]⟩ : ByteArray) ++ s = s := by apply ba_ext; simp [ByteArray.data_append]
theorem ba_nil' (s : ByteArray) : s ++ (⟨#[]⟩ : ByteArray) = s := by apply ba_ext; simp [ByteArray.data_append]
theorem ba_assoc (a b c : ByteArray) : a ++ b ++ c = a ++ (b ++ c) := by apply ba_ext; simp [ByteArray.data_append, Array.append_assoc]
theorem rep_add (n m : Nat) (s : ByteArray) : rep (n + m) s = rep n s ++ rep m s := by
  induction n with
  | zero => rw [Nat.zero_add, rep, ba_nil]
  | succ n ih => rw [Nat.succ_add, rep, rep, ih, ba_assoc]
theorem rep_two (n : Nat) (s : ByteArray) : rep n (s ++ s) = rep (2 * n) s := by
  induction n with
  | zero => rfl
  | succ n ih => rw [rep, ih, show 2 * (n + 1) = (2 * n + 1) + 1 by omega, rep, rep, ba_assoc]
theorem rep_size (n : Nat) (s : ByteArray) : (rep n s).size = n * s.size := by
  induction n with
  | zero => rw [Nat.zero_mul]; rfl
  | succ n ih => rw [rep, ByteArray.size_append, ih, Nat.succ_mul]; omega

set_option maxHeartbeats 1000000 in
theorem l1Many_any (s : ByteArray) (n : Nat) (w : World) (hn : n ≤ 1048576) (hs : s.size ≤ 1048576) :
    Calls Tryd.prog 73 #[.string s, .int .i64 n] w fun e w' => e = .returned (.string (rep n s)) ∧ w' = w := by
  go_enter Tryd.func73, Tryd.ntmps73
  go_wp2
  go_loop [0, 1, 5] (fun x q o => ∃ (t out : ByteArray) (m : Nat), x = .string t ∧ q = .int .i64 m ∧ o = .string out ∧ m ≤ n ∧ m * t.size ≤ n * s.size ∧ out.size ≤ n * s.size ∧ out ++ rep m t = rep n s) (fun _ q _ => (intOf q).toNat)
  case atStart => exact ⟨s, ⟨#[]⟩, n, rfl, rfl, rfl, Nat.le_refl _, Nat.le_refl _, Nat.zero_le _, ba_nil _⟩
  case round =>
    obtain ⟨t, out, m, rfl, rfl, rfl, hm, h1, h2, he⟩ := hrel
    have hp : n * s.size ≤ 1099511627776 := Nat.le_trans (Nat.mul_le_mul hn hs) (by omega)
    by_cases h0 : 0 < m
    · have ht : t.size ≤ 1099511627776 := Nat.le_trans (Nat.le_trans (Nat.le_mul_of_pos_left _ h0) h1) hp
      have ho : out.size ≤ 1099511627776 := Nat.le_trans h2 hp
      obtain ⟨q, hq⟩ : ∃ q, m = 2 * q ∨ m = 2 * q + 1 := ⟨m / 2, by omega⟩
      have HE := hid he
      have H1 := hid h1
      have H2 := hid h2
      have HP := hid hp
      clear he h1 h2 hp
      rcases hq with rfl | rfl
      · have e1 : (((2 * q : Nat) : Int) % 2 == 1) = false := by simp
        go_wp2
        go_round
        case rel =>
          refine ⟨t ++ t, out, q, rfl, by go_num, rfl, by omega, ?_, H2.out, ?_⟩
          · have := H1.out
            rw [ByteArray.size_append, ← Nat.two_mul, ← Nat.mul_assoc, Nat.mul_comm q 2]; exact this
          · rw [rep_two]; exact HE.out
        case measure => simp [intOf]; omega
      · have e1 : (((2 * q + 1 : Nat) : Int) % 2 == 1) = true := by simp
        have hsum : (out ++ rep (2 * q + 1) t).size = (rep n s).size := by rw [HE.out]
        rw [ByteArray.size_append, rep_size, rep_size, Nat.succ_mul] at hsum
        have HS := hid hsum
        clear hsum
        go_wp2
        go_round
        case rel =>
          refine ⟨t ++ t, out ++ t, q, rfl, by go_num, rfl, by omega, ?_, ?_, ?_⟩
          · have := H1.out
            rw [Nat.succ_mul] at this
            rw [ByteArray.size_append, ← Nat.two_mul, ← Nat.mul_assoc, Nat.mul_comm q 2]; omega
          · have := HS.out
            rw [ByteArray.size_append]; omega
          · rw [rep_two, ba_assoc, ← HE.out, rep]
        case measure => simp [intOf]; omega
    · obtain rfl : m = 0 := by omega
      have HE := hid he
      clear he
      go_wp2
      go_ret
      rw [← HE.out, rep, ba_nil']
      exact ⟨rfl, rfl⟩
end Go.Proofs.YtpdaobiaekamoaaDoor
namespace Go.Proofs.YtpdaobiaekamoaaDoor
open Go.ChangeShapes Go.WideShapes Go.ChangeAt Go.RowKit

theorem l3Zero_any (n : Nat) (w : World) (hn : n ≤ 1048576) :
    Calls Tryd.prog 51 #[.int .i64 n] w fun e w' => e = .returned (.string (rep n (strOfNums [0]))) ∧ Below w.heap.size w w' := by
  have hcv := run_convert_bytes_arg (P := Tryd.prog) (w.alloc (.cells #[.int .u8 0] 5)) 69 5 Tryd.underlying69 Tryd.underlying5 w.heap.size 0 1 1 [0] rfl (by
    intro i hi
    obtain rfl : i = 0 := by omega
    simp) 9 Tryd.underlying9
  go_enter Tryd.func51, Tryd.ntmps51
  go_wp2_with (go_at_call 73; refine (l1Many_any (strOfNums [0]) n _ (by omega) (by decide)).mono ?_; rintro e w' ⟨rfl, rfl⟩)
  go_ret
  exact ⟨rfl, u_b1 _ _⟩
end Go.Proofs.YtpdaobiaekamoaaDoor
namespace Go.Proofs.YtpdaobiaekamoaaDoor
open Go.ChangeShapes Go.WideShapes Go.ChangeAt Go.RowKit

/-- 'append(out, xs...)', out the call's own, xs whatever row: as one step of a region that draws its order. -/
theorem step_append_row {P : Program} {W : World} {ops : Array Oper} {o : Oper} {a : Act} {K : Act → World → Prop} {Q : Exit → Act → World → Prop} {E : Prop} (t e : TypeId) (i : TypeInfo) (z : Value) (bytes : Nat)
    (ht : P.underlying t = some (.slice e)) (hi : P.info? e = some i) (hz : i.zero = some z) (hz1 : i.size = 1) (hz2 : i.bytes = bytes) (hzs : z.cells.size = 1)
    {base n : Nat} {v : Value} {xs : List Value} (s x : Operand) (hgd : o.guard = none) (ho : o.op = .call { callee := .builtin .append, args := #[s, x], argTypes := #[t, t] })
    (hs : a.eval s = v) (ao : Option Addr) (m c : Nat) (news : List Value) (hx : a.eval x = .slice ao m c) (hl : news.length = m) (hnone : ao = none → m = 0 ∧ c = 0)
    (hown : W.ownsRow base e 1 v n xs) (hnews : ∀ ad, ao = some ad → ∀ j u, news[j]? = some u → W.cell? (ad.add j) = some u) (h1 : ∀ u ∈ news, u.oneCell' = true)
    (hbs : base ≤ W.heap.size) (hbd : (n + m) * bytes ≤ 140737488355328) (hml : n + m ≤ 9223372036854775807)
    (h : ∀ v' w', w'.ownsRow base e 1 v' (n + m) (xs ++ news) → W.grownBy w' v.ownBlock → K (a.put o.dst v') w') :
    if Region.wanted o (yielded ops a.tmps) = true then Oper.wp P o a W K Q else E := by
  have hw : Region.wanted o (yielded ops a.tmps) = true := by simp [Region.wanted, hgd]
  rw [if_pos hw]
  cases ao with
  | some ad =>
    obtain ⟨v', w', hrun, r1, r2, _⟩ := run_append_own (P := P) W base t o.type e i z 1 bytes ht hi hz hz1 hz2 hzs (by decide) v n xs hown ad m c news (by rw [hl, Nat.mul_one]) (hnews ad rfl) h1 hml hbd hbs
    unfold Oper.wp
    simp [execOp, ho, resolve, invoke, builtin, hs, hx, hrun, Result.andThen]
    exact h v' w' r1 r2
  | none =>
    obtain ⟨rfl, rfl⟩ := hnone rfl
    obtain rfl : news = [] := List.eq_nil_of_length_eq_zero hl
    have hrun := run_append_owned_none (P := P) W base t o.type e i 1 ht hi v n xs hown
    unfold Oper.wp
    simp [execOp, ho, resolve, invoke, builtin, hs, hx, hrun, Result.andThen]
    refine h v W ?_ ⟨rfl, rfl, rfl, Nat.le_refl _, fun _ _ _ => rfl⟩
    rw [List.append_nil]
    exact hown
end Go.Proofs.YtpdaobiaekamoaaDoor
namespace Go.Proofs.YtpdaobiaekamoaaDoor
open Go.ChangeShapes Go.WideShapes Go.ChangeAt Go.RowKit Go.Sort

/-- The operation at f may come at any time ahead of the rest. -/
def floatL (md : Region.Mode) (ops : Array Oper) (c f : Nat) (ts : List Nat) : List Nat → Array Bool → Bool
  | [], listed => backL md ops (f :: ts) listed && ordB c 1 (f :: ts)
  | k :: js, listed => (Region.ready md ops listed == [k, f] || Region.ready md ops listed == [f, k]) && decide (k < c) && floatL md ops c f ts js (listed.setIfInBounds k true) &&
      backL md ops (k :: js ++ ts) (listed.setIfInBounds f true) && ordB c (k :: js).length (k :: js ++ ts)

section
variable {P : Program} {ops : Array Oper} {md : Region.Mode} {Q : Exit → Act → World → Prop} {C : World → Prop} {c : Nat}

def wpRestF (P : Program) (ops : Array Oper) (Q : Exit → Act → World → Prop) (C : World → Prop) (f : Oper) (tl : List Oper) : List Oper → Act → World → Prop
  | [], a, w => wpRest P ops Q C 1 (f :: tl) a w
  | o :: js, a, w => (if Region.wanted o (yielded ops a.tmps) then o.wp P a w (fun a' w' => C w' ∧ wpRestF P ops Q C f tl js a' w') Q else C w ∧ wpRestF P ops Q C f tl js (a.put o.dst undef) w) ∧
      wpRest P ops Q C ((o :: js).length + 1) (f :: (o :: js ++ tl)) a w
theorem wpRestF_nil {f : Oper} {tl : List Oper} {a : Act} {w : World} (h : wpRest P ops Q C 1 (f :: tl) a w) : wpRestF P ops Q C f tl [] a w := h
theorem wpRestF_step {f o : Oper} {tl js : List Oper} {a : Act} {w : World} (h : ∀ K : Act → World → Prop, (∀ a' w', C w' → wpRestF P ops Q C f tl js a' w' → K a' w') → if Region.wanted o (yielded ops a.tmps) then o.wp P a w K Q else C w ∧ K (a.put o.dst undef) w)
    (k : wpRest P ops Q C ((o :: js).length + 1) (f :: (o :: js ++ tl)) a w) : wpRestF P ops Q C f tl (o :: js) a w := by
  refine ⟨?_, k⟩
  have h1 := h (fun a' w' => C w' ∧ wpRestF P ops Q C f tl js a' w') (fun _ _ k1 k2 => ⟨k1, k2⟩)
  split
  · rename_i hw; simpa only [hw, if_true] using h1
  · rename_i hw
    simp only [hw] at h1
    exact h1.2

/-- One operation, the class kept behind it. -/
theorem wpOp_rest {i n : Nat} {o : Oper} {l : List Oper} {js : List Nat} {listed : Array Bool} {a : Act} {w : World} (h0 : ops[i]? = some o) (hl : Lies ops js l) (ho : ordB c n js = true) (hB : backL md ops js (listed.setIfInBounds i true) = true)
    (h : wpRest P ops Q C (n + 1) (o :: l) a w) : wpOp P ops Q i (fun a' w' => (i < c → C w') ∧ wpMid P md ops Q C c l.length (listed.setIfInBounds i true) a' w') a w := by
  unfold wpOp
  simp only [h0]
  have go : ∀ a' w', (C w' ∧ wpRest P ops Q C n l a' w') → (i < c → C w') ∧ wpMid P md ops Q C c l.length (listed.setIfInBounds i true) a' w' := fun a' w' h2 =>
    ⟨fun _ => h2.1, wpMid_backL n js l _ a' w' hl ho hB h2.2⟩
  unfold wpRest at h
  by_cases hw : Region.wanted o (yielded ops a.tmps) = true
  · simp only [hw, if_true] at h ⊢
    exact .inl (Oper.wp_mono go h)
  · simp only [hw] at h ⊢
    exact go _ _ h

theorem wpMid_float {f : Nat} {fo : Oper} {ts : List Nat} {tl : List Oper} (hf : ops[f]? = some fo) (ht : Lies ops ts tl) :
    ∀ (js : List Nat) (l : List Oper) (listed : Array Bool) (a : Act) (w : World), Lies ops js l → floatL md ops c f ts js listed = true → wpRestF P ops Q C fo tl l a w → wpMid P md ops Q C c (l.length + 1 + tl.length) listed a w
  | [], [], listed, a, w, _, hB, h => by
    simp only [floatL, Bool.and_eq_true] at hB
    rw [show ([] : List Oper).length + 1 + tl.length = (fo :: tl).length by simp; omega]
    exact wpMid_backL 1 (f :: ts) (fo :: tl) listed a w ⟨hf, ht⟩ hB.2 hB.1 h
  | k :: js, o :: l, listed, a, w, hl, hB, h => by
    have h0 : ops[k]? = some o := hl.1
    simp only [floatL, Bool.and_eq_true, Bool.or_eq_true, beq_iff_eq, decide_eq_true_eq] at hB
    obtain ⟨⟨⟨⟨hr, hkc⟩, hfl⟩, hb⟩, ho⟩ := hB
    rw [show (o :: l).length + 1 + tl.length = (l.length + 1 + tl.length) + 1 by simp; omega]
    have hmem : ∀ i, i ∈ Region.ready md ops listed → i = k ∨ i = f := fun i hi => by
      rcases hr with hr | hr <;> rw [hr] at hi <;> simp at hi <;> omega
    have hne : Region.ready md ops listed ≠ [] := by rcases hr with hr | hr <;> rw [hr] <;> simp
    refine ⟨fun he => (hne he).elim, fun i hi => ?_⟩
    rcases hmem i hi with rfl | rfl
    · have go : ∀ a' w', (C w' ∧ wpRestF P ops Q C fo tl l a' w') → (i < c → C w') ∧ wpMid P md ops Q C c (l.length + 1 + tl.length) (listed.setIfInBounds i true) a' w' := fun a' w' h2 =>
        ⟨fun _ => h2.1, wpMid_float hf ht js l _ a' w' hl.2 hfl h2.2⟩
      have h1 := h.1
      unfold wpOp
      simp only [h0]
      by_cases hw : Region.wanted o (yielded ops a.tmps) = true
      · simp only [hw, if_true] at h1 ⊢
        exact .inl (Oper.wp_mono go h1)
      · simp only [hw] at h1 ⊢
        exact go _ _ h1
    · have e : l.length + 1 + tl.length = (o :: l ++ tl).length := by simp; omega
      rw [e]
      have elen : (k :: js).length = (o :: l).length := lies_len hl
      rw [elen] at ho
      exact wpOp_rest hf (hl.append ht) ho hb h.2
  | [], _ :: _, _, _, _, h, _, _ => h.elim
  | _ :: _, [], _, _, _, h, _, _ => h.elim
end

def floatB (l : List Oper) (c f : Nat) (ps qs rs : List (Nat × Nat)) : Bool :=
  ps.all (fun p => decide (p.1 + p.2 ≤ l.length)) && qs.all (fun p => decide (p.1 + p.2 ≤ l.length)) && rs.all (fun p => decide (p.1 + p.2 ≤ l.length)) && ((ixs ps).length + ((ixs qs).length + 1 + (ixs rs).length) == l.length) && Region.noSelect l.toArray &&
    frontL .any l.toArray ((ixs ps).foldl (fun b k => b.setIfInBounds k true) (Array.replicate l.length false)) (ixs ps) (Array.replicate l.length false) && (cutOut l ps).all readOp &&
    (ixs ps).all (fun i => decide (i < c) && (List.range' c (l.length - c)).all (fun j => behind .any l.toArray i l.length j)) &&
    floatL .any l.toArray c f (ixs rs) (ixs qs) ((ixs ps).foldl (fun b k => b.setIfInBounds k true) (Array.replicate l.length false))

theorem any_float {P : Program} {C : World → Prop} {Q : Exit → Act → World → Prop} {a : Act} {w : World} {l : List Oper} (c f : Nat) (fo : Oper) (ps qs rs : List (Nat × Nat)) (hf : l[f]? = some fo) (hB : floatB l c f ps qs rs = true) (hQ : ∀ c a d v w, Q (.panic c) (a.put d v) w → Q (.panic c) a w) (hC : C w)
    (h : wpQuiet P l.toArray C (fun a' => ∀ w', C w' → wpRestF P l.toArray Q C fo (cutOut l rs) (cutOut l qs) a' w') (cutOut l ps) a) : wpAny P .any l.toArray Q l.toArray.size (Array.replicate l.toArray.size false) a w := by
  simp only [floatB, Bool.and_eq_true, beq_iff_eq] at hB
  obtain ⟨⟨⟨⟨⟨⟨⟨⟨hp, hq⟩, hr⟩, hlen⟩, hs⟩, hfr⟩, hrd⟩, hpost⟩, hb⟩ := hB
  have hlp := lies_cut l ps hp
  have hlq := lies_cut l qs hq
  have hlr := lies_cut l rs hr
  have hf' : l.toArray[f]? = some fo := by simpa using hf
  have h1 := wpMid_lexL (P := P) (Q := Q) (C := C) (md := .any) (ops := l.toArray) (c := c) (b := (cutOut l qs).length + 1 + (cutOut l rs).length) hs hQ (K := fun a' => ∀ w', C w' → wpRestF P l.toArray Q C fo (cutOut l rs) (cutOut l qs) a' w')
    (fun a' w' hw' hK => wpMid_float hf' hlr (ixs qs) (cutOut l qs) _ a' w' hlq hb (hK w' hw'))
    (ixs ps) (cutOut l ps) (Array.replicate l.length false) a w hlp (fun i hi => by
      have h2 := List.all_eq_true.1 hpost i hi
      simp only [Bool.and_eq_true, decide_eq_true_eq] at h2
      refine ⟨h2.1, fun j hj hjl => ?_⟩
      have hjl' : j < l.length := by simpa using hjl
      have h3 := List.all_eq_true.1 h2.2 j (List.mem_range'_1.2 ⟨hj, by omega⟩)
      simpa using h3)
    (fun k o _ hk => by simp [Array.getElem?_replicate] at hk; split at hk <;> simp_all) hC hrd hfr h
  have e : (cutOut l ps).length + ((cutOut l qs).length + 1 + (cutOut l rs).length) = l.length := by rw [← lies_len hlp, ← lies_len hlq, ← lies_len hlr]; exact hlen
  rw [e] at h1
  have h2 := wpAny_of_wpMid _ _ _ _ h1
  simpa using h2
theorem wp_float {P : Program} {id : Nat} {Q : Exit → Act → World → Prop} {a : Act} {w : World} {l : List Oper} (c f : Nat) (fo : Oper) (ps qs rs : List (Nat × Nat)) (hm : P.follows .mixedOrders = true) (hf : l[f]? = some fo) (hB : floatB l c f ps qs rs = true) (hQ : ∀ c a d v w, Q (.panic c) (a.put d v) w → Q (.panic c) a w)
    (h : wpQuiet P l.toArray (fun w' => ∃ p : Regrown, w' = grow (redrawn w p.d) p.os) (fun a' => ∀ w', (∃ p : Regrown, w' = grow (redrawn w p.d) p.os) → wpRestF P l.toArray Q (fun w' => ∃ p : Regrown, w' = grow (redrawn w p.d) p.os) fo (cutOut l rs) (cutOut l qs) a' w') (cutOut l ps) a) : (Code.region id l.toArray true).wp P Q a w :=
  wp_region_any hm (any_float (C := fun w' => ∃ p : Regrown, w' = grow (redrawn w p.d) p.os) c f fo ps qs rs hf hB hQ ⟨⟨w.drawn + 1, #[]⟩, by rw [grow_empty]; rfl⟩ h)
theorem inR_float {P : Program} {id : Nat} {Q : Exit → Act → World → Prop} {a : Act} {w : World} {l : List Oper} {r n' : Nat} (c f : Nat) (fo : Oper) (ps qs rs : List (Nat × Nat)) (hm : P.follows .mixedOrders = true) (hf : l[f]? = some fo) (hB : floatB l c f ps qs rs = true) (hn : l.all noDefer = true) (hQ0 : ¬ LetsOut Q) (hQ : ∀ c a d v w, Q (.panic c) (a.put d v) w → Q (.panic c) a w)
    (h : wpQuiet P l.toArray (fun w' => ∃ p : Regrown, w' = grow (redrawn w p.d) p.os) (fun a' => ∀ w', (∃ p : Regrown, w' = grow (redrawn w p.d) p.os) → wpRestF P l.toArray Q (fun w' => ∃ p : Regrown, w' = grow (redrawn w p.d) p.os) fo (cutOut l rs) (cutOut l qs) a' w') (cutOut l ps) a) : (Code.region id l.toArray true).wpIn (Fence.wide.inRound r) n' P Q a w :=
  wpIn_region_any hm (inR_any hQ0 (nd_all hn) _ _ _ _ (any_float (C := fun w' => ∃ p : Regrown, w' = grow (redrawn w p.d) p.os) c f fo ps qs rs hf hB hQ ⟨⟨w.drawn + 1, #[]⟩, by rw [grow_empty]; rfl⟩ h))
end Go.Proofs.YtpdaobiaekamoaaDoor
