/- What an equation that is learnt makes of what is known: values alone. How many of the first blocks are known, and a block that is known, by the program. A block that is known, by the program. An equation learnt by the program. What is left of an equation in the end, by the program. -/
import Derived.Test.YtegldmdcdnnegaaGreatDoorG13
import Derived.Test.YtegldmdcdnnegaaGreatDoorG16
import Derived.Test.YtegldmdcdnnegaaGreatDoorG7
import Derived.Laws.BytesArg
import Derived.Test.YtegldmdcdnnegaaGreatDoorG15
import Derived.Test.YtegldmdcdnnegaaGreatDoorG14
namespace Go.Proofs.YtegldmdcdnnegaaGreatDoor
open Go.ChangeShapes Go.WideShapes Go.ChangeAt Go.RowKit Go.Sort Go.Shelf

/-- What is known behind an equation that is right, and its code. -/
def learnV (es : List EqV) (row d : List Int) : List Vl := if (es.foldl stepE (row, d)).1 = [] then valsE es else learnE (es.foldl stepE (row, d)) (valsE es)
def learnC (es : List EqV) (row d : List Int) (n : Nat) : Int := if (es.foldl stepE (row, d)).1 = [] then codeK (es.foldl stepE (row, d)).2 n else 0
def addP (c z : Int) (es : List EqV) (row : List Int) (data : ByteArray) : Prop := solverP c z es ∧ ascB (-1) c row = true ∧ (data.size : Int) = z
def addV (_c _z : Int) (es : List EqV) (row : List Int) (data : ByteArray) (d : Bool) (e : Bool) : List Vl := if e then (if d then learnV es row (numsOf data) else valsE es) else []
def addC (es : List EqV) (row : List Int) (data : ByteArray) (d : Bool) : Int := if d then learnC es row (numsOf data) data.size else 3
/-- A solver and a code that were handed out, in memory of their own. -/
def AddO (w w' : World) (B : Nat) (c z : Int) (vs : List Vl) (code : Int) (e : Ending) : Prop :=
  ∃ a' c' gs, e = .returned (.tuple #[.agg #[.int .i64 c, .int .i64 z, .slice a' gs.length c'], .int .i64 code]) ∧ w'.ownsRow B 81 2 (.slice a' gs.length c') gs.length (eqCells gs) ∧ valsE gs = vs ∧ RowsOwn w' B gs ∧ Below w.heap.size w w'
theorem vals_len {gs : List EqV} {vs : List Vl} (h : valsE gs = vs) : gs.length = vs.length := by rw [← h]; simp [valsE]
end Go.Proofs.YtegldmdcdnnegaaGreatDoor
namespace Go.Proofs.YtegldmdcdnnegaaGreatDoor
open Go.ChangeShapes Go.WideShapes Go.ChangeAt Go.RowKit Go.Sort Go.Shelf
attribute [local go_sem] Oper.semAt_some

/-- From a number on, how far the rows are that number alone. -/
def pfx : Nat → List (List Int) → Nat
  | n, [] => n
  | n, r :: rs => if r = [(n : Int)] then pfx (n + 1) rs else n
/-- Rows that are their places alone. -/
def Places (rs : List (List Int)) : Prop := ∀ i (h : i < rs.length), rs[i] = [(i : Int)]
theorem pfx_over (p t : List (List Int)) : ∀ n : Nat, (∀ i (h : i < p.length), p[i] = [((n + i : Nat) : Int)]) → pfx n (p ++ t) = pfx (n + p.length) t := by
  induction p with
  | nil => intro n _; rfl
  | cons r p ih =>
    intro n h
    have h0 : r = [(n : Int)] := h 0 (by simp)
    show (if r = [(n : Int)] then pfx (n + 1) (p ++ t) else n) = _
    rw [if_pos h0, ih (n + 1) (fun i hi => by have := h (i + 1) (by simpa using hi); simpa [Nat.add_assoc, Nat.add_comm 1 i] using this), List.length_cons, Nat.add_assoc, Nat.add_comm 1 p.length]
theorem pfx_all {rs : List (List Int)} (h : Places rs) : pfx 0 rs = rs.length := by
  have := pfx_over rs [] 0 (fun i hi => by simpa using h i hi)
  rw [List.append_nil] at this
  rw [this, Nat.zero_add]
  rfl
theorem pfx_stop {p : List (List Int)} {r : List Int} {t : List (List Int)} (h : Places p) (hr : r ≠ [(p.length : Int)]) : pfx 0 (p ++ r :: t) = p.length := by
  rw [pfx_over p (r :: t) 0 (fun i hi => by simpa using h i hi), Nat.zero_add]
  show (if r = [(p.length : Int)] then _ else p.length) = _
  rw [if_neg hr]
theorem Places.snoc {p : List (List Int)} {r : List Int} (h : Places p) (hr : r = [(p.length : Int)]) : Places (p ++ [r]) := fun i hi => by
  by_cases hlt : i < p.length
  · rw [List.getElem_append_left hlt]; exact h i hlt
  · obtain rfl : i = p.length := by simp at hi; omega
    rw [List.getElem_append_right (Nat.le_refl _)]
    simpa using hr
/-- The rows of links. -/
def rowsA {ls : List Lk} (p : List {x : Lk // x ∈ ls}) : List (List Int) := p.map (fun x => x.1.r)
theorem rowsA_len {ls : List Lk} (p : List {x : Lk // x ∈ ls}) : (rowsA p).length = p.length := List.length_map _
theorem rowsA_snoc {ls : List Lk} (p : List {x : Lk // x ∈ ls}) (x : {x : Lk // x ∈ ls}) : rowsA (p ++ [x]) = rowsA p ++ [x.1.r] := by simp [rowsA]
theorem attach_rows (ls : List Lk) : rowsA ls.attach = ls.map Lk.r := by
  unfold rowsA
  have : ls.attach.map (fun x => x.1) = ls := List.attach_map_subtype_val ls
  calc ls.attach.map (fun x => x.1.r) = (ls.attach.map (fun x => x.1)).map Lk.r := by rw [List.map_map]; rfl
    _ = ls.map Lk.r := by rw [this]
end Go.Proofs.YtegldmdcdnnegaaGreatDoor
namespace Go.Proofs.YtegldmdcdnnegaaGreatDoor
open Go.ChangeShapes Go.WideShapes Go.ChangeAt Go.RowKit Go.Sort Go.Shelf
attribute [local go_sem] Oper.semAt_some

theorem str_numsOf (s : ByteArray) : strOfNums (numsOf s) = s := by
  show (⟨((s.data.toList.map (fun b => (b.toNat : Int))).map fun n => UInt8.ofNat n.toNat).toArray⟩ : ByteArray) = s
  rw [List.map_map]
  have : (fun n : Int => UInt8.ofNat n.toNat) ∘ (fun b : UInt8 => (b.toNat : Int)) = id := by
    funext b
    simp
  rw [this, List.map_id, Array.toArray_toList]
/-- The equation of a block alone. -/
def getE (es : List EqV) (at' : Int) : Option EqV := es.find? (fun e => decide (e.r = [at']))
theorem getE_none {es : List EqV} {at' : Int} (h : ∀ r ∈ es.map EqV.r, r ≠ [at']) : getE es at' = none := by
  unfold getE
  rw [List.find?_eq_none]
  intro e he
  have := h e.r (List.mem_map_of_mem he)
  simpa using this
theorem getE_at {es : List EqV} {at' : Int} {k : Nat} (hk : k < es.length) (h1 : es[k].r = [at']) (h0 : ∀ j (hj : j < k), es[j].r ≠ [at']) : getE es at' = some es[k] := by
  unfold getE
  rw [List.find?_eq_some_iff_getElem]
  exact ⟨by simpa using h1, k, hk, rfl, fun j hj => by simpa using h0 j hj⟩
/-- What is said of a block. -/
def gotS (o : Option EqV) : ByteArray := match o with
  | some e => e.d
  | none => ByteArray.empty
end Go.Proofs.YtegldmdcdnnegaaGreatDoor
namespace Go.Proofs.YtegldmdcdnnegaaGreatDoor
open Go.ChangeShapes Go.WideShapes Go.ChangeAt Go.RowKit Go.Sort Go.Shelf
attribute [local go_sem] Oper.semAt_some

theorem lks_apart {w : World} {base : Nat} {ls : List Lk} (h : LksAt w base ls) : ∀ (d i j : Nat) (hi : i < ls.length) (hj : j < ls.length), i < j → ls.length - j ≤ d → ls[i].b ≠ ls[j].b
  | 0, i, j, _, hj, _, hd => by omega
  | d + 1, i, j, hi, hj, hij, hd => fun e => by
    have h1 := (h i hi).2.2.1
    have h2 := (h j hj).2.2.1
    rw [e, h2] at h1
    have h3 : ptrOf (ls.drop (j + 1)) = ptrOf (ls.drop (i + 1)) := by
      have h4 := congrArg (fun o => match o with | some (Obj.cells cs _ _) => cs[2]? | _ => none) h1
      simpa using h4
    rw [drop_ptr (show i + 1 < ls.length by omega)] at h3
    by_cases hl : j + 1 < ls.length
    · rw [drop_ptr hl] at h3
      have h5 : ls[j + 1].b = ls[i + 1].b := by simpa using h3
      exact lks_apart h d (i + 1) (j + 1) (by omega) hl (by omega) (by omega) h5.symm
    · rw [List.drop_of_length_le (by omega)] at h3
      cases h3
theorem lks_nodup {w : World} {base : Nat} {ls : List Lk} (h : LksAt w base ls) : (ls.map Lk.b).Nodup := by
  unfold List.Nodup
  rw [List.pairwise_map, List.pairwise_iff_getElem]
  exact fun i j hi hj hij => lks_apart h _ i j hi hj hij (Nat.le_refl _)
theorem sameE_vals : ∀ {ls : List Lk} {es : List EqV}, SameE ls es → valsL ls = valsE es
  | [], [], _ => rfl
  | [], _ :: _, h => by have := congrArg List.length h.1; simp at this
  | _ :: _, [], h => by have := congrArg List.length h.1; simp at this
  | l :: ls, e :: es, h => by
    obtain ⟨h1, h2⟩ := h
    simp only [List.map_cons, List.cons.injEq] at h1 h2
    show (l.r, strOfNums l.d) :: valsL ls = (e.r, e.d) :: valsE es
    rw [sameE_vals ⟨h1.2, h2.2⟩, h1.1, h2.1, str_numsOf]
theorem sameE_bytes {ls : List Lk} {es : List EqV} (h : SameE ls es) : ∀ l ∈ ls, BytesL l.d := fun l hl => by
  have h1 : l.d ∈ ls.map Lk.d := List.mem_map_of_mem hl
  rw [h.2] at h1
  obtain ⟨e, -, he⟩ := List.mem_map.1 h1
  rw [← he]
  exact nums_bytes _
theorem bytesB (w : World) (e : TypeId) (s : ByteArray) : Below w.heap.size w (Go.Lib.bytesWorld w e s) :=
  ⟨rfl, rfl, rfl, by rw [Go.Lib.bytesWorld_size]; exact Nat.le_succ _, fun k hk => Go.Lib.bytesWorld_at_old w e s k hk⟩
theorem bytesA (w : World) (e : TypeId) (s : ByteArray) : BytsAt (Go.Lib.bytesWorld w e s) w.heap.size (numsOf s) :=
  ⟨by rw [Go.Lib.bytesWorld_size]; exact Nat.lt_succ_self _, fun i hi => by
    rw [numsOf_len] at hi
    have h := Go.Lib.bytesWorld_cell w e s i hi
    have hl : i < s.data.toList.length := by rw [Array.length_toList]; exact hi
    rw [h]
    have e1 : s.data.toList.getD i 0 = s.data.toList[i] := by simp only [List.getD, List.getElem?_eq_getElem hl, Option.getD_some]
    have e2 : (numsOf s).getD i 0 = ((s.data.toList[i]).toNat : Int) := by unfold numsOf; simp only [List.getD, List.getElem?_map, List.getElem?_eq_getElem hl, Option.map_some, Option.getD_some]
    rw [e1, e2]⟩
theorem okV_24 {c z : Int} {ks : List Vl} (h : okV c z ks) (hc : 0 ≤ c) (hc2 : c ≤ 24) : ks.length ≤ 24 := by
  have h1 : okE c z (ks.map (fun k => ⟨none, 0, k.1, k.2⟩ : Vl → EqV)) := ok_vals.2 (by
    have e : valsE (ks.map (fun k => ⟨none, 0, k.1, k.2⟩ : Vl → EqV)) = ks := by
      unfold valsE
      rw [List.map_map]
      exact List.map_id' ks
    rw [e]; exact h)
  have := okE_24 h1 hc hc2
  simpa using this
end Go.Proofs.YtegldmdcdnnegaaGreatDoor
namespace Go.Proofs.YtegldmdcdnnegaaGreatDoor
open Go.ChangeShapes Go.WideShapes Go.ChangeAt Go.RowKit Go.Sort Go.Shelf
attribute [local go_sem] Oper.semAt_some

set_option maxRecDepth 100000 in
theorem left_in (p : Option Addr) (R : Int) (a : Option Addr) (n c : Nat) (w : World) :
    Calls Tryz.prog 110 #[.pointer p, .int .u32 R, .slice a n c] w fun e w' => e = .returned (.func (.func 115) #[] #[.pointer (some ⟨w.heap.size + 1, 0, none⟩), .pointer (some ⟨w.heap.size + 1 + 1, 0, none⟩), .pointer (some ⟨w.heap.size, 0, none⟩)]) ∧
      w' = ((w.alloc (.cells #[.pointer p] 133)).alloc (.cells #[.int .u32 R] 97)).alloc (.cells #[.slice a n c] 102) := by
  go_enter Tryz.func110, Tryz.ntmps110
  go_wp2
  go_ret
  exact ⟨rfl, rfl⟩
end Go.Proofs.YtegldmdcdnnegaaGreatDoor
