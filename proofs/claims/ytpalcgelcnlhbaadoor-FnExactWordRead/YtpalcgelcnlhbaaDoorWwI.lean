/- A word as text, by the program. -/
import Derived.Test.YtpalcgelcnlhbaaDoorWwT
import Derived.Test.YtpalcgelcnlhbaaDoorWsi
import Derived.Test.YtpalcgelcnlhbaaDoorBldW
import Derived.Test.YtpalcgelcnlhbaaDoorArr
import Derived.Test.YtpalcgelcnlhbaaDoorNumL
import Derived.Lib.FrozenHead
namespace Go.Proofs.YtpalcgelcnlhbaaDoor
open Go.ChangeShapes Go.WideShapes Go.ChangeAt Go.RowKit Go.Sort

theorem bAt_below {T e : TypeId} {B b : Nat} {p : Value} {bs : List Value} {w w' : World} (h : Lib.BuilderAt T e B b p bs w) (hb : Below w.heap.size w w') : Lib.BuilderAt T e B b p bs w' := by
  obtain ⟨hB, v, hbk, hown, hne⟩ := h
  exact ⟨hB, v, kept hbk hb, owns_below hown hb, hne⟩
theorem isB_below {T e : TypeId} {B b : Nat} {bs : List Value} {w w' : World} (h : Lib.IsBuilder T e B b bs w) (hb : Below w.heap.size w w') : Lib.IsBuilder T e B b bs w' := by
  rcases h with h | h
  · exact .inl (bAt_below h hb)
  · exact .inr (bAt_below h hb)

theorem ownsF_below {w w' : World} {base : Nat} {e : TypeId} {size : Nat} {v : Value} {n : Nat} {xs : List Value} (h : World.ownsRowF w base e size v n xs) (hb : Below w.heap.size w w') : World.ownsRowF w' base e size v n xs := by
  obtain ⟨h1, h2⟩ := h
  refine ⟨h1, ?_⟩
  rcases h2 with h2 | ⟨g, cap, cur, fz, hv, hg, hh, r⟩
  · exact Or.inl h2
  · exact Or.inr ⟨g, cap, cur, fz, hv, hg, kept hh hb, r⟩
theorem isBF_below {T e : TypeId} {B b : Nat} {bs : List Value} {w w' : World} (h : Lib.IsBuilderF T e B b bs w) (hb : Below w.heap.size w w') : Lib.IsBuilderF T e B b bs w' := by
  rcases h with ⟨hB, v, hbk, hown, hne⟩ | ⟨hB, v, hbk, hown, hne⟩
  · exact .inl ⟨hB, v, kept hbk hb, ownsF_below hown hb, hne⟩
  · exact .inr ⟨hB, v, kept hbk hb, ownsF_below hown hb, hne⟩

theorem txt_list (k c t e n : Nat) (name data : ByteArray) : (⟨(numL [k, c, t, e, n] ++ ((name ++ (⟨#[58]⟩ : ByteArray)) ++ data).data.toList).toArray⟩ : ByteArray) = txtOf (decS k) (decS c) (decS t) (decS e) (decS n) name data := by
  apply ByteArray.ext
  apply Array.toList_inj.1
  simp [numL, txtOf]

set_option maxHeartbeats 2000000 in
theorem implWordWrite_no (k c t e n : Int) (name data : ByteArray) (w : World) (hs : name.size ≤ maxLen) (hno : wordB k c t e n name data = false) :
    Calls Tryd.prog 13 #[.agg #[.int .i64 k, .int .i64 c, .int .i64 t, .int .i64 e, .int .i64 n, .string name, .string data]] w fun r w' => r = .returned (.string ByteArray.empty) ∧ Below w.heap.size w w' := by
  have H := hid (fun w => implWordOk k c t e n name data w hs)
  rw [hno] at H
  clear hno hs
  go_enter Tryd.func13, Tryd.ntmps13
  go_wp2_with (go_at_call 21; refine (H.out _).mono ?_; rintro r w1 ⟨rfl, b1⟩; have B1 := hid b1; clear b1)
  go_ret
  exact ⟨rfl, below_catD (below_newD _ _) B1.out⟩

/-- Where the program is: so many numbers written into the builder at B. -/
structure WrSt (w w1 : World) (ns : List Nat) (wr : World) : Prop where
  bld : Lib.IsBuilder 45 5 w1.heap.size w1.heap.size (Lib.byteCells (numL ns)) wr
  bl : Below w1.heap.size w1 wr
  pow : Pow wr
theorem WrSt.step {w w1 wr w2 w3 w4 : World} {ns : List Nat} {n : Nat} (h : WrSt w w1 ns wr) (h2 : Below wr.heap.size wr w2)
    (h3 : Below w1.heap.size w2 w3) (b4 : Lib.BuilderAt 45 5 w1.heap.size w1.heap.size (.pointer (some ⟨w1.heap.size, 0, none⟩)) (Lib.byteCells (numL ns ++ (decS n).data.toList) ++ [.int .u8 32]) w4) (h4 : Below w1.heap.size w3 w4) (hp : Pow w1) : WrSt w w1 (ns ++ [n]) w4 := by
  have e : Lib.byteCells (numL (ns ++ [n])) = Lib.byteCells (numL ns ++ (decS n).data.toList) ++ [.int .u8 32] := by
    rw [numL_snoc, Lib.byteCells_append (numL ns ++ (decS n).data.toList)]
    rfl
  have hb := ((h.bl.trans (h2.mono h.bl.size)).trans h3).trans h4
  exact ⟨by rw [e]; exact Or.inr b4, hb, hp.below hb⟩

theorem wr_len (ns : List Nat) (h : ∀ n ∈ ns, n ≤ 99999) (hl : ns.length ≤ 5) (s : ByteArray) (hs : s.size ≤ 1000) : (Lib.byteCells (numL ns)).length + s.size ≤ 140737488355328 := by
  have := numL_len ns h
  rw [Lib.byteCells_length]
  omega
theorem wr_len1 (ns : List Nat) (h : ∀ n ∈ ns, n ≤ 99999) (hl : ns.length ≤ 5) (s : ByteArray) (hs : s.size ≤ 1000) : (Lib.byteCells (numL ns) ++ Lib.strCells s).length + 1 ≤ 140737488355328 := by
  have := wr_len ns h hl s hs
  rw [List.length_append, Lib.strCells_length]
  have := numL_len ns h
  rw [Lib.byteCells_length] at *
  omega
theorem bc_app (l : List UInt8) (s : ByteArray) : Lib.byteCells l ++ Lib.strCells s = Lib.byteCells (l ++ s.data.toList) := by
  rw [Lib.byteCells_append]
  rfl

set_option maxHeartbeats 8000000 in
theorem implWordWrite_yes (k c t e n : Nat) (name data : ByteArray) (w : World) (hs : name.size ≤ maxLen) (h : wordB k c t e n name data = true) (hp : Pow w) :
    Calls Tryd.prog 13 #[.agg #[.int .i64 k, .int .i64 c, .int .i64 t, .int .i64 e, .int .i64 n, .string name, .string data]] w fun r w' => r = .returned (.string (outW k c t e n name data)) ∧ Below w.heap.size w w' := by
  have hb := word_bounds h
  have H := hid (fun w => implWordOk k c t e n name data w hs)
  rw [h] at H
  have hz := txt_size k c t e n name data (by omega) (by omega) (by omega) (by omega) (by omega) (by omega) (by omega)
  have HT := hid (txt_list k c t e n name data)
  unfold outW
  obtain ⟨X, hX⟩ : ∃ X, X = txtOf (decS k) (decS c) (decS t) (decS e) (decS n) name data := ⟨_, rfl⟩
  rw [← hX] at HT hz ⊢
  have HS := hid (fun w hp => wordSum_any X w (by unfold maxLen; omega) hp)
  have h7 := sevenS_size X.data.toList
  obtain ⟨Y, hY⟩ : ∃ Y, Y = sevenS X.data.toList := ⟨_, rfl⟩
  rw [← hY] at HS h7 ⊢
  have X0 := hid (laid w #[.int .i64 k, .int .i64 c, .int .i64 t, .int .i64 e, .int .i64 n, .string name, .string data] 23)
  have HP := hid hp
  obtain ⟨⟨_, a1⟩, ⟨_, a2⟩, ⟨_, a3⟩, ⟨_, a4⟩, ⟨_, a5⟩, a6, a7⟩ := hb
  clear hY hX hs h hp
  go_enter Tryd.func13, Tryd.ntmps13
  go_wp2_with (go_at_call 21; refine (H.out _).mono ?_; rintro r w1 ⟨rfl, b1⟩; have B1 := hid (below_catD (below_newD _ _) b1); have X1 := hid (kept X0.out b1); have p0 := box_cell X1.out 0 (v := .int .i64 k) rfl; have p1 := box_cell X1.out 1 (v := .int .i64 c) rfl; have p2 := box_cell X1.out 2 (v := .int .i64 t) rfl; have p3 := box_cell X1.out 3 (v := .int .i64 e) rfl; have p4 := box_cell X1.out 4 (v := .int .i64 n) rfl; have hlw := (lt_of_block X1.out); clear b1)
  go_loopw [20] (fun i wr => ∃ j : Nat, j ≤ 5 ∧ i = .int .i64 j ∧ WrSt w w1 ([k, c, t, e, n].take j) wr) (fun i _ => 5 - (intOf i).toNat)
  case atStart => exact ⟨0, by omega, rfl, Lib.fresh_isBuilder 45 5 w1, below_newD _ _, (HP.out.below B1.out).below (below_newD _ _)⟩
  case round =>
    obtain ⟨j, hj, rfl, hst⟩ := hrel
    have ST := hid hst
    have PW1 := hid (HP.out.below B1.out)
    clear hst p0 p1 p2 p3 p4
    have HNS : Hid (∀ m ∈ [k, c, t, e, n].take j, m ≤ 99999) := hid (fun m hm => by
      have := List.mem_of_mem_take hm
      simp only [List.mem_cons, List.not_mem_nil, or_false] at this
      omega)
    have HLL : Hid (([k, c, t, e, n].take j).length ≤ 5) := hid (by simp; omega)
    have HSZ : Hid (∀ m : Nat, m ≤ 99999 → (decS m).size ≤ 1000) := hid (fun m hm => by have := decS_size m (by omega); omega)
    by_cases h5 : j = 5
    · subst h5
      have X5 := hid ((ST.out.bl.block _ hlw).trans X1.out)
      have p5 := box_cell X5.out 5 (v := .string name) rfl
      have p6 := box_cell X5.out 6 (v := .string data) rfl
      have HST : Hid (∀ W, Lib.IsBuilderF 45 5 w1.heap.size w1.heap.size (Lib.byteCells (numL [k, c, t, e, n]) ++ Lib.strCells ((name ++ (⟨#[58]⟩ : ByteArray)) ++ data)) W → w1.heap.size ≤ W.heap.size →
          Calls Tryd.prog 26 #[.pointer (some ⟨w1.heap.size, 0, none⟩)] W fun r w' => r = .returned (.string X) ∧ (Lib.IsBuilderF 45 5 w1.heap.size w1.heap.size (Lib.byteCells (numL [k, c, t, e, n]) ++ Lib.strCells ((name ++ (⟨#[58]⟩ : ByteArray)) ++ data)) w' ∧ Below w1.heap.size W w')) := hid (fun W hW hs => by
        rw [bc_app] at hW ⊢
        rw [← HT.out]
        exact Tryd.Builder_String_any_f _ _ _ _ hW hs)
      have HSA := hid (show ((name ++ (⟨#[58]⟩ : ByteArray)) ++ data).size ≤ 1000 by
        rw [ByteArray.size_append, ByteArray.size_append]
        show name.size + 1 + data.size ≤ 1000
        omega)
      have HWS : Hid (∀ W, Lib.IsBuilder 45 5 w1.heap.size w1.heap.size (Lib.byteCells (numL [k, c, t, e, n])) W → w1.heap.size ≤ W.heap.size → Calls Tryd.prog 22 #[.pointer (some ⟨w1.heap.size, 0, none⟩), .string ((name ++ (⟨#[58]⟩ : ByteArray)) ++ data)] W fun r w' => r = .returned (.tuple #[.int .i64 ((name ++ (⟨#[58]⟩ : ByteArray)) ++ data).size, .nilIface]) ∧ (Lib.IsBuilderF 45 5 w1.heap.size w1.heap.size (Lib.byteCells (numL [k, c, t, e, n]) ++ Lib.strCells ((name ++ (⟨#[58]⟩ : ByteArray)) ++ data)) w' ∧ Below w1.heap.size W w')) := hid (fun W h1 h2 =>
        (writeString_any _ _ _ _ _ h1 (wr_len _ HNS.out HLL.out _ HSA.out) h2).mono fun r w' ⟨h3, h4, h5⟩ => ⟨h3, Lib.IsBuilderF.of (Or.inr h4), h5⟩)
      obtain ⟨Z, hZ⟩ : ∃ Z, Z = (name ++ (⟨#[58]⟩ : ByteArray)) ++ data := ⟨_, rfl⟩
      have hn1 : name.size + 1 + data.size ≤ 1000 := by omega
      go_wp2_with (first
        | (go_at_call 22; refine (HWS.out _ ST.out.bld ST.out.bl.size).mono ?_; rintro r w2 ⟨rfl, c2, b2⟩; have C2 := hid c2; have B2 := hid (ST.out.bl.trans b2); clear b2 c2)
        | (go_at_call 26; refine (HST.out _ C2.out B2.out.size).mono ?_; rintro r w3 ⟨rfl, c3, b3⟩; have C3 := hid c3; have B3 := hid (B2.out.trans b3); clear b3 c3 C2)
        | (go_at_call 25; refine (HS.out _ (PW1.out.below B3.out)).mono ?_; rintro r w4 ⟨rfl, b4⟩; have C4 := hid (isBF_below C3.out b4); have B4 := hid (B3.out.trans (b4.mono B3.out.size)); clear b4)
        | (go_at_call 26; refine (HST.out _ C4.out B4.out.size).mono ?_; rintro r w5 ⟨rfl, c5, b5⟩; have B5 := hid (B4.out.trans b5); clear b5 c5))
      go_ret
      exact ⟨rfl, below_catD B1.out B5.out⟩
    · have K : j = 0 ∨ j = 1 ∨ j = 2 ∨ j = 3 ∨ j = 4 := by omega
      have i0 := run_idx Tryd.underlying46 Tryd.sizeOf3 Tryd.isAgg3 #[.int .i64 k, .int .i64 c, .int .i64 t, .int .i64 e, .int .i64 n] 0 (.int .i64 k) (by omega) (by omega) rfl
      have i1 := run_idx Tryd.underlying46 Tryd.sizeOf3 Tryd.isAgg3 #[.int .i64 k, .int .i64 c, .int .i64 t, .int .i64 e, .int .i64 n] 1 (.int .i64 c) (by omega) (by omega) rfl
      have i2 := run_idx Tryd.underlying46 Tryd.sizeOf3 Tryd.isAgg3 #[.int .i64 k, .int .i64 c, .int .i64 t, .int .i64 e, .int .i64 n] 2 (.int .i64 t) (by omega) (by omega) rfl
      have i3 := run_idx Tryd.underlying46 Tryd.sizeOf3 Tryd.isAgg3 #[.int .i64 k, .int .i64 c, .int .i64 t, .int .i64 e, .int .i64 n] 3 (.int .i64 e) (by omega) (by omega) rfl
      have i4 := run_idx Tryd.underlying46 Tryd.sizeOf3 Tryd.isAgg3 #[.int .i64 k, .int .i64 c, .int .i64 t, .int .i64 e, .int .i64 n] 4 (.int .i64 n) (by omega) (by omega) rfl
      clear h5 hj HS HT h7 hz
      rcases K with rfl | rfl | rfl | rfl | rfl
      all_goals
        go_wp2_with (first
          | (go_at_call 23; refine (itoa_any _ _ ?_ ST.out.pow).mono ?_; omega; rintro r w2 ⟨rfl, b2⟩; have B2 := hid b2; have C2 := hid (isB_below ST.out.bld b2); have G2 := hid (Nat.le_trans ST.out.bl.size b2.size); clear b2)
          | (go_at_call 22; refine (writeString_any _ _ _ _ _ C2.out ?_ G2.out).mono ?_; exact wr_len _ HNS.out HLL.out _ (HSZ.out _ (by omega)); rintro r w3 ⟨rfl, c3, b3⟩; have C3 := hid c3; have B3 := hid b3; have G3 := hid (Nat.le_trans G2.out b3.size); clear b3 c3)
          | (go_at_call 24; refine (writeByte_any _ _ _ _ _ (Or.inr C3.out) ?_ G3.out).mono ?_; exact wr_len1 _ HNS.out HLL.out _ (HSZ.out _ (by omega)); rintro r w4 ⟨rfl, c4, b4⟩; rw [bc_app] at c4; have C4 := hid c4; have B4 := hid b4; clear b4 c4))
        go_roundw
        case rel => first
          | exact ⟨1, by omega, rfl, ST.out.step B2.out B3.out C4.out B4.out PW1.out⟩
          | exact ⟨2, by omega, rfl, ST.out.step B2.out B3.out C4.out B4.out PW1.out⟩
          | exact ⟨3, by omega, rfl, ST.out.step B2.out B3.out C4.out B4.out PW1.out⟩
          | exact ⟨4, by omega, rfl, ST.out.step B2.out B3.out C4.out B4.out PW1.out⟩
          | exact ⟨5, by omega, rfl, ST.out.step B2.out B3.out C4.out B4.out PW1.out⟩
        case measure => simp [intOf]
end Go.Proofs.YtpalcgelcnlhbaaDoor
