/- A word's text without its sum, taken apart by the program. -/
import Derived.Test.YtpalcgelcnlhbaaDoorCutT
import Derived.Test.YtpalcgelcnlhbaaDoorNumL
import Derived.Test.YtpalcgelcnlhbaaDoorArr
import Derived.Test.YtpalcgelcnlhbaaDoorQB
namespace Go.Proofs.YtpalcgelcnlhbaaDoor
open Go.ChangeShapes Go.WideShapes Go.ChangeAt Go.RowKit Go.Sort

/-- Numbers, a blank behind each, and what is left. -/
def sfx (ns : List Nat) (z : ByteArray) : ByteArray := ⟨(numL ns ++ z.data.toList).toArray⟩
theorem sfx_nil (z : ByteArray) : sfx [] z = z := by simp [sfx, numL]
theorem sfx_size (ns : List Nat) (z : ByteArray) (h : ∀ n ∈ ns, n ≤ 99999) : (sfx ns z).size ≤ 22 * ns.length + z.size := by
  have := numL_len ns h
  show (numL ns ++ z.data.toList).toArray.size ≤ _
  simp only [List.size_toArray, List.length_append, Array.length_toList]
  have e : z.data.size = z.size := rfl
  omega
theorem dec_digits (n : Nat) : ∀ c ∈ Lib.decDigits n, 48 ≤ c.toNat ∧ c.toNat ≤ 57 := by
  induction n using Nat.strongRecOn with
  | _ n ih =>
    intro c hc
    by_cases h : n < 10
    · rw [Lib.decDigits_one h] at hc
      simp only [List.mem_singleton] at hc
      subst hc
      rw [UInt8.toNat_ofNat']
      omega
    · rw [Lib.decDigits, dif_neg h, List.mem_append] at hc
      rcases hc with hc | hc
      · exact ih (n / 10) (by omega) c hc
      · simp only [List.mem_singleton] at hc
        subst hc
        rw [UInt8.toNat_ofNat']
        omega
theorem dec_no (n : Nat) (c : UInt8) (h : c.toNat < 48 ∨ 57 < c.toNat) : c ∉ (decS n).data.toList := by
  rw [decS_toList]
  intro hc
  have := dec_digits n c hc
  omega
theorem mkS (s : ByteArray) : (⟨s.data.toList.toArray⟩ : ByteArray) = s := by simp
theorem sfx_cut (n : Nat) (r : List Nat) (z : ByteArray) : Lib.cut (sfx (n :: r) z).data.toList [32] = ((decS n).data.toList, (sfx r z).data.toList, true) := by
  have e : (sfx (n :: r) z).data.toList = (decS n).data.toList ++ 32 :: (sfx r z).data.toList := by simp [sfx, numL]
  rw [e]
  exact cut_hit 32 _ _ (dec_no n 32 (by decide))
theorem cut_sfx (n : Nat) (r : List Nat) (z : ByteArray) (w : World) (hs : (sfx (n :: r) z).size ≤ 1000) (he : Env w) :
    Calls Tryd.prog 18 #[.string (sfx (n :: r) z), .string ⟨#[32]⟩] w fun e w' => e = .returned (.tuple #[.string (decS n), .string (sfx r z), .bool true]) ∧ Below w.heap.size w w' := by
  have := cut_any (sfx (n :: r) z) 32 w hs he
  rw [cutA, cutZ, sfx_cut, mkS, mkS] at this
  exact this
theorem cut_name (name data : ByteArray) (w : World) (hs : name.size + data.size ≤ 900) (hn : (58 : UInt8) ∉ name.data.toList) (he : Env w) :
    Calls Tryd.prog 18 #[.string ((name ++ (⟨#[58]⟩ : ByteArray)) ++ data), .string ⟨#[58]⟩] w fun e w' => e = .returned (.tuple #[.string name, .string data, .bool true]) ∧ Below w.heap.size w w' := by
  have e : ((name ++ (⟨#[58]⟩ : ByteArray)) ++ data).data.toList = name.data.toList ++ 58 :: data.data.toList := by simp
  have := cut_any ((name ++ (⟨#[58]⟩ : ByteArray)) ++ data) 58 w (by rw [ByteArray.size_append, ByteArray.size_append]; show name.size + 1 + data.size ≤ 1000; omega) he
  rw [cutA, cutZ, e, cut_hit 58 _ _ hn, mkS, mkS] at this
  exact this

/-- A block of seven cells, written anew. -/
theorem set7 {g : Nat} {w : World} {a0 a1 a2 a3 a4 a5 a6 : Value} {t : TypeId} (h : w.heap[g]? = some (.cells #[a0, a1, a2, a3, a4, a5, a6] t (0, 0))) (b0 b1 b2 b3 b4 b5 b6 : Value) :
    ∃ V, V = ((((((w.setCell ⟨g, 0, none⟩ b0).setCell ⟨g, 1, none⟩ b1).setCell ⟨g, 2, none⟩ b2).setCell ⟨g, 3, none⟩ b3).setCell ⟨g, 4, none⟩ b4).setCell ⟨g, 5, none⟩ b5).setCell ⟨g, 6, none⟩ b6 ∧
      V.heap[g]? = some (.cells #[b0, b1, b2, b3, b4, b5, b6] t (0, 0)) ∧ ∀ w0, w0.heap.size ≤ g → Below w0.heap.size w0 w → Below w0.heap.size w0 V := by
  have h0 : (w.setCell ⟨g, 0, none⟩ b0).heap[g]? = some (.cells #[b0, a1, a2, a3, a4, a5, a6] t (0, 0)) := set_block h 0 b0
  obtain ⟨W0, e0⟩ : ∃ W, W = w.setCell ⟨g, 0, none⟩ b0 := ⟨_, rfl⟩
  rw [← e0] at h0
  have h1 : (W0.setCell ⟨g, 1, none⟩ b1).heap[g]? = some (.cells #[b0, b1, a2, a3, a4, a5, a6] t (0, 0)) := set_block h0 1 b1
  obtain ⟨W1, e1⟩ : ∃ W, W = W0.setCell ⟨g, 1, none⟩ b1 := ⟨_, rfl⟩
  rw [← e1] at h1
  have h2 : (W1.setCell ⟨g, 2, none⟩ b2).heap[g]? = some (.cells #[b0, b1, b2, a3, a4, a5, a6] t (0, 0)) := set_block h1 2 b2
  obtain ⟨W2, e2⟩ : ∃ W, W = W1.setCell ⟨g, 2, none⟩ b2 := ⟨_, rfl⟩
  rw [← e2] at h2
  have h3 : (W2.setCell ⟨g, 3, none⟩ b3).heap[g]? = some (.cells #[b0, b1, b2, b3, a4, a5, a6] t (0, 0)) := set_block h2 3 b3
  obtain ⟨W3, e3⟩ : ∃ W, W = W2.setCell ⟨g, 3, none⟩ b3 := ⟨_, rfl⟩
  rw [← e3] at h3
  have h4 : (W3.setCell ⟨g, 4, none⟩ b4).heap[g]? = some (.cells #[b0, b1, b2, b3, b4, a5, a6] t (0, 0)) := set_block h3 4 b4
  obtain ⟨W4, e4⟩ : ∃ W, W = W3.setCell ⟨g, 4, none⟩ b4 := ⟨_, rfl⟩
  rw [← e4] at h4
  have h5 : (W4.setCell ⟨g, 5, none⟩ b5).heap[g]? = some (.cells #[b0, b1, b2, b3, b4, b5, a6] t (0, 0)) := set_block h4 5 b5
  obtain ⟨W5, e5⟩ : ∃ W, W = W4.setCell ⟨g, 5, none⟩ b5 := ⟨_, rfl⟩
  rw [← e5] at h5
  have h6 : (W5.setCell ⟨g, 6, none⟩ b6).heap[g]? = some (.cells #[b0, b1, b2, b3, b4, b5, b6] t (0, 0)) := set_block h5 6 b6
  obtain ⟨W6, e6⟩ : ∃ W, W = W5.setCell ⟨g, 6, none⟩ b6 := ⟨_, rfl⟩
  rw [← e6] at h6
  refine ⟨W6, by rw [e6, e5, e4, e3, e2, e1, e0], h6, fun w0 hg hb => ?_⟩
  rw [e6, e5, e4, e3, e2, e1, e0]
  exact Below.setCell (Below.setCell (Below.setCell (Below.setCell (Below.setCell (Below.setCell (Below.setCell hb (p := ⟨g, 0, none⟩) hg b0) (p := ⟨g, 1, none⟩) hg b1) (p := ⟨g, 2, none⟩) hg b2) (p := ⟨g, 3, none⟩) hg b3) (p := ⟨g, 4, none⟩) hg b4) (p := ⟨g, 5, none⟩) hg b5) (p := ⟨g, 6, none⟩) hg b6

/-- Where the program is: the answer's block, and the word's, behind it. -/
structure WpSt (w : World) (cs : Array Value) (wr : World) : Prop where
  res : wr.heap[w.heap.size]? = some (.cells #[.int .i64 0, .int .i64 0, .int .i64 0, .int .i64 0, .int .i64 0, .string ⟨#[]⟩, .string ⟨#[]⟩] 23 (0, 0))
  box : wr.heap[w.heap.size + 1]? = some (.cells cs 23 (0, 0))
  bl : Below w.heap.size w wr
theorem WpSt.start (w : World) (cs : Array Value) : WpSt w cs ((w.alloc (.cells #[.int .i64 0, .int .i64 0, .int .i64 0, .int .i64 0, .int .i64 0, .string ⟨#[]⟩, .string ⟨#[]⟩] 23)).alloc (.cells cs 23)) := by
  refine ⟨kept (laid w _ _) (below_newD _ _), ?_, ((Below.refl _ _).alloc (Nat.le_refl _) _).alloc (by simp) _⟩
  have := laid (w.alloc (.cells #[.int .i64 0, .int .i64 0, .int .i64 0, .int .i64 0, .int .i64 0, .string ⟨#[]⟩, .string ⟨#[]⟩] 23)) cs 23
  simpa using this
theorem WpSt.below {w wr w' : World} {cs : Array Value} (h : WpSt w cs wr) (hb : Below wr.heap.size wr w') : WpSt w cs w' :=
  ⟨kept h.res hb, kept h.box hb, below_catD h.bl hb⟩
theorem WpSt.set {w wr : World} {cs : Array Value} (h : WpSt w cs wr) (i : Nat) (v : Value) : WpSt w (cs.setIfInBounds i v) (wr.setCell ⟨w.heap.size + 1, i, none⟩ v) :=
  ⟨set_other h.res (by omega) i v, set_block h.box i v, h.bl.setCell (p := ⟨w.heap.size + 1, i, none⟩) (by simp) v⟩
/-- The word's cells, so many numbers being read. -/
def wpA (k c t e n : Int) : Nat → Array Value
  | 0 => #[.int .i64 0, .int .i64 0, .int .i64 0, .int .i64 0, .int .i64 0, .string ⟨#[]⟩, .string ⟨#[]⟩]
  | 1 => #[.int .i64 k, .int .i64 0, .int .i64 0, .int .i64 0, .int .i64 0, .string ⟨#[]⟩, .string ⟨#[]⟩]
  | 2 => #[.int .i64 k, .int .i64 c, .int .i64 0, .int .i64 0, .int .i64 0, .string ⟨#[]⟩, .string ⟨#[]⟩]
  | 3 => #[.int .i64 k, .int .i64 c, .int .i64 t, .int .i64 0, .int .i64 0, .string ⟨#[]⟩, .string ⟨#[]⟩]
  | 4 => #[.int .i64 k, .int .i64 c, .int .i64 t, .int .i64 e, .int .i64 0, .string ⟨#[]⟩, .string ⟨#[]⟩]
  | _ => #[.int .i64 k, .int .i64 c, .int .i64 t, .int .i64 e, .int .i64 n, .string ⟨#[]⟩, .string ⟨#[]⟩]
end Go.Proofs.YtpalcgelcnlhbaaDoor
