/- Words read by the model: what a word's text is made of. -/
import Derived.Test.YtpalcgelcnlhbaaDoorWrB
import Derived.Test.YtpalcgelcnlhbaaDoorSpN
namespace Go.Proofs.YtpalcgelcnlhbaaDoor
open Go.ChangeShapes Go.WideShapes Go.ChangeAt Go.RowKit Go.Sort

theorem fnd_hit (s : ByteArray) (A P D : List UInt8) (c : UInt8) (a : Nat) (hl : s.data.toList = A ++ (P ++ c :: D)) (ha : A.length = a) (hc : c ∉ P) (v : Int) (h : fndP s a c.toNat v) : v = ((a + P.length : Nat) : Int) := by
  have hsz : s.size = a + P.length + 1 + D.length := by
    have : s.data.toList.length = s.size := by rw [Array.length_toList]; rfl
    rw [← this, hl]
    simp only [List.length_append, List.length_cons]
    omega
  have at0 : ∀ i, (hi : i < s.size) → (A ++ (P ++ c :: D))[i]? = some s[i] := fun i hi => by rw [← hl]; exact byte_at s i hi
  have hmid : ∀ i, a ≤ i → i < a + P.length → ∀ hi : i < s.size, s[i].toNat ≠ c.toNat := by
    intro i h1 h2 hi e
    have h3 := at0 i hi
    rw [List.getElem?_append_right (by omega), List.getElem?_append_left (by omega)] at h3
    exact hc (by rw [← UInt8.toNat_inj.1 e]; exact List.mem_of_getElem? h3)
  have hend : s[a + P.length].toNat = c.toNat := by
    have h3 := at0 (a + P.length) (by omega)
    rw [List.getElem?_append_right (by omega), List.getElem?_append_right (by omega), show a + P.length - A.length - P.length = 0 by omega] at h3
    exact congrArg UInt8.toNat (Option.some.inj h3).symm
  rcases h with ⟨_, h⟩ | ⟨k, rfl, h1, ⟨h2, h3⟩, h4⟩
  · exact absurd hend (h _ (by omega) (by omega))
  · rcases Nat.lt_trichotomy k (a + P.length) with hk | hk | hk
    · exact absurd h3 (hmid k h1 hk h2)
    · rw [hk]
    · exact absurd hend (h4 _ (by omega) hk (by omega))
theorem ext_mid (s : ByteArray) (A P D : List UInt8) (a : Nat) (hl : s.data.toList = A ++ (P ++ D)) (ha : A.length = a) : s.extract a (a + P.length) = ⟨P.toArray⟩ := by
  rw [← ext_list, hl, List.drop_append_of_le_length (by omega), List.drop_of_length_le (by omega), List.nil_append, show a + P.length - a = P.length by omega, List.take_append_of_le_length (by omega), List.take_of_length_le (by omega)]
theorem ext_end (s : ByteArray) (A D : List UInt8) (a : Nat) (hl : s.data.toList = A ++ D) (ha : A.length = a) : s.extract a s.size = ⟨D.toArray⟩ := by
  have hz : s.size = a + D.length := by
    have : s.data.toList.length = s.size := by rw [Array.length_toList]; rfl
    rw [← this, hl, List.length_append, ha]
  rw [← ext_list, hl, List.drop_append_of_le_length (by omega), List.drop_of_length_le (by omega), List.nil_append, List.take_of_length_le (by omega)]
theorem spl_num (n : Nat) (r : List Nat) (z : List UInt8) : spl 32 (numL (n :: r) ++ z) = (decS n).data.toList :: spl 32 (numL r ++ z) := by
  have e : numL (n :: r) ++ z = (decS n).data.toList ++ 32 :: (numL r ++ z) := by simp [numL]
  rw [e]
  exact spl_hit 32 _ _ (dec_no n 32 (by decide))
theorem num_no58 : ∀ ns : List Nat, (58 : UInt8) ∉ numL ns
  | [] => by simp [numL]
  | n :: r => by
    have h1 := dec_no n 58 (by decide)
    have h2 := num_no58 r
    simp only [numL, List.flatMap_cons, List.mem_append, List.mem_singleton] at h2 ⊢
    rintro ((h | h) | h)
    · exact h1 h
    · exact absurd h (by decide)
    · exact h2 h
/-- What the model finds in a word's text. -/
theorem Good.found {s : ByteArray} {k c t e n : Nat} {name data : ByteArray} (h : Good s k c t e n name data) : ∃ K : Nat, 7 ≤ K ∧ K < s.size ∧ (∀ v, fndP s 7 58 v → v = (K : Int)) ∧
    spl 32 (s.extract 7 K).data.toList = [(decS k).data.toList, (decS c).data.toList, (decS t).data.toList, (decS e).data.toList, (decS n).data.toList, name.data.toList] ∧ s.extract (K + 1) s.size = data := by
  have h7 := seven7 (txtOf (decS k) (decS c) (decS t) (decS e) (decS n) name data).data.toList
  obtain ⟨A, hA⟩ : ∃ A, A = (sevenS (txtOf (decS k) (decS c) (decS t) (decS e) (decS n) name data).data.toList).data.toList := ⟨_, rfl⟩
  have hAl : A.length = 7 := by rw [hA, Array.length_toList]; exact h7
  obtain ⟨P, hP⟩ : ∃ P, P = numL [k, c, t, e, n] ++ name.data.toList := ⟨_, rfl⟩
  have hl : s.data.toList = A ++ (P ++ 58 :: data.data.toList) := by
    rw [← h.eq, outW, hA, hP]
    have e1 := congrArg (fun x : ByteArray => x.data.toList) (txt_list k c t e n name data)
    simp only at e1
    have e2 : ∀ X Y : ByteArray, (X ++ Y).data.toList = X.data.toList ++ Y.data.toList := fun X Y => by simp
    rw [e2, ← e1]
    congr 1
    simp
  have hc : (58 : UInt8) ∉ P := by
    rw [hP, List.mem_append]
    rintro (hm | hm)
    · exact num_no58 _ hm
    · exact name_no h.ok 58 (by decide) hm
  have hsz : s.size = 7 + P.length + 1 + data.data.toList.length := by
    have : s.data.toList.length = s.size := by rw [Array.length_toList]; rfl
    rw [← this, hl]
    simp only [List.length_append, List.length_cons]
    omega
  refine ⟨7 + P.length, by omega, by omega, fun v hv => fnd_hit s A P data.data.toList 58 7 hl hAl hc v hv, ?_, ?_⟩
  · rw [ext_mid s A P _ 7 hl hAl]
    show spl 32 P.toArray.toList = _
    rw [List.toList_toArray, hP, spl_num, spl_num, spl_num, spl_num, spl_num]
    have : numL [] ++ name.data.toList = name.data.toList := by simp [numL]
    rw [this, spl_miss 32 _ (name_no h.ok 32 (by decide))]
  · have hl2 : s.data.toList = (A ++ (P ++ [58])) ++ data.data.toList := by rw [hl]; simp
    rw [ext_end s _ _ (7 + P.length + 1) hl2 (by simp only [List.length_append, List.length_cons, List.length_nil]; omega)]

theorem find58 (s : ByteArray) (w : World) (hs : s.size ≤ maxLen) :
    Calls Tryd.prog 7 #[.string s, .int .i64 7, .int .u8 58] w fun r w' => ∃ v, r = .returned (.int .i64 v) ∧ fndP s 7 58 v ∧ w' = w := l7Find_any s 7 58 w hs (by omega)
theorem cuts32 (s : ByteArray) (w : World) (hs : s.size ≤ 1048576) :
    Calls Tryd.prog 8 #[.string s, .int .u8 32] w fun r w' => ∃ a cap, r = .returned (.slice a (spl 32 s.data.toList).length cap) ∧ StrsAt w' a ((spl 32 s.data.toList).map fun p => ⟨p.toArray⟩) ∧ Below w.heap.size w w' := by
  refine (l5Cuts_any s 32 w hs).mono ?_
  rintro r w' ⟨v, rfl, hown, hb⟩
  have e : (spl 32 s.data.toList).map strV = ((spl 32 s.data.toList).map fun p => (⟨p.toArray⟩ : ByteArray)).map Value.string := by
    rw [List.map_map]
    rfl
  rw [e] at hown
  obtain ⟨a, cap, rfl, _, h⟩ := owns_strs hown
  rw [List.length_map]
  exact ⟨a, cap, rfl, h, hb⟩
end Go.Proofs.YtpalcgelcnlhbaaDoor
