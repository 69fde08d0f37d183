/- Texts taken apart by the model: the place of a byte, and pieces. -/
import Derived.Test.YtpalcgelcnlhbaaDoorStrsH
import Derived.WalkSpells
namespace Go.Proofs.YtpalcgelcnlhbaaDoor
open Go.ChangeShapes Go.WideShapes Go.ChangeAt Go.RowKit

/-- The first place of a byte, from a place on. -/
def fndP (s : ByteArray) (a c : Nat) (v : Int) : Prop :=
  (v = -1 ∧ ∀ i, a ≤ i → ∀ h : i < s.size, s[i].toNat ≠ c) ∨ ∃ k : Nat, v = k ∧ a ≤ k ∧ (∃ h : k < s.size, s[k].toNat = c) ∧ ∀ i, a ≤ i → i < k → ∀ h : i < s.size, s[i].toNat ≠ c

set_option maxHeartbeats 1000000 in
theorem l7Find_any (s : ByteArray) (a c : Nat) (w : World) (hs : s.size ≤ maxLen) (_ha : a ≤ 1048576) :
    Calls Tryd.prog 7 #[.string s, .int .i64 a, .int .u8 c] w fun r w' => ∃ v, r = .returned (.int .i64 v) ∧ fndP s a c v ∧ w' = w := by
  unfold maxLen at hs
  go_enter Tryd.func7, Tryd.ntmps7
  go_wp2_with fail
  go_loop [7] (fun i => ∃ k : Nat, a ≤ k ∧ (k ≤ a ∨ k ≤ s.size) ∧ i = .int .i64 k ∧ ∀ i, a ≤ i → i < k → ∀ h : i < s.size, s[i].toNat ≠ c) (fun i => s.size - (intOf i).toNat)
  case atStart => exact ⟨a, Nat.le_refl _, .inl (Nat.le_refl _), rfl, fun i h1 h2 => absurd h1 (by omega)⟩
  case round =>
    obtain ⟨k, hk, hk2, rfl, hp⟩ := hrel
    have HP : Hid _ := hp
    clear hp
    by_cases hlt : k < s.size
    · by_cases h : s[k].toNat = c
      · have h' : ((s[k].toNat : Int) == (c : Int)) = true := by rw [beq_iff_eq]; omega
        have HH := hid h
        clear h
        go_wp2_with fail
        go_ret
        exact ⟨k, rfl, .inr ⟨k, rfl, hk, ⟨hlt, HH.out⟩, HP.out⟩, rfl⟩
      · have h' : ((s[k].toNat : Int) == (c : Int)) = false := by rw [beq_eq_false_iff_ne]; omega
        go_wp2_with fail
        go_round
        case rel => exact ⟨k + 1, by omega, .inr (by omega), by go_num, fun i h1 h2 h3 => by
          rcases Nat.lt_or_ge i k with h4 | h4
          · exact HP.out i h1 h4 h3
          · obtain rfl : i = k := by omega
            exact h⟩
        case measure => simp [intOf]; omega
    · go_wp2_with fail
      go_ret
      exact ⟨-1, rfl, .inl ⟨rfl, fun i h1 h2 => HP.out i h1 (by omega) h2⟩, rfl⟩

/-- A text cut at each byte. -/
def spl (c : UInt8) : List UInt8 → List (List UInt8)
  | [] => [[]]
  | b :: r => if b = c then [] :: spl c r else
    match spl c r with
    | p :: ps => (b :: p) :: ps
    | [] => [[b]]
theorem spl_hit (c : UInt8) (r : List UInt8) : ∀ p : List UInt8, c ∉ p → spl c (p ++ c :: r) = p :: spl c r
  | [], _ => by simp [spl]
  | b :: p, h => by
    have hb : b ≠ c := fun e => h (by simp [e])
    rw [List.cons_append, spl, if_neg hb, spl_hit c r p (fun hm => h (by simp [hm]))]
theorem spl_miss (c : UInt8) : ∀ p : List UInt8, c ∉ p → spl c p = [p]
  | [], _ => rfl
  | b :: p, h => by
    have hb : b ≠ c := fun e => h (by simp [e])
    rw [spl, if_neg hb, spl_miss c p (fun hm => h (by simp [hm]))]
theorem spl_len (c : UInt8) : ∀ l : List UInt8, (spl c l).length ≤ l.length + 1
  | [] => by simp [spl]
  | b :: r => by
    have ih := spl_len c r
    rw [spl]
    split
    · simp only [List.length_cons]; omega
    · split
      · next h => rw [h] at ih; simp only [List.length_cons] at ih ⊢; omega
      · simp
theorem spl_piece (c : UInt8) : ∀ l : List UInt8, ∀ p ∈ spl c l, p.length ≤ l.length
  | [], p, hp => by simp [spl] at hp; simp [hp]
  | b :: r, p, hp => by
    have ih := spl_piece c r
    rw [spl] at hp
    split at hp
    · simp only [List.mem_cons] at hp
      rcases hp with rfl | hp
      · simp
      · have := ih p hp; simp only [List.length_cons]; omega
    · split at hp
      · next q qs h =>
        rw [h] at ih
        simp only [List.mem_cons] at hp ih
        rcases hp with rfl | hp
        · have := ih q (.inl rfl); simp only [List.length_cons]; omega
        · have := ih p (.inr hp); simp only [List.length_cons]; omega
      · simp only [List.mem_singleton] at hp
        subst hp
        simp
def strV (p : List UInt8) : Value := .string ⟨p.toArray⟩
theorem ext_list (s : ByteArray) (f i : Nat) : (⟨((s.data.toList.drop f).take (i - f)).toArray⟩ : ByteArray) = s.extract f i := by
  apply ByteArray.ext
  apply Array.toList_inj.1
  rw [ByteArray.data_extract, Array.toList_extract, List.extract_eq_take_drop]

/-- Where the model is: pieces done, and from where the next one goes. -/
def cutSt (s : ByteArray) (c : UInt8) (ps : List (List UInt8)) (f i : Nat) : Prop :=
  spl c s.data.toList = ps ++ spl c (s.data.toList.drop f) ∧ ∀ j, f ≤ j → j < i → ∀ h : j < s.size, s[j] ≠ c
theorem cutSt_start (s : ByteArray) (c : UInt8) : cutSt s c [] 0 0 := ⟨rfl, fun j _ h => absurd h (by omega)⟩
theorem not_mem_piece (s : ByteArray) (c : UInt8) (f i : Nat) (hi : i ≤ s.size) (h : ∀ j, f ≤ j → j < i → ∀ h : j < s.size, s[j] ≠ c) : c ∉ (s.data.toList.drop f).take (i - f) := by
  intro hm
  obtain ⟨j, hj, e⟩ := List.mem_iff_getElem.1 hm
  simp only [List.length_take, List.length_drop, Array.length_toList] at hj
  have hz : s.data.size = s.size := rfl
  rw [List.getElem_take, List.getElem_drop] at e
  exact h (f + j) (by omega) (by omega) (by omega) e
theorem cutSt_hit {s : ByteArray} {c : UInt8} {ps : List (List UInt8)} {f i : Nat} (h : cutSt s c ps f i) (hf : f ≤ i) (hi : i < s.size) (hc : s[i] = c) : cutSt s c (ps ++ [(s.data.toList.drop f).take (i - f)]) (i + 1) (i + 1) := by
  refine ⟨?_, fun j h1 h2 => absurd h1 (by omega)⟩
  have e : s.data.toList.drop f = (s.data.toList.drop f).take (i - f) ++ c :: s.data.toList.drop (i + 1) := by
    have h1 : (s.data.toList.drop f).drop (i - f) = c :: s.data.toList.drop (i + 1) := by
      rw [List.drop_drop, show f + (i - f) = i by omega, List.drop_eq_getElem_cons (by simpa using hi)]
      congr 1
    rw [← h1, List.take_append_drop]
  rw [h.1, List.append_assoc]
  congr 1
  conv => lhs; rw [e]
  rw [spl_hit c _ _ (not_mem_piece s c f i (by omega) h.2)]
  rfl
theorem cutSt_miss {s : ByteArray} {c : UInt8} {ps : List (List UInt8)} {f i : Nat} (h : cutSt s c ps f i) (hi : i < s.size) (hc : s[i] ≠ c) : cutSt s c ps f (i + 1) :=
  ⟨h.1, fun j h1 h2 h3 => by
    rcases Nat.lt_or_ge j i with h4 | h4
    · exact h.2 j h1 h4 h3
    · obtain rfl : j = i := by omega
      exact hc⟩
theorem cutSt_end {s : ByteArray} {c : UInt8} {ps : List (List UInt8)} {f : Nat} (h : cutSt s c ps f s.size) : spl c s.data.toList = ps ++ [(s.data.toList.drop f).take (s.size - f)] := by
  have e : (s.data.toList.drop f).take (s.size - f) = s.data.toList.drop f := List.take_of_length_le (by rw [List.length_drop, Array.length_toList]; exact Nat.le_refl _)
  have := not_mem_piece s c f s.size (Nat.le_refl _) h.2
  rw [e] at this ⊢
  rw [h.1, spl_miss c _ this]

set_option maxHeartbeats 1000000 in
theorem l5Cuts_any (s : ByteArray) (c : UInt8) (w : World) (hs : s.size ≤ 1048576) :
    Calls Tryd.prog 8 #[.string s, .int .u8 c.toNat] w fun r w' => ∃ v, r = .returned v ∧ w'.ownsRow w.heap.size 9 1 v (spl c s.data.toList).length ((spl c s.data.toList).map strV) ∧ Below w.heap.size w w' := by
  obtain ⟨i0, hi, hz0, hz1, hz2⟩ := info_parts Tryd.info9
  have HL := hid (spl_len c s.data.toList)
  go_enter Tryd.func8, Tryd.ntmps8
  go_wp2_with fail
  go_loopw [5, 6, 7] (fun v f i wr => ∃ (ps : List (List UInt8)) (a k : Nat), a ≤ k ∧ k ≤ s.size ∧ ps.length ≤ k ∧ f = .int .i64 a ∧ i = .int .i64 k ∧ wr.ownsRow w.heap.size 9 1 v ps.length (ps.map strV) ∧ cutSt s c ps a k ∧ Below w.heap.size w wr) (fun _ _ i _ => s.size - (intOf i).toNat)
  case atStart => exact ⟨[], 0, 0, Nat.le_refl _, Nat.zero_le _, Nat.le_refl _, rfl, rfl, World.ownsRow_lit w #[] 0 (Nat.le_refl _) (Nat.zero_le _) rfl, cutSt_start s c, (Below.refl _ _).alloc (Nat.le_refl _) _⟩
  case round =>
    obtain ⟨ps, a, k, hak, hk, hps, rfl, rfl, hown, hcs, hb⟩ := hrel
    have hsz := hb.size
    have CS := hid hcs
    have HB := hid hb
    clear hcs hb
    by_cases hlt : k < s.size
    · by_cases h : s[k] = c
      · have h' : ((s[k].toNat : Int) == (c.toNat : Int)) = true := by rw [h]; simp
        have N := hid (cutSt_hit CS.out hak hlt h)
        have E := hid (ext_list s a k)
        clear h CS
        go_wp2_with (at_builtin; refine append_one 29 9 i0 _ 16 Tryd.underlying29 hi hz0 hz1 hz2 rfl _ _ rfl rfl rfl rfl rfl rfl hown hsz (by omega) (by omega) ?_; intro v' w1 hown1 hb1)
        have HO := hid hown1
        have HB1 := hid hb1
        clear hown hown1 hb1
        go_roundw
        case rel =>
          refine ⟨ps ++ [(s.data.toList.drop a).take (k - a)], k + 1, k + 1, Nat.le_refl _, by omega, by simp; omega, by go_num, by go_num, ?_, N.out, HB.out.trans HB1.out⟩
          rw [List.map_append, List.length_append]
          have := HO.out
          rw [← E.out] at this
          exact this
        case measure => simp [intOf]; omega
      · have h' : ((s[k].toNat : Int) == (c.toNat : Int)) = false := by
          rw [beq_eq_false_iff_ne]
          intro e
          exact h (UInt8.toNat_inj.1 (by omega))
        have N := hid (cutSt_miss CS.out hlt h)
        clear h CS
        go_wp2_with fail
        go_roundw
        case rel => exact ⟨ps, a, k + 1, by omega, by omega, by omega, rfl, by go_num, hown, N.out, HB.out⟩
        case measure => simp [intOf]; omega
    · obtain rfl : k = s.size := by omega
      have N := hid (cutSt_end CS.out)
      have E := hid (ext_list s a s.size)
      clear CS
      go_wp2_with (at_builtin; refine append_one 29 9 i0 _ 16 Tryd.underlying29 hi hz0 hz1 hz2 rfl _ _ rfl rfl rfl rfl rfl rfl hown hsz (by omega) (by omega) ?_; intro v' w1 hown1 hb1)
      go_ret
      refine ⟨_, rfl, ?_, HB.out.trans hb1⟩
      rw [N.out, List.map_append, List.length_append]
      rw [← E.out] at hown1
      exact hown1
end Go.Proofs.YtpalcgelcnlhbaaDoor
