/- In a round: reads, what lays memory, and stores, walked once. A text many times. -/
import Derived.Test.YtcoofoiaaljpoaaDoorG3
import Derived.Test.YtcoofoiaaljpoaaDoorG4
import Derived.Test.YtcoofoiaaljpoaaDoorG0
namespace Go.Proofs.YtcoofoiaaljpoaaDoor
open Go.ChangeShapes Go.WideShapes Go.ChangeAt Go.RowKit Go.Sort

theorem inR_fore {P : Program} {id : Nat} {Q : Exit → Act → World → Prop} {a : Act} {w : World} {l : List Oper} {r n : Nat} (m : Nat) (hm : P.follows .mixedOrders = true) (hB : foreB l m = true) (hn : l.all noDefer = true) (hQ0 : ¬ LetsOut Q) (hQ : ∀ c a d v w, Q (.panic c) (a.put d v) w → Q (.panic c) a w)
    (h : wpQuiet P l.toArray (fun w' => ∃ p : Regrown, w' = grow (redrawn w p.d) p.os) (fun a' => ∀ w', (∃ p : Regrown, w' = grow (redrawn w p.d) p.os) → wpList P l.toArray Q (l.drop m) a' w') (l.take m) a) : (Code.region id l.toArray true).wpIn (Fence.wide.inRound r) n P Q a w :=
  wpIn_region_any hm (inR_any hQ0 (nd_all hn) _ _ _ _ (any_fore (C := fun w' => ∃ p : Regrown, w' = grow (redrawn w p.d) p.os) m hB hQ ⟨⟨w.drawn + 1, #[]⟩, by rw [grow_empty]; rfl⟩ h))
theorem inR_line {P : Program} {id : Nat} {Q : Exit → Act → World → Prop} {a : Act} {w : World} {l : List Oper} {r n' : Nat} (m n : Nat) (hm : P.follows .mixedOrders = true) (hB : lineB l m n = true) (hn : l.all noDefer = true) (hQ0 : ¬ LetsOut Q) (hQ : ∀ c a d v w, Q (.panic c) (a.put d v) w → Q (.panic c) a w)
    (h : wpQuiet P l.toArray (fun w' => ∃ p : Regrown, w' = grow (redrawn w p.d) p.os) (fun a' => ∀ w', (∃ p : Regrown, w' = grow (redrawn w p.d) p.os) → wpRest P l.toArray Q (fun w' => ∃ p : Regrown, w' = grow (redrawn w p.d) p.os) n (l.drop m) a' w') (l.take m) a) : (Code.region id l.toArray true).wpIn (Fence.wide.inRound r) n' P Q a w :=
  wpIn_region_any hm (inR_any hQ0 (nd_all hn) _ _ _ _ (any_line (C := fun w' => ∃ p : Regrown, w' = grow (redrawn w p.d) p.os) m n hB hQ ⟨⟨w.drawn + 1, #[]⟩, by rw [grow_empty]; rfl⟩ h))
/-- The rest of the region, in a round, is walked plainly. -/
theorem class_of {w w' : World} (h : Below w.heap.size w w') : ∃ p : Regrown, w' = grow (redrawn w p.d) p.os := regrown_of_below h
theorem of_class {w w' : World} (h : ∃ p : Regrown, w' = grow (redrawn w p.d) p.os) : Below w.heap.size w w' := by
  obtain ⟨p, rfl⟩ := h
  exact below_regrown _ _ _
end Go.Proofs.YtcoofoiaaljpoaaDoor
namespace Go.Proofs.YtcoofoiaaljpoaaDoor
open Go.ChangeShapes Go.WideShapes Go.ChangeAt Go.RowKit

/-- A text n times. -/
def rep : Nat → ByteArray → ByteArray
  | 0, _ => ⟨#[]⟩
  | n + 1, s => s ++ rep n s
theorem ba_ext {a b : ByteArray} (h : a.data = b.data) : a = b := by cases a; cases b; simp_all
theorem ba_nil (s : ByteArray) : (⟨#[]⟩ : ByteArray) ++ s = s := by apply ba_ext; simp [ByteArray.data_append]
theorem ba_nil' (s : ByteArray) : s ++ (⟨#[]⟩ : ByteArray) = s := by apply ba_ext; simp [ByteArray.data_append]
theorem ba_assoc (a b c : ByteArray) : a ++ b ++ c = a ++ (b ++ c) := by apply ba_ext; simp [ByteArray.data_append, Array.append_assoc]
theorem rep_add (n m : Nat) (s : ByteArray) : rep (n + m) s = rep n s ++ rep m s := by
  induction n with
  | zero => rw [Nat.zero_add, rep, ba_nil]
  | succ n ih => rw [Nat.succ_add, rep, rep, ih, ba_assoc]
theorem rep_two (n : Nat) (s : ByteArray) : rep n (s ++ s) = rep (2 * n) s := by
  induction n with
  | zero => rfl
  | succ n ih => rw [rep, ih, show 2 * (n + 1) = (2 * n + 1) + 1 by omega, rep, rep, ba_assoc]
theorem rep_size (n : Nat) (s : ByteArray) : (rep n s).size = n * s.size := by
  induction n with
  | zero => rw [Nat.zero_mul]; rfl
  | succ n ih => rw [rep, ByteArray.size_append, ih, Nat.succ_mul]; omega

set_option maxRecDepth 100000 in
set_option maxHeartbeats 1000000 in
theorem l1Many_any (s : ByteArray) (n : Nat) (w : World) (hn : n ≤ 1048576) (hs : s.size ≤ 1048576) :
    Calls Tryd.prog 22 #[.string s, .int .i64 n] w fun e w' => e = .returned (.string (rep n s)) ∧ w' = w := by
  go_enter Tryd.func22, Tryd.ntmps22
  go_wp2
  go_loop [0, 1, 5] (fun x q o => ∃ (t out : ByteArray) (m : Nat), x = .string t ∧ q = .int .i64 m ∧ o = .string out ∧ m ≤ n ∧ m * t.size ≤ n * s.size ∧ out.size ≤ n * s.size ∧ out ++ rep m t = rep n s) (fun _ q _ => (intOf q).toNat)
  case atStart => exact ⟨s, ⟨#[]⟩, n, rfl, rfl, rfl, Nat.le_refl _, Nat.le_refl _, Nat.zero_le _, ba_nil _⟩
  case round =>
    obtain ⟨t, out, m, rfl, rfl, rfl, hm, h1, h2, he⟩ := hrel
    have hp : n * s.size ≤ 1099511627776 := Nat.le_trans (Nat.mul_le_mul hn hs) (by omega)
    by_cases h0 : 0 < m
    · have ht : t.size ≤ 1099511627776 := Nat.le_trans (Nat.le_trans (Nat.le_mul_of_pos_left _ h0) h1) hp
      have ho : out.size ≤ 1099511627776 := Nat.le_trans h2 hp
      obtain ⟨q, hq⟩ : ∃ q, m = 2 * q ∨ m = 2 * q + 1 := ⟨m / 2, by omega⟩
      have HE := hid he
      have H1 := hid h1
      have H2 := hid h2
      have HP := hid hp
      clear he h1 h2 hp
      rcases hq with rfl | rfl
      · have e1 : (((2 * q : Nat) : Int) % 2 == 1) = false := by simp
        go_wp2
        go_round
        case rel =>
          refine ⟨t ++ t, out, q, rfl, by go_num, rfl, by omega, ?_, H2.out, ?_⟩
          · have := H1.out
            rw [ByteArray.size_append, ← Nat.two_mul, ← Nat.mul_assoc, Nat.mul_comm q 2]; exact this
          · rw [rep_two]; exact HE.out
        case measure => simp [intOf]; omega
      · have e1 : (((2 * q + 1 : Nat) : Int) % 2 == 1) = true := by simp
        have hsum : (out ++ rep (2 * q + 1) t).size = (rep n s).size := by rw [HE.out]
        rw [ByteArray.size_append, rep_size, rep_size, Nat.succ_mul] at hsum
        have HS := hid hsum
        clear hsum
        go_wp2
        go_round
        case rel =>
          refine ⟨t ++ t, out ++ t, q, rfl, by go_num, rfl, by omega, ?_, ?_, ?_⟩
          · have := H1.out
            rw [Nat.succ_mul] at this
            rw [ByteArray.size_append, ← Nat.two_mul, ← Nat.mul_assoc, Nat.mul_comm q 2]; omega
          · have := HS.out
            rw [ByteArray.size_append]; omega
          · rw [rep_two, ba_assoc, ← HE.out, rep]
        case measure => simp [intOf]; omega
    · obtain rfl : m = 0 := by omega
      have HE := hid he
      clear he
      go_wp2
      go_ret
      rw [← HE.out, rep, ba_nil']
      exact ⟨rfl, rfl⟩
end Go.Proofs.YtcoofoiaaljpoaaDoor
