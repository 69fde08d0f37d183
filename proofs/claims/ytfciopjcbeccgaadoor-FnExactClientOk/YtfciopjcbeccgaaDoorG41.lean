/- Clients in the laws: measured, laid anew, the same. -/
import Derived.Test.YtfciopjcbeccgaaDoorG40
import Derived.Test.YtfciopjcbeccgaaDoorG19
import Derived.Test.YtfciopjcbeccgaaDoorG38
namespace Go.Proofs.YtfciopjcbeccgaaDoor
open Go.ChangeShapes Go.WideShapes Go.ChangeAt Go.RowKit Go.Sort Go.Shelf
attribute [local go_sem] Oper.semAt_some

set_option maxRecDepth 100000 in
set_option maxHeartbeats 1000000 in
theorem szGetting_le (L S : Int) (a1 a2 : Option Addr) (n1 c1 n2 c2 : Nat) (C Z : Int) (a : Option Addr) (cap : Nat) (es : List EqV) (left : Int) (w : World) (hn1 : n1 ≤ 9223372036854775807) (hn2 : n2 ≤ 9223372036854775807) (ha : EqsAt w a es) (hn : es.length ≤ 9223372036854775807) (hL : LongE es) (l0 : 0 ≤ left) (l1 : left ≤ 1048576) :
    Calls Tryd.prog 9 #[.agg #[.int .i64 L, .int .i64 S, .slice a1 n1 c1, .slice a2 n2 c2, .int .i64 C, .int .i64 Z, .slice a es.length cap], .int .i64 left] w fun e w' => ∃ v : Int, e = .returned (.int .i64 v) ∧ szP (n1 + n2 ≤ 1048576 ∧ es.length ≤ 1048576 ∧ SmallE es) 1048576 v ∧ Below w.heap.size w w' := by
  have HA := hid ha
  clear ha
  have HX := hid (laid w #[.int .i64 L, .int .i64 S, .slice a1 n1 c1, .slice a2 n2 c2, .int .i64 C, .int .i64 Z, .slice a es.length cap] 29)
  by_cases h : left - ((n1 + n2 : Nat) : Int) < 0
  · have e1 := hid (show szI left (n1 + n2) = -1 by unfold szI; rw [if_pos h])
    go_enter Tryd.func9, Tryd.ntmps9
    go_wp2_with fail
    refine (szPlan_any L S a1 a2 n1 c1 n2 c2 left _ l0 l1 hn1 hn2).mono ?_
    rintro e w1 ⟨rfl, b1⟩
    rw [e1.out]
    have B := hid (u_cat (u_b1 _ _) b1)
    clear b1
    go_wp2_with fail
    go_ret
    exact ⟨_, rfl, .inl (by omega), B.out⟩
  · have e1 := hid (show szI left (n1 + n2) = left - ((n1 + n2 : Nat) : Int) by unfold szI; rw [if_neg h])
    go_enter Tryd.func9, Tryd.ntmps9
    go_wp2_with fail
    refine (szPlan_any L S a1 a2 n1 c1 n2 c2 left _ l0 l1 hn1 hn2).mono ?_
    rintro e w1 ⟨rfl, b1⟩
    rw [e1.out]
    have X := hid (kept HX.out b1)
    have B := hid (u_cat (u_b1 _ _) b1)
    clear b1
    have p4 := box_cell X.out 4 (v := .int .i64 C) rfl
    have p5 := box_cell X.out 5 (v := .int .i64 Z) rfl
    have p6 := box_cell X.out 6 (v := .slice a es.length cap) rfl
    obtain ⟨v1, hv⟩ : ∃ v1 : Int, v1 = left - ((n1 + n2 : Nat) : Int) := ⟨_, rfl⟩
    have hpl : n1 + n2 ≤ 1048576 := by omega
    rw [← hv] at h ⊢
    have hv2 : v1 ≤ 1048576 := by omega
    clear hv e1
    go_wp2_with fail
    refine (szSolver_le a cap es C Z v1 _ (HA.out.below B.out) hn hL (by omega) hv2).mono ?_
    rintro e w2 ⟨v, rfl, hv, b2⟩
    have B2 := hid (u_cat B.out b2)
    clear b2
    by_cases hv0 : v < 0
    · clear hv
      go_wp2_with fail
      go_ret
      exact ⟨_, rfl, .inl (by omega), B2.out⟩
    · have HV := hid (hv.resolve_left hv0)
      clear hv
      go_wp2_with fail
      go_ret
      exact ⟨_, rfl, .inr ⟨⟨hpl, HV.out.1⟩, HV.out.2.1, by have := HV.out.2.2; omega⟩, B2.out⟩

set_option maxRecDepth 100000 in
set_option maxHeartbeats 1000000 in
theorem szClient_ex (i t s ed : Int) (nm : ByteArray) (L S : Int) (a1 a2 : Option Addr) (n1 c1 n2 c2 : Nat) (C Z : Int) (a : Option Addr) (cap : Nat) (es : List EqV) (w : World) (hnm : nm.size ≤ 9223372036854775807) (hn1 : n1 ≤ 9223372036854775807) (hn2 : n2 ≤ 9223372036854775807) (ha : EqsAt w a es) (hn : es.length ≤ 9223372036854775807) (hL : LongE es) :
    Calls Tryd.prog 4 #[.agg #[.int .i64 i, .int .i64 t, .int .i64 s, .string nm, .int .i64 ed, .int .i64 L, .int .i64 S, .slice a1 n1 c1, .slice a2 n2 c2, .int .i64 C, .int .i64 Z, .slice a es.length cap], .int .i64 1048576] w fun e w' => ∃ v : Int, e = .returned (.int .i64 v) ∧ szP (n1 + n2 ≤ 1048576 ∧ es.length ≤ 1048576 ∧ SmallE es) 1048576 v ∧ Below w.heap.size w w' := by
  have HA := hid ha
  clear ha
  by_cases h : (1048576 : Int) - (nm.size : Int) < 0
  · go_enter Tryd.func4, Tryd.ntmps4
    go_wp2_with fail
    go_ret
    exact ⟨_, rfl, .inl (by omega), u_b1 _ _⟩
  · have h2 : ¬ ((1048576 : Int) - (nm.size : Int) < 0) := h
    go_enter Tryd.func4, Tryd.ntmps4
    go_wp2_with fail
    refine (szGetting_le L S a1 a2 n1 c1 n2 c2 C Z a cap es _ _ hn1 hn2 (HA.out.below (u_b1 _ _)) hn hL (by omega) (by omega)).mono ?_
    rintro e w2 ⟨v, rfl, hv, b2⟩
    have B2 := hid (u_cat (u_b1 _ _) b2)
    clear b2
    by_cases hv0 : v < 0
    · clear hv
      go_wp2_with fail
      go_ret
      exact ⟨_, rfl, .inl (by omega), B2.out⟩
    · have HV := hid hv
      clear hv
      go_wp2_with fail
      go_ret
      exact ⟨_, rfl, HV.out, B2.out⟩

theorem GetOwn.setB {w : World} {base : Nat} {ws gs : List Int} {b1 b2 : Option Addr} {d1 d2 : Nat} {a : Option Addr} {c : Nat} {fs : List EqV} (h : GetOwn w base ws gs b1 b2 d1 d2 a c fs) {g : Nat} (hg : g < base) (i : Nat) (u : Value) : GetOwn (w.setCell ⟨g, i, none⟩ u) base ws gs b1 b2 d1 d2 a c fs := by
  obtain ⟨n, h1, h2, h3, h4, h5⟩ := h.up
  exact ⟨owns_set h.o1 hg u, owns_set h.o2 hg u, h.ap, n, h1, h2, h3, owns_set h4 (Nat.lt_of_lt_of_le hg h1) u, h5.set (Nat.lt_of_lt_of_le hg h1) _ _⟩

end Go.Proofs.YtfciopjcbeccgaaDoor
