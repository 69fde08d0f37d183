/- Clients in the laws: measured, laid anew, the same. Clients laid anew, as the laws do it. -/
import Derived.Test.YtfciopjcbeccgaaGreatDoorG39
import Derived.Test.YtfciopjcbeccgaaGreatDoorG16
import Derived.Test.YtfciopjcbeccgaaGreatDoorG32
namespace Go.Proofs.YtfciopjcbeccgaaGreatDoor
open Go.ChangeShapes Go.WideShapes Go.ChangeAt Go.RowKit Go.Sort Go.Shelf
attribute [local go_sem] Oper.semAt_some

set_option maxRecDepth 100000 in
set_option maxHeartbeats 1000000 in
theorem szGetting_le (L S : Int) (a1 a2 : Option Addr) (n1 c1 n2 c2 : Nat) (C Z : Int) (a : Option Addr) (cap : Nat) (es : List EqV) (left : Int) (w : World) (hn1 : n1 ≤ 9223372036854775807) (hn2 : n2 ≤ 9223372036854775807) (ha : EqsAt w a es) (hn : es.length ≤ 9223372036854775807) (hL : LongE es) (l0 : 0 ≤ left) (l1 : left ≤ 1048576) :
    Calls Tryz.prog 9 #[.agg #[.int .i64 L, .int .i64 S, .slice a1 n1 c1, .slice a2 n2 c2, .int .i64 C, .int .i64 Z, .slice a es.length cap], .int .i64 left] w fun e w' => ∃ v : Int, e = .returned (.int .i64 v) ∧ szP (n1 + n2 ≤ 1048576 ∧ es.length ≤ 1048576 ∧ SmallE es) 1048576 v ∧ Below w.heap.size w w' := by
  have HA := hid ha
  clear ha
  have HX := hid (laid w #[.int .i64 L, .int .i64 S, .slice a1 n1 c1, .slice a2 n2 c2, .int .i64 C, .int .i64 Z, .slice a es.length cap] 29)
  by_cases h : left - ((n1 + n2 : Nat) : Int) < 0
  · have e1 := hid (show szI left (n1 + n2) = -1 by unfold szI; rw [if_pos h])
    go_enter Tryz.func9, Tryz.ntmps9
    go_wp2_with fail
    refine (szPlan_any L S a1 a2 n1 c1 n2 c2 left _ l0 l1 hn1 hn2).mono ?_
    rintro e w1 ⟨rfl, b1⟩
    rw [e1.out]
    have B := hid (u_cat (u_b1 _ _) b1)
    clear b1
    go_wp2_with fail
    go_ret
    exact ⟨_, rfl, .inl (by omega), B.out⟩
  · have e1 := hid (show szI left (n1 + n2) = left - ((n1 + n2 : Nat) : Int) by unfold szI; rw [if_neg h])
    go_enter Tryz.func9, Tryz.ntmps9
    go_wp2_with fail
    refine (szPlan_any L S a1 a2 n1 c1 n2 c2 left _ l0 l1 hn1 hn2).mono ?_
    rintro e w1 ⟨rfl, b1⟩
    rw [e1.out]
    have X := hid (kept HX.out b1)
    have B := hid (u_cat (u_b1 _ _) b1)
    clear b1
    have p4 := box_cell X.out 4 (v := .int .i64 C) rfl
    have p5 := box_cell X.out 5 (v := .int .i64 Z) rfl
    have p6 := box_cell X.out 6 (v := .slice a es.length cap) rfl
    obtain ⟨v1, hv⟩ : ∃ v1 : Int, v1 = left - ((n1 + n2 : Nat) : Int) := ⟨_, rfl⟩
    have hpl : n1 + n2 ≤ 1048576 := by omega
    rw [← hv] at h ⊢
    have hv2 : v1 ≤ 1048576 := by omega
    clear hv e1
    go_wp2_with fail
    refine (szSolver_le a cap es C Z v1 _ (HA.out.below B.out) hn hL (by omega) hv2).mono ?_
    rintro e w2 ⟨v, rfl, hv, b2⟩
    have B2 := hid (u_cat B.out b2)
    clear b2
    by_cases hv0 : v < 0
    · clear hv
      go_wp2_with fail
      go_ret
      exact ⟨_, rfl, .inl (by omega), B2.out⟩
    · have HV := hid (hv.resolve_left hv0)
      clear hv
      go_wp2_with fail
      go_ret
      exact ⟨_, rfl, .inr ⟨⟨hpl, HV.out.1⟩, HV.out.2.1, by have := HV.out.2.2; omega⟩, B2.out⟩

set_option maxRecDepth 100000 in
set_option maxHeartbeats 1000000 in
theorem szClient_ex (i t s ed : Int) (nm : ByteArray) (L S : Int) (a1 a2 : Option Addr) (n1 c1 n2 c2 : Nat) (C Z : Int) (a : Option Addr) (cap : Nat) (es : List EqV) (w : World) (hnm : nm.size ≤ 9223372036854775807) (hn1 : n1 ≤ 9223372036854775807) (hn2 : n2 ≤ 9223372036854775807) (ha : EqsAt w a es) (hn : es.length ≤ 9223372036854775807) (hL : LongE es) :
    Calls Tryz.prog 4 #[.agg #[.int .i64 i, .int .i64 t, .int .i64 s, .string nm, .int .i64 ed, .int .i64 L, .int .i64 S, .slice a1 n1 c1, .slice a2 n2 c2, .int .i64 C, .int .i64 Z, .slice a es.length cap], .int .i64 1048576] w fun e w' => ∃ v : Int, e = .returned (.int .i64 v) ∧ szP (n1 + n2 ≤ 1048576 ∧ es.length ≤ 1048576 ∧ SmallE es) 1048576 v ∧ Below w.heap.size w w' := by
  have HA := hid ha
  clear ha
  by_cases h : (1048576 : Int) - (nm.size : Int) < 0
  · go_enter Tryz.func4, Tryz.ntmps4
    go_wp2_with fail
    go_ret
    exact ⟨_, rfl, .inl (by omega), u_b1 _ _⟩
  · have h2 : ¬ ((1048576 : Int) - (nm.size : Int) < 0) := h
    go_enter Tryz.func4, Tryz.ntmps4
    go_wp2_with fail
    refine (szGetting_le L S a1 a2 n1 c1 n2 c2 C Z a cap es _ _ hn1 hn2 (HA.out.below (u_b1 _ _)) hn hL (by omega) (by omega)).mono ?_
    rintro e w2 ⟨v, rfl, hv, b2⟩
    have B2 := hid (u_cat (u_b1 _ _) b2)
    clear b2
    by_cases hv0 : v < 0
    · clear hv
      go_wp2_with fail
      go_ret
      exact ⟨_, rfl, .inl (by omega), B2.out⟩
    · have HV := hid hv
      clear hv
      go_wp2_with fail
      go_ret
      exact ⟨_, rfl, HV.out, B2.out⟩

theorem GetOwn.setB {w : World} {base : Nat} {ws gs : List Int} {b1 b2 : Option Addr} {d1 d2 : Nat} {a : Option Addr} {c : Nat} {fs : List EqV} (h : GetOwn w base ws gs b1 b2 d1 d2 a c fs) {g : Nat} (hg : g < base) (i : Nat) (u : Value) : GetOwn (w.setCell ⟨g, i, none⟩ u) base ws gs b1 b2 d1 d2 a c fs := by
  obtain ⟨n, h1, h2, h3, h4, h5⟩ := h.up
  exact ⟨owns_set h.o1 hg u, owns_set h.o2 hg u, h.ap, n, h1, h2, h3, owns_set h4 (Nat.lt_of_lt_of_le hg h1) u, h5.set (Nat.lt_of_lt_of_le hg h1) _ _⟩

end Go.Proofs.YtfciopjcbeccgaaGreatDoor
namespace Go.Proofs.YtfciopjcbeccgaaGreatDoor
open Go.ChangeShapes Go.WideShapes Go.ChangeAt Go.RowKit Go.Sort Go.Shelf
attribute [local go_sem] Oper.semAt_some

/-- Cells of a box set one behind the other. -/
def setsC (w : World) (g : Nat) : List Value → Nat → World
  | [], _ => w
  | v :: r, k => setsC (w.setCell ⟨g, k, none⟩ v) g r (k + 1)
def setsA (cs : Array Value) : List Value → Nat → Array Value
  | [], _ => cs
  | v :: r, k => setsA (cs.setIfInBounds k v) r (k + 1)
theorem sets_block {g : Nat} {t : TypeId} : ∀ (vs : List Value) (k : Nat) (w : World) (cs : Array Value), w.heap[g]? = some (.cells cs t (0, 0)) → (setsC w g vs k).heap[g]? = some (.cells (setsA cs vs k) t (0, 0))
  | [], _, _, _, h => h
  | v :: r, k, w, cs, h => sets_block r (k + 1) (w.setCell ⟨g, k, none⟩ v) (cs.setIfInBounds k v) (set_block h k v)
theorem sets_other {g b : Nat} {o : Option Obj} (hb : b ≠ g) : ∀ (vs : List Value) (k : Nat) (w : World), w.heap[b]? = o → (setsC w g vs k).heap[b]? = o
  | [], _, _, h => h
  | v :: r, k, w, h => sets_other hb r (k + 1) (w.setCell ⟨g, k, none⟩ v) (set_other h hb k v)
theorem sets_below {g n : Nat} {W : World} (hg : n ≤ g) : ∀ (vs : List Value) (k : Nat) (w : World), Below n W w → Below n W (setsC w g vs k)
  | [], _, _, h => h
  | v :: r, k, w, h => sets_below hg r (k + 1) (w.setCell ⟨g, k, none⟩ v) (u_set h hg k v)
theorem sets_own {g base : Nat} {ws gs : List Int} {b1 b2 : Option Addr} {d1 d2 : Nat} {a : Option Addr} {c : Nat} {fs : List EqV} (hg : g < base) : ∀ (vs : List Value) (k : Nat) (w : World), GetOwn w base ws gs b1 b2 d1 d2 a c fs → GetOwn (setsC w g vs k) base ws gs b1 b2 d1 d2 a c fs
  | [], _, _, h => h
  | v :: r, k, w, h => sets_own hg r (k + 1) (w.setCell ⟨g, k, none⟩ v) (h.setB hg k v)

set_option maxRecDepth 100000 in
set_option maxHeartbeats 4000000 in
theorem toClient_any (i t s ed : Int) (nm : ByteArray) (L S : Int) (a1 a2 : Option Addr) (c1 c2 : Nat) (ws gs : List Int) (C Z : Int) (a : Option Addr) (cap : Nat) (es : List EqV) (w : World) (ha1 : IntsAt w a1 ws) (ha2 : IntsAt w a2 gs) (hx : ws.length ≤ 1048576) (hy : gs.length ≤ 1048576) (ha : EqsAt w a es) (hz : es.length ≤ 1048576) (hsm : SmallE es) :
    Calls Tryz.prog 6 #[.agg #[.int .i64 i, .int .i64 t, .int .i64 s, .string nm, .int .i64 ed, .int .i64 L, .int .i64 S, .slice a1 ws.length c1, .slice a2 gs.length c2, .int .i64 C, .int .i64 Z, .slice a es.length cap]] w fun e w' => ∃ b1 d1 b2 d2 a' c' fs, e = .returned (.agg #[.int .i64 i, .int .i64 t, .int .i64 s, .string nm, .int .i64 ed, .int .i64 L, .int .i64 S, .slice b1 ws.length d1, .slice b2 gs.length d2, .int .i64 C, .int .i64 Z, .slice a' fs.length c']) ∧ IntsAt w' b1 ws ∧ IntsAt w' b2 gs ∧ EqsAt w' a' fs ∧ SamV fs es ∧ Below w.heap.size w w' := by
  have HA := hid ha
  have HS := hid hsm
  have H1 := hid ha1
  have H2 := hid ha2
  clear ha hsm ha1 ha2
  obtain ⟨W0, hW0⟩ : ∃ W0, W0 = ((w.alloc (.cells #[.int .i64 i, .int .i64 t, .int .i64 s, .string nm, .int .i64 ed, .int .i64 L, .int .i64 S, .slice a1 ws.length c1, .slice a2 gs.length c2, .int .i64 C, .int .i64 Z, .slice a es.length cap] 31)).alloc (.cells #[.int .i64 0, .int .i64 0, .int .i64 0, .string ⟨#[]⟩, .int .i64 0, .int .i64 0, .int .i64 0, .slice none 0 0, .slice none 0 0, .int .i64 0, .int .i64 0, .slice none 0 0] 41)).alloc (.cells #[.int .i64 i, .int .i64 t, .int .i64 s, .string nm, .int .i64 ed, .int .i64 0, .int .i64 0, .slice none 0 0, .slice none 0 0, .int .i64 0, .int .i64 0, .slice none 0 0] 41) := ⟨_, rfl⟩
  have B0 := hid (show Below w.heap.size w W0 by rw [hW0]; exact u_cat (u_b2 _ _ _) (u_b1 _ _))
  have hs0 : W0.heap.size = w.heap.size + 3 := by rw [hW0]; simp
  have X1 := hid (show W0.heap[w.heap.size + 1]? = some (.cells #[.int .i64 0, .int .i64 0, .int .i64 0, .string ⟨#[]⟩, .int .i64 0, .int .i64 0, .int .i64 0, .slice none 0 0, .slice none 0 0, .int .i64 0, .int .i64 0, .slice none 0 0] 41 (0, 0)) by rw [hW0]; exact kept (u_laid _ _ _ (by simp)) (u_b1 _ _))
  have X2 := hid (show W0.heap[w.heap.size + 1 + 1]? = some (.cells #[.int .i64 i, .int .i64 t, .int .i64 s, .string nm, .int .i64 ed, .int .i64 0, .int .i64 0, .slice none 0 0, .slice none 0 0, .int .i64 0, .int .i64 0, .slice none 0 0] 41 (0, 0)) by rw [hW0]; exact u_laid _ _ _ (by simp))
  go_enter Tryz.func6, Tryz.ntmps6
  go_wp2_with fail
  rw [← hW0]
  clear hW0
  refine (toGetting_own L S a1 a2 c1 c2 ws gs C Z a cap es _ (H1.out.below B0.out) (H2.out.below B0.out) hx hy (HA.out.below B0.out) hz HS.out).mono ?_
  rintro e w1 ⟨b1, d1, b2, d2, a', c', fs, rfl, o, sm, bb⟩
  have O := hid o
  have SM := hid sm
  have hs1 := bb.size
  replace X2 := hid (kept X2.out bb)
  replace X1 := hid (kept X1.out bb)
  have B := hid (u_cat B0.out bb)
  clear o sm bb
  have r0 := box_cell X2.out 0 (v := .int .i64 i) rfl
  have r1 := box_cell X2.out 1 (v := .int .i64 t) rfl
  have r2 := box_cell X2.out 2 (v := .int .i64 s) rfl
  have r3 := box_cell X2.out 3 (v := .string nm) rfl
  have r4 := box_cell X2.out 4 (v := .int .i64 ed) rfl
  have r5 := box_cell X2.out 5 (v := .int .i64 0) rfl
  have r6 := box_cell X2.out 6 (v := .int .i64 0) rfl
  have r7 := box_cell X2.out 7 (v := .slice none 0 0) rfl
  have r8 := box_cell X2.out 8 (v := .slice none 0 0) rfl
  have r9 := box_cell X2.out 9 (v := .int .i64 0) rfl
  have r10 := box_cell X2.out 10 (v := .int .i64 0) rfl
  have r11 := box_cell X2.out 11 (v := .slice none 0 0) rfl
  have z2 := box_frozen X2.out
  repeat ((fail_if_success (with_reducible show Code.wp _ (Code.region 8 _ _) _ _ _)); (first | go_values | go_skip | go_guarded | go_step | go_upon | go_back | go_simp))
  obtain ⟨V1, hV1⟩ : ∃ V1, V1 = (((((((w1.setCell ⟨w.heap.size + 1 + 1, 5, none⟩ (.int .i64 L)).setCell ⟨w.heap.size + 1 + 1, 6, none⟩ (.int .i64 S)).setCell ⟨w.heap.size + 1 + 1, 7, none⟩ (.slice b1 ws.length d1)).setCell ⟨w.heap.size + 1 + 1, 8, none⟩ (.slice b2 gs.length d2)).setCell ⟨w.heap.size + 1 + 1, 9, none⟩ (.int .i64 C)).setCell ⟨w.heap.size + 1 + 1, 10, none⟩ (.int .i64 Z)).setCell ⟨w.heap.size + 1 + 1, 11, none⟩ (.slice a' fs.length c')) := ⟨_, rfl⟩
  have hq : V1 = setsC w1 (w.heap.size + 1 + 1) [.int .i64 L, .int .i64 S, .slice b1 ws.length d1, .slice b2 gs.length d2, .int .i64 C, .int .i64 Z, .slice a' fs.length c'] 5 := hV1
  have Y2 := hid (show V1.heap[w.heap.size + 1 + 1]? = some (.cells #[.int .i64 i, .int .i64 t, .int .i64 s, .string nm, .int .i64 ed, .int .i64 L, .int .i64 S, .slice b1 ws.length d1, .slice b2 gs.length d2, .int .i64 C, .int .i64 Z, .slice a' fs.length c'] 41 (0, 0)) by rw [hq, sets_block [.int .i64 L, .int .i64 S, .slice b1 ws.length d1, .slice b2 gs.length d2, .int .i64 C, .int .i64 Z, .slice a' fs.length c'] 5 w1 #[.int .i64 i, .int .i64 t, .int .i64 s, .string nm, .int .i64 ed, .int .i64 0, .int .i64 0, .slice none 0 0, .slice none 0 0, .int .i64 0, .int .i64 0, .slice none 0 0] X2.out]; simp [setsA])
  have Y1 := hid (show V1.heap[w.heap.size + 1]? = some (.cells #[.int .i64 0, .int .i64 0, .int .i64 0, .string ⟨#[]⟩, .int .i64 0, .int .i64 0, .int .i64 0, .slice none 0 0, .slice none 0 0, .int .i64 0, .int .i64 0, .slice none 0 0] 41 (0, 0)) by rw [hq]; exact sets_other (by omega) _ _ _ X1.out)
  have YB := hid (show Below w.heap.size w V1 by rw [hq]; exact sets_below (by omega) _ _ _ B.out)
  have YO := hid (show GetOwn V1 W0.heap.size ws gs b1 b2 d1 d2 a' c' fs by rw [hq]; exact sets_own (by omega) _ _ _ O.out)
  rw [← hV1]
  clear hV1 hq X1 X2 B O r0 r1 r2 r3 r4 r5 r6 r7 r8 r9 r10 r11 z2
  have r0 := box_cell Y2.out 0 (v := .int .i64 i) rfl
  have r1 := box_cell Y2.out 1 (v := .int .i64 t) rfl
  have r2 := box_cell Y2.out 2 (v := .int .i64 s) rfl
  have r3 := box_cell Y2.out 3 (v := .string nm) rfl
  have r4 := box_cell Y2.out 4 (v := .int .i64 ed) rfl
  have r5 := box_cell Y2.out 5 (v := .int .i64 L) rfl
  have r6 := box_cell Y2.out 6 (v := .int .i64 S) rfl
  have r7 := box_cell Y2.out 7 (v := .slice b1 ws.length d1) rfl
  have r8 := box_cell Y2.out 8 (v := .slice b2 gs.length d2) rfl
  have r9 := box_cell Y2.out 9 (v := .int .i64 C) rfl
  have r10 := box_cell Y2.out 10 (v := .int .i64 Z) rfl
  have r11 := box_cell Y2.out 11 (v := .slice a' fs.length c') rfl
  have s0 := box_cell Y1.out 0 (v := .int .i64 0) rfl
  have s1 := box_cell Y1.out 1 (v := .int .i64 0) rfl
  have s2 := box_cell Y1.out 2 (v := .int .i64 0) rfl
  have s3 := box_cell Y1.out 3 (v := .string ⟨#[]⟩) rfl
  have s4 := box_cell Y1.out 4 (v := .int .i64 0) rfl
  have s5 := box_cell Y1.out 5 (v := .int .i64 0) rfl
  have s6 := box_cell Y1.out 6 (v := .int .i64 0) rfl
  have s7 := box_cell Y1.out 7 (v := .slice none 0 0) rfl
  have s8 := box_cell Y1.out 8 (v := .slice none 0 0) rfl
  have s9 := box_cell Y1.out 9 (v := .int .i64 0) rfl
  have s10 := box_cell Y1.out 10 (v := .int .i64 0) rfl
  have s11 := box_cell Y1.out 11 (v := .slice none 0 0) rfl
  have z1 := box_frozen Y1.out
  go_wp2_with fail
  obtain ⟨V3, hV3⟩ : ∃ V3, V3 = ((((((((((((V1.setCell ⟨w.heap.size + 1, 0, none⟩ (.int .i64 i)).setCell ⟨w.heap.size + 1, 1, none⟩ (.int .i64 t)).setCell ⟨w.heap.size + 1, 2, none⟩ (.int .i64 s)).setCell ⟨w.heap.size + 1, 3, none⟩ (.string nm)).setCell ⟨w.heap.size + 1, 4, none⟩ (.int .i64 ed)).setCell ⟨w.heap.size + 1, 5, none⟩ (.int .i64 L)).setCell ⟨w.heap.size + 1, 6, none⟩ (.int .i64 S)).setCell ⟨w.heap.size + 1, 7, none⟩ (.slice b1 ws.length d1)).setCell ⟨w.heap.size + 1, 8, none⟩ (.slice b2 gs.length d2)).setCell ⟨w.heap.size + 1, 9, none⟩ (.int .i64 C)).setCell ⟨w.heap.size + 1, 10, none⟩ (.int .i64 Z)).setCell ⟨w.heap.size + 1, 11, none⟩ (.slice a' fs.length c')) := ⟨_, rfl⟩
  have hq : V3 = setsC V1 (w.heap.size + 1) [.int .i64 i, .int .i64 t, .int .i64 s, .string nm, .int .i64 ed, .int .i64 L, .int .i64 S, .slice b1 ws.length d1, .slice b2 gs.length d2, .int .i64 C, .int .i64 Z, .slice a' fs.length c'] 0 := hV3
  have Z1 : V3.heap[w.heap.size + 1]? = some (.cells #[.int .i64 i, .int .i64 t, .int .i64 s, .string nm, .int .i64 ed, .int .i64 L, .int .i64 S, .slice b1 ws.length d1, .slice b2 gs.length d2, .int .i64 C, .int .i64 Z, .slice a' fs.length c'] 41 (0, 0)) := by rw [hq, sets_block [.int .i64 i, .int .i64 t, .int .i64 s, .string nm, .int .i64 ed, .int .i64 L, .int .i64 S, .slice b1 ws.length d1, .slice b2 gs.length d2, .int .i64 C, .int .i64 Z, .slice a' fs.length c'] 0 V1 #[.int .i64 0, .int .i64 0, .int .i64 0, .string ⟨#[]⟩, .int .i64 0, .int .i64 0, .int .i64 0, .slice none 0 0, .slice none 0 0, .int .i64 0, .int .i64 0, .slice none 0 0] Y1.out]; simp [setsA]
  have B3 : Below w.heap.size w V3 := by rw [hq]; exact sets_below (by omega) _ _ _ YB.out
  have O3 : GetOwn V3 W0.heap.size ws gs b1 b2 d1 d2 a' c' fs := by rw [hq]; exact sets_own (by omega) _ _ _ YO.out
  rw [← hV3]
  clear hV3 hq
  have y0 := box_cell Z1 0 (v := .int .i64 i) rfl
  have y1 := box_cell Z1 1 (v := .int .i64 t) rfl
  have y2 := box_cell Z1 2 (v := .int .i64 s) rfl
  have y3 := box_cell Z1 3 (v := .string nm) rfl
  have y4 := box_cell Z1 4 (v := .int .i64 ed) rfl
  have y5 := box_cell Z1 5 (v := .int .i64 L) rfl
  have y6 := box_cell Z1 6 (v := .int .i64 S) rfl
  have y7 := box_cell Z1 7 (v := .slice b1 ws.length d1) rfl
  have y8 := box_cell Z1 8 (v := .slice b2 gs.length d2) rfl
  have y9 := box_cell Z1 9 (v := .int .i64 C) rfl
  have y10 := box_cell Z1 10 (v := .int .i64 Z) rfl
  have y11 := box_cell Z1 11 (v := .slice a' fs.length c') rfl
  refine bodyPost_ret (v := .agg #[.int .i64 i, .int .i64 t, .int .i64 s, .string nm, .int .i64 ed, .int .i64 L, .int .i64 S, .slice b1 ws.length d1, .slice b2 gs.length d2, .int .i64 C, .int .i64 Z, .slice a' fs.length c']) ?_ rfl ⟨b1, d1, b2, d2, a', c', fs, rfl, owns_at O3.o1, owns_at O3.o2, O3.eqs, SM.out, B3⟩
  unfold results; rw [Tryz.results6]; simp [go_sem, y0, y1, y2, y3, y4, y5, y6, y7, y8, y9, y10, y11]
end Go.Proofs.YtfciopjcbeccgaaGreatDoor
