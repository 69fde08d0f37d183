/- Words read by the model: a word's text. -/
import Derived.Test.YtpalcgelcnlhbaaDoorWrC
import Derived.Deep.RegionHeld3
namespace Go.Proofs.YtpalcgelcnlhbaaDoor
open Go.ChangeShapes Go.WideShapes Go.ChangeAt Go.RowKit Go.Sort

theorem num_fn (p : List UInt8) (w : World) (h : p.length ≤ 1000) : Calls Tryd.prog 9 #[.string ⟨p.toArray⟩] w fun r w' => r = .returned (.int .i64 (numF ⟨p.toArray⟩)) ∧ w' = w :=
  l5Num_fn ⟨p.toArray⟩ w (by show p.toArray.size ≤ _; simp; omega)
theorem six_cells {w : World} {a : Option Addr} {p0 p1 p2 p3 p4 p5 : ByteArray} (h : StrsAt w a [p0, p1, p2, p3, p4, p5]) : ∃ g o, a = some ⟨g, o, none⟩ ∧ w.cell? ⟨g, o, none⟩ = some (.string p0) ∧ w.cell? ⟨g, o + 1, none⟩ = some (.string p1) ∧ w.cell? ⟨g, o + 2, none⟩ = some (.string p2) ∧ w.cell? ⟨g, o + 3, none⟩ = some (.string p3) ∧ w.cell? ⟨g, o + 4, none⟩ = some (.string p4) ∧ w.cell? ⟨g, o + 5, none⟩ = some (.string p5) := by
  obtain ⟨g, o, ha, hc⟩ := h (by simp)
  exact ⟨g, o, ha, hc 0 (by simp), hc 1 (by simp), hc 2 (by simp), hc 3 (by simp), hc 4 (by simp), hc 5 (by simp)⟩

/-- One of two answers. -/
def pickV (b : Bool) (x y : Value) : Value := bif b then x else y
theorem slice_from (s : ByteArray) (i : Int) (h0 : 0 ≤ i) (h1 : i ≤ (s.size : Int)) (W : World) : (Instr.slice 9 (.string s) (some (.int .i64 i)) none none).run Tryd.prog W = .ok (.string (s.extract i.toNat s.size)) W := by
  have hi : 0 ≤ i ∧ i ≤ (s.size : Int) := ⟨h0, h1⟩
  simp [Instr.slice, run_underlying Tryd.underlying9, Instr.sliceBound, asIntOf, hi, go_sem]

set_option maxHeartbeats 8000000 in
set_option maxRecDepth 100000 in
theorem specWordRead_six (s : ByteArray) (K : Nat) (p0 p1 p2 p3 p4 p5 : List UInt8) (w : World) (hs : s.size ≤ 160) (hK : 7 ≤ K) (hK2 : K < s.size) (hv : ∀ v, fndP s 7 58 v → v = (K : Int))
    (hsp : spl 32 (s.extract 7 K).data.toList = [p0, p1, p2, p3, p4, p5]) (k c t e n : Int) (name data : ByteArray) (hk : numF ⟨p0.toArray⟩ = k) (hc : numF ⟨p1.toArray⟩ = c) (ht : numF ⟨p2.toArray⟩ = t) (he : numF ⟨p3.toArray⟩ = e) (hn : numF ⟨p4.toArray⟩ = n) (hname : ⟨p5.toArray⟩ = name) (hdata : s.extract (K + 1) s.size = data)
    (ok q : Bool) (hok : ∀ w, Calls Tryd.prog 10 #[.agg #[.int .i64 k, .int .i64 c, .int .i64 t, .int .i64 e, .int .i64 n, .string name, .string data]] w fun r w' => r = .returned (.bool ok) ∧ Below w.heap.size w w')
    (X : ByteArray) (hq : (X.toList == s.toList) = q) (hW : ∀ w, Calls Tryd.prog 11 #[.agg #[.int .i64 k, .int .i64 c, .int .i64 t, .int .i64 e, .int .i64 n, .string name, .string data]] w fun r w' => r = .returned (.string X) ∧ Below w.heap.size w w') :
    Calls Tryd.prog 4 #[.string s] w fun r w' => r = .returned (pickV (ok && q) (.tuple #[.agg #[.int .i64 k, .int .i64 c, .int .i64 t, .int .i64 e, .int .i64 n, .string name, .string data], .bool true]) (.tuple #[.agg #[.int .i64 0, .int .i64 0, .int .i64 0, .int .i64 0, .int .i64 0, .string ⟨#[]⟩, .string ⟨#[]⟩], .bool false])) ∧ Below w.heap.size w w' := by
  have hl : ∀ p ∈ spl 32 (s.extract 7 K).data.toList, p.length ≤ 1000 := fun p hp => by
    have h1 := spl_piece 32 _ p hp
    have hz : (s.extract 7 K).data.toList.length = (s.extract 7 K).size := by rw [Array.length_toList]; rfl
    rw [hz, ByteArray.size_extract] at h1
    omega
  rw [hsp] at hl
  have HOK := hid hok
  have HWW := hid hW
  have HF := hid (fun w => find58 s w (by unfold maxLen; omega))
  have HV := hid hv
  have HC := hid (fun w => cuts32 (s.extract 7 K) w (by rw [ByteArray.size_extract]; omega))
  rw [hsp] at HC
  have N0 := hid (fun w => num_fn p0 w (hl p0 (by simp)))
  have N1 := hid (fun w => num_fn p1 w (hl p1 (by simp)))
  have N2 := hid (fun w => num_fn p2 w (hl p2 (by simp)))
  have N3 := hid (fun w => num_fn p3 w (hl p3 (by simp)))
  have N4 := hid (fun w => num_fn p4 w (hl p4 (by simp)))
  rw [hk] at N0; rw [hc] at N1; rw [ht] at N2; rw [he] at N3; rw [hn] at N4
  have R0 := hid (res0 w)
  obtain ⟨b0, hb0⟩ : ∃ b : ByteArray, b = ⟨p0.toArray⟩ := ⟨_, rfl⟩
  obtain ⟨b1, hb1⟩ : ∃ b : ByteArray, b = ⟨p1.toArray⟩ := ⟨_, rfl⟩
  obtain ⟨b2, hb2⟩ : ∃ b : ByteArray, b = ⟨p2.toArray⟩ := ⟨_, rfl⟩
  obtain ⟨b3, hb3⟩ : ∃ b : ByteArray, b = ⟨p3.toArray⟩ := ⟨_, rfl⟩
  obtain ⟨b4, hb4⟩ : ∃ b : ByteArray, b = ⟨p4.toArray⟩ := ⟨_, rfl⟩
  simp only [List.map_cons, List.map_nil, List.length_cons, List.length_nil, hname] at HC
  rw [← hb0] at HC N0; rw [← hb1] at HC N1; rw [← hb2] at HC N2; rw [← hb3] at HC N3; rw [← hb4] at HC N4
  have d2 : decide (160 < (s.size : Int)) = false := decide_eq_false (by omega)
  have d1 : decide ((K : Int) < 0) = false := decide_eq_false (by omega)
  clear hok hW
  clear hl hb0 hb1 hb2 hb3 hb4 hk hc ht he hn hname hsp hv
  go_enter Tryd.func4, Tryd.ntmps4
  go_wp2_with (first
    | (go_at_call 7; refine (HF.out _).mono ?_; rintro r w1 ⟨v, rfl, hv, hw⟩; subst hw; obtain rfl := HV.out v hv; clear hv)
    | (go_at_call 8; refine (HC.out _).mono ?_; rintro r w1 ⟨a, cap, rfl, ha, hb⟩; obtain ⟨g, o, rfl, q0, q1, q2, q3, q4, q5⟩ := six_cells ha; have B1 := hid (below_catD (below_newD _ _) hb); have R1 := hid (kept R0.out hb); clear ha hb))
  have k0 : (0 : Int) ≤ (K : Int) + 1 := by omega
  have k1 : (K : Int) + 1 ≤ (s.size : Int) := by omega
  have hsl : ∀ W : World, (Instr.slice 9 (.string s) (some (.int .i64 ((K : Int) + 1))) none none).run Tryd.prog W = .ok (.string data) W := fun W => by
    rw [slice_from s ((K : Int) + 1) k0 k1 W, ← hdata]
    congr 3
  have hwr : IntKind.i64.wrap ((K : Int) + 1) = (K : Int) + 1 := by simp [IntKind.wrap, IntKind.bits, IntKind.signed]; omega
  have hne := World.new_ne w1 ⟨g, o, none⟩ (by exact q0)
  go_region_held3 (fun w' => w'.cell? ⟨g, o, none⟩ = some (.string b0) ∧ w'.cell? ⟨g, o + 1, none⟩ = some (.string b1) ∧ w'.cell? ⟨g, o + 2, none⟩ = some (.string b2) ∧ w'.cell? ⟨g, o + 3, none⟩ = some (.string b3) ∧ w'.cell? ⟨g, o + 4, none⟩ = some (.string b4) ∧ w'.cell? ⟨g, o + 5, none⟩ = some (.string name)) (go_keep) (first
    | (go_at_call_of 9 (Value.string b0); refine (N0.out _).mono ?_; rintro r w2 ⟨rfl, rfl⟩)
    | (go_at_call_of 9 (Value.string b1); refine (N1.out _).mono ?_; rintro r w2 ⟨rfl, rfl⟩)
    | (go_at_call_of 9 (Value.string b2); refine (N2.out _).mono ?_; rintro r w2 ⟨rfl, rfl⟩)
    | (go_at_call_of 9 (Value.string b3); refine (N3.out _).mono ?_; rintro r w2 ⟨rfl, rfl⟩)
    | (go_at_call_of 9 (Value.string b4); refine (N4.out _).mono ?_; rintro r w2 ⟨rfl, rfl⟩))
  all_goals
    obtain ⟨W, hWe⟩ : ∃ W, W = (w1.alloc (.cells #[.int .i64 k, .int .i64 c, .int .i64 t, .int .i64 e, .int .i64 n, .string name, .string data] 23)).drew := ⟨_, rfl⟩
    have XB : W.heap[w1.heap.size]? = some (.cells #[.int .i64 k, .int .i64 c, .int .i64 t, .int .i64 e, .int .i64 n, .string name, .string data] 23 (0, 0)) := by rw [hWe]; exact laid w1 _ _
    have RB : W.heap[w.heap.size]? = some (.cells #[.int .i64 0, .int .i64 0, .int .i64 0, .int .i64 0, .int .i64 0, .string ⟨#[]⟩, .string ⟨#[]⟩] 23 (0, 0)) := by rw [hWe]; exact kept R1.out (below_catD (below_newD w1 _) (below_drewD _))
    have BB : Below w.heap.size w W := by rw [hWe]; exact below_catD (below_catD B1.out (below_newD w1 _)) (below_drewD _)
    have XH := hid XB
    have RH := hid RB
    have BH := hid BB
    rw [← hWe]
    have x0 := box_cell XB 0 (v := .int .i64 k) rfl
    have x1 := box_cell XB 1 (v := .int .i64 c) rfl
    have x2 := box_cell XB 2 (v := .int .i64 t) rfl
    have x3 := box_cell XB 3 (v := .int .i64 e) rfl
    have x4 := box_cell XB 4 (v := .int .i64 n) rfl
    have x5 := box_cell XB 5 (v := .string name) rfl
    have x6 := box_cell XB 6 (v := .string data) rfl
    clear XB RB BB hWe hne q0 q1 q2 q3 q4 q5 hsl hwr k0 k1 N0 N1 N2 N3 N4 HF HC
    try clear hHeld
    cases ok <;> cases q
  all_goals
    go_wp2_with (first
      | (go_at_call 10; refine (HOK.out _).mono ?_; rintro r w3 ⟨rfl, b3⟩; have B3 := hid (below_catD BH.out b3); have R3 := hid (kept RH.out b3); have X3 := hid (kept XH.out b3); clear b3 x0 x1 x2 x3 x4 x5 x6; have r0 := box_cell R3.out 0 (v := .int .i64 0) rfl; have r1 := box_cell R3.out 1 (v := .int .i64 0) rfl; have r2 := box_cell R3.out 2 (v := .int .i64 0) rfl; have r3 := box_cell R3.out 3 (v := .int .i64 0) rfl; have r4 := box_cell R3.out 4 (v := .int .i64 0) rfl; have r5 := box_cell R3.out 5 (v := .string ⟨#[]⟩) rfl; have r6 := box_cell R3.out 6 (v := .string ⟨#[]⟩) rfl; have z0 := box_frozen R3.out 0; have z1 := box_frozen R3.out 1; have z2 := box_frozen R3.out 2; have z3 := box_frozen R3.out 3; have z4 := box_frozen R3.out 4; have z5 := box_frozen R3.out 5; have z6 := box_frozen R3.out 6; have l0 := lt_of_block R3.out; have x0 := box_cell X3.out 0 (v := .int .i64 k) rfl; have x1 := box_cell X3.out 1 (v := .int .i64 c) rfl; have x2 := box_cell X3.out 2 (v := .int .i64 t) rfl; have x3 := box_cell X3.out 3 (v := .int .i64 e) rfl; have x4 := box_cell X3.out 4 (v := .int .i64 n) rfl; have x5 := box_cell X3.out 5 (v := .string name) rfl; have x6 := box_cell X3.out 6 (v := .string data) rfl)
      | (go_at_call 11; refine (HWW.out _).mono ?_; rintro r w4 ⟨rfl, b4⟩; have B4 := hid (below_catD B3.out b4); have R4 := hid (kept R3.out b4); have X4 := hid (kept X3.out b4); clear b4 r0 r1 r2 r3 r4 r5 r6 z0 z1 z2 z3 z4 z5 z6 x0 x1 x2 x3 x4 x5 x6 l0; have r0 := box_cell R4.out 0 (v := .int .i64 0) rfl; have r1 := box_cell R4.out 1 (v := .int .i64 0) rfl; have r2 := box_cell R4.out 2 (v := .int .i64 0) rfl; have r3 := box_cell R4.out 3 (v := .int .i64 0) rfl; have r4 := box_cell R4.out 4 (v := .int .i64 0) rfl; have r5 := box_cell R4.out 5 (v := .string ⟨#[]⟩) rfl; have r6 := box_cell R4.out 6 (v := .string ⟨#[]⟩) rfl; have z0 := box_frozen R4.out 0; have z1 := box_frozen R4.out 1; have z2 := box_frozen R4.out 2; have z3 := box_frozen R4.out 3; have z4 := box_frozen R4.out 4; have z5 := box_frozen R4.out 5; have z6 := box_frozen R4.out 6; have l0 := lt_of_block R4.out; have x0 := box_cell X4.out 0 (v := .int .i64 k) rfl; have x1 := box_cell X4.out 1 (v := .int .i64 c) rfl; have x2 := box_cell X4.out 2 (v := .int .i64 t) rfl; have x3 := box_cell X4.out 3 (v := .int .i64 e) rfl; have x4 := box_cell X4.out 4 (v := .int .i64 n) rfl; have x5 := box_cell X4.out 5 (v := .string name) rfl; have x6 := box_cell X4.out 6 (v := .string data) rfl))
    first
    | (obtain ⟨V, hV, Z7, HB⟩ := set7 R4.out (.int .i64 k) (.int .i64 c) (.int .i64 t) (.int .i64 e) (.int .i64 n) (.string name) (.string data)
       have HB' := HB w (Nat.le_refl _) B4.out
       rw [← hV]
       clear hV
       have v0 := box_cell Z7 0 (v := .int .i64 k) rfl
       have v1 := box_cell Z7 1 (v := .int .i64 c) rfl
       have v2 := box_cell Z7 2 (v := .int .i64 t) rfl
       have v3 := box_cell Z7 3 (v := .int .i64 e) rfl
       have v4 := box_cell Z7 4 (v := .int .i64 n) rfl
       have v5 := box_cell Z7 5 (v := .string name) rfl
       have v6 := box_cell Z7 6 (v := .string data) rfl
       refine bodyPost_ret (w := V) (v := .tuple #[.agg #[.int .i64 k, .int .i64 c, .int .i64 t, .int .i64 e, .int .i64 n, .string name, .string data], .bool true]) ?_ rfl ⟨rfl, HB'⟩
       simp [results, Tryd.results4, go_sem, v0, v1, v2, v3, v4, v5, v6])
    | (obtain ⟨V, hV, Z7, HB⟩ := set7 R4.out (.int .i64 0) (.int .i64 0) (.int .i64 0) (.int .i64 0) (.int .i64 0) (.string ⟨#[]⟩) (.string ⟨#[]⟩)
       have HB' := HB w (Nat.le_refl _) B4.out
       rw [← hV]
       clear hV
       have v0 := box_cell Z7 0 (v := .int .i64 0) rfl
       have v1 := box_cell Z7 1 (v := .int .i64 0) rfl
       have v2 := box_cell Z7 2 (v := .int .i64 0) rfl
       have v3 := box_cell Z7 3 (v := .int .i64 0) rfl
       have v4 := box_cell Z7 4 (v := .int .i64 0) rfl
       have v5 := box_cell Z7 5 (v := .string ⟨#[]⟩) rfl
       have v6 := box_cell Z7 6 (v := .string ⟨#[]⟩) rfl
       refine bodyPost_ret (w := V) (v := .tuple #[.agg #[.int .i64 0, .int .i64 0, .int .i64 0, .int .i64 0, .int .i64 0, .string ⟨#[]⟩, .string ⟨#[]⟩], .bool false]) ?_ rfl ⟨rfl, HB'⟩
       simp [results, Tryd.results4, go_sem, v0, v1, v2, v3, v4, v5, v6])
    | (obtain ⟨V, hV, Z7, HB⟩ := set7 R3.out (.int .i64 0) (.int .i64 0) (.int .i64 0) (.int .i64 0) (.int .i64 0) (.string ⟨#[]⟩) (.string ⟨#[]⟩)
       have HB' := HB w (Nat.le_refl _) B3.out
       rw [← hV]
       clear hV
       have v0 := box_cell Z7 0 (v := .int .i64 0) rfl
       have v1 := box_cell Z7 1 (v := .int .i64 0) rfl
       have v2 := box_cell Z7 2 (v := .int .i64 0) rfl
       have v3 := box_cell Z7 3 (v := .int .i64 0) rfl
       have v4 := box_cell Z7 4 (v := .int .i64 0) rfl
       have v5 := box_cell Z7 5 (v := .string ⟨#[]⟩) rfl
       have v6 := box_cell Z7 6 (v := .string ⟨#[]⟩) rfl
       refine bodyPost_ret (w := V) (v := .tuple #[.agg #[.int .i64 0, .int .i64 0, .int .i64 0, .int .i64 0, .int .i64 0, .string ⟨#[]⟩, .string ⟨#[]⟩], .bool false]) ?_ rfl ⟨rfl, HB'⟩
       simp [results, Tryd.results4, go_sem, v0, v1, v2, v3, v4, v5, v6])
end Go.Proofs.YtpalcgelcnlhbaaDoor
