/- A word's text without its sum, taken apart by the program: the walks. -/
import Derived.Test.YtpalcgelcnlhbaaDoorWrP
namespace Go.Proofs.YtpalcgelcnlhbaaDoor
open Go.ChangeShapes Go.WideShapes Go.ChangeAt Go.RowKit Go.Sort

theorem ptr5 (g : Nat) (j : Nat) (hj : j < 5) (W : World) : (Instr.index 37 (.agg #[.pointer (some ⟨g, 0, none⟩), .pointer (some ⟨g, 1, none⟩), .pointer (some ⟨g, 2, none⟩), .pointer (some ⟨g, 3, none⟩), .pointer (some ⟨g, 4, none⟩)]) (.int .i64 j)).run Tryd.prog W = .ok (.pointer (some ⟨g, j, none⟩)) W := by
  refine run_idx Tryd.underlying37 Tryd.sizeOf36 Tryd.isAgg36 _ j _ (by omega) (by omega) ?_ W
  have : j = 0 ∨ j = 1 ∨ j = 2 ∨ j = 3 ∨ j = 4 := by omega
  rcases this with rfl | rfl | rfl | rfl | rfl <;> rfl

set_option maxHeartbeats 8000000 in
set_option maxRecDepth 100000 in
theorem wordParts_yes (k c t e n : Nat) (name data : ByteArray) (w : World) (h1 : k ≤ 99999) (h2 : c ≤ 99999) (h3 : t ≤ 99999) (h4 : e ≤ 99999) (h5 : n ≤ 99999) (hn : name.size ≤ 6) (hd : data.size ≤ 80) (hc : (58 : UInt8) ∉ name.data.toList) (he : Env w) :
    Calls Tryd.prog 12 #[.string (sfx [k, c, t, e, n] ((name ++ (⟨#[58]⟩ : ByteArray)) ++ data))] w fun r w' => r = .returned (.tuple #[.agg #[.int .i64 k, .int .i64 c, .int .i64 t, .int .i64 e, .int .i64 n, .string name, .string data], .bool true]) ∧ Below w.heap.size w w' := by
  have HE := hid he
  have HC := hid (fun w he => cut_name name data w (by omega) hc he)
  have HZ := hid (sfx_nil ((name ++ (⟨#[58]⟩ : ByteArray)) ++ data))
  have hz : ((name ++ (⟨#[58]⟩ : ByteArray)) ++ data).size ≤ 100 := by
    rw [ByteArray.size_append, ByteArray.size_append]
    show name.size + 1 + data.size ≤ 100
    omega
  have HS : Hid (∀ j, (sfx ([k, c, t, e, n].drop j) ((name ++ (⟨#[58]⟩ : ByteArray)) ++ data)).size ≤ 1000) := hid (fun j => by
    have := sfx_size ([k, c, t, e, n].drop j) ((name ++ (⟨#[58]⟩ : ByteArray)) ++ data) (fun m hm => by
      have := List.mem_of_mem_drop hm
      simp only [List.mem_cons, List.not_mem_nil, or_false] at this
      omega)
    have hl : ([k, c, t, e, n].drop j).length ≤ 5 := by simp
    omega)
  obtain ⟨Z, hZ⟩ : ∃ Z, Z = (name ++ (⟨#[58]⟩ : ByteArray)) ++ data := ⟨_, rfl⟩
  rw [← hZ] at HC HZ HS ⊢
  have HD : Hid (∀ m, m ≤ 99999 → ∀ w, Env w → Calls Tryd.prog 19 #[.string (decS m)] w fun r w' => r = .returned (.tuple #[.int .i64 m, .bool true]) ∧ Below w.heap.size w w') := hid (fun m hm w he => numberRead_yes m w (by omega) he)
  have HN := hid (fun w => clone_any name w (by omega))
  have HT := hid (fun w => clone_any data w (by omega))
  clear hZ hz hc he
  go_enter Tryd.func12, Tryd.ntmps12
  go_wp2_with fail
  go_loopw [0, 21] (fun s i wr => ∃ j : Nat, j ≤ 5 ∧ i = .int .i64 j ∧ s = .string (sfx ([k, c, t, e, n].drop j) Z) ∧ WpSt w (wpA k c t e n j) wr ∧ Env wr) (fun _ i _ => 5 - (intOf i).toNat)
  case atStart => exact ⟨0, by omega, rfl, rfl, WpSt.start w _, HE.out.below (WpSt.start w (wpA k c t e n 0)).bl⟩
  case round =>
    obtain ⟨j, hj, rfl, rfl, hst, hev⟩ := hrel
    have ST := hid hst
    have EV := hid hev
    clear hst hev
    by_cases h5' : j = 5
    · subst h5'
      have e5 : sfx (List.drop 5 [k, c, t, e, n]) Z = Z := HZ.out
      go_wp2_with (first
        | (go_at_call 18; refine (HC.out _ EV.out).mono ?_; rintro r w1 ⟨rfl, b1⟩; have S1 := hid (ST.out.below b1); clear b1)
        | (go_at_call_of 20 (Value.string name); refine (HN.out _).mono ?_; rintro r w2 ⟨rfl, b2⟩; have S2 := hid (S1.out.below b2); clear b2)
        | (go_at_call_of 20 (Value.string data); refine (HT.out _).mono ?_; rintro r w3 ⟨rfl, b3⟩; have S3 := hid (S2.out.below b3); have q0 := box_cell S3.out.box 0 (v := .int .i64 k) rfl; have q1 := box_cell S3.out.box 1 (v := .int .i64 c) rfl; have q2 := box_cell S3.out.box 2 (v := .int .i64 t) rfl; have q3 := box_cell S3.out.box 3 (v := .int .i64 e) rfl; have q4 := box_cell S3.out.box 4 (v := .int .i64 n) rfl; have q5 := box_cell S3.out.box 5 (v := .string ⟨#[]⟩) rfl; have q6 := box_cell S3.out.box 6 (v := .string ⟨#[]⟩) rfl; have f5 := box_frozen S3.out.box 5; have f6 := box_frozen S3.out.box 6; have r0 := box_cell S3.out.res 0 (v := .int .i64 0) rfl; have r1 := box_cell S3.out.res 1 (v := .int .i64 0) rfl; have r2 := box_cell S3.out.res 2 (v := .int .i64 0) rfl; have r3 := box_cell S3.out.res 3 (v := .int .i64 0) rfl; have r4 := box_cell S3.out.res 4 (v := .int .i64 0) rfl; have r5 := box_cell S3.out.res 5 (v := .string ⟨#[]⟩) rfl; have r6 := box_cell S3.out.res 6 (v := .string ⟨#[]⟩) rfl; have z0 := box_frozen S3.out.res 0; have z1 := box_frozen S3.out.res 1; have z2 := box_frozen S3.out.res 2; have z3 := box_frozen S3.out.res 3; have z4 := box_frozen S3.out.res 4; have z5 := box_frozen S3.out.res 5; have z6 := box_frozen S3.out.res 6; have l1 := lt_of_block S3.out.box; have l0 := lt_of_block S3.out.res))
      obtain ⟨V, hV, Z7, HB⟩ := set7 ((S3.out.set 5 (.string name)).set 6 (.string data)).res (.int .i64 k) (.int .i64 c) (.int .i64 t) (.int .i64 e) (.int .i64 n) (.string name) (.string data)
      have HB' := HB w (Nat.le_refl _) ((S3.out.set 5 (.string name)).set 6 (.string data)).bl
      rw [← hV]
      have v0 := box_cell Z7 0 (v := .int .i64 k) rfl
      have v1 := box_cell Z7 1 (v := .int .i64 c) rfl
      have v2 := box_cell Z7 2 (v := .int .i64 t) rfl
      have v3 := box_cell Z7 3 (v := .int .i64 e) rfl
      have v4 := box_cell Z7 4 (v := .int .i64 n) rfl
      have v5 := box_cell Z7 5 (v := .string name) rfl
      have v6 := box_cell Z7 6 (v := .string data) rfl
      clear hV
      refine bodyPost_ret (w := V) (v := .tuple #[.agg #[.int .i64 k, .int .i64 c, .int .i64 t, .int .i64 e, .int .i64 n, .string name, .string data], .bool true]) ?_ rfl ⟨rfl, HB'⟩
      simp [results, Tryd.results12, go_sem, v0, v1, v2, v3, v4, v5, v6]
    · have K : j = 0 ∨ j = 1 ∨ j = 2 ∨ j = 3 ∨ j = 4 := by omega
      clear h5' HC HN HT HZ hj
      have i0 : ∀ W : World, (Instr.index 37 (.agg #[.pointer (some ⟨w.heap.size + 1, 0, none⟩), .pointer (some ⟨w.heap.size + 1, 1, none⟩), .pointer (some ⟨w.heap.size + 1, 2, none⟩), .pointer (some ⟨w.heap.size + 1, 3, none⟩), .pointer (some ⟨w.heap.size + 1, 4, none⟩)]) (.int .i64 0)).run Tryd.prog W = .ok (.pointer (some ⟨w.heap.size + 1, 0, none⟩)) W := ptr5 (w.heap.size + 1) 0 (by omega)
      have i1 : ∀ W : World, (Instr.index 37 (.agg #[.pointer (some ⟨w.heap.size + 1, 0, none⟩), .pointer (some ⟨w.heap.size + 1, 1, none⟩), .pointer (some ⟨w.heap.size + 1, 2, none⟩), .pointer (some ⟨w.heap.size + 1, 3, none⟩), .pointer (some ⟨w.heap.size + 1, 4, none⟩)]) (.int .i64 1)).run Tryd.prog W = .ok (.pointer (some ⟨w.heap.size + 1, 1, none⟩)) W := ptr5 (w.heap.size + 1) 1 (by omega)
      have i2 : ∀ W : World, (Instr.index 37 (.agg #[.pointer (some ⟨w.heap.size + 1, 0, none⟩), .pointer (some ⟨w.heap.size + 1, 1, none⟩), .pointer (some ⟨w.heap.size + 1, 2, none⟩), .pointer (some ⟨w.heap.size + 1, 3, none⟩), .pointer (some ⟨w.heap.size + 1, 4, none⟩)]) (.int .i64 2)).run Tryd.prog W = .ok (.pointer (some ⟨w.heap.size + 1, 2, none⟩)) W := ptr5 (w.heap.size + 1) 2 (by omega)
      have i3 : ∀ W : World, (Instr.index 37 (.agg #[.pointer (some ⟨w.heap.size + 1, 0, none⟩), .pointer (some ⟨w.heap.size + 1, 1, none⟩), .pointer (some ⟨w.heap.size + 1, 2, none⟩), .pointer (some ⟨w.heap.size + 1, 3, none⟩), .pointer (some ⟨w.heap.size + 1, 4, none⟩)]) (.int .i64 3)).run Tryd.prog W = .ok (.pointer (some ⟨w.heap.size + 1, 3, none⟩)) W := ptr5 (w.heap.size + 1) 3 (by omega)
      have i4 : ∀ W : World, (Instr.index 37 (.agg #[.pointer (some ⟨w.heap.size + 1, 0, none⟩), .pointer (some ⟨w.heap.size + 1, 1, none⟩), .pointer (some ⟨w.heap.size + 1, 2, none⟩), .pointer (some ⟨w.heap.size + 1, 3, none⟩), .pointer (some ⟨w.heap.size + 1, 4, none⟩)]) (.int .i64 4)).run Tryd.prog W = .ok (.pointer (some ⟨w.heap.size + 1, 4, none⟩)) W := ptr5 (w.heap.size + 1) 4 (by omega)
      have hsj := HS.out j
      have HSJ := hid hsj
      clear hsj HS
      rcases K with rfl | rfl | rfl | rfl | rfl
      all_goals
        go_wp2_with (first
          | (go_at_call 18; refine (cut_sfx _ _ _ _ ?_ EV.out).mono ?_; exact HSJ.out; rintro r w1 ⟨rfl, b1⟩; have S1 := hid (ST.out.below b1); have E1 := hid (EV.out.below b1); clear b1)
          | (go_at_call 19; refine (HD.out _ ?_ _ E1.out).mono ?_; omega; rintro r w2 ⟨rfl, b2⟩; have S2 := hid (S1.out.below b2); have E2 := hid (E1.out.below b2); clear b2; have q0 := box_cell S2.out.box 0 rfl; have q1 := box_cell S2.out.box 1 rfl; have q2 := box_cell S2.out.box 2 rfl; have q3 := box_cell S2.out.box 3 rfl; have q4 := box_cell S2.out.box 4 rfl; have f0 := box_frozen S2.out.box 0; have f1 := box_frozen S2.out.box 1; have f2 := box_frozen S2.out.box 2; have f3 := box_frozen S2.out.box 3; have f4 := box_frozen S2.out.box 4; have l1 := lt_of_block S2.out.box))
        go_roundw
        case rel => first
          | exact ⟨1, by omega, rfl, rfl, S2.out.set 0 (.int .i64 (k : Nat)), HE.out.below (S2.out.set 0 (.int .i64 (k : Nat))).bl⟩
          | exact ⟨2, by omega, rfl, rfl, S2.out.set 1 (.int .i64 (c : Nat)), HE.out.below (S2.out.set 1 (.int .i64 (c : Nat))).bl⟩
          | exact ⟨3, by omega, rfl, rfl, S2.out.set 2 (.int .i64 (t : Nat)), HE.out.below (S2.out.set 2 (.int .i64 (t : Nat))).bl⟩
          | exact ⟨4, by omega, rfl, rfl, S2.out.set 3 (.int .i64 (e : Nat)), HE.out.below (S2.out.set 3 (.int .i64 (e : Nat))).bl⟩
          | exact ⟨5, by omega, rfl, rfl, S2.out.set 4 (.int .i64 (n : Nat)), HE.out.below (S2.out.set 4 (.int .i64 (n : Nat))).bl⟩
        case measure => simp [intOf]

set_option maxHeartbeats 8000000 in
set_option maxRecDepth 100000 in
theorem wordParts_any (s : ByteArray) (w : World) (hs : s.size ≤ 1000) (he : Env w) :
    Calls Tryd.prog 12 #[.string s] w fun r w' => ∃ (k c t e n : Int) (name data : ByteArray) (b : Bool), r = .returned (.tuple #[.agg #[.int .i64 k, .int .i64 c, .int .i64 t, .int .i64 e, .int .i64 n, .string name, .string data], .bool b]) ∧ name.size ≤ 1000 ∧ data.size ≤ 1000 ∧ Below w.heap.size w w' := by
  have HE := hid he
  clear he
  go_enter Tryd.func12, Tryd.ntmps12
  go_wp2_with fail
  go_loopw [0, 21] (fun s i wr => ∃ (j : Nat) (x : ByteArray) (k c t e n : Int), j ≤ 5 ∧ i = .int .i64 j ∧ s = .string x ∧ x.size ≤ 1000 ∧ WpSt w #[.int .i64 k, .int .i64 c, .int .i64 t, .int .i64 e, .int .i64 n, .string ⟨#[]⟩, .string ⟨#[]⟩] wr) (fun _ i _ => 5 - (intOf i).toNat)
  case atStart => exact ⟨0, s, 0, 0, 0, 0, 0, by omega, rfl, rfl, hs, WpSt.start w _⟩
  case round =>
    obtain ⟨j, x, k, c, t, e, n, hj, rfl, rfl, hx, hst⟩ := hrel
    have ST := hid hst
    have EV := hid (HE.out.below hst.bl)
    clear hst
    have hA := fun c => cutA_size x c
    have hZ := fun c => cutZ_size x c
    by_cases h5' : j = 5
    · subst h5'
      have HC := hid (fun w he => cut_any x 58 w hx he)
      have a1 := hA 58
      have a2 := hZ 58
      obtain ⟨A, hA'⟩ : ∃ A, A = cutA x 58 := ⟨_, rfl⟩
      obtain ⟨Z, hZ'⟩ : ∃ Z, Z = cutZ x 58 := ⟨_, rfl⟩
      rw [← hA', ← hZ'] at HC
      rw [← hA'] at a1
      rw [← hZ'] at a2
      have HN := hid (fun w => clone_any A w (by omega))
      have HT := hid (fun w => clone_any Z w (by omega))
      clear hA hZ hA' hZ'
      obtain ⟨bb, hbb⟩ : ∃ bb, bb = (Lib.cut x.data.toList [58]).2.2 := ⟨_, rfl⟩
      rw [← hbb] at HC
      clear hbb
      go_wp2_with (first
        | (go_at_call 18; refine (HC.out _ EV.out).mono ?_; rintro r w1 ⟨rfl, b1⟩; have S1 := hid (ST.out.below b1); clear b1)
        | (go_at_call_of 20 (Value.string A); refine (HN.out _).mono ?_; rintro r w2 ⟨rfl, b2⟩; have S2 := hid (S1.out.below b2); clear b2)
        | (go_at_call_of 20 (Value.string Z); refine (HT.out _).mono ?_; rintro r w3 ⟨rfl, b3⟩; have S3 := hid (S2.out.below b3); have q0 := box_cell S3.out.box 0 (v := .int .i64 k) rfl; have q1 := box_cell S3.out.box 1 (v := .int .i64 c) rfl; have q2 := box_cell S3.out.box 2 (v := .int .i64 t) rfl; have q3 := box_cell S3.out.box 3 (v := .int .i64 e) rfl; have q4 := box_cell S3.out.box 4 (v := .int .i64 n) rfl; have q5 := box_cell S3.out.box 5 (v := .string ⟨#[]⟩) rfl; have q6 := box_cell S3.out.box 6 (v := .string ⟨#[]⟩) rfl; have f5 := box_frozen S3.out.box 5; have f6 := box_frozen S3.out.box 6; have r0 := box_cell S3.out.res 0 (v := .int .i64 0) rfl; have r1 := box_cell S3.out.res 1 (v := .int .i64 0) rfl; have r2 := box_cell S3.out.res 2 (v := .int .i64 0) rfl; have r3 := box_cell S3.out.res 3 (v := .int .i64 0) rfl; have r4 := box_cell S3.out.res 4 (v := .int .i64 0) rfl; have r5 := box_cell S3.out.res 5 (v := .string ⟨#[]⟩) rfl; have r6 := box_cell S3.out.res 6 (v := .string ⟨#[]⟩) rfl; have z0 := box_frozen S3.out.res 0; have z1 := box_frozen S3.out.res 1; have z2 := box_frozen S3.out.res 2; have z3 := box_frozen S3.out.res 3; have z4 := box_frozen S3.out.res 4; have z5 := box_frozen S3.out.res 5; have z6 := box_frozen S3.out.res 6; have l1 := lt_of_block S3.out.box; have l0 := lt_of_block S3.out.res))
      obtain ⟨V, hV, Z7, HB⟩ := set7 ((S3.out.set 5 (.string A)).set 6 (.string Z)).res (.int .i64 k) (.int .i64 c) (.int .i64 t) (.int .i64 e) (.int .i64 n) (.string A) (.string Z)
      have HB' := HB w (Nat.le_refl _) ((S3.out.set 5 (.string A)).set 6 (.string Z)).bl
      rw [← hV]
      have v0 := box_cell Z7 0 (v := .int .i64 k) rfl
      have v1 := box_cell Z7 1 (v := .int .i64 c) rfl
      have v2 := box_cell Z7 2 (v := .int .i64 t) rfl
      have v3 := box_cell Z7 3 (v := .int .i64 e) rfl
      have v4 := box_cell Z7 4 (v := .int .i64 n) rfl
      have v5 := box_cell Z7 5 (v := .string A) rfl
      have v6 := box_cell Z7 6 (v := .string Z) rfl
      clear hV
      refine bodyPost_ret (w := V) (v := .tuple #[.agg #[.int .i64 k, .int .i64 c, .int .i64 t, .int .i64 e, .int .i64 n, .string A, .string Z], .bool true]) ?_ rfl ⟨k, c, t, e, n, A, Z, true, rfl, by omega, by omega, HB'⟩
      simp [results, Tryd.results12, go_sem, v0, v1, v2, v3, v4, v5, v6]
    · have K : j = 0 ∨ j = 1 ∨ j = 2 ∨ j = 3 ∨ j = 4 := by omega
      have HC := hid (fun w he => cut_any x 32 w hx he)
      have a1 := hA 32
      have a2 := hZ 32
      obtain ⟨A, hA'⟩ : ∃ A, A = cutA x 32 := ⟨_, rfl⟩
      obtain ⟨Z, hZ'⟩ : ∃ Z, Z = cutZ x 32 := ⟨_, rfl⟩
      rw [← hA', ← hZ'] at HC
      rw [← hA'] at a1
      rw [← hZ'] at a2
      have HD := hid (fun w he => numberRead_any A w (by omega) he)
      obtain ⟨bb, hbb⟩ : ∃ bb, bb = (Lib.cut x.data.toList [32]).2.2 := ⟨_, rfl⟩
      rw [← hbb] at HC
      clear h5' hj hA hZ hA' hZ' hbb
      have i0 : ∀ W : World, (Instr.index 37 (.agg #[.pointer (some ⟨w.heap.size + 1, 0, none⟩), .pointer (some ⟨w.heap.size + 1, 1, none⟩), .pointer (some ⟨w.heap.size + 1, 2, none⟩), .pointer (some ⟨w.heap.size + 1, 3, none⟩), .pointer (some ⟨w.heap.size + 1, 4, none⟩)]) (.int .i64 0)).run Tryd.prog W = .ok (.pointer (some ⟨w.heap.size + 1, 0, none⟩)) W := ptr5 (w.heap.size + 1) 0 (by omega)
      have i1 : ∀ W : World, (Instr.index 37 (.agg #[.pointer (some ⟨w.heap.size + 1, 0, none⟩), .pointer (some ⟨w.heap.size + 1, 1, none⟩), .pointer (some ⟨w.heap.size + 1, 2, none⟩), .pointer (some ⟨w.heap.size + 1, 3, none⟩), .pointer (some ⟨w.heap.size + 1, 4, none⟩)]) (.int .i64 1)).run Tryd.prog W = .ok (.pointer (some ⟨w.heap.size + 1, 1, none⟩)) W := ptr5 (w.heap.size + 1) 1 (by omega)
      have i2 : ∀ W : World, (Instr.index 37 (.agg #[.pointer (some ⟨w.heap.size + 1, 0, none⟩), .pointer (some ⟨w.heap.size + 1, 1, none⟩), .pointer (some ⟨w.heap.size + 1, 2, none⟩), .pointer (some ⟨w.heap.size + 1, 3, none⟩), .pointer (some ⟨w.heap.size + 1, 4, none⟩)]) (.int .i64 2)).run Tryd.prog W = .ok (.pointer (some ⟨w.heap.size + 1, 2, none⟩)) W := ptr5 (w.heap.size + 1) 2 (by omega)
      have i3 : ∀ W : World, (Instr.index 37 (.agg #[.pointer (some ⟨w.heap.size + 1, 0, none⟩), .pointer (some ⟨w.heap.size + 1, 1, none⟩), .pointer (some ⟨w.heap.size + 1, 2, none⟩), .pointer (some ⟨w.heap.size + 1, 3, none⟩), .pointer (some ⟨w.heap.size + 1, 4, none⟩)]) (.int .i64 3)).run Tryd.prog W = .ok (.pointer (some ⟨w.heap.size + 1, 3, none⟩)) W := ptr5 (w.heap.size + 1) 3 (by omega)
      have i4 : ∀ W : World, (Instr.index 37 (.agg #[.pointer (some ⟨w.heap.size + 1, 0, none⟩), .pointer (some ⟨w.heap.size + 1, 1, none⟩), .pointer (some ⟨w.heap.size + 1, 2, none⟩), .pointer (some ⟨w.heap.size + 1, 3, none⟩), .pointer (some ⟨w.heap.size + 1, 4, none⟩)]) (.int .i64 4)).run Tryd.prog W = .ok (.pointer (some ⟨w.heap.size + 1, 4, none⟩)) W := ptr5 (w.heap.size + 1) 4 (by omega)
      rcases K with rfl | rfl | rfl | rfl | rfl
      all_goals
        go_wp2_with (first
          | (go_at_call 18; refine (HC.out _ EV.out).mono ?_; rintro r w1 ⟨rfl, b1⟩; have S1 := hid (ST.out.below b1); have E1 := hid (EV.out.below b1); clear b1)
          | (go_at_call 19; refine (HD.out _ E1.out).mono ?_; rintro r w2 ⟨v, b, rfl, b2⟩; have S2 := hid (S1.out.below b2); clear b2; have q0 := box_cell S2.out.box 0 (v := .int .i64 k) rfl; have q1 := box_cell S2.out.box 1 (v := .int .i64 c) rfl; have q2 := box_cell S2.out.box 2 (v := .int .i64 t) rfl; have q3 := box_cell S2.out.box 3 (v := .int .i64 e) rfl; have q4 := box_cell S2.out.box 4 (v := .int .i64 n) rfl; have f0 := box_frozen S2.out.box 0; have f1 := box_frozen S2.out.box 1; have f2 := box_frozen S2.out.box 2; have f3 := box_frozen S2.out.box 3; have f4 := box_frozen S2.out.box 4; have r0 := box_cell S2.out.res 0 (v := .int .i64 0) rfl; have r1 := box_cell S2.out.res 1 (v := .int .i64 0) rfl; have r2 := box_cell S2.out.res 2 (v := .int .i64 0) rfl; have r3 := box_cell S2.out.res 3 (v := .int .i64 0) rfl; have r4 := box_cell S2.out.res 4 (v := .int .i64 0) rfl; have r5 := box_cell S2.out.res 5 (v := .string ⟨#[]⟩) rfl; have r6 := box_cell S2.out.res 6 (v := .string ⟨#[]⟩) rfl; have z0 := box_frozen S2.out.res 0; have z1 := box_frozen S2.out.res 1; have z2 := box_frozen S2.out.res 2; have z3 := box_frozen S2.out.res 3; have z4 := box_frozen S2.out.res 4; have z5 := box_frozen S2.out.res 5; have z6 := box_frozen S2.out.res 6; have l1 := lt_of_block S2.out.box; have l0 := lt_of_block S2.out.res; cases b))
      all_goals first
        | (obtain ⟨V, hV, Z7, HB⟩ := set7 S2.out.res (.int .i64 0) (.int .i64 0) (.int .i64 0) (.int .i64 0) (.int .i64 0) (.string ⟨#[]⟩) (.string ⟨#[]⟩)
           have HB' := HB w (Nat.le_refl _) S2.out.bl
           rw [← hV]
           have v0 := box_cell Z7 0 (v := .int .i64 0) rfl
           have v1 := box_cell Z7 1 (v := .int .i64 0) rfl
           have v2 := box_cell Z7 2 (v := .int .i64 0) rfl
           have v3 := box_cell Z7 3 (v := .int .i64 0) rfl
           have v4 := box_cell Z7 4 (v := .int .i64 0) rfl
           have v5 := box_cell Z7 5 (v := .string ⟨#[]⟩) rfl
           have v6 := box_cell Z7 6 (v := .string ⟨#[]⟩) rfl
           clear hV
           refine bodyPost_ret (w := V) (v := .tuple #[.agg #[.int .i64 0, .int .i64 0, .int .i64 0, .int .i64 0, .int .i64 0, .string ⟨#[]⟩, .string ⟨#[]⟩], .bool false]) ?_ rfl ⟨0, 0, 0, 0, 0, ⟨#[]⟩, ⟨#[]⟩, false, rfl, Nat.zero_le _, Nat.zero_le _, HB'⟩
           simp [results, Tryd.results12, go_sem, v0, v1, v2, v3, v4, v5, v6])
        | (go_roundw
           case rel => first
            | exact ⟨1, Z, v, c, t, e, n, by omega, rfl, rfl, by omega, S2.out.set 0 (.int .i64 v)⟩
            | exact ⟨2, Z, k, v, t, e, n, by omega, rfl, rfl, by omega, S2.out.set 1 (.int .i64 v)⟩
            | exact ⟨3, Z, k, c, v, e, n, by omega, rfl, rfl, by omega, S2.out.set 2 (.int .i64 v)⟩
            | exact ⟨4, Z, k, c, t, v, n, by omega, rfl, rfl, by omega, S2.out.set 3 (.int .i64 v)⟩
            | exact ⟨5, Z, k, c, t, e, v, by omega, rfl, rfl, by omega, S2.out.set 4 (.int .i64 v)⟩
           case measure => simp [intOf])
end Go.Proofs.YtpalcgelcnlhbaaDoor
