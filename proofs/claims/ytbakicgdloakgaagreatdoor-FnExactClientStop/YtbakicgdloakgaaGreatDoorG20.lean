/- Words that the call owns, one or none: the same, marked, held, as the laws do it. What is said of a row is the same, wherever equations lie. What is known behind an equation that was learnt: values alone. The links with another one at its place: by the program. -/
import Derived.Test.YtbakicgdloakgaaGreatDoorG6
import Derived.Test.YtbakicgdloakgaaGreatDoorG7
import Derived.Test.YtbakicgdloakgaaGreatDoorG19
import Derived.Lib.QuietBelow
import Derived.Test.YtbakicgdloakgaaGreatDoorG16
import Derived.Test.YtbakicgdloakgaaGreatDoorG18
import Derived.Test.YtbakicgdloakgaaGreatDoorG15
namespace Go.Proofs.YtbakicgdloakgaaGreatDoor
open Go.ChangeShapes Go.WideShapes Go.ChangeAt Go.RowKit Go.Sort

/-- A word. -/
structure WV where
  k : Int
  cl : Int
  t : Int
  e : Int
  n : Int
  nm : ByteArray
  dt : ByteArray
/-- One word, or none, as a row. -/
inductive WsAt (w : World) (lo : Nat) : Value → Option WV → Prop
  | none (a : Option Addr) (c : Nat) : (∀ g, (.slice a 0 c : Value).ownBlock = some g → lo ≤ g ∧ g < w.heap.size) → WsAt w lo (.slice a 0 c) none
  | one (g c : Nat) (k cl t e n : Int) (nm dt : ByteArray) : lo ≤ g → w.heap[g]? = some (.cells #[.int .i64 k, .int .i64 cl, .int .i64 t, .int .i64 e, .int .i64 n, .string nm, .string dt] 64 (0, 0)) → WsAt w lo (.slice (some ⟨g, 0, none⟩) 1 c) (some ⟨k, cl, t, e, n, nm, dt⟩)
theorem WsAt.below {w w' : World} {lo : Nat} {v : Value} {o : Option WV} (h : WsAt w lo v o) (hb : Below w.heap.size w w') : WsAt w' lo v o := by
  cases h with
  | none a c h => exact .none a c fun g hg => ⟨(h g hg).1, Nat.lt_of_lt_of_le (h g hg).2 hb.size⟩
  | one g c k cl t e n nm dt hg hx => exact .one g c k cl t e n nm dt hg (kept hx hb)
theorem WsAt.mono {w : World} {lo lo' : Nat} {v : Value} {o : Option WV} (h : WsAt w lo v o) (hl : lo' ≤ lo) : WsAt w lo' v o := by
  cases h with
  | none a c h => exact .none a c fun g hg => ⟨Nat.le_trans hl (h g hg).1, (h g hg).2⟩
  | one g c k cl t e n nm dt hg hx => exact .one g c k cl t e n nm dt (Nat.le_trans hl hg) hx
theorem WsAt.in' {w : World} {lo : Nat} {v : Value} {o : Option WV} (h : WsAt w lo v o) : ∀ g, v.ownBlock = some g → lo ≤ g ∧ g < w.heap.size := by
  cases h with
  | none a c h => exact h
  | one g c k cl t e n nm dt hg hx => exact fun j hj => by cases hj; exact ⟨hg, lt_of_block hx⟩
theorem WsAt.keep {w w' : World} {lo a b : Nat} {v : Value} {o : Option WV} (h : WsAt w lo v o) (k : KeepOut w w' a b) (hs : w.heap.size ≤ w'.heap.size) (ho : ∀ g, v.ownBlock = some g → g < a ∨ b ≤ g) : WsAt w' lo v o := by
  cases h with
  | none x c h => exact .none x c fun g hg => ⟨(h g hg).1, Nat.lt_of_lt_of_le (h g hg).2 hs⟩
  | one g c k' cl t e n nm dt hg hx => exact .one g c k' cl t e n nm dt hg (k.blk hx (ho g rfl))
/-- How many marks it takes. -/
def wn : Option WV → Nat
  | none => 0
  | some _ => 7
theorem wn_le (o : Option WV) : wn o ≤ 7 := by cases o <;> simp [wn]
/-- Such a row as it was marked. -/
inductive WsMk (w : World) (K : Nat) : Value → Option WV → Prop
  | none (a : Option Addr) (c : Nat) : WsMk w K (.slice a 0 c) none
  | one (g c : Nat) (x : WV) : w.heap[g]? = some (.cells #[.int .i64 K, .int .i64 ((K : Int) + 1), .int .i64 ((K : Int) + 1 + 1), .int .i64 ((K : Int) + 1 + 1 + 1), .int .i64 ((K : Int) + 1 + 1 + 1 + 1), .string (mtext (K + 5)), .string (mtext (K + 6))] 64 (0, 0)) → WsMk w K (.slice (some ⟨g, 0, none⟩) 1 c) (some x)
theorem WsMk.below {w w' : World} {K : Nat} {v : Value} {o : Option WV} (h : WsMk w K v o) (hb : Below w.heap.size w w') : WsMk w' K v o := by
  cases h with
  | none a c => exact .none a c
  | one g c x hx => exact .one g c x (kept hx hb)

set_option maxHeartbeats 2000000 in
set_option maxRecDepth 100000 in
theorem eqWord_same (k cl t e n : Int) (nm dt : ByteArray) (w : World) :
    Calls Tryz.prog 35 #[.agg #[.int .i64 k, .int .i64 cl, .int .i64 t, .int .i64 e, .int .i64 n, .string nm, .string dt], .agg #[.int .i64 k, .int .i64 cl, .int .i64 t, .int .i64 e, .int .i64 n, .string nm, .string dt]] w fun r w' => r = .returned (.bool true) ∧ Below w.heap.size w w' := by
  have h1 : (nm.toList == nm.toList) = true := by simp
  have h2 : (dt.toList == dt.toList) = true := by simp
  go_enter Tryz.func35, Tryz.ntmps35
  go_wp2_with fail
  go_ret
  exact ⟨rfl, u_b2 _ _ _⟩

set_option maxHeartbeats 2000000 in
set_option maxRecDepth 100000 in
theorem eqWordS_none (a a' : Option Addr) (c c' : Nat) (w : World) :
    Calls Tryz.prog 12 #[.slice a 0 c, .slice a' 0 c'] w fun r w' => r = .returned (.bool true) ∧ Below w.heap.size w w' := by
  go_enter Tryz.func12, Tryz.ntmps12
  go_wp2_with fail
  refine wp_loop_rounds 1 ?_
  rw [rounds_succ]
  go_wp2_with fail
  go_ret
  exact ⟨rfl, Below.refl _ _⟩
set_option maxHeartbeats 2000000 in
set_option maxRecDepth 100000 in
theorem eqWordS_one (k cl t e n : Int) (nm dt : ByteArray) (g g' c c' : Nat) (w : World) (hx : w.heap[g]? = some (.cells #[.int .i64 k, .int .i64 cl, .int .i64 t, .int .i64 e, .int .i64 n, .string nm, .string dt] 64 (0, 0))) (hy : w.heap[g']? = some (.cells #[.int .i64 k, .int .i64 cl, .int .i64 t, .int .i64 e, .int .i64 n, .string nm, .string dt] 64 (0, 0))) :
    Calls Tryz.prog 12 #[.slice (some ⟨g, 0, none⟩) 1 c, .slice (some ⟨g', 0, none⟩) 1 c'] w fun r w' => r = .returned (.bool true) ∧ Below w.heap.size w w' := by
  have p0 := cell_regrown (box_cell hx 0 (v := .int .i64 k) rfl)
  have p1 := cell_regrown (box_cell hx 1 (v := .int .i64 cl) rfl)
  have p2 := cell_regrown (box_cell hx 2 (v := .int .i64 t) rfl)
  have p3 := cell_regrown (box_cell hx 3 (v := .int .i64 e) rfl)
  have p4 := cell_regrown (box_cell hx 4 (v := .int .i64 n) rfl)
  have p5 := cell_regrown (box_cell hx 5 (v := .string nm) rfl)
  have p6 := cell_regrown (box_cell hx 6 (v := .string dt) rfl)
  have q0 := cell_regrown (box_cell hy 0 (v := .int .i64 k) rfl)
  have q1 := cell_regrown (box_cell hy 1 (v := .int .i64 cl) rfl)
  have q2 := cell_regrown (box_cell hy 2 (v := .int .i64 t) rfl)
  have q3 := cell_regrown (box_cell hy 3 (v := .int .i64 e) rfl)
  have q4 := cell_regrown (box_cell hy 4 (v := .int .i64 n) rfl)
  have q5 := cell_regrown (box_cell hy 5 (v := .string nm) rfl)
  have q6 := cell_regrown (box_cell hy 6 (v := .string dt) rfl)
  have KE := hid (rg (w := w) (fun w' _ => eqWord_same k cl t e n nm dt w'))
  clear hx hy
  go_enter Tryz.func12, Tryz.ntmps12
  go_wp2_with fail
  refine wp_loop_rounds 2 ?_
  rw [rounds_succ]
  go_wp2_with fail
  refine wp_region_quiet_below (by kernel_rfl) (by kernel_rfl) ?_
  repeat (first | go_big_quiet_step ((go_at_call 35; with_reducible exact KE.out _ _)) | quiet_step ((go_at_call 35; with_reducible exact KE.out _ _)))
  refine wpQuiet_nil ?_
  intro V2 hw'
  have hbq := hid (of_class hw')
  clear hw' p0 p1 p2 p3 p4 p5 p6 q0 q1 q2 q3 q4 q5 q6 KE
  go_wp2_with fail
  rw [rounds_succ]
  go_wp2_with fail
  go_ret
  exact ⟨rfl, hbq.out⟩
theorem eqWordS_any {v v' : Value} {o : Option WV} {lo lo' : Nat} {w : World} (h : WsAt w lo v o) (h' : WsAt w lo' v' o) :
    Calls Tryz.prog 12 #[v, v'] w fun r w' => r = .returned (.bool true) ∧ Below w.heap.size w w' := by
  cases h with
  | none a c => cases h' with
    | none a' c' => exact eqWordS_none a a' c c' w
  | one g c k cl t e n nm dt hg hx => cases h' with
    | one g' c' k cl t e n nm dt hg' hx' => exact eqWordS_one k cl t e n nm dt g g' c c' w hx hx'

set_option maxHeartbeats 4000000 in
set_option maxRecDepth 100000 in
theorem markWordS_one (K : Nat) (k cl t e n : Int) (nm dt : ByteArray) (g c : Nat) (w : World) (hx : w.heap[g]? = some (.cells #[.int .i64 k, .int .i64 cl, .int .i64 t, .int .i64 e, .int .i64 n, .string nm, .string dt] 64 (0, 0))) (k0 : 0 < K) (k1 : K ≤ 1125899906842624) :
    Calls Tryz.prog 14 #[.slice (some ⟨g, 0, none⟩) 1 c, .int .i64 K] w fun r w' => r = .returned (.int .i64 ((K : Int) + 1 + 1 + 1 + 1 + 1 + 1 + 1)) ∧ w'.heap[g]? = some (.cells #[.int .i64 K, .int .i64 ((K : Int) + 1), .int .i64 ((K : Int) + 1 + 1), .int .i64 ((K : Int) + 1 + 1 + 1), .int .i64 ((K : Int) + 1 + 1 + 1 + 1), .string (mtext (K + 5)), .string (mtext (K + 6))] 64 (0, 0)) ∧ Below g w w' ∧ ∀ j, j < w.heap.size → j ≠ g → w'.heap[j]? = w.heap[j]? := by
  have hgw := lt_of_block hx
  have T5 := fun W => markText_any (K + 5) W (by omega) (by omega)
  have T6 := fun W => markText_any (K + 6) W (by omega) (by omega)
  rw [show ((K + 5 : Nat) : Int) = (K : Int) + 1 + 1 + 1 + 1 + 1 by omega] at T5
  rw [show ((K + 6 : Nat) : Int) = (K : Int) + 1 + 1 + 1 + 1 + 1 + 1 by omega] at T6
  have T5 := hid T5
  have T6 := hid T6
  have z := box_frozen hx
  have p0 := box_cell hx 0 (v := .int .i64 k) rfl
  have p1 := box_cell hx 1 (v := .int .i64 cl) rfl
  have p2 := box_cell hx 2 (v := .int .i64 t) rfl
  have p3 := box_cell hx 3 (v := .int .i64 e) rfl
  have p4 := box_cell hx 4 (v := .int .i64 n) rfl
  have p5 := box_cell hx 5 (v := .string nm) rfl
  have p6 := box_cell hx 6 (v := .string dt) rfl
  have HX := hid hx
  clear hx
  go_enter Tryz.func14, Tryz.ntmps14
  go_wp2_with fail
  refine wp_loop_rounds 2 ?_
  rw [rounds_succ]
  go_wp2_with fail
  obtain ⟨V, hV⟩ : ∃ V, V = ((((w.setCell ⟨g, 0, none⟩ (.int .i64 K)).setCell ⟨g, 1, none⟩ (.int .i64 ((K : Int) + 1))).setCell ⟨g, 2, none⟩ (.int .i64 ((K : Int) + 1 + 1))).setCell ⟨g, 3, none⟩ (.int .i64 ((K : Int) + 1 + 1 + 1))).setCell ⟨g, 4, none⟩ (.int .i64 ((K : Int) + 1 + 1 + 1 + 1)) := ⟨_, rfl⟩
  have Y := hid (set_block (set_block (set_block (set_block (set_block HX.out 0 (.int .i64 K)) 1 (.int .i64 ((K : Int) + 1))) 2 (.int .i64 ((K : Int) + 1 + 1))) 3 (.int .i64 ((K : Int) + 1 + 1 + 1))) 4 (.int .i64 ((K : Int) + 1 + 1 + 1 + 1)))
  have KO : ∀ j, j < w.heap.size → j ≠ g → V.heap[j]? = w.heap[j]? := fun j _ hj => by rw [hV]; exact set_other (set_other (set_other (set_other (set_other rfl hj _ _) hj _ _) hj _ _) hj _ _) hj _ _
  have B : Below g w V := by rw [hV]; exact u_set (u_set (u_set (u_set (u_set (Below.refl _ _) (Nat.le_refl _) _ _) (Nat.le_refl _) _ _) (Nat.le_refl _) _ _) (Nat.le_refl _) _ _) (Nat.le_refl _) _ _
  have hsz : V.heap.size = w.heap.size := by rw [hV]; simp [World.setCell]
  have hs1 : w.heap.size ≤ V.heap.size := Nat.le_of_eq hsz.symm
  rw [← hV] at Y ⊢
  have KO := hid KO
  have B := hid B
  clear hV hsz z p0 p1 p2 p3 p4 p5 p6
  refine (T5.out V).mono ?_
  rintro e w1 ⟨rfl, b1⟩
  have Y := hid (kept Y.out b1)
  have KO := hid (show ∀ j, j < w.heap.size → j ≠ g → w1.heap[j]? = w.heap[j]? from fun j hj hn => (b1.block j (by omega)).trans (KO.out j hj hn))
  have B := hid (B.out.trans (b1.mono (by omega)))
  have hs2 : w.heap.size ≤ w1.heap.size := Nat.le_trans hs1 b1.size
  clear b1 hs1
  have z := box_frozen Y.out
  have p5 := box_cell Y.out 5 (v := .string nm) (by simp)
  have p6 := box_cell Y.out 6 (v := .string dt) (by simp)
  go_wp2_with fail
  obtain ⟨V, hV⟩ : ∃ V, V = w1.setCell ⟨g, 5, none⟩ (.string (mtext (K + 5))) := ⟨_, rfl⟩
  have Y := hid (set_block Y.out 5 (.string (mtext (K + 5))))
  have KO := hid (show ∀ j, j < w.heap.size → j ≠ g → V.heap[j]? = w.heap[j]? from fun j hj hn => by rw [hV]; exact set_other (KO.out j hj hn) hn _ _)
  have B := hid (show Below g w V by rw [hV]; exact u_set B.out (Nat.le_refl _) _ _)
  have hs3 : w.heap.size ≤ V.heap.size := by rw [hV]; simp [World.setCell]; exact hs2
  rw [← hV] at Y ⊢
  clear hV z p5 p6 hs2
  refine (T6.out V).mono ?_
  rintro e w1 ⟨rfl, b1⟩
  have Y := hid (kept Y.out b1)
  have KO := hid (show ∀ j, j < w.heap.size → j ≠ g → w1.heap[j]? = w.heap[j]? from fun j hj hn => (b1.block j (by omega)).trans (KO.out j hj hn))
  have B := hid (B.out.trans (b1.mono (by omega)))
  clear b1 hs3
  have z := box_frozen Y.out
  have p6 := box_cell Y.out 6 (v := .string dt) (by simp)
  go_wp2_with fail
  rw [rounds_succ]
  go_wp2_with fail
  go_ret
  refine ⟨rfl, ?_, u_set B.out (Nat.le_refl _) _ _, fun j hj hn => set_other (KO.out j hj hn) hn _ _⟩
  rw [set_block Y.out 6 (.string (mtext (K + 6)))]
  simp
set_option maxHeartbeats 4000000 in
set_option maxRecDepth 100000 in
theorem markWordS_none (K : Int) (a : Option Addr) (c : Nat) (w : World) : Calls Tryz.prog 14 #[.slice a 0 c, .int .i64 K] w fun r w' => r = .returned (.int .i64 K) ∧ w' = w := by
  go_enter Tryz.func14, Tryz.ntmps14
  go_wp2_with fail
  refine wp_loop_rounds 1 ?_
  rw [rounds_succ]
  go_wp2_with fail
  go_ret
  exact ⟨rfl, rfl⟩
theorem markWordS_any {v : Value} {o : Option WV} {lo : Nat} {w : World} (K : Nat) (h : WsAt w lo v o) (k0 : 0 < K) (k1 : K ≤ 1125899906842624) (hl : lo ≤ w.heap.size) :
    Calls Tryz.prog 14 #[v, .int .i64 K] w fun r w' => r = .returned (.int .i64 ((K + wn o : Nat) : Int)) ∧ WsMk w' K v o ∧ (∀ a b, (∀ g, v.ownBlock = some g → a ≤ g ∧ g < b) → KeepOut w w' a b) ∧ Below lo w w' := by
  cases h with
  | none a c h =>
    refine (markWordS_none K a c w).mono ?_
    rintro r w' ⟨rfl, rfl⟩
    exact ⟨rfl, .none a c, fun _ _ _ _ _ _ => rfl, Below.refl _ _⟩
  | one g c k cl t e n nm dt hg hx =>
    refine (markWordS_one K k cl t e n nm dt g c w hx k0 k1).mono ?_
    rintro r w' ⟨rfl, h1, h2, h3⟩
    refine ⟨by simp [wn]; omega, .one g c _ h1, fun a b hab j hj ho => h3 j hj (fun e => ?_), h2.mono hg⟩
    have := hab g rfl
    omega

set_option maxHeartbeats 4000000 in
set_option maxRecDepth 100000 in
theorem heldWordS_one (K : Nat) (g c : Nat) (w : World) (hx : w.heap[g]? = some (.cells #[.int .i64 K, .int .i64 ((K : Int) + 1), .int .i64 ((K : Int) + 1 + 1), .int .i64 ((K : Int) + 1 + 1 + 1), .int .i64 ((K : Int) + 1 + 1 + 1 + 1), .string (mtext (K + 5)), .string (mtext (K + 6))] 64 (0, 0))) (k0 : 0 < K) (k1 : K ≤ 1125899906842624) :
    Calls Tryz.prog 16 #[.slice (some ⟨g, 0, none⟩) 1 c, .int .i64 K] w fun r w' => r = .returned (.int .i64 ((K : Int) + 1 + 1 + 1 + 1 + 1 + 1 + 1)) ∧ Below w.heap.size w w' := by
  have T5 := fun W => markText_any (K + 5) W (by omega) (by omega)
  have T6 := fun W => markText_any (K + 6) W (by omega) (by omega)
  rw [show ((K + 5 : Nat) : Int) = (K : Int) + 1 + 1 + 1 + 1 + 1 by omega] at T5
  rw [show ((K + 6 : Nat) : Int) = (K : Int) + 1 + 1 + 1 + 1 + 1 + 1 by omega] at T6
  obtain ⟨M5, h5⟩ : ∃ M, M = mtext (K + 5) := ⟨_, rfl⟩
  obtain ⟨M6, h6⟩ : ∃ M, M = mtext (K + 6) := ⟨_, rfl⟩
  rw [← h5] at T5 hx
  rw [← h6] at T6 hx
  clear h5 h6
  have T5 := hid T5
  have T6 := hid T6
  have m5 : (M5.toList == M5.toList) = true := by simp
  have m6 : (M6.toList == M6.toList) = true := by simp
  have p0 := box_cell hx 0 (v := .int .i64 K) rfl
  have p1 := box_cell hx 1 (v := .int .i64 ((K : Int) + 1)) rfl
  have p2 := box_cell hx 2 (v := .int .i64 ((K : Int) + 1 + 1)) rfl
  have p3 := box_cell hx 3 (v := .int .i64 ((K : Int) + 1 + 1 + 1)) rfl
  have p4 := box_cell hx 4 (v := .int .i64 ((K : Int) + 1 + 1 + 1 + 1)) rfl
  have HX := hid hx
  clear hx
  go_enter Tryz.func16, Tryz.ntmps16
  go_wp2_with fail
  refine wp_loop_rounds 2 ?_
  rw [rounds_succ]
  go_wp2_with fail
  have p5 := cell_regrown (box_cell HX.out 5 (v := .string M5) rfl)
  have K5 := hid (rg (w := w) (fun w' _ => T5.out w'))
  refine wp_region_quiet_below (by kernel_rfl) (by kernel_rfl) ?_
  repeat (first | go_big_quiet_step ((go_at_call 37; with_reducible exact K5.out _ _)) | quiet_step ((go_at_call 37; with_reducible exact K5.out _ _)))
  refine wpQuiet_nil ?_
  intro V2 hw'
  have B := hid (of_class hw')
  have HX := hid (kept HX.out B.out)
  clear hw' p5 K5 p0 p1 p2 p3 p4
  go_wp2_with fail
  have p6 := cell_regrown (box_cell HX.out 6 (v := .string M6) rfl)
  have K6 := hid (rg (w := V2) (fun w' _ => T6.out w'))
  refine wp_region_quiet_below (by kernel_rfl) (by kernel_rfl) ?_
  repeat (first | go_big_quiet_step ((go_at_call 37; with_reducible exact K6.out _ _)) | quiet_step ((go_at_call 37; with_reducible exact K6.out _ _)))
  refine wpQuiet_nil ?_
  intro V3 hw'
  have B := hid (u_cat B.out (of_class hw'))
  clear hw' p6 K6
  go_wp2_with fail
  rw [rounds_succ]
  go_wp2_with fail
  go_ret
  exact ⟨rfl, B.out⟩
set_option maxHeartbeats 4000000 in
set_option maxRecDepth 100000 in
theorem heldWordS_none (K : Int) (a : Option Addr) (c : Nat) (w : World) : Calls Tryz.prog 16 #[.slice a 0 c, .int .i64 K] w fun r w' => r = .returned (.int .i64 K) ∧ w' = w := by
  go_enter Tryz.func16, Tryz.ntmps16
  go_wp2_with fail
  refine wp_loop_rounds 1 ?_
  rw [rounds_succ]
  go_wp2_with fail
  go_ret
  exact ⟨rfl, rfl⟩
theorem heldWordS_any {v : Value} {o : Option WV} {w : World} (K : Nat) (h : WsMk w K v o) (k0 : 0 < K) (k1 : K ≤ 1125899906842624) :
    Calls Tryz.prog 16 #[v, .int .i64 K] w fun r w' => r = .returned (.int .i64 ((K + wn o : Nat) : Int)) ∧ Below w.heap.size w w' := by
  cases h with
  | none a c =>
    refine (heldWordS_none K a c w).mono ?_
    rintro r w' ⟨rfl, rfl⟩
    exact ⟨rfl, Below.refl _ _⟩
  | one g c x hx =>
    refine (heldWordS_one K g c w hx k0 k1).mono ?_
    rintro r w' ⟨rfl, h1⟩
    exact ⟨by simp [wn]; omega, h1⟩
end Go.Proofs.YtbakicgdloakgaaGreatDoor
namespace Go.Proofs.YtbakicgdloakgaaGreatDoor
open Go.ChangeShapes Go.WideShapes Go.ChangeAt Go.RowKit Go.Sort Go.Shelf

theorem owns_cap {w : World} {base : Nat} {e : TypeId} {a : Option Addr} {n m cap : Nat} {xs : List Value} (h : w.ownsRow base e 1 (.slice a m cap) n xs) : a = none → cap = 0 := by
  intro ha
  subst ha
  rcases h.2 with ⟨hv, -⟩ | ⟨g, cap', cur, hv, -⟩
  · cases hv; rfl
  · cases hv
end Go.Proofs.YtbakicgdloakgaaGreatDoor
namespace Go.Proofs.YtbakicgdloakgaaGreatDoor
open Go.ChangeShapes Go.WideShapes Go.ChangeAt Go.RowKit Go.Sort Go.Shelf

/-- A row and its data. -/
abbrev Vl := List Int × ByteArray
def valsE (es : List EqV) : List Vl := es.map (fun e => (e.r, e.d))
theorem vals_same {fs es : List EqV} : valsE fs = valsE es ↔ SamV fs es := by
  constructor
  · intro h
    have h1 := congrArg (List.map Prod.fst) h
    have h2 := congrArg (List.map Prod.snd) h
    simp only [valsE, List.map_map] at h1 h2
    exact ⟨h1, h2⟩
  · rintro ⟨h1, h2⟩
    induction fs generalizing es with
    | nil => cases es with
      | nil => rfl
      | cons e es => simp at h1
    | cons f fs ih => cases es with
      | nil => simp at h1
      | cons e es =>
        simp only [List.map_cons, List.cons.injEq] at h1 h2
        simp only [valsE, List.map_cons, h1.1, h2.1]
        rw [show List.map (fun e => (e.r, e.d)) fs = List.map (fun e => (e.r, e.d)) es from ih h1.2 h2.2]
/-- Put together with what is learnt, where that one's first number is in the row. -/
def mixE (s : List Int × List Int) (k : Vl) : Vl := if hd s.1 ∈ k.1 then (xorM k.1 s.1, strOfNums (xorL (numsOf k.2) s.2)) else k
/-- In its form, by values. -/
def okV (c z : Int) (ks : List Vl) : Prop := (∀ k ∈ ks, ascB (-1) c k.1 = true ∧ (k.2.size : Int) = z ∧ k.1 ≠ []) ∧ ks.Pairwise (fun a b => fit1 a.1 b.1)
theorem ok_vals {c z : Int} {es : List EqV} : okE c z es ↔ okV c z (valsE es) := by
  rw [okE_iff]
  unfold okV valsE
  rw [List.pairwise_map, List.pairwise_iff_getElem]
  constructor
  · intro h
    refine ⟨fun k hk => ?_, fun i j hi hj hij => (h i hi).2 j hj hij⟩
    obtain ⟨e, he, rfl⟩ := List.mem_map.1 hk
    obtain ⟨i, hi, rfl⟩ := List.getElem_of_mem he
    exact (h i hi).1
  · rintro ⟨h1, h2⟩ i hi
    exact ⟨h1 _ (List.mem_map.2 ⟨es[i], List.getElem_mem hi, rfl⟩), fun j hj hij => h2 i j hi hj hij⟩
end Go.Proofs.YtbakicgdloakgaaGreatDoor
namespace Go.Proofs.YtbakicgdloakgaaGreatDoor
open Go.ChangeShapes Go.WideShapes Go.ChangeAt Go.RowKit Go.Sort Go.Shelf
attribute [local go_sem] Oper.semAt_some

/-- A link by itself: where it leads is left open. -/
def LkIs (w : World) (base : Nat) (l : Lk) (p : Option Addr) : Prop := base ≤ l.b ∧ base ≤ l.q ∧
  w.heap[l.b]? = some (.cells #[.int .u32 (setI l.r : Nat), .slice (some ⟨l.q, 0, none⟩) l.d.length l.c, .pointer p] 140 (0, 0)) ∧ BytsAt w l.q l.d
theorem BytsAt.set_link {w : World} {q : Nat} {d : List Int} {g : Nat} {x : Int} {v1 v2 : Value} (h : BytsAt w q d) (hg : w.heap[g]? = some (.cells #[.int .u32 x, v1, v2] 140 (0, 0))) (i : Nat) (u : Value) : BytsAt (w.setCell ⟨g, i, none⟩ u) q d := by
  by_cases hq : q = g
  · subst hq
    refine ⟨by rw [show (w.setCell ⟨q, i, none⟩ u).heap.size = w.heap.size by simp [World.setCell]]; exact h.1, fun j hj => ?_⟩
    have h0 := h.2 0 (by omega)
    rw [box_cell hg 0 (v := .int .u32 x) rfl] at h0
    cases h0
  · exact h.set hq i u
theorem LkIs.set {w : World} {base : Nat} {l : Lk} {p : Option Addr} (h : LkIs w base l p) {g : Nat} {x : Int} {v1 v2 : Value} (hg : w.heap[g]? = some (.cells #[.int .u32 x, v1, v2] 140 (0, 0))) (hne : l.b ≠ g) (u : Value) : LkIs (w.setCell ⟨g, 2, none⟩ u) base l p :=
  ⟨h.1, h.2.1, set_other h.2.2.1 hne _ _, h.2.2.2.set_link hg _ _⟩
theorem LkIs.next {w : World} {base : Nat} {l : Lk} {p : Option Addr} (h : LkIs w base l p) (p' : Option Addr) : LkIs (w.setCell ⟨l.b, 2, none⟩ (.pointer p')) base l p' :=
  ⟨h.1, h.2.1, by have := set_block h.2.2.1 2 (.pointer p'); simpa using this, h.2.2.2.set_link h.2.2.1 _ _⟩
theorem LkIs.below {w w' : World} {base : Nat} {l : Lk} {p : Option Addr} (h : LkIs w base l p) (hb : Below w.heap.size w w') : LkIs w' base l p := ⟨h.1, h.2.1, kept h.2.2.1 hb, h.2.2.2.below hb⟩
/-- What is left as it was: all blocks but those of some links; all bytes. -/
def LkKeep (w w' : World) (bs : List Nat) : Prop := (∀ g, g < w.heap.size → g ∉ bs → w'.heap[g]? = w.heap[g]?) ∧ (∀ q d, BytsAt w q d → BytsAt w' q d)
theorem LkKeep.set {w w' : World} {bs : List Nat} (h : LkKeep w w' bs) {g : Nat} {x : Int} {v1 v2 : Value} (hg : w'.heap[g]? = some (.cells #[.int .u32 x, v1, v2] 140 (0, 0))) (hb : g ∈ bs) (u : Value) : LkKeep w (w'.setCell ⟨g, 2, none⟩ u) bs :=
  ⟨fun k hk hn => set_other (h.1 k hk hn) (fun e => hn (by rw [e]; exact hb)) _ _, fun q d hq => (h.2 q d hq).set_link hg _ _⟩
theorem LkKeep.trans {a b c : World} {bs cs : List Nat} (h : LkKeep a b bs) (k : LkKeep b c cs) (hs : a.heap.size ≤ b.heap.size) (hc : ∀ x ∈ cs, x ∈ bs) : LkKeep a c bs :=
  ⟨fun g hg hn => (k.1 g (by omega) (fun h2 => hn (hc g h2))).trans (h.1 g hg hn), fun q d hq => k.2 q d (h.2 q d hq)⟩
end Go.Proofs.YtbakicgdloakgaaGreatDoor
