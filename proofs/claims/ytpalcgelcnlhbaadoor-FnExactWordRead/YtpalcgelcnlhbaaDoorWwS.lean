/- A word as text, by the model. -/
import Derived.Test.YtpalcgelcnlhbaaDoorWsm
import Derived.Test.YtpalcgelcnlhbaaDoorQB
import Derived.Deep.QuietTactic
import Derived.BigQuiet
import Derived.Lib.QuietBelow
namespace Go.Proofs.YtpalcgelcnlhbaaDoor
open Go.ChangeShapes Go.WideShapes Go.ChangeAt Go.RowKit Go.Sort

/-- A word without its sum. -/
def txtOf (K C T E N name data : ByteArray) : ByteArray :=
  K ++ ⟨#[32]⟩ ++ C ++ ⟨#[32]⟩ ++ T ++ ⟨#[32]⟩ ++ E ++ ⟨#[32]⟩ ++ N ++ ⟨#[32]⟩ ++ name ++ ⟨#[58]⟩ ++ data
theorem txtOf_size (K C T E N name data : ByteArray) : (txtOf K C T E N name data).size = K.size + C.size + T.size + E.size + N.size + name.size + data.size + 6 := by
  simp only [txtOf, ByteArray.size_append]
  show K.size + 1 + C.size + 1 + T.size + 1 + E.size + 1 + N.size + 1 + name.size + 1 + data.size = _
  omega

set_option maxHeartbeats 4000000 in
theorem l7Write_any (k c t e n : Nat) (name data : ByteArray) (w : World) (h1 : k ≤ 99999) (h2 : c ≤ 99999) (h3 : t ≤ 99999) (h4 : e ≤ 99999) (h5 : n ≤ 99999) (hn : name.size ≤ 6) (hd : data.size ≤ 80) :
    Calls Tryd.prog 16 #[.agg #[.int .i64 k, .int .i64 c, .int .i64 t, .int .i64 e, .int .i64 n, .string name, .string data]] w fun r w' => r = .returned (.string (txtOf (decS k) (decS c) (decS t) (decS e) (decS n) name data)) ∧ Below w.heap.size w w' := by
  have D1 := hid (fun w => l1Dec_any k k w (Nat.le_refl _) (by omega))
  have D2 := hid (fun w => l1Dec_any c c w (Nat.le_refl _) (by omega))
  have D3 := hid (fun w => l1Dec_any t t w (Nat.le_refl _) (by omega))
  have D4 := hid (fun w => l1Dec_any e e w (Nat.le_refl _) (by omega))
  have D5 := hid (fun w => l1Dec_any n n w (Nat.le_refl _) (by omega))
  have s1 := decS_size k (by omega)
  have s2 := decS_size c (by omega)
  have s3 := decS_size t (by omega)
  have s4 := decS_size e (by omega)
  have s5 := decS_size n (by omega)
  obtain ⟨K, hK⟩ : ∃ K, K = decS k := ⟨_, rfl⟩
  obtain ⟨C, hC⟩ : ∃ C, C = decS c := ⟨_, rfl⟩
  obtain ⟨T, hT⟩ : ∃ T, T = decS t := ⟨_, rfl⟩
  obtain ⟨E, hE⟩ : ∃ E, E = decS e := ⟨_, rfl⟩
  obtain ⟨N, hN⟩ : ∃ N, N = decS n := ⟨_, rfl⟩
  rw [← hK] at D1 s1; rw [← hC] at D2 s2; rw [← hT] at D3 s3; rw [← hE] at D4 s4; rw [← hN] at D5 s5
  rw [← hK, ← hC, ← hT, ← hE, ← hN]
  unfold txtOf
  clear hK hC hT hE hN h1 h2 h3 h4 h5
  have X0 := hid (laid w #[.int .i64 k, .int .i64 c, .int .i64 t, .int .i64 e, .int .i64 n, .string name, .string data] 23)
  have B0 := hid (below_newD w (.cells #[.int .i64 k, .int .i64 c, .int .i64 t, .int .i64 e, .int .i64 n, .string name, .string data] 23))
  go_enter Tryd.func16, Tryd.ntmps16
  go_wp2_with fail
  obtain ⟨W, hW⟩ : ∃ W, W = w.alloc (.cells #[.int .i64 k, .int .i64 c, .int .i64 t, .int .i64 e, .int .i64 n, .string name, .string data] 23) := ⟨_, rfl⟩
  rw [← hW] at X0 B0 ⊢
  clear hW
  have k1 := hid (rg (w := W) (fun w' _ => D1.out w'))
  have k2 := hid (rg (w := W) (fun w' _ => D2.out w'))
  have k3 := hid (rg (w := W) (fun w' _ => D3.out w'))
  have k4 := hid (rg (w := W) (fun w' _ => D4.out w'))
  have k5 := hid (rg (w := W) (fun w' _ => D5.out w'))
  have P0 := cell_regrown (box_cell X0.out 0 (v := .int .i64 k) rfl)
  have P1 := cell_regrown (box_cell X0.out 1 (v := .int .i64 c) rfl)
  have P2 := cell_regrown (box_cell X0.out 2 (v := .int .i64 t) rfl)
  have P3 := cell_regrown (box_cell X0.out 3 (v := .int .i64 e) rfl)
  have P4 := cell_regrown (box_cell X0.out 4 (v := .int .i64 n) rfl)
  have P5 := cell_regrown (box_cell X0.out 5 (v := .string name) rfl)
  have P6 := cell_regrown (box_cell X0.out 6 (v := .string data) rfl)
  clear D1 D2 D3 D4 D5
  refine wp_region_quiet_below (by kernel_rfl) (by kernel_rfl) ?_
  repeat (first
    | go_big_quiet_step (first | (go_at_call_of 27 (Value.int .i64 (k : Int)); exact k1.out _ _) | (go_at_call_of 27 (Value.int .i64 (c : Int)); exact k2.out _ _) | (go_at_call_of 27 (Value.int .i64 (t : Int)); exact k3.out _ _) | (go_at_call_of 27 (Value.int .i64 (e : Int)); exact k4.out _ _) | (go_at_call_of 27 (Value.int .i64 (n : Int)); exact k5.out _ _))
    | quiet_step (first | (go_at_call_of 27 (Value.int .i64 (k : Int)); exact k1.out _ _) | (go_at_call_of 27 (Value.int .i64 (c : Int)); exact k2.out _ _) | (go_at_call_of 27 (Value.int .i64 (t : Int)); exact k3.out _ _) | (go_at_call_of 27 (Value.int .i64 (e : Int)); exact k4.out _ _) | (go_at_call_of 27 (Value.int .i64 (n : Int)); exact k5.out _ _)))
  refine wpQuiet_nil ?_
  intro _ hw'
  obtain ⟨⟨dq, osq⟩, hw''⟩ := hw'
  have hbq := below_regrown W dq osq
  rw [← hw''] at hbq
  clear hw''
  have B1 := hid (below_catD B0.out hbq)
  go_wp2_with fail
  go_ret
  exact ⟨rfl, B1.out⟩

end Go.Proofs.YtpalcgelcnlhbaaDoor
