/- Words: what a kind has. -/
import Derived.Test.YtpalcgelcnlhbaaDoorWordB
namespace Go.Proofs.YtpalcgelcnlhbaaDoor
open Go.ChangeShapes Go.WideShapes Go.ChangeAt Go.RowKit Go.Sort

set_option maxHeartbeats 2000000 in
theorem kindOk_1 (e : Int) (name : ByteArray) (w : World) (hs : name.size ≤ maxLen) :
    Calls Tryd.prog 33 #[.iface 65 (.agg #[.int .i64 e, .string name])] w fun r w' => r = .returned (.bool (cntB e && nameB name)) ∧ Below w.heap.size w w' := by
  have ta1 : ∀ w : World, (Instr.typeAssert (.iface 65 (.agg #[.int .i64 e, .string name])) 55 65 true).run Tryd.prog w = .ok (.tuple #[.agg #[.int .i64 e, .string name], .bool true]) w := fun _ => by kernel_rfl
  cases g0 : cntB e with
  | false =>
    go_enter Tryd.func33, Tryd.ntmps33
    go_wp2_with fail
    refine (cntB_any e _).mono ?_
    rintro r w1 ⟨rfl, hw⟩
    rw [g0]
    subst hw
    go_wp2_with fail
    go_ret
    exact ⟨rfl, below_allocW _ _⟩
  | true =>
    cases g1 : nameB name with
    | false =>
      go_enter Tryd.func33, Tryd.ntmps33
      go_wp2_with fail
      refine (cntB_any e _).mono ?_
      rintro r w1 ⟨rfl, hw⟩
      rw [g0]
      subst hw
      go_wp2_with fail
      refine (implNameOk name _ hs).mono ?_
      rintro r w1 ⟨rfl, hw⟩
      rw [g1]
      subst hw
      go_wp2_with fail
      go_ret
      exact ⟨rfl, below_allocW _ _⟩
    | true =>
      go_enter Tryd.func33, Tryd.ntmps33
      go_wp2_with fail
      refine (cntB_any e _).mono ?_
      rintro r w1 ⟨rfl, hw⟩
      rw [g0]
      subst hw
      go_wp2_with fail
      refine (implNameOk name _ hs).mono ?_
      rintro r w1 ⟨rfl, hw⟩
      rw [g1]
      subst hw
      go_wp2_with fail
      go_ret
      exact ⟨rfl, below_allocW _ _⟩

set_option maxHeartbeats 2000000 in
theorem kindOk_2 (e : Int) (data : ByteArray) (w : World) :
    Calls Tryd.prog 33 #[.iface 67 (.agg #[.int .i64 e, .string data])] w fun r w' => r = .returned (.bool (edB e && datB data)) ∧ Below w.heap.size w w' := by
  have ta1 : ∀ w : World, (Instr.typeAssert (.iface 67 (.agg #[.int .i64 e, .string data])) 55 65 true).run Tryd.prog w = .ok (.tuple #[.agg #[.int .i64 0, .string ⟨#[]⟩], .bool false]) w := fun _ => by kernel_rfl
  have ta2 : ∀ w : World, (Instr.typeAssert (.iface 67 (.agg #[.int .i64 e, .string data])) 55 67 true).run Tryd.prog w = .ok (.tuple #[.agg #[.int .i64 e, .string data], .bool true]) w := fun _ => by kernel_rfl
  cases g0 : edB e with
  | false =>
    go_enter Tryd.func33, Tryd.ntmps33
    go_wp2_with fail
    refine (edB_any e _).mono ?_
    rintro r w1 ⟨rfl, hw⟩
    rw [g0]
    subst hw
    go_wp2_with fail
    go_ret
    exact ⟨rfl, below_allocW _ _⟩
  | true =>
    cases g1 : datB data with
    | false =>
      go_enter Tryd.func33, Tryd.ntmps33
      go_wp2_with fail
      refine (edB_any e _).mono ?_
      rintro r w1 ⟨rfl, hw⟩
      rw [g0]
      subst hw
      go_wp2_with fail
      refine (datB_any data _).mono ?_
      rintro r w1 ⟨rfl, hw⟩
      rw [g1]
      subst hw
      go_wp2_with fail
      go_ret
      exact ⟨rfl, below_allocW _ _⟩
    | true =>
      go_enter Tryd.func33, Tryd.ntmps33
      go_wp2_with fail
      refine (edB_any e _).mono ?_
      rintro r w1 ⟨rfl, hw⟩
      rw [g0]
      subst hw
      go_wp2_with fail
      refine (datB_any data _).mono ?_
      rintro r w1 ⟨rfl, hw⟩
      rw [g1]
      subst hw
      go_wp2_with fail
      go_ret
      exact ⟨rfl, below_allocW _ _⟩

set_option maxHeartbeats 2000000 in
theorem kindOk_3 (e : Int) (n : Int) (data : ByteArray) (w : World) :
    Calls Tryd.prog 33 #[.iface 69 (.agg #[.int .i64 e, .int .i64 n, .string data])] w fun r w' => r = .returned (.bool (edB e && cntB n && datB data)) ∧ Below w.heap.size w w' := by
  have ta1 : ∀ w : World, (Instr.typeAssert (.iface 69 (.agg #[.int .i64 e, .int .i64 n, .string data])) 55 65 true).run Tryd.prog w = .ok (.tuple #[.agg #[.int .i64 0, .string ⟨#[]⟩], .bool false]) w := fun _ => by kernel_rfl
  have ta2 : ∀ w : World, (Instr.typeAssert (.iface 69 (.agg #[.int .i64 e, .int .i64 n, .string data])) 55 67 true).run Tryd.prog w = .ok (.tuple #[.agg #[.int .i64 0, .string ⟨#[]⟩], .bool false]) w := fun _ => by kernel_rfl
  have ta3 : ∀ w : World, (Instr.typeAssert (.iface 69 (.agg #[.int .i64 e, .int .i64 n, .string data])) 55 69 true).run Tryd.prog w = .ok (.tuple #[.agg #[.int .i64 e, .int .i64 n, .string data], .bool true]) w := fun _ => by kernel_rfl
  cases g0 : edB e with
  | false =>
    go_enter Tryd.func33, Tryd.ntmps33
    go_wp2_with fail
    refine (edB_any e _).mono ?_
    rintro r w1 ⟨rfl, hw⟩
    rw [g0]
    subst hw
    go_wp2_with fail
    go_ret
    exact ⟨rfl, below_allocW _ _⟩
  | true =>
    cases g1 : cntB n with
    | false =>
      go_enter Tryd.func33, Tryd.ntmps33
      go_wp2_with fail
      refine (edB_any e _).mono ?_
      rintro r w1 ⟨rfl, hw⟩
      rw [g0]
      subst hw
      go_wp2_with fail
      refine (cntB_any n _).mono ?_
      rintro r w1 ⟨rfl, hw⟩
      rw [g1]
      subst hw
      go_wp2_with fail
      go_ret
      exact ⟨rfl, below_allocW _ _⟩
    | true =>
      cases g2 : datB data with
      | false =>
        go_enter Tryd.func33, Tryd.ntmps33
        go_wp2_with fail
        refine (edB_any e _).mono ?_
        rintro r w1 ⟨rfl, hw⟩
        rw [g0]
        subst hw
        go_wp2_with fail
        refine (cntB_any n _).mono ?_
        rintro r w1 ⟨rfl, hw⟩
        rw [g1]
        subst hw
        go_wp2_with fail
        refine (datB_any data _).mono ?_
        rintro r w1 ⟨rfl, hw⟩
        rw [g2]
        subst hw
        go_wp2_with fail
        go_ret
        exact ⟨rfl, below_allocW _ _⟩
      | true =>
        go_enter Tryd.func33, Tryd.ntmps33
        go_wp2_with fail
        refine (edB_any e _).mono ?_
        rintro r w1 ⟨rfl, hw⟩
        rw [g0]
        subst hw
        go_wp2_with fail
        refine (cntB_any n _).mono ?_
        rintro r w1 ⟨rfl, hw⟩
        rw [g1]
        subst hw
        go_wp2_with fail
        refine (datB_any data _).mono ?_
        rintro r w1 ⟨rfl, hw⟩
        rw [g2]
        subst hw
        go_wp2_with fail
        go_ret
        exact ⟨rfl, below_allocW _ _⟩

set_option maxHeartbeats 2000000 in
theorem kindOk_4 (e : Int) (n : Int) (w : World) :
    Calls Tryd.prog 33 #[.iface 71 (.agg #[.int .i64 e, .int .i64 n])] w fun r w' => r = .returned (.bool (edB e && cntB n)) ∧ Below w.heap.size w w' := by
  have ta1 : ∀ w : World, (Instr.typeAssert (.iface 71 (.agg #[.int .i64 e, .int .i64 n])) 55 65 true).run Tryd.prog w = .ok (.tuple #[.agg #[.int .i64 0, .string ⟨#[]⟩], .bool false]) w := fun _ => by kernel_rfl
  have ta2 : ∀ w : World, (Instr.typeAssert (.iface 71 (.agg #[.int .i64 e, .int .i64 n])) 55 67 true).run Tryd.prog w = .ok (.tuple #[.agg #[.int .i64 0, .string ⟨#[]⟩], .bool false]) w := fun _ => by kernel_rfl
  have ta3 : ∀ w : World, (Instr.typeAssert (.iface 71 (.agg #[.int .i64 e, .int .i64 n])) 55 69 true).run Tryd.prog w = .ok (.tuple #[.agg #[.int .i64 0, .int .i64 0, .string ⟨#[]⟩], .bool false]) w := fun _ => by kernel_rfl
  have ta4 : ∀ w : World, (Instr.typeAssert (.iface 71 (.agg #[.int .i64 e, .int .i64 n])) 55 71 true).run Tryd.prog w = .ok (.tuple #[.agg #[.int .i64 e, .int .i64 n], .bool true]) w := fun _ => by kernel_rfl
  cases g0 : edB e with
  | false =>
    go_enter Tryd.func33, Tryd.ntmps33
    go_wp2_with fail
    refine (edB_any e _).mono ?_
    rintro r w1 ⟨rfl, hw⟩
    rw [g0]
    subst hw
    go_wp2_with fail
    go_ret
    exact ⟨rfl, below_allocW _ _⟩
  | true =>
    cases g1 : cntB n with
    | false =>
      go_enter Tryd.func33, Tryd.ntmps33
      go_wp2_with fail
      refine (edB_any e _).mono ?_
      rintro r w1 ⟨rfl, hw⟩
      rw [g0]
      subst hw
      go_wp2_with fail
      refine (cntB_any n _).mono ?_
      rintro r w1 ⟨rfl, hw⟩
      rw [g1]
      subst hw
      go_wp2_with fail
      go_ret
      exact ⟨rfl, below_allocW _ _⟩
    | true =>
      go_enter Tryd.func33, Tryd.ntmps33
      go_wp2_with fail
      refine (edB_any e _).mono ?_
      rintro r w1 ⟨rfl, hw⟩
      rw [g0]
      subst hw
      go_wp2_with fail
      refine (cntB_any n _).mono ?_
      rintro r w1 ⟨rfl, hw⟩
      rw [g1]
      subst hw
      go_wp2_with fail
      go_ret
      exact ⟨rfl, below_allocW _ _⟩

set_option maxHeartbeats 2000000 in
theorem kindOk_5 (e : Int) (n : Int) (w : World) :
    Calls Tryd.prog 33 #[.iface 72 (.agg #[.int .i64 e, .int .i64 n])] w fun r w' => r = .returned (.bool (edB e && cntB n)) ∧ Below w.heap.size w w' := by
  have ta1 : ∀ w : World, (Instr.typeAssert (.iface 72 (.agg #[.int .i64 e, .int .i64 n])) 55 65 true).run Tryd.prog w = .ok (.tuple #[.agg #[.int .i64 0, .string ⟨#[]⟩], .bool false]) w := fun _ => by kernel_rfl
  have ta2 : ∀ w : World, (Instr.typeAssert (.iface 72 (.agg #[.int .i64 e, .int .i64 n])) 55 67 true).run Tryd.prog w = .ok (.tuple #[.agg #[.int .i64 0, .string ⟨#[]⟩], .bool false]) w := fun _ => by kernel_rfl
  have ta3 : ∀ w : World, (Instr.typeAssert (.iface 72 (.agg #[.int .i64 e, .int .i64 n])) 55 69 true).run Tryd.prog w = .ok (.tuple #[.agg #[.int .i64 0, .int .i64 0, .string ⟨#[]⟩], .bool false]) w := fun _ => by kernel_rfl
  have ta4 : ∀ w : World, (Instr.typeAssert (.iface 72 (.agg #[.int .i64 e, .int .i64 n])) 55 71 true).run Tryd.prog w = .ok (.tuple #[.agg #[.int .i64 0, .int .i64 0], .bool false]) w := fun _ => by kernel_rfl
  have ta5 : ∀ w : World, (Instr.typeAssert (.iface 72 (.agg #[.int .i64 e, .int .i64 n])) 55 72 true).run Tryd.prog w = .ok (.tuple #[.agg #[.int .i64 e, .int .i64 n], .bool true]) w := fun _ => by kernel_rfl
  cases g0 : edB e with
  | false =>
    go_enter Tryd.func33, Tryd.ntmps33
    go_wp2_with fail
    refine (edB_any e _).mono ?_
    rintro r w1 ⟨rfl, hw⟩
    rw [g0]
    subst hw
    go_wp2_with fail
    go_ret
    exact ⟨rfl, below_allocW _ _⟩
  | true =>
    cases g1 : cntB n with
    | false =>
      go_enter Tryd.func33, Tryd.ntmps33
      go_wp2_with fail
      refine (edB_any e _).mono ?_
      rintro r w1 ⟨rfl, hw⟩
      rw [g0]
      subst hw
      go_wp2_with fail
      refine (cntB_any n _).mono ?_
      rintro r w1 ⟨rfl, hw⟩
      rw [g1]
      subst hw
      go_wp2_with fail
      go_ret
      exact ⟨rfl, below_allocW _ _⟩
    | true =>
      go_enter Tryd.func33, Tryd.ntmps33
      go_wp2_with fail
      refine (edB_any e _).mono ?_
      rintro r w1 ⟨rfl, hw⟩
      rw [g0]
      subst hw
      go_wp2_with fail
      refine (cntB_any n _).mono ?_
      rintro r w1 ⟨rfl, hw⟩
      rw [g1]
      subst hw
      go_wp2_with fail
      go_ret
      exact ⟨rfl, below_allocW _ _⟩

set_option maxHeartbeats 2000000 in
theorem kindOk_6 (e : Int) (w : World) :
    Calls Tryd.prog 33 #[.iface 74 (.agg #[.int .i64 e])] w fun r w' => r = .returned (.bool (cntB e)) ∧ Below w.heap.size w w' := by
  have ta1 : ∀ w : World, (Instr.typeAssert (.iface 74 (.agg #[.int .i64 e])) 55 65 true).run Tryd.prog w = .ok (.tuple #[.agg #[.int .i64 0, .string ⟨#[]⟩], .bool false]) w := fun _ => by kernel_rfl
  have ta2 : ∀ w : World, (Instr.typeAssert (.iface 74 (.agg #[.int .i64 e])) 55 67 true).run Tryd.prog w = .ok (.tuple #[.agg #[.int .i64 0, .string ⟨#[]⟩], .bool false]) w := fun _ => by kernel_rfl
  have ta3 : ∀ w : World, (Instr.typeAssert (.iface 74 (.agg #[.int .i64 e])) 55 69 true).run Tryd.prog w = .ok (.tuple #[.agg #[.int .i64 0, .int .i64 0, .string ⟨#[]⟩], .bool false]) w := fun _ => by kernel_rfl
  have ta4 : ∀ w : World, (Instr.typeAssert (.iface 74 (.agg #[.int .i64 e])) 55 71 true).run Tryd.prog w = .ok (.tuple #[.agg #[.int .i64 0, .int .i64 0], .bool false]) w := fun _ => by kernel_rfl
  have ta5 : ∀ w : World, (Instr.typeAssert (.iface 74 (.agg #[.int .i64 e])) 55 72 true).run Tryd.prog w = .ok (.tuple #[.agg #[.int .i64 0, .int .i64 0], .bool false]) w := fun _ => by kernel_rfl
  have ta6 : ∀ w : World, (Instr.typeAssert (.iface 74 (.agg #[.int .i64 e])) 55 74 true).run Tryd.prog w = .ok (.tuple #[.agg #[.int .i64 e], .bool true]) w := fun _ => by kernel_rfl
  cases g0 : cntB e with
  | false =>
    go_enter Tryd.func33, Tryd.ntmps33
    go_wp2_with fail
    refine (cntB_any e _).mono ?_
    rintro r w1 ⟨rfl, hw⟩
    rw [g0]
    subst hw
    go_wp2_with fail
    go_ret
    exact ⟨rfl, below_allocW _ _⟩
  | true =>
    go_enter Tryd.func33, Tryd.ntmps33
    go_wp2_with fail
    refine (cntB_any e _).mono ?_
    rintro r w1 ⟨rfl, hw⟩
    rw [g0]
    subst hw
    go_wp2_with fail
    go_ret
    exact ⟨rfl, below_allocW _ _⟩
end Go.Proofs.YtpalcgelcnlhbaaDoor
