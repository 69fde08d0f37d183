/- Frames that are ok, by the model and by the program. -/
import Derived.Test.YtnfjplmpaeiagaaFrm
import Derived.Test.YtnfjplmpaeiagaaIn
import Derived.Laws.StructEq
import Derived.Laws.Closers25b
namespace Go.Proofs.Ytnfjplmpaeiagaa
open Go.ChangeShapes Go.WideShapes Go.ChangeAt Go.RowKit Go.Sort

/-- House, edition and block of a frame that is not empty. -/
def blkP (f : Fr) : Prop := (0 ≤ f.h ∧ f.h ≤ 1) ∧ (1 ≤ f.e ∧ f.e ≤ 99999) ∧ 0 ≤ f.b ∧ f.b ≤ 23
def frP (f : Fr) : Prop := if f.e = 0 then f = Fr.no else blkP f ∧ 0 ≤ f.d ∧ f.d ≤ 99999
instance (f : Fr) : Decidable (blkP f) := by unfold blkP; infer_instance
instance (f : Fr) : Decidable (frP f) := by unfold frP; infer_instance

theorem held_frame : Try.prog.stoodInHeld 45 = false := by kernel_rfl
theorem fields_frame : Try.prog.underlying 45 = some (.struct (Try.prog.fieldsOf 45)) := by kernel_rfl

theorem run_eq_frame0 (f : Fr) (w : World) :
    (binOp .eql 45 (.agg #[.int .i64 f.h, .int .i64 f.e, .int .i64 f.b, .int .i64 f.d, .bool f.u]) (.agg #[.int .i64 0, .int .i64 0, .int .i64 0, .int .i64 0, .bool false])).run Try.prog w = .ok (.bool (decide (f = Fr.no))) w := by
  rw [run_eql_struct, run_equalIn_agg _ _ _ _ _ fields_frame held_frame]
  simp only [Program.fieldsOf, Try.underlying45, Op.eqFields]
  obtain ⟨h, e, b, d, u⟩ := f
  simp [go_sem, Try.underlying3, Try.underlying4, Fr.no]
  by_cases h1 : h = 0
  · by_cases h2 : e = 0
    · by_cases h3 : b = 0
      · by_cases h4 : d = 0
        · cases u <;> simp [h1, h2, h3, h4]
        · simp [h1, h2, h3, h4]
      · simp [h1, h2, h3]
    · simp [h1, h2]
  · simp [h1]

set_option maxHeartbeats 1000000 in
theorem l10Ok_any (f : Fr) (w : World) :
    Calls Try.prog 25 #[.agg #[.int .i64 f.h, .int .i64 f.e, .int .i64 f.b, .int .i64 f.d, .bool f.u]] w fun e w' => e = .returned (.bool (decide (frP f))) ∧ Below w.heap.size w w' := by
  by_cases he : f.e = 0
  · have hE := run_eq_frame0 f
    have HD := hid (show decide (frP f) = decide (f = Fr.no) by unfold frP; simp [he])
    rw [HD.out]
    generalize decide (f = Fr.no) = t at hE ⊢
    clear HD
    obtain ⟨h, e, b, d, u⟩ := f
    dsimp only at he hE ⊢
    subst he
    go_enter Try.func25, Try.ntmps25
    go_wp2
    go_ret
    exact ⟨rfl, u_b1 _ _⟩
  · have HN := hid (show frP f ↔ blkP f ∧ 0 ≤ f.d ∧ f.d ≤ 99999 by unfold frP; rw [if_neg he])
    by_cases hp : frP f
    · obtain ⟨⟨h1, h2, h3⟩, h4⟩ := HN.out.1 hp
      have HD := hid (decide_eq_true hp)
      rw [HD.out]
      go_enter Try.func25, Try.ntmps25
      go_wp2_with (go_at_call 24; refine (l1In_yes _ _ _ _ (by first | exact h1 | exact h2 | exact h3 | exact h4)).mono ?_; rintro e w' ⟨rfl, rfl⟩)
      go_ret
      exact ⟨rfl, u_b1 _ _⟩
    · have HD := hid (decide_eq_false hp)
      rw [HD.out]
      have K : (f.h < 0 ∨ 1 < f.h) ∨ ((0 ≤ f.h ∧ f.h ≤ 1) ∧ (f.e < 1 ∨ 99999 < f.e)) ∨ ((0 ≤ f.h ∧ f.h ≤ 1) ∧ (1 ≤ f.e ∧ f.e ≤ 99999) ∧ (f.b < 0 ∨ 23 < f.b)) ∨ ((0 ≤ f.h ∧ f.h ≤ 1) ∧ (1 ≤ f.e ∧ f.e ≤ 99999) ∧ (0 ≤ f.b ∧ f.b ≤ 23) ∧ (f.d < 0 ∨ 99999 < f.d)) := by
        have := HN.out
        unfold blkP at this
        by_cases a1 : 0 ≤ f.h ∧ f.h ≤ 1
        · by_cases a2 : 1 ≤ f.e ∧ f.e ≤ 99999
          · by_cases a3 : 0 ≤ f.b ∧ f.b ≤ 23
            · by_cases a4 : 0 ≤ f.d ∧ f.d ≤ 99999
              · exact absurd (this.2 ⟨⟨a1, a2, a3⟩, a4⟩) hp
              · omega
            · omega
          · omega
        · omega
      clear hp
      rcases K with K | ⟨K1, K⟩ | ⟨K1, K2, K⟩ | ⟨K1, K2, K3, K⟩
      all_goals
        go_enter Try.func25, Try.ntmps25
        go_wp2_with (first
          | (go_at_call 24; refine (l1In_yes _ _ _ _ (by first | exact K1 | exact K2 | exact K3)).mono ?_; rintro e w' ⟨rfl, rfl⟩)
          | (go_at_call 24; refine (l1In_no _ _ _ _ (by exact K)).mono ?_; rintro e w' ⟨rfl, rfl⟩))
        go_ret
        exact ⟨rfl, u_b1 _ _⟩
end Go.Proofs.Ytnfjplmpaeiagaa
