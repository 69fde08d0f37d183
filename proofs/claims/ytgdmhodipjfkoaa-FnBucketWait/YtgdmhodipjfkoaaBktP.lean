/- Buckets: what comes up to a tick, and what is taken out, in place. -/
import Derived.Test.YtgdmhodipjfkoaaBkt
namespace Go.Proofs.Ytgdmhodipjfkoaa
open Go.ChangeShapes Go.WideShapes Go.ChangeAt Go.RowKit Go.Sort

/-- A bucket's cells. -/
def bktC (lv mo ra at' : Int) : Array Value := #[.int .i64 lv, .int .i64 mo, .int .i64 ra, .int .i64 at']

theorem mul_bound {a b : Int} (h1 : 0 ≤ a) (h2 : a ≤ 99999) (h3 : 0 ≤ b) (h4 : b ≤ 99999) : 0 ≤ a * b ∧ a * b ≤ 9999800001 := by
  refine ⟨Int.mul_nonneg h1 h3, ?_⟩
  have := Int.mul_le_mul h2 h4 h3 (by omega : (0 : Int) ≤ 99999)
  omega

theorem pour_end {w : World} {g : Nat} {lv mo ra at' now x y : Int} (h : w.heap[g]? = some (.cells #[.int .i64 lv, .int .i64 mo, .int .i64 ra, .int .i64 at'] 24 (0, 0))) (hx : x = y) :
    ((w.setCell ⟨g, 0, none⟩ (.int .i64 x)).setCell ⟨g, 3, none⟩ (.int .i64 now)).drew.heap[g]? = some (.cells #[.int .i64 y, .int .i64 mo, .int .i64 ra, .int .i64 now] 24 (0, 0)) ∧ Touch g w ((w.setCell ⟨g, 0, none⟩ (.int .i64 x)).setCell ⟨g, 3, none⟩ (.int .i64 now)).drew := by
  subst hx
  refine ⟨set_block (set_block h 0 _) 3 _, rfl, rfl, rfl, by show (World.setCell _ _ _).heap.size = _; simp [World.setCell], fun k hk => ?_⟩
  exact (Below.heap_setCell _ ⟨g, 3, none⟩ _ k hk).trans (Below.heap_setCell _ ⟨g, 0, none⟩ _ k hk)
theorem min_cases (lv ra now at' mo : Int) : (lv + ra * (now - at') ≤ mo ∧ min (lv + ra * (now - at')) mo = lv + ra * (now - at')) ∨ (mo < lv + ra * (now - at') ∧ min (lv + ra * (now - at')) mo = mo) := by omega

set_option maxHeartbeats 2000000 in
theorem pour_any (g : Nat) (lv mo ra at' now : Int) (w : World) (h : w.heap[g]? = some (.cells #[.int .i64 lv, .int .i64 mo, .int .i64 ra, .int .i64 at'] 24 (0, 0))) (hb : bokP lv mo ra at') (hn : at' ≤ now) (hn' : now ≤ 99999) :
    Calls Try.prog 18 #[.pointer (some ⟨g, 0, none⟩), .int .i64 now] w fun e w' => e = .returned (.tuple #[]) ∧ w'.heap[g]? = some (.cells #[.int .i64 (min (lv + ra * (now - at')) mo), .int .i64 mo, .int .i64 ra, .int .i64 now] 24 (0, 0)) ∧ Touch g w w' := by
  obtain ⟨h1, h2, h3, h4, h5, h6, h7, h8⟩ := hb
  have c0 := box_cell h 0 (v := .int .i64 lv) rfl
  have c1 := box_cell h 1 (v := .int .i64 mo) rfl
  have c2 := box_cell h 2 (v := .int .i64 ra) rfl
  have c3 := box_cell h 3 (v := .int .i64 at') rfl
  have f0 := box_frozen h 0
  have f3 := box_frozen h 3
  have m := mul_bound (a := ra) (b := now - at') h3 h4 (by omega) (by omega)
  have w1 : IntKind.i64.wrap (now - at') = now - at' := by simp [IntKind.wrap, IntKind.bits, IntKind.signed]; omega
  have w2 : IntKind.i64.wrap (ra * (now - at')) = ra * (now - at') := by simp [IntKind.wrap, IntKind.bits, IntKind.signed]; omega
  have w3 : IntKind.i64.wrap (lv + ra * (now - at')) = lv + ra * (now - at') := by simp [IntKind.wrap, IntKind.bits, IntKind.signed]; omega
  have H := hid h
  clear h
  go_enter Try.func18, Try.ntmps18
  go_wp2_with fail
  go_region
  all_goals go_wp2
  all_goals go_end0
  all_goals refine ⟨rfl, ?_⟩
  all_goals (have e := min_cases lv ra now at' mo)
  all_goals first
    | exact pour_end H.out (by omega)
    | exact pour_end H.out (by simp_all; omega)
end Go.Proofs.Ytgdmhodipjfkoaa
