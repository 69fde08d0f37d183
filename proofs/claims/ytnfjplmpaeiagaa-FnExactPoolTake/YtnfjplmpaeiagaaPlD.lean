/- Editions dropped, by the model and by the program. -/
import Derived.Test.YtnfjplmpaeiagaaPlC
import Derived.Test.YtnfjplmpaeiagaaNdL
namespace Go.Proofs.Ytnfjplmpaeiagaa
open Go.ChangeShapes Go.WideShapes Go.ChangeAt Go.RowKit Go.Sort Go.Shelf
attribute [local go_sem] Oper.semAt_some

/-- A pool that was handed out, in memory of its own. -/
def PoolO (w w' : World) (fs : List Fr) (hand : Int) (v : Value) : Prop :=
  ∃ b d, v = .agg #[.slice b fs.length d, .int .i64 hand] ∧ w'.ownsRow w.heap.size 45 5 (.slice b fs.length d) fs.length (frCells fs) ∧ Below w.heap.size w w'

set_option maxHeartbeats 1000000 in
theorem specPoolDrop_yes (a : Option Addr) (cap : Nat) (fs : List Fr) (hand ed : Int) (w : World) (ha : FrsAt w a fs) (hp : poolP fs hand) :
    Calls Try.prog 19 #[.agg #[.slice a fs.length cap, .int .i64 hand], .int .i64 ed] w fun e w' => ∃ v, e = .returned v ∧ PoolO w w' (fs.map (dropF ed)) hand v := by
  have h8 := hp.1
  obtain ⟨b, off, rfl, hc⟩ := ha (by intro h; simp [h] at h8)
  have HP := hid hp
  have HA := hid ha
  have HC := hid hc
  have H8 := hid h8
  have D := hid (decide_eq_true hp)
  have K0 := hid (specPoolOk_any (some ⟨b, off, none⟩) cap fs hand)
  rw [h8] at K0 ⊢
  clear hp ha hc h8
  go_enter Try.func19, Try.ntmps19
  go_wp2_with fail
  refine (K0.out _ (HA.out.below (u_b2 _ _ _)) (by omega)).mono ?_
  rw [D.out]
  rintro e w1 ⟨rfl, b1⟩
  obtain ⟨P1, R1, B1⟩ := u_box2 b1
  have HR := hid R1
  have HB := hid B1
  have q0 := box_cell P1 0 (v := .slice (some ⟨b, off, none⟩) 8 cap) rfl
  have q1 := box_cell P1 1 (v := .int .i64 hand) rfl
  clear b1 P1 R1 B1
  go_wp2_with fail
  refine (l10Drop_in b off cap fs hand ed _ (fun k f hk => (HC.out k f hk).below HB.out (block_lt_of_cell (HC.out k f hk).c0)) H8.out).mono ?_
  rintro e w2 ⟨q, d, rfl, o2, b2⟩
  have R2 := hid (kept HR.out b2)
  have B2 := hid (u_cat HB.out b2)
  have O2 := hid o2
  have r0 := box_cell R2.out 0 (v := .slice none 0 0) rfl
  have r1 := box_cell R2.out 1 (v := .int .i64 0) rfl
  have z0 := box_frozen R2.out
  have hlt := lt_of_block HR.out
  have X5 := hid (set_block (set_block R2.out 0 (.slice (some ⟨q, 0, none⟩) 8 d)) 1 (.int .i64 hand))
  have x0 := box_cell X5.out 0 (v := .slice (some ⟨q, 0, none⟩) 8 d) rfl
  have x1 := box_cell X5.out 1 (v := .int .i64 hand) rfl
  clear b2 o2 q0 q1
  go_wp2_with fail
  refine bodyPost_ret (v := .agg #[.slice (some ⟨q, 0, none⟩) 8 d, .int .i64 hand]) ?_ rfl ⟨_, rfl, some ⟨q, 0, none⟩, d, by rw [List.length_map, H8.out], ?_, ?_⟩
  · simp [results, Try.results19, go_sem, x0, x1]
  · rw [List.length_map, H8.out]
    refine owns_base (base := w1.heap.size) ?_ (by omega)
    refine Touch.owns (Touch.setCell _ _ _) (Touch.owns (Touch.setCell _ _ _) O2.out ?_) ?_ <;> (simp only []; omega)
  · refine u_set (u_set B2.out ?_ _ _) ?_ _ _ <;> omega
set_option maxHeartbeats 1000000 in
theorem specPoolDrop_no (a : Option Addr) (cap : Nat) (fs : List Fr) (hand ed : Int) (w : World) (ha : FrsAt w a fs) (hx : fs.length ≤ 1048576) (hp : ¬ poolP fs hand) :
    Calls Try.prog 19 #[.agg #[.slice a fs.length cap, .int .i64 hand], .int .i64 ed] w fun e w' => ∃ v, e = .returned v ∧ PoolO w w' [] 0 v := by
  have HA := hid ha
  have D := hid (decide_eq_false hp)
  clear hp ha
  go_enter Try.func19, Try.ntmps19
  go_wp2_with fail
  refine (specPoolOk_any a cap fs hand _ (HA.out.below (u_b2 _ _ _)) hx).mono ?_
  rw [D.out]
  rintro e w1 ⟨rfl, b1⟩
  obtain ⟨P1, R1, B1⟩ := u_box2 b1
  have HB := hid B1
  have r0 := box_cell R1 0 (v := .slice none 0 0) rfl
  have r1 := box_cell R1 1 (v := .int .i64 0) rfl
  have z0 := box_frozen R1
  have X5 := hid (set_block (set_block R1 0 (.slice none 0 0)) 1 (.int .i64 0))
  have x0 := box_cell X5.out 0 (v := .slice none 0 0) rfl
  have x1 := box_cell X5.out 1 (v := .int .i64 0) rfl
  clear b1 P1 R1 B1
  go_wp2_with fail
  refine bodyPost_ret (v := .agg #[.slice none 0 0, .int .i64 0]) ?_ rfl ⟨_, rfl, none, 0, rfl, ⟨rfl, .inl ⟨rfl, rfl⟩⟩, ?_⟩
  · simp [results, Try.results19, go_sem, x0, x1]
  · refine u_set (u_set HB.out ?_ _ _) ?_ _ _ <;> omega
/-- The ring of what is no pool. -/
theorem ringNot (a : Option Addr) (cap : Nat) (fs : List Fr) (hand : Int) (w : World) (ha : FrsAt w a fs) (hx : fs.length ≤ 1048576) (hp : ¬ poolP fs hand) :
    Calls Try.prog 28 #[.agg #[.slice a fs.length cap, .int .i64 hand]] w fun e w' => ∃ x y, e = .returned (.tuple #[.agg #[.pointer x, .pointer y], .bool false]) ∧ Below w.heap.size w w' := by
  by_cases h : fs.length = 8 ∧ 0 ≤ hand ∧ hand < 8
  · obtain ⟨h8, h1, h2⟩ := h
    obtain ⟨m, rfl⟩ : ∃ m : Nat, hand = m := ⟨hand.toNat, by omega⟩
    have hn : ¬ (framesP fs ∧ housesP fs) := fun h => hp ⟨h8, ⟨h1, h2⟩, h⟩
    rw [h8]
    refine (ringOf_in a cap fs m w ha h8 (by omega)).mono ?_
    rintro e w' ⟨g, rfl, -, hb⟩
    exact ⟨_, _, by rw [decide_eq_false hn], hb⟩
  · refine (ringOf_out a fs.length cap hand w hx h).mono ?_
    rintro e w' ⟨rfl, hb⟩
    exact ⟨_, _, rfl, hb⟩
set_option maxHeartbeats 1000000 in
theorem implPoolDrop_no (a : Option Addr) (cap : Nat) (fs : List Fr) (hand ed : Int) (w : World) (ha : FrsAt w a fs) (hx : fs.length ≤ 1048576) (hp : ¬ poolP fs hand) :
    Calls Try.prog 20 #[.agg #[.slice a fs.length cap, .int .i64 hand], .int .i64 ed] w fun e w' => ∃ v, e = .returned v ∧ PoolO w w' [] 0 v := by
  have HA := hid ha
  have HX := hid hx
  have HP := hid hp
  clear hp ha
  go_enter Try.func20, Try.ntmps20
  go_wp2_with fail
  refine (ringNot a cap fs hand _ (HA.out.below (u_b3 _ _ _ _)) hx HP.out).mono ?_
  rintro e w1 ⟨x, y, rfl, b1⟩
  obtain ⟨-, -, R1, B1⟩ := u_box3 b1
  have HR := hid (kept R1 (u_b1 w1 (.cells #[.pointer x, .pointer y] 49)))
  have HB := hid (u_catn B1 (Nat.le_refl _) (u_b1 w1 (.cells #[.pointer x, .pointer y] 49)))
  have r0 := box_cell HR.out 0 (v := .slice none 0 0) rfl
  have r1 := box_cell HR.out 1 (v := .int .i64 0) rfl
  have z0 := box_frozen HR.out
  have X5 := hid (set_block (set_block HR.out 0 (.slice none 0 0)) 1 (.int .i64 0))
  have x0 := box_cell X5.out 0 (v := .slice none 0 0) rfl
  have x1 := box_cell X5.out 1 (v := .int .i64 0) rfl
  clear b1 R1 B1
  go_wp2_with fail
  refine bodyPost_ret (v := .agg #[.slice none 0 0, .int .i64 0]) ?_ rfl ⟨_, rfl, none, 0, rfl, ⟨rfl, .inl ⟨rfl, rfl⟩⟩, ?_⟩
  · simp [results, Try.results20, go_sem, x0, x1]
  · refine u_set (u_set HB.out ?_ _ _) ?_ _ _ <;> omega
end Go.Proofs.Ytnfjplmpaeiagaa
