/- A frame taken of a pool by the program. -/
import Derived.Test.YtnfjplmpaeiagaaPtH
import Derived.Test.YtnfjplmpaeiagaaNdL
import Derived.Test.YtnfjplmpaeiagaaPlE
namespace Go.Proofs.Ytnfjplmpaeiagaa
open Go.ChangeShapes Go.WideShapes Go.ChangeAt Go.RowKit Go.Sort Go.Shelf
attribute [local go_sem] Oper.semAt_some

set_option maxHeartbeats 1000000 in
theorem implPoolTake_no (a : Option Addr) (cap : Nat) (fs : List Fr) (hand h e b : Int) (w : World) (ha : FrsAt w a fs) (hx : fs.length ≤ 1048576) (hp : ¬ poolP fs hand) :
    Calls Try.prog 14 #[.agg #[.slice a fs.length cap, .int .i64 hand], .int .i64 h, .int .i64 e, .int .i64 b] w fun r w' => ∃ v, r = .returned (.tuple #[v, .int .i64 0, .int .i64 3]) ∧ PoolO w w' [] 0 v := by
  have HA := hid ha
  have HP := hid hp
  clear hp ha
  go_enter Try.func14, Try.ntmps14
  go_wp2_with fail
  refine (ringNot a cap fs hand _ (HA.out.below (u_b2 _ _ _)) hx HP.out).mono ?_
  rintro _ w1 ⟨x, y, rfl, b1⟩
  obtain ⟨-, R1, B1⟩ := u_box2 b1
  have HR := hid (kept R1 (u_b1 w1 (.cells #[.pointer x, .pointer y] 49)))
  have HB := hid (u_catn B1 (Nat.le_refl _) (u_b1 w1 (.cells #[.pointer x, .pointer y] 49)))
  have r0 := box_cell HR.out 0 (v := .slice none 0 0) rfl
  have r1 := box_cell HR.out 1 (v := .int .i64 0) rfl
  have z0 := box_frozen HR.out
  have X5 := hid (set_block (set_block HR.out 0 (.slice none 0 0)) 1 (.int .i64 0))
  have x0 := box_cell X5.out 0 (v := .slice none 0 0) rfl
  have x1 := box_cell X5.out 1 (v := .int .i64 0) rfl
  clear b1 R1 B1
  go_wp2_with fail
  refine bodyPost_ret (v := .tuple #[.agg #[.slice none 0 0, .int .i64 0], .int .i64 0, .int .i64 3]) ?_ rfl ⟨_, rfl, none, 0, rfl, ⟨rfl, .inl ⟨rfl, rfl⟩⟩, ?_⟩
  · simp [results, Try.results14, go_sem, x0, x1]
  · refine u_set (u_set HB.out ?_ _ _) ?_ _ _ <;> omega

set_option maxHeartbeats 4000000 in
theorem implPoolTake_yes (a : Option Addr) (cap : Nat) (fs : List Fr) (m : Nat) (h e b : Int) (w : World) (ha : FrsAt w a fs) (hp : poolP fs m) (hd : ∀ f ∈ fs, 0 ≤ f.d ∧ f.d ≤ 99999) (r : List Fr × Nat × Nat × Int) (hr : r = if blkP ⟨h, e, b, 0, false⟩ then takeR m fs ⟨h, e, b, 0, false⟩ else (fs, m, 0, 3)) (hr8 : r.1.length = 8) (hrm : r.2.1 < 8) :
    Calls Try.prog 14 #[.agg #[.slice a fs.length cap, .int .i64 m], .int .i64 h, .int .i64 e, .int .i64 b] w fun x w' => ∃ v, x = .returned (.tuple #[v, .int .i64 r.2.2.1, .int .i64 r.2.2.2]) ∧ PoolO w w' r.1 r.2.1 v := by
  have h8 := hp.1
  have hm : m < 8 := by have := hp.2.1; omega
  have D := hid (show decide (framesP fs ∧ housesP fs) = true from decide_eq_true hp.2.2)
  have HA := hid ha
  have HD := hid hd
  have HR0 := hid hr
  rw [h8]
  clear ha hp hd hr
  go_enter Try.func14, Try.ntmps14
  go_wp2_with fail
  refine (ringOf_in a cap fs m _ (HA.out.below (u_b2 _ _ _)) h8 hm).mono ?_
  rw [D.out]
  rintro _ w1 ⟨g, rfl, N1, b1⟩
  simp only [World.size_alloc] at N1
  obtain ⟨-, R1, B1⟩ := u_box2 b1
  have hgz := N1.lt
  have hz1 := b1.size
  simp at hz1
  have L1 := u_b2 w1 (.cells #[.pointer (some ⟨g, 0, none⟩), .pointer (some ⟨g, m * 7, none⟩)] 49) (.cells #[.int .i64 h, .int .i64 e, .int .i64 b, .int .i64 0, .bool false] 45)
  have HX := hid (show ((w1.alloc (.cells #[.pointer (some ⟨g, 0, none⟩), .pointer (some ⟨g, m * 7, none⟩)] 49)).alloc (.cells #[.int .i64 h, .int .i64 e, .int .i64 b, .int .i64 0, .bool false] 45)).heap[w1.heap.size]? = some (.cells #[.pointer (some ⟨g, 0, none⟩), .pointer (some ⟨g, m * 7, none⟩)] 49 (0, 0)) by rw [Below.heap_alloc _ _ _ (by simp)]; exact laid _ _ _)
  have HY := hid (show ((w1.alloc (.cells #[.pointer (some ⟨g, 0, none⟩), .pointer (some ⟨g, m * 7, none⟩)] 49)).alloc (.cells #[.int .i64 h, .int .i64 e, .int .i64 b, .int .i64 0, .bool false] 45)).heap[w1.heap.size + 1]? = some (.cells #[.int .i64 h, .int .i64 e, .int .i64 b, .int .i64 0, .bool false] 45 (0, 0)) from u_laid _ _ _ (by simp))
  have HR := hid (kept R1 L1)
  have HN := hid (N1.below L1 N1.lt.2)
  have HB := hid (u_catn B1 (Nat.le_refl _) L1)
  clear b1 R1 B1 N1 L1
  go_wp2_with fail
  refine (blockOk_any ⟨h, e, b, 0, false⟩ _).mono ?_
  rintro _ w2 ⟨rfl, b2⟩
  have HX := hid (kept HX.out b2)
  have HY := hid (kept HY.out b2)
  have HR := hid (kept HR.out b2)
  have HN := hid (HN.out.below b2 HN.out.lt.2)
  have HB := hid (u_catn HB.out (Nat.le_refl _) b2)
  have hr2 := lt_of_block HR.out
  clear b2
  by_cases hk : blkP ⟨h, e, b, 0, false⟩
  · have hr : r = takeR m fs ⟨h, e, b, 0, false⟩ := by rw [HR0.out, if_pos hk]
    rw [decide_eq_true hk]
    clear HR0 hk
    have T := take_any g _ w1.heap.size m fs ⟨h, e, b, 0, false⟩ w2 HD.out HN.out HX.out hm (by omega) (by omega)
    rw [← hr] at T
    have T := hid T
    have y0 := box_cell HY.out 0 (v := .int .i64 h) rfl
    have y1 := box_cell HY.out 1 (v := .int .i64 e) rfl
    have y2 := box_cell HY.out 2 (v := .int .i64 b) rfl
    have y3 := box_cell HY.out 3 (v := .int .i64 0) rfl
    have y4 := box_cell HY.out 4 (v := .bool false) rfl
    clear hr
    go_wp2_with fail
    refine T.out.mono ?_
    rintro _ w3 ⟨rfl, o1, o2, o3⟩
    have HN := hid o1
    have HX := hid o2
    have HR := hid ((o3.block _ (by omega)).trans HR.out)
    have HB := hid (HB.out.trans (o3.mono (by omega)))
    have hs3 := o3.size
    clear T o1 o2 o3 y0 y1 y2 y3 y4 HY
    have q0 := box_cell HX.out 0 (v := .pointer (some ⟨g, 0, none⟩)) rfl
    have q1 := box_cell HX.out 1 (v := .pointer (some ⟨g, r.2.1 * 7, none⟩)) rfl
    go_wp2_with fail
    refine (pool_any g _ r.2.1 r.1 _ HN.out hrm).mono ?_
    rintro _ w5 ⟨b', d, rfl, o5, b5⟩
    have R5 := hid (kept HR.out b5)
    have p0 := box_cell R5.out 0 (v := .slice none 0 0) rfl
    have p1 := box_cell R5.out 1 (v := .int .i64 0) rfl
    have z0 := box_frozen R5.out
    have X5 := hid (set_block (set_block R5.out 0 (.slice b' 8 d)) 1 (.int .i64 r.2.1))
    have x0 := box_cell X5.out 0 (v := .slice b' 8 d) rfl
    have x1 := box_cell X5.out 1 (v := .int .i64 r.2.1) rfl
    have B5 := hid (u_catn HB.out (Nat.le_refl _) b5)
    have hs5 := b5.size
    have O5 := hid o5
    clear b5 o5 q0 q1
    go_wp2
    refine bodyPost_ret (v := .tuple #[.agg #[.slice b' 8 d, .int .i64 r.2.1], .int .i64 r.2.2.1, .int .i64 r.2.2.2]) ?_ rfl ⟨_, rfl, b', d, by rw [hr8], ?_, ?_⟩
    · simp [results, Try.results14, go_sem, x0, x1]
    · rw [hr8]
      have hw := HB.out.size
      exact owns_base (Touch.owns (Touch.setCell _ _ _) (Touch.owns (Touch.setCell _ _ _) O5.out (by simp only []; omega)) (by simp only []; omega)) hw
    · refine u_set (u_set B5.out ?_ _ _) ?_ _ _ <;> omega
  · obtain rfl : r = (fs, m, 0, 3) := by rw [HR0.out, if_neg hk]
    rw [decide_eq_false hk]
    clear HR0 hk HY
    have q0 := box_cell HX.out 0 (v := .pointer (some ⟨g, 0, none⟩)) rfl
    have q1 := box_cell HX.out 1 (v := .pointer (some ⟨g, m * 7, none⟩)) rfl
    go_wp2_with fail
    refine (pool_any g _ m fs _ HN.out hm).mono ?_
    rintro _ w5 ⟨b', d, rfl, o5, b5⟩
    have R5 := hid (kept HR.out b5)
    have p0 := box_cell R5.out 0 (v := .slice none 0 0) rfl
    have p1 := box_cell R5.out 1 (v := .int .i64 0) rfl
    have z0 := box_frozen R5.out
    have X5 := hid (set_block (set_block R5.out 0 (.slice b' 8 d)) 1 (.int .i64 m))
    have x0 := box_cell X5.out 0 (v := .slice b' 8 d) rfl
    have x1 := box_cell X5.out 1 (v := .int .i64 m) rfl
    have B5 := hid (u_catn HB.out (Nat.le_refl _) b5)
    have hs5 := b5.size
    have O5 := hid o5
    clear b5 o5 q0 q1
    go_wp2
    refine bodyPost_ret (v := .tuple #[.agg #[.slice b' 8 d, .int .i64 m], .int .i64 0, .int .i64 3]) ?_ rfl ⟨_, rfl, b', d, by rw [hr8], ?_, ?_⟩
    · simp [results, Try.results14, go_sem, x0, x1]
    · rw [hr8]
      have hw := HB.out.size
      exact owns_base (Touch.owns (Touch.setCell _ _ _) (Touch.owns (Touch.setCell _ _ _) O5.out (by simp only []; omega)) (by simp only []; omega)) hw
    · refine u_set (u_set B5.out ?_ _ _) ?_ _ _ <;> omega
end Go.Proofs.Ytnfjplmpaeiagaa
