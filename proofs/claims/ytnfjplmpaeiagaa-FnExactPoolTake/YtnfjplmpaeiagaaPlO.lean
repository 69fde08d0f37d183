/- Pools that are ok, and how many frames a house has, by the program. -/
import Derived.Test.YtnfjplmpaeiagaaNdP
namespace Go.Proofs.Ytnfjplmpaeiagaa
open Go.ChangeShapes Go.WideShapes Go.ChangeAt Go.RowKit Go.Sort Go.Shelf

set_option maxHeartbeats 1000000 in
theorem implPoolOk_any (a : Option Addr) (cap : Nat) (fs : List Fr) (hand : Int) (w : World) (ha : FrsAt w a fs) (hx : fs.length ≤ 1048576) :
    Calls Try.prog 11 #[.agg #[.slice a fs.length cap, .int .i64 hand]] w fun e w' => e = .returned (.bool (decide (poolP fs hand))) ∧ Below w.heap.size w w' := by
  by_cases h : fs.length = 8 ∧ 0 ≤ hand ∧ hand < 8
  · obtain ⟨h8, h1, h2⟩ := h
    obtain ⟨m, rfl⟩ : ∃ m : Nat, hand = m := ⟨hand.toNat, by omega⟩
    have D := hid (show decide (poolP fs m) = decide (framesP fs ∧ housesP fs) from decide_eq_decide.2 ⟨fun h => h.2.2, fun h => ⟨h8, ⟨h1, h2⟩, h⟩⟩)
    have HA := hid ha
    have H8 := hid h8
    rw [h8]
    clear ha h8 hx
    go_enter Try.func11, Try.ntmps11
    go_wp2_with fail
    refine (ringOf_in a cap fs m _ (HA.out.below (u_b1 _ _)) H8.out (by omega)).mono ?_
    rintro e w1 ⟨g, rfl, -, b1⟩
    obtain ⟨-, B1⟩ := u_box b1
    have HB := hid B1
    clear b1 B1
    go_wp2_with fail
    go_ret
    exact ⟨ret_bool (by rw [D.out]; exact (Bool.decide_and _ _).symm), u_catn HB.out (Nat.le_refl _) (u_b1 _ _)⟩
  · have D := hid (show decide (poolP fs hand) = false from decide_eq_false (fun k => h ⟨k.1, k.2.1⟩))
    have K := hid h
    clear h
    go_enter Try.func11, Try.ntmps11
    go_wp2_with fail
    refine (ringOf_out a fs.length cap hand _ hx K.out).mono ?_
    rintro e w1 ⟨rfl, b1⟩
    obtain ⟨-, B1⟩ := u_box b1
    have HB := hid B1
    clear b1 B1
    go_wp2_with fail
    go_ret
    exact ⟨ret_bool D.out.symm, u_catn HB.out (Nat.le_refl _) (u_b1 _ _)⟩

/-- How many frames a house has of a pool. -/
def poolOf (fs : List Fr) (hand house : Int) : Int := if poolP fs hand then (frOf fs house : Int) else 0
set_option maxHeartbeats 1000000 in
theorem implPoolOf_any (a : Option Addr) (cap : Nat) (fs : List Fr) (hand house : Int) (w : World) (ha : FrsAt w a fs) (hx : fs.length ≤ 1048576) :
    Calls Try.prog 22 #[.agg #[.slice a fs.length cap, .int .i64 hand], .int .i64 house] w fun e w' => e = .returned (.int .i64 (poolOf fs hand house)) ∧ Below w.heap.size w w' := by
  by_cases h : fs.length = 8 ∧ 0 ≤ hand ∧ hand < 8
  · obtain ⟨h8, h1, h2⟩ := h
    obtain ⟨m, rfl⟩ : ∃ m : Nat, hand = m := ⟨hand.toNat, by omega⟩
    have D := hid (show poolP fs m ↔ (framesP fs ∧ housesP fs) from ⟨fun h => h.2.2, fun h => ⟨h8, ⟨h1, h2⟩, h⟩⟩)
    have HA := hid ha
    have H8 := hid h8
    rw [h8]
    clear ha h8 hx
    go_enter Try.func22, Try.ntmps22
    go_wp2_with fail
    refine (ringOf_in a cap fs m _ (HA.out.below (u_b1 _ _)) H8.out (by omega)).mono ?_
    rintro e w1 ⟨g, rfl, N1, b1⟩
    obtain ⟨-, B1⟩ := u_box b1
    have HB := hid B1
    have HN := hid (N1.below (u_b1 w1 (.cells #[.pointer (some ⟨g, 0, none⟩), .pointer (some ⟨g, m * 7, none⟩)] 49)) N1.lt.2)
    clear b1 B1 N1
    by_cases hp : framesP fs ∧ housesP fs
    · have hd := hid (decide_eq_true hp)
      rw [hd.out]
      have HR := hid (show poolOf fs m house = frOf fs house from if_pos (D.out.2 hp))
      clear hp
      go_wp2_with fail
      refine (of_any g _ _ fs house _ HN.out).mono ?_
      rintro e w2 ⟨rfl, b2⟩
      have HB2 := hid (u_catn HB.out (Nat.le_refl _) (u_cat (u_b1 _ _) b2))
      clear b2
      go_wp2_with fail
      go_ret
      exact ⟨ret_int HR.out.symm, HB2.out⟩
    · have hd := hid (decide_eq_false hp)
      rw [hd.out]
      have HR := hid (show poolOf fs m house = 0 from if_neg (fun k => hp (D.out.1 k)))
      clear hp
      go_wp2_with fail
      go_ret
      exact ⟨ret_int HR.out.symm, u_catn HB.out (Nat.le_refl _) (u_b1 _ _)⟩
  · have D := hid (show poolOf fs hand house = 0 from if_neg (fun k => h ⟨k.1, k.2.1⟩))
    have K := hid h
    clear h
    go_enter Try.func22, Try.ntmps22
    go_wp2_with fail
    refine (ringOf_out a fs.length cap hand _ hx K.out).mono ?_
    rintro e w1 ⟨rfl, b1⟩
    obtain ⟨-, B1⟩ := u_box b1
    have HB := hid B1
    clear b1 B1
    go_wp2_with fail
    go_ret
    exact ⟨ret_int D.out.symm, u_catn HB.out (Nat.le_refl _) (u_b1 _ _)⟩
end Go.Proofs.Ytnfjplmpaeiagaa
