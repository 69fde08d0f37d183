/- Records, held against the model's. -/
import Derived.Test.YtjnhihckehcglaaDoorCatS
namespace Go.Proofs.YtjnhihckehcglaaDoor
open Go.ChangeShapes Go.WideShapes Go.ChangeAt Go.RowKit

theorem name_size {a : ByteArray} (h : nameB a = true) : a.size ≤ 6 := by
  simp [nameB] at h
  omega

set_option maxHeartbeats 1000000 in
theorem walk_FnExactCatRecord (a0 : Int) (a1 : ByteArray) (a2 : ByteArray) (w : World) (_w0 : (Lit.int .i64 a0).wf = true) (w1 : a1.size ≤ maxLen) (w2 : a2.size ≤ maxLen) :
    Calls Tryd.prog 3 #[.int .i64 a0, .string a1, .string a2] w fun e w' => e = .returned (.bool true) ∧ Below w.heap.size w w' := by
  by_cases h1 : a1.size ≤ 1048576
  · by_cases h2 : a2.size ≤ 1048576
    · have h1' : decide ((1048576 : Int) < (a1.size : Int)) = false := decide_eq_false (by omega)
      have h2' : decide ((1048576 : Int) < (a2.size : Int)) = false := decide_eq_false (by omega)
      cases hk : recOk a0 a1 a2
      · have HS := hid (specCatRecord_no a0 a1 a2 w w1 hk)
        have HI := hid (fun w => implCatRecord_no a0 a1 a2 w w1 w2 hk)
        clear hk h1 h2 w1 w2
        go_enter Tryd.func3, Tryd.ntmps3
        go_wp2_with (go_at_call 4; refine HS.out.mono ?_)
        rintro e w1 ⟨rfl, hb1⟩
        go_wp2_with (go_at_call 5; refine (HI.out _).mono ?_)
        rintro e w2 ⟨rfl, rfl⟩
        go_wp2_with fail
        go_ret
        exact ⟨rfl, hb1⟩
      · obtain ⟨c1, c2, c3⟩ := (recOk_iff a0 a1 a2).1 hk
        obtain ⟨n, rfl⟩ : ∃ n : Nat, a0 = n := ⟨a0.toNat, by omega⟩
        have hn : n ≤ 1 := by omega
        have HS := hid (specCatRecord_yes n a1 a2 w w1 hn c2 c3 (name_size c2))
        have HI := hid (fun w => implCatRecord_yes n a1 a2 w w1 hn c2 c3 (name_size c2))
        clear hk h1 h2 w1 w2 c1 c2 c3 hn
        go_enter Tryd.func3, Tryd.ntmps3
        go_wp2_with (go_at_call 4; refine HS.out.mono ?_)
        rintro e w1 ⟨rfl, hb1⟩
        go_wp2_with (go_at_call 5; refine (HI.out _).mono ?_)
        rintro e w2 ⟨rfl, hb2⟩
        go_wp2_with fail
        go_ret
        exact ⟨rfl, hb1.trans (hb2.mono hb1.size)⟩
    · have h1' : decide ((1048576 : Int) < (a1.size : Int)) = false := decide_eq_false (by omega)
      have h2' : decide ((1048576 : Int) < (a2.size : Int)) = true := decide_eq_true (by omega)
      go_enter Tryd.func3, Tryd.ntmps3
      go_wp2_with fail
      go_ret
      exact ⟨rfl, Below.refl _ _⟩
  · have h1' : decide ((1048576 : Int) < (a1.size : Int)) = true := decide_eq_true (by omega)
    go_enter Tryd.func3, Tryd.ntmps3
    go_wp2_with fail
    go_ret
    exact ⟨rfl, Below.refl _ _⟩
end Go.Proofs.YtjnhihckehcglaaDoor
