/- The walk of the law that a seed leads to one seed alone. -/
import Derived.Test.YtefpjomhedlpnaaDrawS
import Derived.Test.YtefpjomhedlpnaaSeed
namespace Go.Proofs.Ytefpjomhedlpnaa
open Go.ChangeShapes Go.WideShapes Go.ChangeAt Go.RowKit

/-- A slice of integers that came in. -/
def IsRow (k : IntKind) (w : World) (a : Option Addr) (len cap : Nat) (zs : List Int) : Prop :=
  (a = none ∧ len = 0 ∧ cap = 0 ∧ zs = []) ∨
  ∃ x, a = some x ∧ len ≤ cap ∧ cap ≤ maxLen ∧ zs.length = cap ∧ (∀ i, i < zs.length → w.cell? (x.add i) = some (.int k (zs.getD i 0))) ∧ ∀ n ∈ zs, (Lit.int k n).wf = true

theorem nextI_bd (s : Int) : 0 ≤ nextI s ∧ nextI s ≤ 2147483647 := by unfold nextI; split <;> omega
theorem pickI_bd (s n : Int) : 0 ≤ pickI s n ∧ (pickI s n = 0 ∨ pickI s n ≤ n - 1) := by
  unfold pickI
  split
  · rename_i h
    have h1 := Int.emod_nonneg (s / 256) (b := n) (by omega)
    have h2 := Int.emod_lt_of_pos (s / 256) (b := n) (by omega)
    omega
  · omega
theorem nextI_ne (s : Int) (h1 : 1 ≤ s) (h2 : s ≤ 2147483647) : (nextI (s - 1) != nextI s) = true := by
  rw [nextI_in (by omega) (by omega), nextI_in (by omega) h2]
  simp
  omega
theorem whIn_yes (n lo hi : Int) (w : World) (h1 : lo ≤ n) (h2 : n ≤ hi) :
    Calls Try.prog 14 #[.int .i64 n, .int .i64 lo, .int .i64 hi] w fun e w' => e = .returned (.bool true) ∧ w' = w := by
  go_enter Try.func14, Try.ntmps14
  go_wp2
  go_ret
  exact ⟨rfl, rfl⟩

set_option maxHeartbeats 1000000 in
theorem walk_FnSeed (a0 : Option Addr) (len0 cap0 : Nat) (z0 : List Int) (w : World) (w0 : IsRow .u8 w a0 len0 cap0 z0) :
    Calls Try.prog 4 #[.slice a0 len0 cap0] w fun e w' => e = .returned (.bool true) ∧ Below w.heap.size w w' := by
  by_cases h : 1048576 < len0
  · have h' : (1048576 : Int) < (len0 : Int) := by omega
    clear w0
    go_enter Try.func4, Try.ntmps4
    go_wp2
    go_ret
    exact ⟨rfl, Below.refl _ _⟩
  · have h' : ¬ (1048576 : Int) < (len0 : Int) := by omega
    go_enter Try.func4, Try.ntmps4
    go_wp2_with fail
    refine (drawSeedPick a0 len0 cap0 z0 w w0).mono ?_
    rintro e w1 ⟨s, n, rfl, hs1, hs2, hn1, hn2, hb⟩
    clear w0 h
    have hx := nextI_bd s
    have hk := pickI_bd s n
    have hne := nextI_ne s
    obtain ⟨X, hX⟩ : ∃ X, nextI s = X := ⟨_, rfl⟩
    obtain ⟨K, hK⟩ : ∃ K, pickI s n = K := ⟨_, rfl⟩
    have HX := hid hX
    have HK := hid hK
    rw [hX] at hx hne
    rw [hK] at hk
    clear hX hK
    go_wp2_with fail
    refine (implNext s _).mono ?_
    rintro e w' ⟨rfl, hq⟩
    replace hq := hq.symm
    subst hq
    rw [HX.out]
    go_wp2_with fail
    refine (implPick s n _).mono ?_
    rintro e w' ⟨rfl, hq⟩
    replace hq := hq.symm
    subst hq
    rw [HK.out]
    go_wp2_with fail
    refine (specNext s _).mono ?_
    rintro e w' ⟨rfl, hq⟩
    replace hq := hq.symm
    subst hq
    rw [HX.out]
    go_wp2_with fail
    refine (specPick s n _).mono ?_
    rintro e w' ⟨rfl, hq⟩
    replace hq := hq.symm
    subst hq
    rw [HK.out]
    rcases (show K = 0 ∨ (1 ≤ K ∧ K ≤ n - 1) from by omega) with hK0 | hK0
    · have hK1 : (K == 0) = true := by simp [hK0]
      rcases (show s < 1 ∨ 2147483647 < s ∨ (1 ≤ s ∧ s ≤ 2147483647) from by omega) with hs | hs | hs
      · go_wp2_with (first
          | (go_at_call 14; refine (whIn_yes _ _ _ _ (by omega) (by omega)).mono ?_; rintro e w' ⟨rfl, hq⟩; replace hq := hq.symm; subst hq)
          | (go_at_call 10; refine (implNext (s - 1) _).mono ?_; rintro e w' ⟨rfl, hq⟩; replace hq := hq.symm; subst hq))
        go_ret
        exact ⟨rfl, hb⟩
      · have hs' : decide (s < 1) = false := by simp; omega
        go_wp2_with (first
          | (go_at_call 14; refine (whIn_yes _ _ _ _ (by omega) (by omega)).mono ?_; rintro e w' ⟨rfl, hq⟩; replace hq := hq.symm; subst hq)
          | (go_at_call 10; refine (implNext (s - 1) _).mono ?_; rintro e w' ⟨rfl, hq⟩; replace hq := hq.symm; subst hq))
        go_ret
        exact ⟨rfl, hb⟩
      · have hs' : decide (s < 1) = false := by simp; omega
        have hs'' : decide (2147483647 < s) = false := by simp; omega
        have hne' := hne hs.1 hs.2
        clear hne
        go_wp2_with (first
          | (go_at_call 14; refine (whIn_yes _ _ _ _ (by omega) (by omega)).mono ?_; rintro e w' ⟨rfl, hq⟩; replace hq := hq.symm; subst hq)
          | (go_at_call 10; refine (implNext (s - 1) _).mono ?_; rintro e w' ⟨rfl, hq⟩; replace hq := hq.symm; subst hq))
        go_ret
        exact ⟨rfl, hb⟩
    · have hK1 : (K == 0) = false := by simp; omega
      rcases (show s < 1 ∨ 2147483647 < s ∨ (1 ≤ s ∧ s ≤ 2147483647) from by omega) with hs | hs | hs
      · go_wp2_with (first
          | (go_at_call 14; refine (whIn_yes _ _ _ _ (by omega) (by omega)).mono ?_; rintro e w' ⟨rfl, hq⟩; replace hq := hq.symm; subst hq)
          | (go_at_call 10; refine (implNext (s - 1) _).mono ?_; rintro e w' ⟨rfl, hq⟩; replace hq := hq.symm; subst hq))
        go_ret
        exact ⟨rfl, hb⟩
      · have hs' : decide (s < 1) = false := by simp; omega
        go_wp2_with (first
          | (go_at_call 14; refine (whIn_yes _ _ _ _ (by omega) (by omega)).mono ?_; rintro e w' ⟨rfl, hq⟩; replace hq := hq.symm; subst hq)
          | (go_at_call 10; refine (implNext (s - 1) _).mono ?_; rintro e w' ⟨rfl, hq⟩; replace hq := hq.symm; subst hq))
        go_ret
        exact ⟨rfl, hb⟩
      · have hs' : decide (s < 1) = false := by simp; omega
        have hs'' : decide (2147483647 < s) = false := by simp; omega
        have hne' := hne hs.1 hs.2
        clear hne
        go_wp2_with (first
          | (go_at_call 14; refine (whIn_yes _ _ _ _ (by omega) (by omega)).mono ?_; rintro e w' ⟨rfl, hq⟩; replace hq := hq.symm; subst hq)
          | (go_at_call 10; refine (implNext (s - 1) _).mono ?_; rintro e w' ⟨rfl, hq⟩; replace hq := hq.symm; subst hq))
        go_ret
        exact ⟨rfl, hb⟩
end Go.Proofs.Ytefpjomhedlpnaa
