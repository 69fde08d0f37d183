/- The frame of a block, found by the model. -/
import Derived.Test.YtnfjplmpaeiagaaPtH
import Derived.Test.YtnfjplmpaeiagaaPlS
namespace Go.Proofs.Ytnfjplmpaeiagaa
open Go.ChangeShapes Go.WideShapes Go.ChangeAt Go.RowKit Go.Sort Go.Shelf
attribute [local go_sem] Oper.semAt_some

/-- Where it is found, as a number. -/
def fndI (fs : List Fr) (e b : Int) : Int := match fnd fs e b with
  | some k => (k : Int)
  | none => -1
theorem fndI_at {fs : List Fr} {e b : Int} {k : Nat} (hk : k < fs.length) (h : ∀ j (hj : j < k), isAt e b (fs[j]'(by omega)) = false) (h1 : isAt e b fs[k] = true) : fndI fs e b = k := by
  have : fnd fs e b = some k := by
    unfold fnd
    rw [List.findIdx?_eq_some_iff_getElem]
    exact ⟨hk, h1, fun j hj => by rw [h j hj]; simp⟩
  unfold fndI
  rw [this]
theorem fndI_no {fs : List Fr} {e b : Int} (h : ∀ j (hj : j < fs.length), isAt e b fs[j] = false) : fndI fs e b = -1 := by
  have : fnd fs e b = none := by
    unfold fnd
    rw [List.findIdx?_eq_none_iff]
    intro x hx
    obtain ⟨j, hj, rfl⟩ := List.getElem_of_mem hx
    exact h j hj
  unfold fndI
  rw [this]

set_option maxHeartbeats 1000000 in
theorem l10Find_any (a : Option Addr) (cap : Nat) (fs : List Fr) (hand e b : Int) (w : World) (ha : FrsAt w a fs) (hx : fs.length ≤ 1048576) :
    Calls Try.prog 46 #[.agg #[.slice a fs.length cap, .int .i64 hand], .int .i64 e, .int .i64 b] w fun r w' => r = .returned (.int .i64 (fndI fs e b)) ∧ Below w.heap.size w w' := by
  have HA := hid ha
  clear ha
  go_enter Try.func46, Try.ntmps46
  go_wp2
  go_loop [7] (fun i => ∃ k : Nat, k ≤ fs.length ∧ i = .int .i64 k ∧ ∀ j (hj : j < k) (hl : j < fs.length), isAt e b (fs[j]'hl) = false) (fun i => fs.length - (intOf i).toNat)
  case atStart => exact ⟨0, by omega, rfl, fun j hj => by omega⟩
  case round =>
    obtain ⟨k, hk, rfl, hall⟩ := hrel
    have HL := hid hall
    clear hall
    by_cases hlt : k < fs.length
    · obtain ⟨bb, off, rfl, hc⟩ := HA.out (by intro h; simp [h] at hlt)
      have hq := (hc k fs[k] (List.getElem?_eq_getElem hlt)).below (u_b1 w (.cells #[.slice (some ⟨bb, off, none⟩) fs.length cap, .int .i64 hand] 29)) (block_lt_of_cell (hc k fs[k] (List.getElem?_eq_getElem hlt)).c0)
      obtain ⟨-, c1, c2, -, -⟩ := hq
      obtain ⟨f, hf⟩ : ∃ f, f = fs[k] := ⟨_, rfl⟩
      rw [← hf] at c1 c2
      have HI := hid (show isAt e b f = ((f.e == e) && (f.b == b)) from rfl)
      have HF := hid hf
      clear hf hc
      obtain ⟨t1, ht1⟩ : ∃ t1, (f.e == e) = t1 := ⟨_, rfl⟩
      obtain ⟨t2, ht2⟩ : ∃ t2, (f.b == b) = t2 := ⟨_, rfl⟩
      rw [ht1, ht2] at HI
      cases t1
      all_goals cases t2
      iterate 3 (· go_wp2
                   go_round
                   case rel =>
                     refine ⟨k + 1, by omega, by go_num, fun j hj hl => ?_⟩
                     rcases Nat.lt_succ_iff_lt_or_eq.1 hj with hj | hj
                     · exact HL.out j hj hl
                     · subst hj
                       rw [← HF.out]; exact HI.out
                   case measure => simp [intOf]; omega)
      · have HG := hid (fndI_at hlt (fun j hj => HL.out j hj (by omega)) (by rw [← HF.out]; exact HI.out))
        go_wp2
        go_ret
        exact ⟨by rw [HG.out]; rfl, u_b1 _ _⟩
    · obtain rfl : k = fs.length := by omega
      have HG := hid (fndI_no (fun j hj => HL.out j hj hj))
      go_wp2
      go_ret
      exact ⟨by rw [HG.out]; rfl, u_b1 _ _⟩
end Go.Proofs.Ytnfjplmpaeiagaa
