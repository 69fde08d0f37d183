/- Going round the ring: the program's iterator. -/
import Derived.Test.YtnfjplmpaeiagaaInr
import Derived.Test.YtnfjplmpaeiagaaNdN
namespace Go.Proofs.Ytnfjplmpaeiagaa
open Go.ChangeShapes Go.WideShapes Go.ChangeAt Go.RowKit Go.Sort Go.Shelf
attribute [local go_sem] Oper.semAt_some

/-- The nodes that come, from one on. -/
def way (s k : Nat) : List (Fin 8) := (List.range k).map (fun i => ⟨(s + i) % 8, Nat.mod_lt _ (by decide)⟩)
theorem way_succ (s k : Nat) : way s (k + 1) = way s k ++ [⟨(s + k) % 8, Nat.mod_lt _ (by decide)⟩] := by simp [way, List.range_succ]
theorem way_len (s k : Nat) : (way s k).length = k := by simp [way]
theorem way_pre (s k m : Nat) (h : k ≤ m) : way s k <+: way s m := by
  obtain ⟨d, rfl⟩ : ∃ d, m = k + d := ⟨m - k, by omega⟩
  induction d with
  | zero => exact List.prefix_refl _
  | succ d ih => exact (ih (by omega)).trans ⟨_, (way_succ s (k + d)).symm⟩

/-- All nodes lead on. -/
def Leads (W : World) (g : Nat) : Prop := ∀ k, k < 8 → W.cell? ⟨g, k * 7 + 6, none⟩ = some (.pointer (some ⟨g, (k + 1) % 8 * 7, none⟩))
theorem NdsAt.leads {w : World} {base g : Nat} {fs : List Fr} (h : NdsAt w base g (ring g fs)) : Leads w g := fun k hk => by
  have hl := h.len
  rw [ring_len] at hl
  exact (h.cells k _ (ring_at g fs k fs[k] (List.getElem?_eq_getElem (by omega)))).c6

theorem round_in (p : Option Addr) (looks : Int) (w : World) :
    Calls Try.prog 39 #[.pointer p, .int .i64 looks] w fun e w' => e = .returned (.func (.func 53) #[] #[.pointer (some ⟨w.heap.size, 0, none⟩), .pointer (some ⟨w.heap.size + 1, 0, none⟩)]) ∧ w' = (w.alloc (.cells #[.pointer p] 47)).alloc (.cells #[.int .i64 looks] 3) := by
  go_enter Try.func39, Try.ntmps39
  go_wp2
  go_ret
  exact ⟨rfl, rfl⟩

set_option maxHeartbeats 2000000 in
theorem round1_in (n l Bn Bl g s looks : Nat) (hn : 1 ≤ n) (hlk : looks ≤ 1000) (J Jx : List (Fin 8) → World → Prop) (Kp : World → World → Prop) (hK : ∀ W W', Leads W g → Kp W W' → Leads W' g)
    (hY : ∀ (pre : List (Fin 8)) (x : Fin 8) W, J pre W → pre.length < looks → YieldAt Fence.wide (n - 1) Try.prog l #[.pointer (some ⟨g, x.val * 7, none⟩)] W fun e W' =>
      (e = .returned (.bool true) ∧ J (pre ++ [x]) W' ∧ Kp W W') ∨ (e = .returned (.bool false) ∧ Jx (pre ++ [x]) W'))
    (W : World) (hBn : W.cell? ⟨Bn, 0, none⟩ = some (.pointer (some ⟨g, s % 8 * 7, none⟩))) (hBl : W.cell? ⟨Bl, 0, none⟩ = some (.int .i64 looks)) (hL : Leads W g) (h0 : J [] W) :
    CallsIn Fence.wide n Try.prog 53 #[.func (.yield l) #[] #[], .pointer (some ⟨Bn, 0, none⟩), .pointer (some ⟨Bl, 0, none⟩)] W fun e W' => (∃ v, e = .returned v) ∧
      ((∃ ys, ys = way s looks ∧ J ys W') ∨ (∃ pre, pre <+: way s looks ∧ Jx pre W')) := by
  refine callsIn_of_wp Try.func53 rfl trivial ?_ rfl
  simp only [Try.ntmps53, List.size_toArray, List.length_cons, List.length_nil, Nat.reduceAdd, Nat.reduceSub, Array.replicate_succ, Array.replicate_zero, List.push_toArray, List.append_toArray, List.nil_append, List.cons_append]
  gi_wp2
  gi_loopw [4, 7] (fun p i wr => ∃ k : Nat, k ≤ looks ∧ i = .int .i64 k ∧ p = .pointer (some ⟨g, (s + k) % 8 * 7, none⟩) ∧ Leads wr g ∧ J (way s k) wr) (fun _ i _ => looks - (intOf i).toNat)
  case atStart => exact ⟨0, by omega, rfl, by simp, hL, h0⟩
  case round =>
    obtain ⟨k, hk, rfl, rfl, hl, hJ⟩ := hrel
    by_cases hlt : k < looks
    · obtain ⟨fn, tmps, assign, body, hy, hR⟩ := hY (way s k) ⟨(s + k) % 8, Nat.mod_lt _ (by decide)⟩ wr hJ (by rw [way_len]; exact hlt)
      dsimp only at hy
      gi_wp2
      refine hR.mono ?_
      rintro e W3 (⟨rfl, hJ3, hk3⟩ | ⟨rfl, hJx3⟩)
      · have hl3 := hK _ _ hl hk3
        have hq3 := hl3 ((s + k) % 8) (Nat.mod_lt _ (by decide))
        gi_wp2
        go_roundw
        case rel => exact ⟨k + 1, by omega, by go_num, by simp [Nat.add_assoc], hl3, by rw [way_succ]; exact hJ3⟩
        case measure => simp [intOf]; omega
      · gi_wp2
        refine bodyPost_ret (results_none rfl _ _ _) rfl ?_
        exact ⟨⟨_, rfl⟩, .inr ⟨way s (k + 1), way_pre s _ _ hlt, by rw [way_succ]; exact hJx3⟩⟩
    · obtain rfl : k = looks := by omega
      gi_wp2
      go_end0
      exact ⟨⟨_, rfl⟩, .inl ⟨_, rfl, hJ⟩⟩

theorem round_stops (n g s looks Bn Bl : Nat) (hn : 1 ≤ n) (hlk : looks ≤ 1000) (Kp : World → World → Prop) (hK : ∀ W W', Leads W g → Kp W W' → Leads W' g) (w : World)
    (hBn : w.cell? ⟨Bn, 0, none⟩ = some (.pointer (some ⟨g, s % 8 * 7, none⟩))) (hBl : w.cell? ⟨Bl, 0, none⟩ = some (.int .i64 looks)) (hL : Leads w g) :
    SeqStopsK Fence.wide n Try.prog 53 #[.pointer (some ⟨Bn, 0, none⟩), .pointer (some ⟨Bl, 0, none⟩)] (fun x : Fin 8 => #[.pointer (some ⟨g, x.val * 7, none⟩)]) Kp (fun xs => xs = way s looks) (fun pre => pre <+: way s looks) looks w :=
  fun l J Jx W hW _ _ hY h0 => round1_in n l Bn Bl g s looks hn hlk J Jx Kp hK hY W ((hW.cell (p := ⟨Bn, 0, none⟩) (block_lt_of_cell hBn)).trans hBn) ((hW.cell (p := ⟨Bl, 0, none⟩) (block_lt_of_cell hBl)).trans hBl) (fun k hk => (hW.cell (p := ⟨g, k * 7 + 6, none⟩) (block_lt_of_cell (hL k hk))).trans (hL k hk)) h0
end Go.Proofs.Ytnfjplmpaeiagaa
