/- A text out of a list, drawn. -/
import Derived.Test.YtefopoefknckcaaRdK
import Derived.Test.YtefopoefknckcaaQB
namespace Go.Proofs.Ytefopoefknckcaa
open Go.ChangeShapes Go.WideShapes Go.ChangeAt Go.RowKit Go.Sort

set_option maxHeartbeats 1000000 in
theorem of_any (g p b : Nat) (ss : List ByteArray) (w : World) (hr : Rd w g p) (hp : p ≤ 1000000) (hh : w.heap[b]? = some (.cells (ss.map Value.string).toArray 9 (0, 0))) (hne : b ≠ g) (h1 : 1 ≤ ss.length) (h2 : ss.length ≤ 1000) :
    Calls Try.prog 25 #[.pointer (some ⟨g, 0, none⟩), .slice (some ⟨b, 0, none⟩) ss.length ss.length] w fun e w' => ∃ s, s ∈ ss ∧ e = .returned (.string s) ∧ Rd w' g (p + 1) ∧ Touch g w w' := by
  go_enter Try.func25, Try.ntmps25
  go_wp2_with fail
  refine (pick_any g p ss.length _ hr (by omega) (by omega) (by omega)).mono ?_
  rintro e w1 ⟨r, rfl, ra, rb, hr1, ht1⟩
  obtain ⟨k, rfl⟩ := Int.eq_ofNat_of_zero_le ra
  have hk : k < ss.length := by omega
  have hc : w1.cell? ⟨b, k, none⟩ = some (.string (ss[k])) := box_cell ((ht1.block b hne).trans hh) k (by simp [hk])
  have hm : ss[k] ∈ ss := List.getElem_mem hk
  obtain ⟨s, hs⟩ : ∃ s, s = ss[k] := ⟨_, rfl⟩
  rw [← hs] at hc hm
  clear hs hh
  go_wp2_with fail
  go_ret
  exact ⟨s, hm, rfl, hr1, ht1⟩

theorem of_any' (g p b n : Nat) (ss : List ByteArray) (w : World) (hr : Rd w g p) (hp : p ≤ 1000000) (hh : w.heap[b]? = some (.cells (ss.map Value.string).toArray 9 (0, 0))) (hne : b ≠ g) (hn : ss.length = n) (h1 : 1 ≤ n) (h2 : n ≤ 1000) :
    Calls Try.prog 25 #[.pointer (some ⟨g, 0, none⟩), .slice (some ⟨b, 0, none⟩) n n] w fun e w' => ∃ s, s ∈ ss ∧ e = .returned (.string s) ∧ Rd w' g (p + 1) ∧ Touch g w w' := by
  subst hn
  exact of_any g p b ss w hr hp hh hne h1 h2
theorem below_allocO (w : World) (o : Obj) : Below w.heap.size w (w.alloc o) := (Below.refl _ _).alloc (Nat.le_refl _) o

theorem drawNameOk (a : Option Addr) (len cap : Nat) (zs : List Int) (w : World) (h : Bytes w a len cap zs) :
    Calls Try.prog 12 #[.slice a len cap] w fun e w' => ∃ s : ByteArray, e = .returned (.string s) ∧ s.size ≤ 100 ∧ Below w.heap.size w w' := by
  go_enter Try.func12, Try.ntmps12
  go_wp2_with fail
  refine (l1Open_any a len cap zs _ h).mono ?_
  rintro e w1 ⟨rfl, hr1, hb1⟩
  have r2 := hr1.kept (below_allocO w1 (.cells #[.string ⟨#[97]⟩, .string ⟨#[97, 98, 99, 100, 101, 102]⟩, .string ⟨#[97, 98, 99, 100, 101, 102, 103]⟩, .string ⟨#[]⟩, .string ⟨#[65]⟩, .string ⟨#[97, 49]⟩, .string ⟨#[122, 122]⟩] 9))
  have hl := hr1.lt
  have R2 := hid r2
  clear r2 hr1 h
  go_wp2_with fail
  refine (of_any' w.heap.size 0 w1.heap.size 7 [⟨#[97]⟩, ⟨#[97, 98, 99, 100, 101, 102]⟩, ⟨#[97, 98, 99, 100, 101, 102, 103]⟩, ⟨#[]⟩, ⟨#[65]⟩, ⟨#[97, 49]⟩, ⟨#[122, 122]⟩] _ R2.out (by omega) (laid w1 _ _) (by omega) rfl (by omega) (by omega)).mono ?_
  rintro e w2 ⟨s, hs, rfl, hr2, ht2⟩
  have hz : s.size ≤ 100 := by
    simp only [List.mem_cons, List.not_mem_nil, or_false] at hs
    rcases hs with rfl | rfl | rfl | rfl | rfl | rfl | rfl <;> decide
  go_wp2_with fail
  go_ret
  exact ⟨s, rfl, hz, (hb1.trans ((below_allocO w1 _).mono hb1.size)).trans (ht2.below (Nat.le_refl _))⟩
end Go.Proofs.Ytefopoefknckcaa
