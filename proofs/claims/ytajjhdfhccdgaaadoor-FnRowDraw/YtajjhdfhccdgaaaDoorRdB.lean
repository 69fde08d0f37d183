/- Readers, more: what stays; the draws of seeds and of parts. -/
import Derived.Test.YtajjhdfhccdgaaaDoorRd
namespace Go.Proofs.YtajjhdfhccdgaaaDoor
open Go.ChangeShapes Go.WideShapes Go.ChangeAt Go.RowKit

theorem Rd.keptB {w w' : World} {g p B : Nat} (h : Rd w g p) (hb : Below B w w') (hg : g < B) : Rd w' g p := by
  obtain ⟨a, n, c, bs, hh, h1, h2, h3, h4⟩ := h
  refine ⟨a, n, c, bs, by rw [hb.block g hg]; exact hh, h1, h2, h3, fun hn => ?_⟩
  obtain ⟨b, off, ha, hne, hlt, hc⟩ := h4 hn
  exact ⟨b, off, ha, hne, hlt, fun i hi => by rw [hb.cell (p := ⟨b, off + i, none⟩) (Nat.lt_trans hlt hg)]; exact hc i hi⟩
theorem Rd.kept {w w' : World} {g p : Nat} (h : Rd w g p) (hb : Below w.heap.size w w') : Rd w' g p := by
  have hg : g < w.heap.size := by obtain ⟨a, n, c, bs, hh, _⟩ := h; exact lt_of_block hh
  exact h.keptB hb hg
theorem Rd.lt {w : World} {g p : Nat} (h : Rd w g p) : g < w.heap.size := by
  obtain ⟨a, n, c, bs, hh, _⟩ := h
  exact lt_of_block hh
theorem Touch.grown {g : Nat} {w w' : World} (h : Touch g w w') : w.grownBy w' (some g) :=
  ⟨h.os, h.tape, h.output, Nat.le_of_eq h.size.symm, fun k _ hk => h.block k (fun e => hk (by rw [e]))⟩
theorem below_grown {w w' : World} (h : Below w.heap.size w w') (r : Option Nat) : w.grownBy w' r := ⟨h.os, h.tape, h.output, h.size, fun k hk _ => h.block k hk⟩
theorem grown_trans {a b c : World} {r : Option Nat} (h : a.grownBy b r) (k : b.grownBy c r) : a.grownBy c r :=
  ⟨k.os.trans h.os, k.tape.trans h.tape, k.output.trans h.output, Nat.le_trans h.size k.size, fun i hi hr => (k.block i (Nat.lt_of_lt_of_le hi h.size) hr).trans (h.block i hi hr)⟩
theorem grown_below {w w' : World} {g B : Nat} (h : w.grownBy w' (some g)) (hB : B ≤ g) (hs : B ≤ w.heap.size) : Below B w w' :=
  ⟨h.os, h.tape, h.output, h.size, fun k hk => h.block k (by omega) (fun e => by injection e with e; omega)⟩

set_option maxHeartbeats 1000000 in
theorem l15Seed_any (g p : Nat) (w : World) (hr : Rd w g p) (hp : p ≤ 1000000) :
    Calls Tryd.prog 24 #[.pointer (some ⟨g, 0, none⟩)] w fun e w' => ∃ s : Int, e = .returned (.int .i64 s) ∧ -1 ≤ s ∧ s ≤ 2147483648 ∧ Rd w' g (p + 4) ∧ w.grownBy w' (some g) := by
  go_enter Tryd.func24, Tryd.ntmps24
  go_wp2_with fail
  refine (pick_any g p 256 _ hr (by omega) (by omega) (by omega)).mono ?_
  rintro e w1 ⟨r1, rfl, r1a, r1b, hr1, ht1⟩
  go_wp2_with fail
  refine (pick_any g (p + 1) 256 _ hr1 (by omega) (by omega) (by omega)).mono ?_
  rintro e w2 ⟨r2, rfl, r2a, r2b, hr2, ht2⟩
  go_wp2_with fail
  refine (pick_any g (p + 1 + 1) 256 _ hr2 (by omega) (by omega) (by omega)).mono ?_
  rintro e w3 ⟨r3, rfl, r3a, r3b, hr3, ht3⟩
  have HT : Hid (w.grownBy w3 (some g)) := grown_trans (grown_trans ht1.grown ht2.grown) ht3.grown
  clear ht1 ht2 ht3 hr1 hr2 hr
  go_wp2_with fail
  refine (pick_any g (p + 1 + 1 + 1) 16 _ (hr3.kept ((Below.refl _ _).alloc (Nat.le_refl _) _)) (by omega) (by omega) (by omega)).mono ?_
  rintro e w4 ⟨r4, rfl, r4a, r4b, hr4, ht4⟩
  have hlt := hr3.lt
  have hne : ¬ w3.heap.size = g := by omega
  have hx : w4.heap[w3.heap.size]? = some (.cells #[.int .i64 (r1 * 65536 + r2 * 256 + r3), .int .i64 2147483647, .int .i64 0, .int .i64 (-1), .int .i64 2147483648] 3) := by
    rw [ht4.block _ hne]; exact heap_alloc_new w3 _
  have d0 : w4.cell? ⟨w3.heap.size, 0, none⟩ = some (.int .i64 (r1 * 65536 + r2 * 256 + r3)) := by simp [World.cell?, hx]
  have d1 : w4.cell? ⟨w3.heap.size, 1, none⟩ = some (.int .i64 2147483647) := by simp [World.cell?, hx]
  have d2 : w4.cell? ⟨w3.heap.size, 2, none⟩ = some (.int .i64 0) := by simp [World.cell?, hx]
  have d3 : w4.cell? ⟨w3.heap.size, 3, none⟩ = some (.int .i64 (-1)) := by simp [World.cell?, hx]
  have d4 : w4.cell? ⟨w3.heap.size, 4, none⟩ = some (.int .i64 2147483648) := by simp [World.cell?, hx]
  have HR : Hid (Rd w4 g (p + 4) ∧ w.grownBy w4 (some g)) := ⟨hr4, grown_trans (grown_trans HT.out (below_grown ((Below.refl _ _).alloc (Nat.le_refl _) _) _)) ht4.grown⟩
  clear hx ht4 hr4 hr3 hne
  rcases (show r4 * 5 / 16 = 0 ∨ r4 * 5 / 16 = 1 ∨ r4 * 5 / 16 = 2 ∨ r4 * 5 / 16 = 3 ∨ r4 * 5 / 16 = 4 from by omega) with h | h | h | h | h
  all_goals
    go_wp2
    go_ret
    exact ⟨_, rfl, by omega, by omega, HR.out⟩
end Go.Proofs.YtajjhdfhccdgaaaDoor
