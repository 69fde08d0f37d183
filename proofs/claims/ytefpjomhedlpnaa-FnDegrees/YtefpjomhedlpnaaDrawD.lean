/- The draw of a count and a part. -/
import Derived.Test.YtefpjomhedlpnaaDrawL
import Derived.Deep.RegionWith
import Derived.BigRegion
namespace Go.Proofs.Ytefpjomhedlpnaa
open Go.ChangeShapes Go.WideShapes Go.ChangeAt Go.RowKit

theorem lit5_new (W : World) (x a b c d i : Int) (h1 : 0 ≤ i) (h2 : i < 5) (P : Int → Prop) (hx : P x) (ha : P a) (hb : P b) (hc : P c) (hd : P d) : ∃ X, (W.alloc (.cells #[.int .i64 x, .int .i64 a, .int .i64 b, .int .i64 c, .int .i64 d] 3)).cell? ⟨W.heap.size, i.toNat, none⟩ = some (.int .i64 X) ∧ P X := by
  have hh := heap_alloc_new W (.cells #[.int .i64 x, .int .i64 a, .int .i64 b, .int .i64 c, .int .i64 d] 3)
  have : i = 0 ∨ i = 1 ∨ i = 2 ∨ i = 3 ∨ i = 4 := by omega
  rcases this with rfl | rfl | rfl | rfl | rfl
  · exact ⟨x, by simp only [World.cell?]; rw [hh]; rfl, hx⟩
  · exact ⟨a, by simp only [World.cell?]; rw [hh]; rfl, ha⟩
  · exact ⟨b, by simp only [World.cell?]; rw [hh]; rfl, hb⟩
  · exact ⟨c, by simp only [World.cell?]; rw [hh]; rfl, hc⟩
  · exact ⟨d, by simp only [World.cell?]; rw [hh]; rfl, hd⟩
theorem lit5_kept {W w' : World} {x a b c d : Int} {g : Nat} (ht : Touch g (W.alloc (.cells #[.int .i64 x, .int .i64 a, .int .i64 b, .int .i64 c, .int .i64 d] 3)) w') (hg : g < W.heap.size) (i : Int) (h1 : 0 ≤ i) (h2 : i < 5) (P : Int → Prop) (hx : P x) (ha : P a) (hb : P b) (hc : P c) (hd : P d) : ∃ X, w'.cell? ⟨W.heap.size, i.toNat, none⟩ = some (.int .i64 X) ∧ P X := by
  rw [World.cell?_of_block (w := W.alloc (.cells #[.int .i64 x, .int .i64 a, .int .i64 b, .int .i64 c, .int .i64 d] 3)) (a := ⟨W.heap.size, i.toNat, none⟩) (ht.block _ (show W.heap.size ≠ g by omega))]
  exact lit5_new W x a b c d i h1 h2 P hx ha hb hc hd
theorem wrap_part (r : Int) (h1 : 0 ≤ r) (h2 : r < 256) : -1 ≤ IntKind.i64.wrap (r * 257) ∧ IntKind.i64.wrap (r * 257) ≤ 65536 := by
  rw [wrap_small _ (by omega) (by omega)]; omega

set_option maxHeartbeats 1000000 in
theorem drawDegreeOf (a : Option Addr) (len cap : Nat) (zs : List Int) (w : World) (h : Bytes w a len cap zs) :
    Calls Try.prog 15 #[.slice a len cap] w fun e w' => ∃ c p : Int, e = .returned (.tuple #[.int .i64 c, .int .i64 p]) ∧ 0 ≤ c ∧ c ≤ 26 ∧ -1 ≤ p ∧ p ≤ 65536 ∧ Below w.heap.size w w' := by
  go_enter Try.func15, Try.ntmps15
  go_wp2_with (go_at_call 21; refine (l1Open_any a len cap zs _ h).mono ?_; rintro e w1 ⟨rfl, hr1, hb1⟩)
  clear h
  go_region_with (first
    | (go_at_call 22; refine (pick_any w.heap.size 0 27 _ hr1.drew (by omega) (by omega) (by omega)).mono ?_; rintro e w2 ⟨r1, rfl, r1a, r1b, hr2, ht2⟩; clear hr1)
    | (go_at_call 22; refine (pick_any w.heap.size (0 + 1) 256 _ hr2 (by omega) (by omega) (by omega)).mono ?_; rintro e w3 ⟨r3, rfl, r3a, r3b, hr3, ht3⟩; have hg3 := hr3.lt; have hwp := wrap_part r3 r3a r3b; clear hr2)
    | (go_at_call 22; refine (pick_any w.heap.size (0 + 1 + 1) 14 _ (hr3.kept ((Below.refl _ _).alloc (Nat.le_refl _) _)) (by omega) (by omega) (by omega)).mono ?_; rintro e w4 ⟨r4, rfl, r4a, r4b, hr4, ht4⟩; have hq1 : 0 ≤ r4 * 5 / 14 := (by omega); have hq2 : r4 * 5 / 14 < 5 := (by omega); have hm1 := wrap_small (r4 * 5) (by omega) (by omega); have hm2 := tdiv_small (r4 * 5) 14 (by omega); have hm3 := wrap_small (r4 * 5 / 14) (by omega) (by omega); obtain ⟨X, hX, hX1⟩ := lit5_kept ht4 hg3 (r4 * 5 / 14) hq1 hq2 (fun X => -1 ≤ X ∧ X ≤ 65536) hwp (by constructor <;> omega) (by constructor <;> omega) (by constructor <;> omega) (by constructor <;> omega))
    | (go_at_call 22; refine (pick_any w.heap.size (0 + 1 + 1) 14 _ hr3 (by omega) (by omega) (by omega)).mono ?_; rintro e w4 ⟨r4, rfl, r4a, r4b, hr4, ht4⟩; have hq1 : 0 ≤ r4 * 5 / 14 := (by omega); have hq2 : r4 * 5 / 14 < 5 := (by omega); have hm1 := wrap_small (r4 * 5) (by omega) (by omega); have hm2 := tdiv_small (r4 * 5) 14 (by omega); have hm3 := wrap_small (r4 * 5 / 14) (by omega) (by omega); obtain ⟨X, hX, hX1⟩ := lit5_new w4 (IntKind.i64.wrap (r3 * 257)) 65535 65536 (-1) 0 (r4 * 5 / 14) hq1 hq2 (fun X => -1 ≤ X ∧ X ≤ 65536) hwp (by constructor <;> omega) (by constructor <;> omega) (by constructor <;> omega) (by constructor <;> omega)))
  all_goals
    go_wp2
    go_ret2
    refine ⟨_, _, rfl, by omega, by omega, hX1.1, hX1.2, ?_⟩
    have q1 := hb1.drew.trans (ht2.below (Nat.le_refl _))
    have q2 := q1.trans (ht3.below (Nat.le_refl _))
    first
      | exact (q2.alloc q2.size _).trans (ht4.below (Nat.le_refl _))
      | exact (q2.trans (ht4.below (Nat.le_refl _))).alloc (q2.trans (ht4.below (Nat.le_refl _))).size _
end Go.Proofs.Ytefpjomhedlpnaa
