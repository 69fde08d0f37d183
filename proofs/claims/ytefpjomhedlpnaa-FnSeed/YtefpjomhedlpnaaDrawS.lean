/- The draws of seeds and parts. -/
import Derived.Test.YtefpjomhedlpnaaRdB
import Derived.Deep.RegionWith
import Derived.BigRegion
namespace Go.Proofs.Ytefpjomhedlpnaa
open Go.ChangeShapes Go.WideShapes Go.ChangeAt Go.RowKit

theorem Rd.drew {w : World} {g p : Nat} (h : Rd w g p) : Rd w.drew g p := h.kept (Below.refl _ _).drew
theorem lit4_new (W : World) (x a b c i : Int) (h1 : 0 ≤ i) (h2 : i < 4) (P : Int → Prop) (hx : P x) (ha : P a) (hb : P b) (hc : P c) : ∃ X, (W.alloc (.cells #[.int .i64 x, .int .i64 a, .int .i64 b, .int .i64 c] 3)).cell? ⟨W.heap.size, i.toNat, none⟩ = some (.int .i64 X) ∧ P X := by
  have hh := heap_alloc_new W (.cells #[.int .i64 x, .int .i64 a, .int .i64 b, .int .i64 c] 3)
  have : i = 0 ∨ i = 1 ∨ i = 2 ∨ i = 3 := by omega
  rcases this with rfl | rfl | rfl | rfl
  · exact ⟨x, by simp only [World.cell?]; rw [hh]; rfl, hx⟩
  · exact ⟨a, by simp only [World.cell?]; rw [hh]; rfl, ha⟩
  · exact ⟨b, by simp only [World.cell?]; rw [hh]; rfl, hb⟩
  · exact ⟨c, by simp only [World.cell?]; rw [hh]; rfl, hc⟩
theorem lit4_kept {W w' : World} {x a b c : Int} {g : Nat} (ht : Touch g (W.alloc (.cells #[.int .i64 x, .int .i64 a, .int .i64 b, .int .i64 c] 3)) w') (hg : g < W.heap.size) (i : Int) (h1 : 0 ≤ i) (h2 : i < 4) (P : Int → Prop) (hx : P x) (ha : P a) (hb : P b) (hc : P c) : ∃ X, w'.cell? ⟨W.heap.size, i.toNat, none⟩ = some (.int .i64 X) ∧ P X := by
  rw [World.cell?_of_block (w := W.alloc (.cells #[.int .i64 x, .int .i64 a, .int .i64 b, .int .i64 c] 3)) (a := ⟨W.heap.size, i.toNat, none⟩) (ht.block _ (show W.heap.size ≠ g by omega))]
  exact lit4_new W x a b c i h1 h2 P hx ha hb hc
theorem wrap_small (x : Int) (h1 : -1000000000000 ≤ x) (h2 : x ≤ 1000000000000) : IntKind.i64.wrap x = x := by simp [IntKind.wrap, IntKind.bits, IntKind.signed]; omega
theorem tdiv_small (x y : Int) (h1 : 0 ≤ x) : x.tdiv y = x / y := Int.tdiv_eq_ediv_of_nonneg h1
theorem wrap_one (r : Int) (h1 : 0 ≤ r) (h2 : r < 30) : 0 ≤ IntKind.i64.wrap (1 + r) ∧ IntKind.i64.wrap (1 + r) ≤ 65537 := by
  have : IntKind.i64.wrap (1 + r) = 1 + r := by simp [IntKind.wrap, IntKind.bits, IntKind.signed]; omega
  omega

set_option maxHeartbeats 1000000 in
theorem drawSeedPick (a : Option Addr) (len cap : Nat) (zs : List Int) (w : World) (h : Bytes w a len cap zs) :
    Calls Try.prog 9 #[.slice a len cap] w fun e w' => ∃ s n : Int, e = .returned (.tuple #[.int .i64 s, .int .i64 n]) ∧ -1 ≤ s ∧ s ≤ 2147483648 ∧ 0 ≤ n ∧ n ≤ 65537 ∧ Below w.heap.size w w' := by
  go_enter Try.func9, Try.ntmps9
  go_wp2_with (go_at_call 21; refine (l1Open_any a len cap zs _ h).mono ?_; rintro e w1 ⟨rfl, hr1, hb1⟩)
  clear h
  go_region_with (first
    | (go_at_call 26; refine (l15Seed_any w.heap.size 0 _ hr1.drew (by omega)).mono ?_; rintro e w2 ⟨s, rfl, hs1, hs2, hr2, ht2⟩)
    | (go_at_call 22; refine (pick_any w.heap.size (0 + 4) 30 _ hr2 (by omega) (by omega) (by omega)).mono ?_; rintro e w3 ⟨r3, rfl, r3a, r3b, hr3, ht3⟩; have hg3 := hr3.lt; have hwp := wrap_one r3 r3a r3b; clear hr2)
    | (go_at_call 22; refine (pick_any w.heap.size (0 + 4 + 1) 12 _ (hr3.kept ((Below.refl _ _).alloc (Nat.le_refl _) _)) (by omega) (by omega) (by omega)).mono ?_; rintro e w4 ⟨r4, rfl, r4a, r4b, hr4, ht4⟩; have hq1 : 0 ≤ r4 * 4 / 12 := (by omega); have hq2 : r4 * 4 / 12 < 4 := (by omega); have hm1 := wrap_small (r4 * 4) (by omega) (by omega); have hm2 := tdiv_small (r4 * 4) 12 (by omega); have hm3 := wrap_small (r4 * 4 / 12) (by omega) (by omega); obtain ⟨X, hX, hX1⟩ := lit4_kept ht4 hg3 (r4 * 4 / 12) hq1 hq2 (fun X => 0 ≤ X ∧ X ≤ 65537) hwp (by constructor <;> omega) (by constructor <;> omega) (by constructor <;> omega))
    | (go_at_call 22; refine (pick_any w.heap.size (0 + 4 + 1) 12 _ hr3 (by omega) (by omega) (by omega)).mono ?_; rintro e w4 ⟨r4, rfl, r4a, r4b, hr4, ht4⟩; have hq1 : 0 ≤ r4 * 4 / 12 := (by omega); have hq2 : r4 * 4 / 12 < 4 := (by omega); have hm1 := wrap_small (r4 * 4) (by omega) (by omega); have hm2 := tdiv_small (r4 * 4) 12 (by omega); have hm3 := wrap_small (r4 * 4 / 12) (by omega) (by omega); obtain ⟨X, hX, hX1⟩ := lit4_new w4 (IntKind.i64.wrap (1 + r3)) 65536 0 65537 (r4 * 4 / 12) hq1 hq2 (fun X => 0 ≤ X ∧ X ≤ 65537) hwp (by constructor <;> omega) (by constructor <;> omega) (by constructor <;> omega)))
  all_goals
    go_wp2
    go_ret2
    refine ⟨_, _, rfl, hs1, hs2, hX1.1, hX1.2, ?_⟩
    have q1 := hb1.drew.trans (grown_below ht2 (Nat.le_refl _) hb1.size)
    have q2 := q1.trans (ht3.below (Nat.le_refl _))
    first
      | exact (q2.alloc q2.size _).trans (ht4.below (Nat.le_refl _))
      | exact (q2.trans (ht4.below (Nat.le_refl _))).alloc (q2.trans (ht4.below (Nat.le_refl _))).size _
end Go.Proofs.Ytefpjomhedlpnaa
