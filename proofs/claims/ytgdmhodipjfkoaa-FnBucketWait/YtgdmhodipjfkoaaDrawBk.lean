/- A bucket, drawn. -/
import Derived.Test.YtgdmhodipjfkoaaDrawL
import Derived.Test.YtgdmhodipjfkoaaQB
import Derived.Deep.RegionWith
import Derived.BigRegion
namespace Go.Proofs.Ytgdmhodipjfkoaa
open Go.ChangeShapes Go.WideShapes Go.ChangeAt Go.RowKit Go.Sort

/-- Where a drawn bucket is built: the reader, the result's block, the bucket's block. -/
structure BkSt (w W : World) (g q P : Nat) (lv mo ra at' : Int) : Prop where
  rd : Rd W g q
  gr : w.grownBy W (some g)
  lt : g < w.heap.size
  res : W.heap[w.heap.size]? = some (.cells #[.int .i64 0, .int .i64 0, .int .i64 0, .int .i64 0] 24 (0, 0))
  bk : W.heap[P]? = some (.cells #[.int .i64 lv, .int .i64 mo, .int .i64 ra, .int .i64 at'] 24 (0, 0))
  pb : w.heap.size < P
theorem BkSt.touch {w W W' : World} {g q P : Nat} {lv mo ra at' : Int} (h : BkSt w W g q P lv mo ra at') (ht : Touch g W W') (hr : Rd W' g (q + 1)) : BkSt w W' g (q + 1) P lv mo ra at' :=
  ⟨hr, grown_trans h.gr ht.grown, h.lt, by rw [ht.block _ (by have := h.lt; omega)]; exact h.res, by rw [ht.block _ (by have := h.lt; have := h.pb; omega)]; exact h.bk, h.pb⟩
theorem BkSt.below {w W W' : World} {g q P : Nat} {lv mo ra at' : Int} (h : BkSt w W g q P lv mo ra at') (hb : Below W.heap.size W W') : BkSt w W' g q P lv mo ra at' :=
  ⟨h.rd.kept hb, grown_trans h.gr (below_grown hb _), h.lt, kept h.res hb, kept h.bk hb, h.pb⟩
theorem grownSet {w W : World} {r : Option Nat} (h : w.grownBy W r) {p : Addr} (hp : w.heap.size ≤ p.block) (u : Value) : w.grownBy (W.setCell p u) r :=
  ⟨h.os, h.tape, h.output, by rw [show (W.setCell p u).heap.size = W.heap.size by simp [World.setCell]]; exact h.size, fun k hk hr => (Below.heap_setCell _ p _ k (by omega)).trans (h.block k hk hr)⟩
theorem rdSet {w : World} {g p : Nat} (h : Rd w g p) {a : Addr} (ha : g < a.block) (u : Value) : Rd (w.setCell a u) g p := h.keptB (B := a.block) ((Below.refl _ _).setCell (Nat.le_refl _) u) ha
theorem BkSt.set0 {w W : World} {g q P : Nat} {lv mo ra at' : Int} (h : BkSt w W g q P lv mo ra at') (x : Int) : BkSt w (W.setCell ⟨P, 0, none⟩ (.int .i64 x)) g q P x mo ra at' :=
  ⟨rdSet h.rd (Nat.lt_trans h.lt h.pb) _, grownSet h.gr (Nat.le_of_lt h.pb) _, h.lt, set_other h.res (by have := h.pb; omega) _ _, set_block h.bk 0 _, h.pb⟩
theorem BkSt.set2 {w W : World} {g q P : Nat} {lv mo ra at' : Int} (h : BkSt w W g q P lv mo ra at') (x : Int) : BkSt w (W.setCell ⟨P, 2, none⟩ (.int .i64 x)) g q P lv mo x at' :=
  ⟨rdSet h.rd (Nat.lt_trans h.lt h.pb) _, grownSet h.gr (Nat.le_of_lt h.pb) _, h.lt, set_other h.res (by have := h.pb; omega) _ _, set_block h.bk 2 _, h.pb⟩
theorem BkSt.set3 {w W : World} {g q P : Nat} {lv mo ra at' : Int} (h : BkSt w W g q P lv mo ra at') (x : Int) : BkSt w (W.setCell ⟨P, 3, none⟩ (.int .i64 x)) g q P lv mo ra x :=
  ⟨rdSet h.rd (Nat.lt_trans h.lt h.pb) _, grownSet h.gr (Nat.le_of_lt h.pb) _, h.lt, set_other h.res (by have := h.pb; omega) _ _, set_block h.bk 3 _, h.pb⟩

/-- What a drawn bucket is: four small numbers; the reader goes on. -/
def BkOut (w : World) (g p : Nat) (e : Ending) (w' : World) : Prop :=
  ∃ (lv mo ra at' : Int) (q : Nat), e = .returned (.agg #[.int .i64 lv, .int .i64 mo, .int .i64 ra, .int .i64 at']) ∧ q ≤ p + 6 ∧ -1 ≤ at' ∧ at' ≤ 100000 ∧ Rd w' g q ∧ w.grownBy w' (some g)

/-- The result's block is written, cell by cell. -/
theorem BkSt.done {w W : World} {g q P p : Nat} {lv mo ra at' : Int} (h : BkSt w W g q P lv mo ra at') (hq : q ≤ p + 6) (h1 : -1 ≤ at') (h2 : at' ≤ 100000) :
    ∃ V, V = (((W.setCell ⟨w.heap.size, 0, none⟩ (.int .i64 lv)).setCell ⟨w.heap.size, 1, none⟩ (.int .i64 mo)).setCell ⟨w.heap.size, 2, none⟩ (.int .i64 ra)).setCell ⟨w.heap.size, 3, none⟩ (.int .i64 at') ∧
      V.cell? ⟨w.heap.size, 0, none⟩ = some (.int .i64 lv) ∧ V.cell? ⟨w.heap.size, 1, none⟩ = some (.int .i64 mo) ∧ V.cell? ⟨w.heap.size, 2, none⟩ = some (.int .i64 ra) ∧ V.cell? ⟨w.heap.size, 3, none⟩ = some (.int .i64 at') ∧
      BkOut w g p (.returned (.agg #[.int .i64 lv, .int .i64 mo, .int .i64 ra, .int .i64 at'])) V := by
  have Z := set_block (set_block (set_block (set_block h.res 0 (.int .i64 lv)) 1 (.int .i64 mo)) 2 (.int .i64 ra)) 3 (.int .i64 at')
  refine ⟨_, rfl, box_cell Z 0 rfl, box_cell Z 1 rfl, box_cell Z 2 rfl, box_cell Z 3 rfl, lv, mo, ra, at', q, rfl, hq, h1, h2, ?_, ?_⟩
  · exact rdSet (rdSet (rdSet (rdSet h.rd h.lt _) h.lt _) h.lt _) h.lt _
  · exact grownSet (grownSet (grownSet (grownSet h.gr (Nat.le_refl _) _) (Nat.le_refl _) _) (Nat.le_refl _) _) (Nat.le_refl _) _

/-- .. and a literal lies behind. -/
theorem BkSt.done' {w W : World} {g q P p : Nat} {lv mo ra at' : Int} (h : BkSt w W g q P lv mo ra at') (hq : q ≤ p + 6) (h1 : -1 ≤ at') (h2 : at' ≤ 100000) (o : Obj) :
    ∃ V, V = ((((W.setCell ⟨w.heap.size, 0, none⟩ (.int .i64 lv)).setCell ⟨w.heap.size, 1, none⟩ (.int .i64 mo)).setCell ⟨w.heap.size, 2, none⟩ (.int .i64 ra)).setCell ⟨w.heap.size, 3, none⟩ (.int .i64 at')).alloc o ∧
      V.cell? ⟨w.heap.size, 0, none⟩ = some (.int .i64 lv) ∧ V.cell? ⟨w.heap.size, 1, none⟩ = some (.int .i64 mo) ∧ V.cell? ⟨w.heap.size, 2, none⟩ = some (.int .i64 ra) ∧ V.cell? ⟨w.heap.size, 3, none⟩ = some (.int .i64 at') ∧
      BkOut w g p (.returned (.agg #[.int .i64 lv, .int .i64 mo, .int .i64 ra, .int .i64 at'])) V := by
  have Z := set_block (set_block (set_block (set_block h.res 0 (.int .i64 lv)) 1 (.int .i64 mo)) 2 (.int .i64 ra)) 3 (.int .i64 at')
  obtain ⟨V, hV, _, _, _, _, lv', mo', ra', at'', q', he, k1, k2, k3, k4, k5⟩ := h.done (p := p) hq h1 h2
  rw [← hV] at Z ⊢
  have b : Below V.heap.size V (V.alloc o) := (Below.refl _ _).alloc (Nat.le_refl _) _
  have Z' := kept Z b
  exact ⟨_, rfl, box_cell Z' 0 rfl, box_cell Z' 1 rfl, box_cell Z' 2 rfl, box_cell Z' 3 rfl, lv', mo', ra', at'', q', he, k1, k2, k3, k4.kept b, grown_trans k5 (below_grown b _)⟩
theorem BkSt.drew {w W : World} {g q P : Nat} {lv mo ra at' : Int} (h : BkSt w W g q P lv mo ra at') : BkSt w W.drew g q P lv mo ra at' := h.below (Below.refl _ _).drew
theorem BkSt.lit {w W : World} {g q P : Nat} {lv mo ra at' : Int} (h : BkSt w W g q P lv mo ra at') (o : Obj) : BkSt w (W.alloc o) g q P lv mo ra at' := h.below ((Below.refl _ _).alloc (Nat.le_refl _) _)
theorem lit2_new (W : World) (x a i : Int) (h1 : 0 ≤ i) (h2 : i < 2) : ∃ X, (W.alloc (.cells #[.int .i64 x, .int .i64 a] 3)).cell? ⟨W.heap.size, i.toNat, none⟩ = some (.int .i64 X) := by
  have hh := heap_alloc_new W (.cells #[.int .i64 x, .int .i64 a] 3)
  have : i = 0 ∨ i = 1 := by omega
  rcases this with rfl | rfl
  · exact ⟨x, by simp only [World.cell?]; rw [hh]; rfl⟩
  · exact ⟨a, by simp only [World.cell?]; rw [hh]; rfl⟩
theorem lit2_kept {W w' : World} {x a : Int} {g : Nat} (ht : Touch g (W.alloc (.cells #[.int .i64 x, .int .i64 a] 3)).drew w') (hg : g < W.heap.size) (i : Int) (h1 : 0 ≤ i) (h2 : i < 2) : ∃ X, w'.cell? ⟨W.heap.size, i.toNat, none⟩ = some (.int .i64 X) := by
  rw [World.cell?_of_block (w := W.alloc (.cells #[.int .i64 x, .int .i64 a] 3)) (a := ⟨W.heap.size, i.toNat, none⟩) (ht.block _ (show W.heap.size ≠ g by omega))]
  exact lit2_new W x a i h1 h2

set_option maxHeartbeats 2000000 in
theorem l15Bucket_any (g p : Nat) (w : World) (hr : Rd w g p) (hp : p ≤ 1000000) :
    Calls Try.prog 15 #[.pointer (some ⟨g, 0, none⟩)] w fun e w' => BkOut w g p e w' := by
  have hlt := hr.lt
  go_enter Try.func15, Try.ntmps15
  go_wp2_with fail
  refine (pick_any g p 60 _ (hr.kept ((Below.refl _ _).alloc (Nat.le_refl _) _)) (by omega) (by omega) (by omega)).mono ?_
  rintro e w1 ⟨r1, rfl, r1a, r1b, hr1, ht1⟩
  go_wp2_with fail
  refine (pick_any g (p + 1) 12 _ hr1 (by omega) (by omega) (by omega)).mono ?_
  rintro e w2 ⟨r2, rfl, r2a, r2b, hr2, ht2⟩
  go_wp2_with fail
  refine (pick_any g (p + 1 + 1) 50 _ hr2 (by omega) (by omega) (by omega)).mono ?_
  rintro e w3 ⟨r3, rfl, r3a, r3b, hr3, ht3⟩
  have S3 : Hid (BkSt w (w3.alloc (.cells #[.int .i64 0, .int .i64 r1, .int .i64 r2, .int .i64 r3] 24)) g (p + 3) w3.heap.size 0 r1 r2 r3) := by
    have hs : w3.heap.size = w.heap.size + 1 := by rw [ht3.size, ht2.size, ht1.size]; simp
    have b : Below w3.heap.size w3 (w3.alloc (.cells #[.int .i64 0, .int .i64 r1, .int .i64 r2, .int .i64 r3] 24)) := (Below.refl _ _).alloc (Nat.le_refl _) _
    refine ⟨hr3.kept b, ?_, hlt, kept ?_ b, laid _ _ _, by omega⟩
    · exact grown_trans (grown_trans (grown_trans (grown_trans (below_grown ((Below.refl _ _).alloc (Nat.le_refl _) _) _) ht1.grown) ht2.grown) ht3.grown) (below_grown b _)
    · rw [ht3.block _ (by omega), ht2.block _ (by omega), ht1.block _ (by omega)]; exact laid w _ _
  clear hr1 ht1 hr2 ht2 hr3 ht3 hr
  go_wp2_with fail
  refine (pick_any g (p + 3) (r1 + 1) _ (by exact S3.out.rd) (by omega) (by omega) (by omega)).mono ?_
  rintro e w4 ⟨r4, rfl, r4a, r4b, hr4, ht4⟩
  have S4 := hid ((S3.out.touch ht4 hr4))
  obtain ⟨P, hP⟩ : ∃ P, P = w3.heap.size := ⟨_, rfl⟩
  rw [← hP] at S4 ⊢
  clear hr4 ht4 S3 hP
  have f0 := box_frozen S4.out.bk 0
  have c0 := box_cell S4.out.bk 0 (v := .int .i64 0) rfl
  go_wp2_with fail
  have S5 := hid (S4.out.set0 r4)
  refine (pick_any g (p + 3 + 1) 16 _ (by exact S5.out.rd) (by omega) (by omega) (by omega)).mono ?_
  rintro e w5 ⟨r5, rfl, r5a, r5b, hr5, ht5⟩
  have S6 := hid (S5.out.touch ht5 hr5)
  clear hr5 ht5 S4 S5 f0 c0
  have f0 := box_frozen S6.out.bk 0
  have f2 := box_frozen S6.out.bk 2
  have f3 := box_frozen S6.out.bk 3
  have c0 := box_cell S6.out.bk 0 (v := .int .i64 r4) rfl
  have c1 := box_cell S6.out.bk 1 (v := .int .i64 r1) rfl
  have c2 := box_cell S6.out.bk 2 (v := .int .i64 r2) rfl
  have c3 := box_cell S6.out.bk 3 (v := .int .i64 r3) rfl
  have q0 := box_cell S6.out.res 0 (v := .int .i64 0) rfl
  have q1 := box_cell S6.out.res 1 (v := .int .i64 0) rfl
  have q2 := box_cell S6.out.res 2 (v := .int .i64 0) rfl
  have q3 := box_cell S6.out.res 3 (v := .int .i64 0) rfl
  have z0 := box_frozen S6.out.res 0
  have z1 := box_frozen S6.out.res 1
  have z2 := box_frozen S6.out.res 2
  have z3 := box_frozen S6.out.res 3
  have hne : ¬ P = w.heap.size := by have := S6.out.pb; omega
  have hne' : ¬ w.heap.size = P := by have := S6.out.pb; omega
  have l1 : P < w5.heap.size := lt_of_block S6.out.bk
  have l2 : w.heap.size < w5.heap.size := lt_of_block S6.out.res
  by_cases k0 : r5 = 0
  · have k0' : (r5 == 0) = true := by simp [k0]
    clear k0
    have w1' : IntKind.i64.wrap (r1 + 1) = r1 + 1 := wrap_small _ (by omega) (by omega)
    go_wp2_with fail
    have hg5 : g < w5.heap.size := by omega
    go_region_with (first
      | (go_at_call 16; refine (pick_any g (p + 3 + 1 + 1) 2 _ (by exact (S6.out.lit _).drew.rd) (by omega) (by omega) (by omega)).mono ?_; rintro e w6 ⟨r6, rfl, r6a, r6b, hr6, ht6⟩; obtain ⟨X, hX⟩ := lit2_kept ht6 hg5 r6 r6a r6b; have S7 := hid ((S6.out.lit _).drew.touch ht6 hr6); clear f0 f2 f3 c0 c1 c2 c3 q0 q1 q2 q3 z0 z1 z2 z3; have f0 := box_frozen S7.out.bk 0; have c0 := box_cell S7.out.bk 0 (v := .int .i64 r4) rfl; have c1 := box_cell S7.out.bk 1 (v := .int .i64 r1) rfl; have c2 := box_cell S7.out.bk 2 (v := .int .i64 r2) rfl; have c3 := box_cell S7.out.bk 3 (v := .int .i64 r3) rfl; have q0 := box_cell S7.out.res 0 (v := .int .i64 0) rfl; have q1 := box_cell S7.out.res 1 (v := .int .i64 0) rfl; have q2 := box_cell S7.out.res 2 (v := .int .i64 0) rfl; have q3 := box_cell S7.out.res 3 (v := .int .i64 0) rfl; have z0 := box_frozen S7.out.res 0; have z1 := box_frozen S7.out.res 1; have z2 := box_frozen S7.out.res 2; have z3 := box_frozen S7.out.res 3; have l1 : P < w6.heap.size := lt_of_block S7.out.bk; have l2 : w.heap.size < w6.heap.size := lt_of_block S7.out.res; clear hr6 ht6)
      | (go_at_call 16; refine (pick_any g (p + 3 + 1 + 1) 2 _ (by exact S6.out.drew.rd) (by omega) (by omega) (by omega)).mono ?_; rintro e w6 ⟨r6, rfl, r6a, r6b, hr6, ht6⟩; obtain ⟨X, hX⟩ := lit2_new w6 (-1) (r1 + 1) r6 r6a r6b; have S7 := hid (S6.out.drew.touch ht6 hr6); clear f0 f2 f3 c0 c1 c2 c3 q0 q1 q2 q3 z0 z1 z2 z3; have f0 := box_frozen S7.out.bk 0; have c0 := box_cell S7.out.bk 0 (v := .int .i64 r4) rfl; have c1 := box_cell S7.out.bk 1 (v := .int .i64 r1) rfl; have c2 := box_cell S7.out.bk 2 (v := .int .i64 r2) rfl; have c3 := box_cell S7.out.bk 3 (v := .int .i64 r3) rfl; have q0 := box_cell S7.out.res 0 (v := .int .i64 0) rfl; have q1 := box_cell S7.out.res 1 (v := .int .i64 0) rfl; have q2 := box_cell S7.out.res 2 (v := .int .i64 0) rfl; have q3 := box_cell S7.out.res 3 (v := .int .i64 0) rfl; have z0 := box_frozen S7.out.res 0; have z1 := box_frozen S7.out.res 1; have z2 := box_frozen S7.out.res 2; have z3 := box_frozen S7.out.res 3; have l1 : P < w6.heap.size := lt_of_block S7.out.bk; have l2 : w.heap.size < w6.heap.size := lt_of_block S7.out.res; clear hr6 ht6))
    all_goals
      go_wp2_with fail
      first
        | (obtain ⟨V, hV, v0, v1, v2, v3, hO⟩ := (S7.out.set0 X).done (p := p) (by omega) (by omega) (by omega)
           rw [← hV]
           refine bodyPost_ret (v := .agg #[.int .i64 X, .int .i64 r1, .int .i64 r2, .int .i64 r3]) ?_ rfl hO
           simp [results, Try.results15, go_sem, v0, v1, v2, v3])
        | (obtain ⟨V, hV, v0, v1, v2, v3, hO⟩ := (S7.out.set0 X).done' (p := p) (by omega) (by omega) (by omega) (.cells #[.int .i64 (-1), .int .i64 (r1 + 1)] 3)
           rw [← hV]
           refine bodyPost_ret (v := .agg #[.int .i64 X, .int .i64 r1, .int .i64 r2, .int .i64 r3]) ?_ rfl hO
           simp [results, Try.results15, go_sem, v0, v1, v2, v3])
  have k0' : (r5 == 0) = false := by simp [k0]
  by_cases k1 : r5 = 1
  · have k1' : (r5 == 1) = true := by simp [k1]
    clear k0 k1
    have S7 := hid (S6.out.set2 (-1))
    go_wp2_with fail
    obtain ⟨V, hV, v0, v1, v2, v3, hO⟩ := S7.out.done (p := p) (by omega) (by omega) (by omega)
    rw [← hV]
    refine bodyPost_ret (v := .agg #[.int .i64 r4, .int .i64 r1, .int .i64 (-1), .int .i64 r3]) ?_ rfl hO
    simp [results, Try.results15, go_sem, v0, v1, v2, v3]
  have k1' : (r5 == 1) = false := by simp [k1]
  by_cases k2 : r5 = 2
  · have k2' : (r5 == 2) = true := by simp [k2]
    clear k0 k1 k2
    have S7 := hid (S6.out.set3 100000)
    go_wp2_with fail
    obtain ⟨V, hV, v0, v1, v2, v3, hO⟩ := S7.out.done (p := p) (by omega) (by omega) (by omega)
    rw [← hV]
    refine bodyPost_ret (v := .agg #[.int .i64 r4, .int .i64 r1, .int .i64 r2, .int .i64 100000]) ?_ rfl hO
    simp [results, Try.results15, go_sem, v0, v1, v2, v3]
  · have k2' : (r5 == 2) = false := by simp [k2]
    clear k0 k1 k2
    go_wp2_with fail
    obtain ⟨V, hV, v0, v1, v2, v3, hO⟩ := S6.out.done (p := p) (by omega) (by omega) (by omega)
    rw [← hV]
    refine bodyPost_ret (v := .agg #[.int .i64 r4, .int .i64 r1, .int .i64 r2, .int .i64 r3]) ?_ rfl hO
    simp [results, Try.results15, go_sem, v0, v1, v2, v3]
end Go.Proofs.Ytgdmhodipjfkoaa
