/- A bucket and a tick, drawn. -/
import Derived.Test.YtpjkddccjdpbaaaDrawBk
namespace Go.Proofs.Ytpjkddccjdpbaaa
open Go.ChangeShapes Go.WideShapes Go.ChangeAt Go.RowKit Go.Sort

theorem bytes_below {w w' : World} {a : Option Addr} {len cap : Nat} {zs : List Int} (h : Bytes w a len cap zs) (hb : Below w.heap.size w w') : Bytes w' a len cap zs := by
  rcases h with h | ⟨x, h1, h2, h3, h4, h5, h6⟩
  · exact .inl h
  · exact .inr ⟨x, h1, h2, h3, h4, fun i hi => by rw [hb.cell (p := x.add i) (block_lt_of_cell (h5 i hi))]; exact h5 i hi, h6⟩
/-- A literal of numbers, read at an index. -/
def Nums (cs : Array Value) (n : Nat) : Prop := ∀ k, k < n → ∃ X : Int, cs[k]? = some (.int .i64 X)
theorem nums4 (a b c d : Int) : Nums #[.int .i64 a, .int .i64 b, .int .i64 c, .int .i64 d] 4 := by
  intro k hk
  have : k = 0 ∨ k = 1 ∨ k = 2 ∨ k = 3 := by omega
  rcases this with rfl | rfl | rfl | rfl <;> exact ⟨_, rfl⟩
theorem nums3 (a b c : Int) : Nums #[.int .i64 a, .int .i64 b, .int .i64 c] 3 := by
  intro k hk
  have : k = 0 ∨ k = 1 ∨ k = 2 := by omega
  rcases this with rfl | rfl | rfl <;> exact ⟨_, rfl⟩
theorem nums_lit {l : List Value} {k : Nat} {v : Value} {h : k < l.length} (e : l.toArray[k]? = some v) : l[k] = v := by
  rw [List.getElem?_toArray] at e
  exact (List.getElem?_eq_some_iff.1 e).2
theorem nums_at {W : World} {g : Nat} {cs : Array Value} {t : TypeId} {n : Nat} (h : W.heap[g]? = some (.cells cs t (0, 0))) (hn : Nums cs n) (i : Int) (h1 : 0 ≤ i) (h2 : i < n) : ∃ X, W.cell? ⟨g, i.toNat, none⟩ = some (.int .i64 X) := by
  obtain ⟨X, hX⟩ := hn i.toNat (by omega)
  exact ⟨X, box_cell h i.toNat hX⟩

/-- Where a draw that answers with a bucket goes on: the reader, and the result's block ahead of it. -/
structure BtSt (w W : World) (g q : Nat) : Prop where
  rd : Rd W g q
  bl : Below w.heap.size w W
  lt : w.heap.size < g
  res : W.heap[w.heap.size]? = some (.cells #[.int .i64 0, .int .i64 0, .int .i64 0, .int .i64 0] 24 (0, 0))
theorem BtSt.touch {w W W' : World} {g q q' : Nat} (h : BtSt w W g q) (ht : Touch g W W') (hr : Rd W' g q') : BtSt w W' g q' :=
  ⟨hr, h.bl.trans (ht.below (Nat.le_of_lt h.lt)), h.lt, by rw [ht.block _ (by have := h.lt; omega)]; exact h.res⟩
theorem BtSt.grown {w W W' : World} {g q q' : Nat} (h : BtSt w W g q) (ht : W.grownBy W' (some g)) (hr : Rd W' g q') : BtSt w W' g q' :=
  ⟨hr, h.bl.trans (grown_below ht (Nat.le_of_lt h.lt) h.bl.size), h.lt, by rw [ht.block _ (lt_of_block h.res) (by intro e; have := h.lt; simp at e; omega)]; exact h.res⟩
theorem BtSt.below {w W W' : World} {g q : Nat} (h : BtSt w W g q) (hb : Below W.heap.size W W') : BtSt w W' g q :=
  ⟨h.rd.kept hb, h.bl.trans (hb.mono h.bl.size), h.lt, kept h.res hb⟩
theorem BtSt.drew {w W : World} {g q : Nat} (h : BtSt w W g q) : BtSt w W.drew g q := h.below (Below.refl _ _).drew
theorem BtSt.lit {w W : World} {g q : Nat} (h : BtSt w W g q) (o : Obj) : BtSt w (W.alloc o) g q := h.below ((Below.refl _ _).alloc (Nat.le_refl _) _)
/-- The result's block is written, cell by cell. -/
theorem BtSt.done {w W : World} {g q : Nat} (h : BtSt w W g q) (lv mo ra at' : Int) :
    ∃ V, V = (((W.setCell ⟨w.heap.size, 0, none⟩ (.int .i64 lv)).setCell ⟨w.heap.size, 1, none⟩ (.int .i64 mo)).setCell ⟨w.heap.size, 2, none⟩ (.int .i64 ra)).setCell ⟨w.heap.size, 3, none⟩ (.int .i64 at') ∧
      V.heap[w.heap.size]? = some (.cells #[.int .i64 lv, .int .i64 mo, .int .i64 ra, .int .i64 at'] 24 (0, 0)) ∧ Below w.heap.size w V := by
  have Z := set_block (set_block (set_block (set_block h.res 0 (.int .i64 lv)) 1 (.int .i64 mo)) 2 (.int .i64 ra)) 3 (.int .i64 at')
  exact ⟨_, rfl, Z, (((h.bl.setCell (p := ⟨w.heap.size, 0, none⟩) (Nat.le_refl _) _).setCell (p := ⟨w.heap.size, 1, none⟩) (Nat.le_refl _) _).setCell (p := ⟨w.heap.size, 2, none⟩) (Nat.le_refl _) _).setCell (p := ⟨w.heap.size, 3, none⟩) (Nat.le_refl _) _⟩
theorem BtSt.start {w W : World} {zs : Array Value} (hz : zs = #[.int .i64 0, .int .i64 0, .int .i64 0, .int .i64 0]) (hr : Rd W (w.alloc (.cells zs 24)).heap.size 0) (hb : Below (w.alloc (.cells zs 24)).heap.size (w.alloc (.cells zs 24)) W) : BtSt w W (w.heap.size + 1) 0 := by
  subst hz
  have e : (w.alloc (.cells #[.int .i64 0, .int .i64 0, .int .i64 0, .int .i64 0] 24)).heap.size = w.heap.size + 1 := by simp
  have b : Below w.heap.size w (w.alloc (.cells #[.int .i64 0, .int .i64 0, .int .i64 0, .int .i64 0] 24)) := (Below.refl _ _).alloc (Nat.le_refl _) _
  rw [e] at hr
  exact ⟨hr, b.trans (hb.mono b.size), by omega, kept (laid w _ _) hb⟩

set_option maxHeartbeats 1000000 in
theorem drawBucketAt (a : Option Addr) (len cap : Nat) (zs : List Int) (w : World) (h : Bytes w a len cap zs) :
    Calls Try.prog 12 #[.slice a len cap] w fun e w' => ∃ lv mo ra at' now : Int, e = .returned (.tuple #[.agg #[.int .i64 lv, .int .i64 mo, .int .i64 ra, .int .i64 at'], .int .i64 now]) ∧ Below w.heap.size w w' := by
  go_enter Try.func12, Try.ntmps12
  go_wp2_with (go_at_call 17; refine (l1Open_any a len cap zs _ (by exact bytes_below h ((Below.refl _ _).alloc (Nat.le_refl _) _))).mono ?_; rintro e w1 ⟨rfl, hr1, hb1⟩)
  have S1 := hid (BtSt.start rfl hr1 hb1)
  clear h hr1 hb1
  go_region_with (first
    | (go_at_call 18; refine (l15Bucket_any (w.heap.size + 1) 0 _ S1.out.drew.rd (by omega)).mono ?_; rintro e w2 ⟨lv, mo, ra, at', q, rfl, hq, ha1, ha2, hr2, hg2⟩; have S2 := hid (S1.out.drew.grown hg2 hr2); clear hr2 hg2)
    | (go_at_call_of 19 (Value.int .i64 80); refine (pick_any (w.heap.size + 1) q 80 _ S2.out.rd (by omega) (by omega) (by omega)).mono ?_; rintro e w3 ⟨r3, rfl, r3a, r3b, hr3, ht3⟩; have S3 := hid (S2.out.touch ht3 hr3); have hg3 := hr3.lt; clear hr3 ht3 S2)
    | (go_at_call_of 19 (Value.int .i64 12); refine (pick_any (w.heap.size + 1) (q + 1) 12 _ ?_ (by omega) (by omega) (by omega)).mono ?_; (with_reducible exact (S3.out.lit (.cells #[.int .i64 r3, .int .i64 99999, .int .i64 (-1), .int .i64 100000] 3)).rd); rintro e w4 ⟨r4, rfl, r4a, r4b, hr4, ht4⟩; have hq1 : 0 ≤ r4 * 4 / 12 := (by omega); have hq2 : r4 * 4 / 12 < 4 := (by omega); have hm1 := wrap_small (r4 * 4) (by omega) (by omega); have hm2 := tdiv_small (r4 * 4) 12 (by omega); have hm3 := wrap_small (r4 * 4 / 12) (by omega) (by omega); have S4 := hid ((S3.out.lit (.cells #[.int .i64 r3, .int .i64 99999, .int .i64 (-1), .int .i64 100000] 3)).touch ht4 hr4); have hL : w4.heap[w3.heap.size]? = some (.cells #[.int .i64 r3, .int .i64 99999, .int .i64 (-1), .int .i64 100000] 3 (0, 0)) := ((ht4.block _ (by omega)).trans (laid w3 _ _)); obtain ⟨X, hx0⟩ := nums4 r3 99999 (-1) 100000 (r4 * 4 / 12).toNat (by omega); have hX := box_cell hL _ hx0; have HX := hid hx0; clear hx0 hL; have hne3 : ¬ w3.heap.size = w.heap.size := (by omega); have q0 := box_cell S4.out.res 0 (v := .int .i64 0) rfl; have q1 := box_cell S4.out.res 1 (v := .int .i64 0) rfl; have q2 := box_cell S4.out.res 2 (v := .int .i64 0) rfl; have q3 := box_cell S4.out.res 3 (v := .int .i64 0) rfl; have z0 := box_frozen S4.out.res 0; have z1 := box_frozen S4.out.res 1; have z2 := box_frozen S4.out.res 2; have z3 := box_frozen S4.out.res 3; have l2 : w.heap.size < w4.heap.size := lt_of_block S4.out.res; clear hr4 ht4)
    | (go_at_call_of 19 (Value.int .i64 12); refine (pick_any (w.heap.size + 1) (q + 1) 12 _ ?_ (by omega) (by omega) (by omega)).mono ?_; (with_reducible exact S3.out.rd); rintro e w4 ⟨r4, rfl, r4a, r4b, hr4, ht4⟩; have hq1 : 0 ≤ r4 * 4 / 12 := (by omega); have hq2 : r4 * 4 / 12 < 4 := (by omega); have hm1 := wrap_small (r4 * 4) (by omega) (by omega); have hm2 := tdiv_small (r4 * 4) 12 (by omega); have hm3 := wrap_small (r4 * 4 / 12) (by omega) (by omega); have S4 := hid (S3.out.touch ht4 hr4); obtain ⟨X, hx0⟩ := nums4 r3 99999 (-1) 100000 (r4 * 4 / 12).toNat (by omega); have hX := box_cell (laid w4 #[.int .i64 r3, .int .i64 99999, .int .i64 (-1), .int .i64 100000] 3) _ hx0; have HX := hid hx0; clear hx0; have q0 := box_cell S4.out.res 0 (v := .int .i64 0) rfl; have q1 := box_cell S4.out.res 1 (v := .int .i64 0) rfl; have q2 := box_cell S4.out.res 2 (v := .int .i64 0) rfl; have q3 := box_cell S4.out.res 3 (v := .int .i64 0) rfl; have z0 := box_frozen S4.out.res 0; have z1 := box_frozen S4.out.res 1; have z2 := box_frozen S4.out.res 2; have z3 := box_frozen S4.out.res 3; have l2 : w.heap.size < w4.heap.size := lt_of_block S4.out.res; clear hr4 ht4))
  all_goals
    go_wp2_with fail
    obtain ⟨V, hV, Z, HB⟩ := S4.out.done lv mo ra at'
    rw [← hV]
    first
      | (have v0 := box_cell Z 0 (v := .int .i64 lv) rfl
         have v1 := box_cell Z 1 (v := .int .i64 mo) rfl
         have v2 := box_cell Z 2 (v := .int .i64 ra) rfl
         have v3 := box_cell Z 3 (v := .int .i64 at') rfl
         clear hV
         refine bodyPost_ret (w := V) (v := .tuple #[.agg #[.int .i64 lv, .int .i64 mo, .int .i64 ra, .int .i64 at'], .int .i64 X]) ?_ rfl ⟨lv, mo, ra, at', X, rfl, HB⟩
         simp [results, Try.results12, go_sem, v0, v1, v2, v3]
         try exact nums_lit HX.out)
      | (obtain ⟨U, hU⟩ : ∃ U, U = V.alloc (.cells #[.int .i64 r3, .int .i64 99999, .int .i64 (-1), .int .i64 100000] 3) := ⟨_, rfl⟩
         have b : Below V.heap.size V (V.alloc (.cells #[.int .i64 r3, .int .i64 99999, .int .i64 (-1), .int .i64 100000] 3)) := (Below.refl _ _).alloc (Nat.le_refl _) _
         have Z' := kept Z b
         have HB' := HB.trans (b.mono HB.size)
         rw [← hU] at Z' HB' ⊢
         have v0 := box_cell Z' 0 (v := .int .i64 lv) rfl
         have v1 := box_cell Z' 1 (v := .int .i64 mo) rfl
         have v2 := box_cell Z' 2 (v := .int .i64 ra) rfl
         have v3 := box_cell Z' 3 (v := .int .i64 at') rfl
         clear hV hU
         refine bodyPost_ret (v := .tuple #[.agg #[.int .i64 lv, .int .i64 mo, .int .i64 ra, .int .i64 at'], .int .i64 X]) ?_ rfl ⟨lv, mo, ra, at', X, rfl, HB'⟩
         simp [results, Try.results12, go_sem, v0, v1, v2, v3]
         try exact nums_lit HX.out)
end Go.Proofs.Ytpjkddccjdpbaaa
