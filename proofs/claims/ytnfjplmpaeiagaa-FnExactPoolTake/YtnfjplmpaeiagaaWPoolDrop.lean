/- The walk of the law on editions that are dropped. -/
import Derived.Test.YtnfjplmpaeiagaaPlE
import Derived.Test.YtnfjplmpaeiagaaFrmM
import Derived.Test.YtnfjplmpaeiagaaWPoolOk
import Derived.Deep.RegionHeld3
namespace Go.Proofs.Ytnfjplmpaeiagaa
open Go.ChangeShapes Go.WideShapes Go.ChangeAt Go.RowKit Go.Sort Go.Shelf

theorem mk_box {w w' : World} {own : Option Nat} (hg : ∀ g, g < w.heap.size → own ≠ some g → w'.heap[g]? = w.heap[g]?) {k : Nat} {o : Obj} (X : w.heap[k]? = some o) (hne : own ≠ some k) : w'.heap[k]? = some o := (hg k (lt_of_block X) hne).trans X
theorem mk_owns {w w' : World} {own : Option Nat} (hg : ∀ g, g < w.heap.size → own ≠ some g → w'.heap[g]? = w.heap[g]?) {base : Nat} {e : TypeId} {size : Nat} {v : Value} {n : Nat} {xs : List Value} (h : w.ownsRow base e size v n xs) (hne : ∀ k, v.ownBlock = some k → own ≠ some k) : w'.ownsRow base e size v n xs :=
  u_owns h (fun k hk => hg k (h.lt k hk).2 (hne k hk))

set_option maxHeartbeats 8000000 in
theorem poolDrop_of (a : Option Addr) (c : Nat) (fs R : List Fr) (hand H ed : Int) (w : World) (ha : FrsAt w a fs) (hs : fs.length ≤ 1048576) (hR : R.length ≤ 1048576)
    (hsp : ∀ a c w, FrsAt w a fs → Calls Try.prog 19 #[.agg #[.slice a fs.length c, .int .i64 hand], .int .i64 ed] w fun e w' => ∃ v, e = .returned v ∧ PoolO w w' R H v)
    (him : ∀ a c w, FrsAt w a fs → Calls Try.prog 20 #[.agg #[.slice a fs.length c, .int .i64 hand], .int .i64 ed] w fun e w' => ∃ v, e = .returned v ∧ PoolO w w' R H v) :
    Calls Try.prog 6 #[.agg #[.slice a fs.length c, .int .i64 hand], .int .i64 ed] w fun e w' => e = .returned (.bool true) ∧ Below w.heap.size w w' := by
  have HA := hid ha
  have HSP := hid hsp
  have HIM := hid him
  clear ha hsp him
  have hz : ¬ (1048576 - (fs.length : Int) < 0) := by omega
  go_enter Try.func6, Try.ntmps6
  go_wp2_with fail
  refine (szPool_in a fs.length c hand _ hs).mono ?_
  rintro e w1 ⟨rfl, b1⟩
  have X := hid (kept (laid w #[.slice a fs.length c, .int .i64 hand] 24) b1)
  have B := hid (u_cat (u_b1 _ _) b1)
  clear b1
  have p0 := box_cell X.out 0 (v := .slice a fs.length c) rfl
  have p1 := box_cell X.out 1 (v := .int .i64 hand) rfl
  go_wp2_with fail
  refine (toPool_any a c fs hand _ (HA.out.below B.out) hs).mono ?_
  rintro e w2 ⟨r1, f1, rfl, i1, b2⟩
  have I1 := hid (frs_at i1)
  have X := hid (kept X.out b2)
  have B := hid (u_cat B.out b2)
  clear b2 p0 p1 i1
  go_wp2_with fail
  refine (HSP.out r1 f1 _ I1.out).mono ?_
  rintro e w3 ⟨v, rfl, b0, d0, rfl, o3, b3⟩
  -- the model's answer, in a box
  have X := hid (kept (kept X.out b3) (u_b1 w3 (.cells #[.slice b0 R.length d0, .int .i64 H] 29)))
  have Y0 := hid (laid w3 #[.slice b0 R.length d0, .int .i64 H] 29)
  have F0 := hid ((frs_at o3).below (u_b1 w3 (.cells #[.slice b0 R.length d0, .int .i64 H] 29)))
  have O0 := hid (owns_below o3 (u_b1 w3 (.cells #[.slice b0 R.length d0, .int .i64 H] 29)))
  have B := hid (u_cat (u_cat B.out b3) (u_b1 w3 (.cells #[.slice b0 R.length d0, .int .i64 H] 29)))
  have S0 := hid (show (w3.alloc (.cells #[.slice b0 R.length d0, .int .i64 H] 29)).heap.size = w3.heap.size + 1 by simp)
  have S1 := hid b3.size
  have L0 := hid o3.lt
  have S2 := hid (lt_of_block X.out)
  clear b3 o3 I1
  have p0 := box_cell X.out 0 (v := .slice a fs.length c) rfl
  have p1 := box_cell X.out 1 (v := .int .i64 hand) rfl
  go_wp2_with fail
  refine (toPool_any a c fs hand _ (HA.out.below B.out) hs).mono ?_
  rintro e w4 ⟨q1, g1, rfl, j1, b4⟩
  rw [S0.out] at j1
  have b4' := u_cat b4 (u_b1 w4 (.cells #[.slice q1 fs.length g1, .int .i64 hand] 29))
  have X := hid (kept X.out b4')
  have Y0 := hid (kept Y0.out b4')
  have F0 := hid (F0.out.below b4')
  have O0 := hid (owns_below O0.out b4')
  have B := hid (u_cat B.out b4')
  have Yx := hid (laid w4 #[.slice q1 fs.length g1, .int .i64 hand] 29)
  have Ox := hid (owns_below j1 (u_b1 w4 (.cells #[.slice q1 fs.length g1, .int .i64 hand] 29)))
  have Lx := hid j1.lt
  have S3 := hid b4.size
  clear b4 b4' j1 p0 p1
  go_wp2_with fail
  refine (HIM.out q1 g1 _ (frs_at Ox.out)).mono ?_
  rintro e w5 ⟨v, rfl, bg, dg, rfl, o5, b5⟩
  rw [show (w4.alloc (.cells #[.slice q1 fs.length g1, .int .i64 hand] 29)).heap.size = w4.heap.size + 1 by simp] at o5
  have b5' := u_cat b5 (u_b1 w5 (.cells #[.slice bg R.length dg, .int .i64 H] 29))
  have X := hid (kept X.out b5')
  have Y0 := hid (kept Y0.out b5')
  have F0 := hid (F0.out.below b5')
  have O0 := hid (owns_below O0.out b5')
  have B := hid (u_cat B.out b5')
  have Yx := hid (kept Yx.out b5')
  have Ox := hid (owns_below Ox.out b5')
  have Yg := hid (laid w5 #[.slice bg R.length dg, .int .i64 H] 29)
  have Og := hid (owns_below o5 (u_b1 w5 (.cells #[.slice bg R.length dg, .int .i64 H] 29)))
  have Lg := hid o5.lt
  have S4 := hid b5.size
  have s0 := box_cell Y0.out 0 (v := .slice b0 R.length d0) rfl
  have s1 := box_cell Y0.out 1 (v := .int .i64 H) rfl
  clear b5 b5' o5
  go_wp2_with fail
  refine (eqPool_same bg b0 dg d0 R H _ (frs_at Og.out) F0.out (by omega)).mono ?_
  rintro e w6 ⟨rfl, b6⟩
  have X := hid (kept X.out b6)
  have Y0 := hid (kept Y0.out b6)
  have F0 := hid (F0.out.below b6)
  have O0 := hid (owns_below O0.out b6)
  have B := hid (u_cat B.out b6)
  have Yx := hid (kept Yx.out b6)
  have Ox := hid (owns_below Ox.out b6)
  have Yg := hid (kept Yg.out b6)
  have Og := hid (owns_below Og.out b6)
  clear b6 s0 s1
  have p0 := box_cell X.out 0 (v := .slice a fs.length c) rfl
  have p1 := box_cell X.out 1 (v := .int .i64 hand) rfl
  have s0 := box_cell Yx.out 0 (v := .slice q1 fs.length g1) rfl
  have s1 := box_cell Yx.out 1 (v := .int .i64 hand) rfl
  have m1 : w.heap.size < w6.heap.size := lt_of_block X.out
  have m2 : w4.heap.size < w6.heap.size := lt_of_block Yx.out
  go_wp2_with fail
  go_region_held3 (fun w' => w'.cell? ⟨w.heap.size, 0, none⟩ = some (.slice a fs.length c) ∧ w'.cell? ⟨w.heap.size, 1, none⟩ = some (.int .i64 hand) ∧ w'.cell? ⟨w4.heap.size, 0, none⟩ = some (.slice q1 fs.length g1) ∧ w'.cell? ⟨w4.heap.size, 1, none⟩ = some (.int .i64 hand)) (go_keep) (first
    | (go_at_call 10; refine (toPool_any a c fs hand _ (by exact (HA.out.below B.out).drewN 1) hs).mono ?_; rintro e w7 ⟨t1, h1, rfl, k1, b7⟩; have hc7 : ∀ bb o, bb < w6.heap.size → w7.cell? ⟨bb, o, none⟩ = w6.cell? ⟨bb, o, none⟩ := (u_cell b7).1; have I1 := hid (frs_at k1); have B7 := hid b7; clear k1 b7)
    | (go_at_call 12; refine (eqPool_same q1 t1 g1 h1 fs hand _ (by exact ((frs_at Ox.out).drewN 1).below B7.out) (by exact I1.out) (by omega)).mono ?_; rintro e w8 ⟨rfl, b8⟩; have hc8 : ∀ bb o, bb < w7.heap.size → w8.cell? ⟨bb, o, none⟩ = w7.cell? ⟨bb, o, none⟩ := (u_cell b8).1; have m3 : w6.heap.size ≤ w7.heap.size := B7.out.size; have m4 : w.heap.size < w7.heap.size := (by omega); have m5 : w4.heap.size < w7.heap.size := (by omega); have B8 := hid b8; clear b8))
  have b68 : Below w6.heap.size w6 w8 := u_cat (u_cat (below_drewN (Below.refl w6.heap.size w6) 1) B7.out) B8.out
  have X := hid (kept X.out b68)
  have Y0 := hid (kept Y0.out b68)
  have F0 := hid (F0.out.below b68)
  have O0 := hid (owns_below O0.out b68)
  have B := hid (u_cat B.out b68)
  have Yx := hid (kept Yx.out b68)
  have Ox := hid (owns_below Ox.out b68)
  have Yg := hid (kept Yg.out b68)
  have Og := hid (owns_below Og.out b68)
  clear p0 p1 s0 s1 m1 m2 m3 m4 m5 hc7 hc8 B7 B8 I1 b68
  rename_i hh
  clear hh
  have s0 := box_cell Yx.out 0 (v := .slice q1 fs.length g1) rfl
  have s1 := box_cell Yx.out 1 (v := .int .i64 hand) rfl
  go_wp2_with fail
  refine (markPool_any (w3.heap.size + 1) q1 g1 fs hand 1 _ Ox.out (by have := S3.out; have := S0.out; have := lt_of_block Yx.out; omega) hs (by omega) (by omega)).mono ?_
  rintro e w9 ⟨rfl, -, b9, g9⟩
  have nX : (.slice q1 fs.length g1 : Value).ownBlock ≠ some w.heap.size := fun h => by have := (Lx.out _ h).1; have := S1.out; have := S2.out; have := S0.out; omega
  have n0 : (.slice q1 fs.length g1 : Value).ownBlock ≠ some w3.heap.size := fun h => by have := (Lx.out _ h).1; omega
  have ng : (.slice q1 fs.length g1 : Value).ownBlock ≠ some w5.heap.size := fun h => by have := (Lx.out _ h).2; have := S4.out; simp at this; omega
  have X := hid (mk_box g9 X.out nX)
  have Y0 := hid (mk_box g9 Y0.out n0)
  have O0 := hid (mk_owns g9 O0.out (fun k hk h => by have := (Lx.out _ h).1; have := (L0.out k hk).2; omega))
  have Yg := hid (mk_box g9 Yg.out ng)
  have Og := hid (mk_owns g9 Og.out (fun k hk h => by have := (Lx.out _ h).2; have := (Lg.out k hk).1; omega))
  have B := hid (B.out.trans (b9.mono (by have := S0.out; have := S1.out; have := S2.out; omega)))
  clear s0 s1 g9 b9 nX n0 ng Yx Ox
  have hk1 : ¬ ((1 : Int) + 5 * fs.length < 0) := by omega
  have s0 := box_cell Yg.out 0 (v := .slice bg R.length dg) rfl
  have s1 := box_cell Yg.out 1 (v := .int .i64 H) rfl
  have u0 := box_cell Y0.out 0 (v := .slice b0 R.length d0) rfl
  have u1 := box_cell Y0.out 1 (v := .int .i64 H) rfl
  go_wp2_with fail
  refine (eqPool_same bg b0 dg d0 R H _ (frs_at Og.out) (frs_at O0.out) (by omega)).mono ?_
  rintro e w10 ⟨rfl, b10⟩
  have X := hid (kept X.out b10)
  have Y0 := hid (kept Y0.out b10)
  have O0 := hid (owns_below O0.out b10)
  have B := hid (u_cat B.out b10)
  have Yg := hid (kept Yg.out b10)
  have Og := hid (owns_below Og.out b10)
  clear b10 s0 s1 u0 u1
  have s0 := box_cell Yg.out 0 (v := .slice bg R.length dg) rfl
  have s1 := box_cell Yg.out 1 (v := .int .i64 H) rfl
  go_wp2_with fail
  refine (markPool_any (w4.heap.size + 1) bg dg R H 1 _ Og.out (by have := S4.out; simp at this; have := lt_of_block Yg.out; omega) hR (by omega) (by omega)).mono ?_
  rintro e w11 ⟨rfl, o11, b11, g11⟩
  have nX : (.slice bg R.length dg : Value).ownBlock ≠ some w.heap.size := fun h => by have := (Lg.out _ h).1; have := S1.out; have := S2.out; have := S0.out; have := S3.out; omega
  have n0 : (.slice bg R.length dg : Value).ownBlock ≠ some w3.heap.size := fun h => by have := (Lg.out _ h).1; have := S0.out; have := S3.out; omega
  have ng : (.slice bg R.length dg : Value).ownBlock ≠ some w5.heap.size := fun h => by have := (Lg.out _ h).2; omega
  have X := hid (mk_box g11 X.out nX)
  have Y0 := hid (mk_box g11 Y0.out n0)
  have O0 := hid (mk_owns g11 O0.out (fun k hk h => by have := (Lg.out _ h).1; have := (L0.out k hk).2; have := S0.out; have := S3.out; omega))
  have Yg := hid (mk_box g11 Yg.out ng)
  have Fg := hid (frs_at o11)
  have B := hid (B.out.trans (b11.mono (by have := S0.out; have := S1.out; have := S2.out; have := S3.out; omega)))
  clear s0 s1 g11 b11 o11 nX n0 ng Og
  have s0 := box_cell Yg.out 0 (v := .slice bg R.length dg) rfl
  have s1 := box_cell Yg.out 1 (v := .int .i64 H) rfl
  go_wp2_with fail
  refine (heldPool_any bg dg R.length H 1 _ Fg.out hR (by omega) (by omega)).mono ?_
  rintro e w12 ⟨rfl, b12⟩
  have X := hid (kept X.out b12)
  have Y0 := hid (kept Y0.out b12)
  have O0 := hid (owns_below O0.out b12)
  have B := hid (u_cat B.out b12)
  have Yg := hid (kept Yg.out b12)
  have Fg := hid (Fg.out.below b12)
  clear b12 s0 s1
  have hk2 : ¬ ((1 : Int) + 5 * R.length < 0) := by omega
  have p0 := box_cell X.out 0 (v := .slice a fs.length c) rfl
  have p1 := box_cell X.out 1 (v := .int .i64 hand) rfl
  go_wp2_with fail
  refine (toPool_any a c fs hand _ (HA.out.below B.out) hs).mono ?_
  rintro e w13 ⟨r2, f2, rfl, i2, b13⟩
  have I2 := hid (frs_at i2)
  have X := hid (kept X.out b13)
  have Y0 := hid (kept Y0.out b13)
  have O0 := hid (owns_below O0.out b13)
  have B := hid (u_cat B.out b13)
  have Yg := hid (kept Yg.out b13)
  have Fg := hid (Fg.out.below b13)
  clear b13 p0 p1 i2
  go_wp2_with fail
  refine (HIM.out r2 f2 _ I2.out).mono ?_
  rintro e w14 ⟨v, rfl, bh, dh, rfl, o14, b14⟩
  have b14' := u_cat b14 (u_b1 w14 (.cells #[.slice bh R.length dh, .int .i64 H] 29))
  have X := hid (kept X.out b14')
  have Y0 := hid (kept Y0.out b14')
  have O0 := hid (owns_below O0.out b14')
  have B := hid (u_cat B.out b14')
  have Yg := hid (kept Yg.out b14')
  have Fg := hid (Fg.out.below b14')
  have Fh := hid ((frs_at o14).below (u_b1 w14 (.cells #[.slice bh R.length dh, .int .i64 H] 29)))
  clear b14 b14' o14 I2
  have u0 := box_cell Y0.out 0 (v := .slice b0 R.length d0) rfl
  have u1 := box_cell Y0.out 1 (v := .int .i64 H) rfl
  go_wp2_with fail
  refine (eqPool_same bh b0 dh d0 R H _ Fh.out (frs_at O0.out) (by omega)).mono ?_
  rintro e w15 ⟨rfl, b15⟩
  have B := hid (u_cat B.out b15)
  have Yg := hid (kept Yg.out b15)
  have Fg := hid (Fg.out.below b15)
  clear b15 u0 u1 X Y0 O0
  have s0 := box_cell Yg.out 0 (v := .slice bg R.length dg) rfl
  have s1 := box_cell Yg.out 1 (v := .int .i64 H) rfl
  go_wp2_with fail
  refine (heldPool_any bg dg R.length H 1 _ Fg.out hR (by omega) (by omega)).mono ?_
  rintro e w16 ⟨rfl, b16⟩
  have B := hid (u_cat B.out b16)
  clear b16 s0 s1
  go_wp2_with fail
  go_ret
  exact ⟨rfl, B.out⟩

theorem poolDrop_big (a : Option Addr) (n c : Nat) (hand ed : Int) (w : World) (hs : 1048576 < n) (h1 : n ≤ 9223372036854775807) :
    Calls Try.prog 6 #[.agg #[.slice a n c, .int .i64 hand], .int .i64 ed] w fun e w' => e = .returned (.bool true) ∧ Below w.heap.size w w' := by
  go_enter Try.func6, Try.ntmps6
  go_wp2_with fail
  refine (szPool_out a n c hand _ hs h1).mono ?_
  rintro e w1 ⟨rfl, b1⟩
  go_wp2_with fail
  go_ret
  exact ⟨rfl, u_cat (u_b1 _ _) b1⟩

theorem walk_FnExactPoolDrop (cs0 : List Value) (a1 : Int) (w : World) (w0 : Reads w 24 cs0) (_ : (Lit.int .i64 a1).wf = true) :
    Calls Try.prog 6 #[.agg cs0.toArray, .int .i64 a1] w fun e w' => e = .returned (.bool true) ∧ Below w.heap.size w w' := by
  obtain ⟨a, cap, fs, hand, rfl, ha, hl⟩ := reads_pool w0
  by_cases h : fs.length ≤ 1048576
  · by_cases hp : poolP fs hand
    · obtain ⟨m, rfl⟩ : ∃ m : Nat, hand = m := ⟨hand.toNat, by have := hp.2.1; omega⟩
      exact poolDrop_of a cap fs (fs.map (dropF a1)) m m a1 w ha h (by rw [List.length_map]; exact h) (fun a c w ha => specPoolDrop_yes a c fs m a1 w ha hp) (fun a c w ha => implPoolDrop_yes a c fs m a1 w ha hp)
    · exact poolDrop_of a cap fs [] hand 0 a1 w ha h (by simp) (fun a c w ha => specPoolDrop_no a c fs hand a1 w ha h hp) (fun a c w ha => implPoolDrop_no a c fs hand a1 w ha h hp)
  · exact poolDrop_big a fs.length cap hand a1 w (by omega) hl
end Go.Proofs.Ytnfjplmpaeiagaa
