/- Frames and pools, as the laws make and compare them. -/
import Derived.Test.YtnfjplmpaeiagaaFrm
import Derived.Test.YtnfjplmpaeiagaaArgs
namespace Go.Proofs.Ytnfjplmpaeiagaa
open Go.ChangeShapes Go.WideShapes Go.ChangeAt Go.RowKit Go.Sort

theorem toFrame_any (f : Fr) (w : World) :
    Calls Try.prog 41 #[.agg #[.int .i64 f.h, .int .i64 f.e, .int .i64 f.b, .int .i64 f.d, .bool f.u]] w fun e w' => e = .returned (.agg #[.int .i64 f.h, .int .i64 f.e, .int .i64 f.b, .int .i64 f.d, .bool f.u]) ∧ Below w.heap.size w w' := by
  go_enter Try.func41, Try.ntmps41
  go_wp2
  refine bodyPost_ret (v := .agg #[.int .i64 f.h, .int .i64 f.e, .int .i64 f.b, .int .i64 f.d, .bool f.u]) ?_ rfl ⟨rfl, (((Below.refl _ _).alloc (Nat.le_refl _) _).alloc (by simp) _).alloc (by simp; omega) _⟩
  simp [results, Try.results41, go_sem]

theorem frcopy_set (fs : List Fr) (k : Nat) (h : k < fs.length) (f : Fr) (hf : fs[k]? = some f) : (fs.take k ++ List.replicate (fs.length - k) Fr.no).set k f = fs.take (k + 1) ++ List.replicate (fs.length - (k + 1)) Fr.no := by
  have hl : (fs.take k).length = k := by rw [List.length_take]; omega
  obtain rfl : fs[k] = f := by rw [List.getElem?_eq_getElem h] at hf; simpa using hf
  rw [List.set_append_right _ _ (by omega), hl, Nat.sub_self, List.take_succ_eq_append_getElem h]
  obtain ⟨m, hm⟩ : ∃ m, fs.length - k = m + 1 := ⟨fs.length - k - 1, by omega⟩
  rw [hm, List.replicate_succ, List.set_cons_zero, show fs.length - (k + 1) = m by omega, List.append_assoc, List.singleton_append]

set_option maxHeartbeats 1000000 in
theorem toFrameS_any (a : Option Addr) (cap : Nat) (fs : List Fr) (w : World) (ha : FrsAt w a fs) (hx : fs.length ≤ 1048576) :
    Calls Try.prog 27 #[.slice a fs.length cap] w fun e w' => ∃ v, e = .returned v ∧ w'.ownsRow w.heap.size 45 5 v fs.length (frCells fs) ∧ Below w.heap.size w w' := by
  obtain ⟨i0, hi, hz0, hz1, hz2⟩ := info_parts Try.info45
  go_enter Try.func27, Try.ntmps27
  go_wp2_with (at_make; refine wpList_make_full _ rfl _ _ 27 rfl w.heap.size 45 i0 (.agg #[.int .i64 0, .int .i64 0, .int .i64 0, .int .i64 0, .bool false]) 5 Try.underlying27 hi hz0 hz1 _ _ _ _ fs.length rfl rfl rfl rfl (by rw [hz2]; omega) (by unfold maxLen; omega) (Nat.le_refl _) ?_; intro w1 hown1 hgr1)
  have hb1 : Below w.heap.size w w1 := (Below.refl _ _).grown hgr1 (Nat.le_refl _) (fun k hk => by simp at hk)
  rw [made_frs] at hown1
  have HO := hid hown1
  clear hown1 hgr1
  go_loopw [4] (fun i wr => ∃ k : Nat, k ≤ fs.length ∧ i = .int .i64 k ∧ wr.ownsRow w.heap.size 45 5 (.slice (some ⟨w.heap.size, 0, none⟩) fs.length fs.length) fs.length (frCells (fs.take k ++ List.replicate (fs.length - k) Fr.no)) ∧ Below w.heap.size w wr) (fun i _ => fs.length - (intOf i).toNat)
  case atStart => exact ⟨0, Nat.zero_le _, rfl, HO.out, hb1⟩
  case round =>
    obtain ⟨k, hk, rfl, hown, hnx⟩ := hrel
    by_cases hlt : k < fs.length
    · obtain ⟨b, off, rfl, hc⟩ := ha (by intro h; simp [h] at hlt)
      have hck := hc k fs[k] (List.getElem?_eq_getElem hlt)
      obtain ⟨c0, c1, c2, c3, c4⟩ := hck.below hnx (block_lt_of_cell hck.c0)
      obtain ⟨f, hf⟩ : ∃ f, f = fs[k] := ⟨_, rfl⟩
      rw [← hf] at c0 c1 c2 c3 c4
      have HF := hid hf
      clear hf
      have HA := hid ha
      clear ha hc hck
      go_wp2_with (go_at_call 41; refine (toFrame_any f _).mono ?_; rintro e w2 ⟨rfl, b2⟩; have O2 := hid (owns_below hown b2); obtain ⟨f2, -, d0, d1, d2, d3, d4⟩ := frs_cells O2.out k hlt; have hfz := O2.out.frozenAt)
      go_roundw
      case rel =>
        refine ⟨k + 1, by omega, by go_num, ?_, below_set5 (hnx.trans (b2.mono hnx.size)) (Nat.le_refl _) _ f⟩
        have h1 := frs_store O2.out k hlt f
        rwa [frcopy_set fs k hlt f (by rw [HF.out]; exact List.getElem?_eq_getElem hlt)] at h1
      case measure => simp [intOf]; omega
    · obtain rfl : k = fs.length := by omega
      have HW := hid hown
      clear hown
      go_wp2
      go_ret
      refine ⟨_, rfl, ?_, hnx⟩
      have := HW.out
      rw [List.take_length, Nat.sub_self, List.replicate_zero, List.append_nil] at this
      exact this

theorem szFrameS_any (a : Option Addr) (n c : Nat) (w : World) (hn : n ≤ 9223372036854775807) :
    Calls Try.prog 23 #[.slice a n c, .int .i64 1048576] w fun e w' => e = .returned (.int .i64 (if n ≤ 1048576 then 1048576 - n else -1)) ∧ w' = w := by
  by_cases h : n ≤ 1048576
  · have H := hid (show (if n ≤ 1048576 then (1048576 : Int) - n else -1) = 1048576 - n by rw [if_pos h])
    rw [H.out]
    go_enter Try.func23, Try.ntmps23
    go_wp2
    go_ret
    exact ⟨rfl, rfl⟩
  · have H := hid (show (if n ≤ 1048576 then (1048576 : Int) - n else -1) = -1 by rw [if_neg h])
    rw [H.out]
    have h2 : (1048576 : Int) - n < 0 := by omega
    go_enter Try.func23, Try.ntmps23
    go_wp2
    go_ret
    exact ⟨rfl, rfl⟩
theorem szPool_in (a : Option Addr) (n c : Nat) (hand : Int) (w : World) (hn : n ≤ 1048576) :
    Calls Try.prog 8 #[.agg #[.slice a n c, .int .i64 hand], .int .i64 1048576] w fun e w' => e = .returned (.int .i64 (1048576 - n)) ∧ Below w.heap.size w w' := by
  have H := hid (szFrameS_any a n c)
  go_enter Try.func8, Try.ntmps8
  go_wp2_with (go_at_call 23; refine (H.out _ (by omega)).mono ?_; rw [if_pos hn]; rintro e w2 ⟨rfl, hw⟩; subst hw)
  go_ret
  exact ⟨rfl, (Below.refl _ _).alloc (Nat.le_refl _) _⟩
theorem szPool_out (a : Option Addr) (n c : Nat) (hand : Int) (w : World) (hn : 1048576 < n) (hm : n ≤ 9223372036854775807) :
    Calls Try.prog 8 #[.agg #[.slice a n c, .int .i64 hand], .int .i64 1048576] w fun e w' => e = .returned (.int .i64 (-1)) ∧ Below w.heap.size w w' := by
  have H := hid (szFrameS_any a n c)
  go_enter Try.func8, Try.ntmps8
  go_wp2_with (go_at_call 23; refine (H.out _ hm).mono ?_; rw [if_neg (by omega)]; rintro e w2 ⟨rfl, hw⟩; subst hw)
  go_ret
  exact ⟨rfl, (Below.refl _ _).alloc (Nat.le_refl _) _⟩

set_option maxHeartbeats 1000000 in
theorem toPool_any (a : Option Addr) (cap : Nat) (fs : List Fr) (hand : Int) (w : World) (ha : FrsAt w a fs) (hx : fs.length ≤ 1048576) :
    Calls Try.prog 10 #[.agg #[.slice a fs.length cap, .int .i64 hand]] w fun e w' => ∃ b d, e = .returned (.agg #[.slice b fs.length d, .int .i64 hand]) ∧ w'.ownsRow w.heap.size 45 5 (.slice b fs.length d) fs.length (frCells fs) ∧ Below w.heap.size w w' := by
  go_enter Try.func10, Try.ntmps10
  go_wp2_with fail
  refine (toFrameS_any a cap fs _ (by exact ha.below (u_b3 _ _ _ _)) hx).mono ?_
  rintro e w1 ⟨v1, rfl, o1, b1⟩
  obtain ⟨q1, d1, rfl, -, -⟩ := owns_frs o1
  obtain ⟨hc1, hf1⟩ := u_cell b1
  have hs1 : w.heap.size + 1 + 1 < w1.heap.size := by have := b1.size; simp at this; omega
  have B1 := hid (u_cat (u_b3 _ _ _ _) b1)
  have O1 := hid o1
  clear o1 b1
  go_wp2_with fail
  refine bodyPost_ret (v := .agg #[.slice q1 fs.length d1, .int .i64 hand]) ?_ rfl ?_
  · simp [results, Try.results10, go_sem, hc1]
  · refine ⟨q1, d1, rfl, owns_base (base := w.heap.size + 1 + 1 + 1) ?_ (by omega), ?_⟩
    · have O2 : w1.ownsRow (w.heap.size + 1 + 1 + 1) 45 5 (.slice q1 fs.length d1) fs.length (frCells fs) := by have := O1.out; simpa using this
      refine Touch.owns (Touch.setCell _ _ _) (Touch.owns (Touch.setCell _ _ _) (Touch.owns (Touch.setCell _ _ _) (Touch.owns (Touch.setCell _ _ _) O2 ?_) ?_) ?_) ?_ <;> (simp only []; omega)
    · refine u_set (u_set (u_set (u_set B1.out ?_ _ _) ?_ _ _) ?_ _ _) ?_ _ _ <;> omega

set_option maxHeartbeats 1000000 in
theorem eqFrame_same (f : Fr) (w : World) :
    Calls Try.prog 45 #[.agg #[.int .i64 f.h, .int .i64 f.e, .int .i64 f.b, .int .i64 f.d, .bool f.u], .agg #[.int .i64 f.h, .int .i64 f.e, .int .i64 f.b, .int .i64 f.d, .bool f.u]] w fun e w' => e = .returned (.bool true) ∧ Below w.heap.size w w' := by
  go_enter Try.func45, Try.ntmps45
  go_wp2
  go_ret
  exact ⟨rfl, ((Below.refl _ _).alloc (Nat.le_refl _) _).alloc (by simp) _⟩

set_option maxHeartbeats 1000000 in
theorem eqFrameS_same (a b : Option Addr) (ca cb : Nat) (fs : List Fr) (w : World) (ha : FrsAt w a fs) (hb : FrsAt w b fs) (hx : fs.length ≤ 1152921504606846976) :
    Calls Try.prog 29 #[.slice a fs.length ca, .slice b fs.length cb] w fun e w' => e = .returned (.bool true) ∧ Below w.heap.size w w' := by
  go_enter Try.func29, Try.ntmps29
  go_wp2
  go_loopw [5] (fun i wr => ∃ k : Nat, k ≤ fs.length ∧ i = .int .i64 k ∧ Below w.heap.size w wr) (fun i _ => fs.length - (intOf i).toNat)
  case atStart => exact ⟨0, Nat.zero_le _, rfl, Below.refl _ _⟩
  case round =>
    obtain ⟨k, hk, rfl, hdr⟩ := hrel
    by_cases hlt : k < fs.length
    · have hne : fs ≠ [] := by intro h; simp [h] at hlt
      obtain ⟨b1, o1, rfl, h1⟩ := ha hne
      obtain ⟨b2, o2, rfl, h2⟩ := hb hne
      have q1 := h1 k fs[k] (List.getElem?_eq_getElem hlt)
      have q2 := h2 k fs[k] (List.getElem?_eq_getElem hlt)
      obtain ⟨c0, c1, c2, c3, c4⟩ := q1.below hdr (block_lt_of_cell q1.c0)
      obtain ⟨d0, d1, d2, d3, d4⟩ := q2.below hdr (block_lt_of_cell q2.c0)
      obtain ⟨f, hf⟩ : ∃ f, f = fs[k] := ⟨_, rfl⟩
      rw [← hf] at c0 c1 c2 c3 c4 d0 d1 d2 d3 d4
      clear q1 q2 h1 h2 hf ha hb
      go_wp2
      have k1 := hid (rg (w := wr) (fun w' _ => eqFrame_same f w'))
      have r0 := cell_regrown c0
      have r1 := cell_regrown c1
      have r2 := cell_regrown c2
      have r3 := cell_regrown c3
      have r4 := cell_regrown c4
      have s0 := cell_regrown d0
      have s1 := cell_regrown d1
      have s2 := cell_regrown d2
      have s3 := cell_regrown d3
      have s4 := cell_regrown d4
      clear c0 c1 c2 c3 c4 d0 d1 d2 d3 d4
      refine wp_region_quiet_below (by kernel_rfl) (by kernel_rfl) ?_
      repeat (first
        | go_big_quiet_step ((go_at_call 45; exact k1.out _ _))
        | quiet_step ((go_at_call 45; exact k1.out _ _)))
      refine wpQuiet_nil ?_
      intro _ hw'
      obtain ⟨⟨dq, osq⟩, hw''⟩ := hw'
      have hbq := below_regrown wr dq osq
      rw [← hw''] at hbq
      clear hw''
      have hdr' := u_catn hdr (Nat.le_refl _) hbq
      clear hbq hdr r0 r1 r2 r3 r4 s0 s1 s2 s3 s4
      go_wp2
      go_roundw
      case rel => exact ⟨k + 1, by omega, by go_num, hdr'⟩
      case measure => simp [intOf]; omega
    · go_wp2
      go_ret
      exact ⟨rfl, hdr⟩

set_option maxHeartbeats 1000000 in
theorem eqPool_same (a b : Option Addr) (ca cb : Nat) (fs : List Fr) (hand : Int) (w : World) (ha : FrsAt w a fs) (hb : FrsAt w b fs) (hx : fs.length ≤ 1152921504606846976) :
    Calls Try.prog 12 #[.agg #[.slice a fs.length ca, .int .i64 hand], .agg #[.slice b fs.length cb, .int .i64 hand]] w fun e w' => e = .returned (.bool true) ∧ Below w.heap.size w w' := by
  have HA := hid ha
  have HB := hid hb
  clear ha hb
  go_enter Try.func12, Try.ntmps12
  go_wp2_with fail
  refine (eqFrameS_same a b ca cb fs _ (HA.out.below (u_b2 _ _ _)) (HB.out.below (u_b2 _ _ _)) hx).mono ?_
  rintro e w1 ⟨rfl, b1⟩
  obtain ⟨hc1, hf1⟩ := u_cell b1
  have hs1 : w.heap.size + 1 < w1.heap.size := by have := b1.size; simp at this; omega
  have B1 := hid (u_cat (u_b2 _ _ _) b1)
  clear b1
  go_wp2_with fail
  go_ret
  exact ⟨rfl, B1.out⟩
end Go.Proofs.Ytnfjplmpaeiagaa
