/- The program's ring of frames, as it is made. -/
import Derived.Test.YtnfjplmpaeiagaaNd
namespace Go.Proofs.Ytnfjplmpaeiagaa
open Go.ChangeShapes Go.WideShapes Go.ChangeAt Go.RowKit Go.Sort

set_option maxHeartbeats 4000000 in
theorem ringNew_any (a : Option Addr) (cap : Nat) (fs : List Fr) (hand : Nat) (w : World) (ha : FrsAt w a fs) (h8 : fs.length = 8) (hh : hand < 8) :
    Calls Try.prog 42 #[.agg #[.slice a 8 cap, .int .i64 hand]] w fun e w' => ∃ g, e = .returned (.agg #[.pointer (some ⟨g, 0, none⟩), .pointer (some ⟨g, hand * 7, none⟩)]) ∧ NdsAt w' w.heap.size g (ring g fs) ∧ Below w.heap.size w w' := by
  obtain ⟨i0, hi, hz0, hz1, hz2⟩ := info_parts Try.info65
  have H8 := hid h8
  obtain ⟨b, off, rfl, hc⟩ := ha (by intro h; simp [h] at h8)
  have HC := hid hc
  clear h8 ha hc
  go_enter Try.func42, Try.ntmps42
  go_wp2_with (at_make; refine wpList_make_full _ rfl _ _ 78 rfl (w.heap.size + 2) 65 i0 (.agg #[.int .i64 0, .int .i64 0, .int .i64 0, .int .i64 0, .bool false, .int .i64 0, .pointer none]) 7 Try.underlying78 hi hz0 hz1 _ _ _ _ 8 rfl rfl rfl rfl (by rw [hz2]; omega) (by unfold maxLen; omega) (by simp) ?_; intro w1 hown1 hgr1; simp only [World.size_alloc] at hown1; obtain ⟨P1, R1, B1⟩ := u_box2 (u_gr hgr1); have p0 := box_cell P1 0 rfl; have p1 := box_cell P1 1 rfl)
  rw [made_nds] at hown1
  have O1 : NdsAt w1 (w.heap.size + 2) (w.heap.size + 1 + 1) (List.replicate 8 Nd.no) := hown1
  have HO := hid O1
  have HP := hid P1
  have HR := hid R1
  have HB := hid B1
  clear hown1 O1 P1 R1 B1 hgr1 p0 p1 hi hz0 hz1 hz2
  go_loopw [13] (fun i wr => ∃ k : Nat, k ≤ 8 ∧ i = .int .i64 k ∧ wr.heap[w.heap.size]? = some (.cells #[.slice (some ⟨b, off, none⟩) 8 cap, .int .i64 hand] 29 (0, 0)) ∧ wr.heap[w.heap.size + 1]? = some (.cells #[.pointer none, .pointer none] 49 (0, 0)) ∧ NdsAt wr (w.heap.size + 2) (w.heap.size + 1 + 1) ((ring (w.heap.size + 1 + 1) fs).take k ++ List.replicate (8 - k) Nd.no) ∧ Below w.heap.size w wr) (fun i _ => 8 - (intOf i).toNat)
  case atStart => exact ⟨0, by omega, rfl, HP.out, HR.out, HO.out, HB.out⟩
  case round =>
    obtain ⟨k, hk, rfl, P2, R2, O2, B2⟩ := hrel
    by_cases hlt : k < 8
    · have hkl : k < fs.length := by rw [H8.out]; exact hlt
      have hck := HC.out k fs[k] (List.getElem?_eq_getElem hkl)
      obtain ⟨c0, c1, c2, c3, c4⟩ := hck.below B2 (block_lt_of_cell hck.c0)
      obtain ⟨f, hf⟩ : ∃ f, f = fs[k] := ⟨_, rfl⟩
      rw [← hf] at c0 c1 c2 c3 c4
      have HF := hid hf
      clear hf hck
      go_wp2
      obtain ⟨W, hW⟩ : ∃ W, W = wr.alloc (.cells #[.int .i64 f.h, .int .i64 f.e, .int .i64 f.b, .int .i64 f.d, .bool f.u] 45) := ⟨_, rfl⟩
      have X := laid wr #[.int .i64 f.h, .int .i64 f.e, .int .i64 f.b, .int .i64 f.d, .bool f.u] 45
      have bW := u_b1 wr (.cells #[.int .i64 f.h, .int .i64 f.e, .int .i64 f.b, .int .i64 f.d, .bool f.u] 45)
      rw [← hW] at X bW ⊢
      have q0 := box_cell X 0 (v := .int .i64 f.h) rfl
      have q1 := box_cell X 1 (v := .int .i64 f.e) rfl
      have q2 := box_cell X 2 (v := .int .i64 f.b) rfl
      have q3 := box_cell X 3 (v := .int .i64 f.d) rfl
      have q4 := box_cell X 4 (v := .bool f.u) rfl
      have O3 := hid (NdsAt.below O2 bW O2.lt.2)
      have P3 := hid (kept P2 bW)
      have R3 := hid (kept R2 bW)
      have B3 := hid (u_catn B2 (Nat.le_refl _) bW)
      obtain ⟨n3, hn3⟩ : ∃ n3, ((ring (w.heap.size + 1 + 1) fs).take k ++ List.replicate (8 - k) Nd.no)[k]? = some n3 := ⟨_, List.getElem?_eq_getElem (by rw [O2.len]; exact hlt)⟩
      obtain ⟨d0, d1, d2, d3, d4, d5, d6⟩ := O3.out.cells k n3 hn3
      have hfz := O3.out.frozen
      clear c0 c1 c2 c3 c4 X bW hW O2 P2 R2 B2 hn3
      have a1 : 0 ≤ ((k : Int) + 1) % 8 := by omega
      have a2 : ((k : Int) + 1) % 8 < 8 := by omega
      go_region
      clear q0 q1 q2 q3 q4 d0 d1 d2 d3 d4 d5 d6 hfz
      go_wp2
      go_roundw
      case rel =>
        have b7 := u_drew (below_set7 (Below.refl (w.heap.size + 2) W) (g := w.heap.size + 1 + 1) (by omega) (k * 7) ⟨f, (k : Int), some ⟨w.heap.size + 1 + 1, (k + 1) % 8 * 7, none⟩⟩)
        refine ⟨k + 1, by omega, by go_num, (b7.block _ (by omega)).trans P3.out, (b7.block _ (by omega)).trans R3.out, ?_, B3.out.trans (b7.mono (by omega))⟩
        have o4 := (O3.out.store k hlt ⟨f, (k : Int), some ⟨w.heap.size + 1 + 1, (k + 1) % 8 * 7, none⟩⟩).drew
        rw [HF.out, ring_take _ fs k hkl 8 H8.out] at o4
        rw [HF.out]
        exact o4
      case measure => simp [intOf]; omega
    · obtain rfl : k = 8 := by omega
      have q0 := box_cell P2 0 (v := .slice (some ⟨b, off, none⟩) 8 cap) rfl
      have q1 := box_cell P2 1 (v := .int .i64 hand) rfl
      have r0 := box_cell R2 0 (v := .pointer none) rfl
      have r1 := box_cell R2 1 (v := .pointer none) rfl
      have rf := box_frozen R2
      have HP2 := hid P2
      have HR2 := hid R2
      have HO2 := hid O2
      have HB2 := hid B2
      clear P2 R2 O2 B2
      go_wp2
      go_region
      have X1 := hid (set_block (set_block HR2.out 0 (.pointer (some ⟨w.heap.size + 1 + 1, 0, none⟩))) 1 (.pointer (some ⟨w.heap.size + 1 + 1, hand * 7, none⟩)))
      have x0 := box_cell X1.out 0 (v := .pointer (some ⟨w.heap.size + 1 + 1, 0, none⟩)) rfl
      have x1 := box_cell X1.out 1 (v := .pointer (some ⟨w.heap.size + 1 + 1, hand * 7, none⟩)) rfl
      have b2 := hid (u_drew (u_set (u_set (Below.refl (w.heap.size + 1) wr) (Nat.le_refl _) 0 (.pointer (some ⟨w.heap.size + 1 + 1, 0, none⟩))) (Nat.le_refl _) 1 (.pointer (some ⟨w.heap.size + 1 + 1, hand * 7, none⟩))))
      have O5 := hid (u_owns (w' := ((wr.setCell ⟨w.heap.size + 1, 0, none⟩ (.pointer (some ⟨w.heap.size + 1 + 1, 0, none⟩))).setCell ⟨w.heap.size + 1, 1, none⟩ (.pointer (some ⟨w.heap.size + 1 + 1, hand * 7, none⟩))).drew) HO2.out (fun j hj => by
        cases hj
        show ((wr.setCell _ _).setCell _ _).heap[_]? = _
        rw [Below.heap_setCell _ _ _ _ (by simp), Below.heap_setCell _ _ _ _ (by simp)]))
      clear q0 q1 r0 r1 rf
      go_wp2
      refine bodyPost_ret (v := .agg #[.pointer (some ⟨w.heap.size + 1 + 1, 0, none⟩), .pointer (some ⟨w.heap.size + 1 + 1, hand * 7, none⟩)]) ?_ rfl ⟨w.heap.size + 1 + 1, rfl, ?_, HB2.out.trans (b2.out.mono (by omega))⟩
      · simp [results, Try.results42, go_sem, x0, x1]
      · have := O5.out
        rw [List.take_of_length_le (by rw [ring_len, H8.out]; omega), Nat.sub_self, List.replicate_zero, List.append_nil] at this
        exact owns_base this (by omega)
end Go.Proofs.Ytnfjplmpaeiagaa
