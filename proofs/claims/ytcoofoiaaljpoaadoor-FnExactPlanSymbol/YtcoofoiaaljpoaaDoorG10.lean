/- A text cut into the blocks of a plan, by the model. -/
import Derived.Test.YtcoofoiaaljpoaaDoorG6
import Derived.Test.YtcoofoiaaljpoaaDoorG9
import Derived.Test.YtcoofoiaaljpoaaDoorG1
import Derived.Deep.QuietTactic
import Derived.BigQuiet
import Derived.WalkSpells
namespace Go.Proofs.YtcoofoiaaljpoaaDoor
open Go.ChangeShapes Go.WideShapes Go.ChangeAt Go.RowKit

/-- The first k pieces of s bytes each. -/
def cutP (t : ByteArray) (s k : Nat) : List ByteArray := (List.range k).map fun i => t.extract (i * s) ((i + 1) * s)
theorem cutP_succ (t : ByteArray) (s k : Nat) : cutP t s (k + 1) = cutP t s k ++ [t.extract (k * s) ((k + 1) * s)] := by
  unfold cutP; rw [List.range_succ, List.map_append]; rfl
theorem infoStr : (Tryd.prog.info? 9).map (fun i => (i.zero, i.size, i.bytes)) = some (some (.string ByteArray.empty), 1, 16) := by kernel_rfl
theorem cutP_len (t : ByteArray) (s k : Nat) : (cutP t s k).length = k := by simp [cutP]

set_option maxHeartbeats 2000000 in
theorem l5Cut_any (long size N M : Nat) (a1 a2 : Option Addr) (n1 c1 n2 c2 : Nat) (t : ByteArray) (w : World) (l1 : 1 ≤ long) (l2 : long ≤ 300) (l3 : 1 ≤ size) (l4 : size ≤ 16) (hN : cntI long size = N) (hN1 : N ≤ 24) (hM : N * size = M) (m1 : long ≤ M) (m2 : M ≤ 400) (ht : t.size = long) :
    Calls Tryd.prog 13 #[.agg #[.int .i64 long, .int .i64 size, .slice a1 n1 c1, .slice a2 n2 c2], .string t] w fun e w' => ∃ v, e = .returned v ∧ w'.ownsRow w.heap.size 9 1 v N ((cutP (t ++ rep (M - long) (strOfNums [0])) size N).map Value.string) ∧ Below w.heap.size w w' := by
  obtain ⟨i0, hi, hz0, hz1, hz2⟩ := info_parts infoStr
  subst ht
  have HC := hid (fun w => specCount t.size size a1 a2 n1 c1 n2 c2 w (by omega) (by omega) (by omega) (by omega))
  rw [hN] at HC
  have HZ := hid (fun w => l3Zero_any (M - t.size) w (by omega))
  rw [Int.ofNat_sub m1] at HZ
  have e1 : ((N : Int) * (size : Int)) = (M : Int) := by rw [← hM]; simp
  have e2 : wrap64 (M : Int) = (M : Int) := by unfold wrap64; omega
  have e3 : wrap64 ((M : Int) - (t.size : Int)) = (M : Int) - (t.size : Int) := by unfold wrap64; omega
  obtain ⟨Z, hZ⟩ : ∃ Z, Z = rep (M - t.size) (strOfNums [0]) := ⟨_, rfl⟩
  have hZs : Z.size = M - t.size := by rw [hZ, rep_size, strOfNums_size]; simp
  rw [← hZ] at HZ
  rw [← hZ]
  have X0 := hid (laid w #[.int .i64 t.size, .int .i64 size, .slice a1 n1 c1, .slice a2 n2 c2] 28)
  have hts : t.size ≤ 300 := by omega
  have hZ' : Z.size ≤ 400 := by omega
  have hcat : t.size + Z.size ≤ maxLen := by unfold maxLen; omega
  have hcat2 : (t ++ Z).size ≤ maxLen := by rw [ByteArray.size_append]; exact hcat
  have HZS := hid hZs
  clear hZs hZ hcat hcat2
  go_enter Tryd.func13, Tryd.ntmps13
  go_wp2_with fail
  obtain ⟨W, hW⟩ : ∃ W, W = w.alloc (.cells #[.int .i64 t.size, .int .i64 size, .slice a1 n1 c1, .slice a2 n2 c2] 28) := ⟨_, rfl⟩
  rw [← hW] at X0 ⊢
  have B0 : Hid (Below w.heap.size w W) := hid (by rw [hW]; exact below_alloc' _ _)
  clear hW
  have k1 := hid (rg (w := W) (fun w' _ => HC.out w'))
  have k2 := hid (rg (w := W) (fun w' _ => HZ.out w'))
  have P0 := cell_regrown (box_cell X0.out 0 (v := .int .i64 t.size) rfl)
  have P1 := cell_regrown (box_cell X0.out 1 (v := .int .i64 size) rfl)
  have P2 := cell_regrown (box_cell X0.out 2 (v := .slice a1 n1 c1) rfl)
  have P3 := cell_regrown (box_cell X0.out 3 (v := .slice a2 n2 c2) rfl)
  refine wp_region_quiet_below (by kernel_rfl) (by kernel_rfl) ?_
  repeat (first
    | go_big_quiet_step (first | (go_at_call 21; exact k1.out _ _) | (go_at_call 24; exact k2.out _ _))
    | quiet_step (first | (go_at_call 21; exact k1.out _ _) | (go_at_call 24; exact k2.out _ _)))
  refine wpQuiet_nil ?_
  intro W2 hw'
  obtain ⟨⟨dq, osq⟩, hw''⟩ := hw'
  have hbq := below_regrown W dq osq
  rw [← hw''] at hbq
  have B2 := hid (below_cat' B0.out hbq)
  have X2 := hid (kept X0.out hbq)
  have HM := hid hM
  have hTs : (t ++ Z).size = M := by rw [ByteArray.size_append, HZS.out]; omega
  have E1 := hid e1
  clear hw'' hbq P0 P1 P2 P3 k1 k2 e1 e2 e3 hM
  generalize hT : t ++ Z = T at hTs ⊢
  have HTT := hid hT
  clear hT
  go_wp2_with fail
  go_loopw [6, 7] (fun v i wr => ∃ k : Nat, k ≤ N ∧ i = .int .i64 k ∧ wr.ownsRow W2.heap.size 9 1 v k ((cutP T size k).map Value.string) ∧ Below W2.heap.size W2 wr) (fun _ i _ => N - (intOf i).toNat)
  case atStart => exact ⟨0, Nat.zero_le _, rfl, World.ownsRow_lit W2 #[] 0 (Nat.le_refl _) (Nat.zero_le _) rfl, below_alloc' _ _⟩
  case round =>
    obtain ⟨k, hk, rfl, hown, hb⟩ := hrel
    have XR := hid (kept X2.out hb)
    have HO := hid hown
    have HB := hid hb
    clear hown hb
    have q0 := box_cell XR.out 0 (v := .int .i64 t.size) rfl
    have q1 := box_cell XR.out 1 (v := .int .i64 size) rfl
    have q2 := box_cell XR.out 2 (v := .slice a1 n1 c1) rfl
    have q3 := box_cell XR.out 3 (v := .slice a2 n2 c2) rfl
    by_cases hlt : k < N
    · obtain ⟨P, hP⟩ : ∃ P, k * size = P := ⟨_, rfl⟩
      have hQ : (k + 1) * size = P + size := by rw [Nat.succ_mul, hP]
      have hPM : P + size ≤ M := by rw [← hQ, ← HM.out]; exact Nat.mul_le_mul_right _ hlt
      have p1 : (k : Int) * (size : Int) = (P : Int) := by rw [← hP]; simp
      have p2 : ((k : Int) + 1) * (size : Int) = (P : Int) + (size : Int) := by rw [Int.add_mul, p1, Int.one_mul]
      have HX := hid (show cutP T size (k + 1) = cutP T size k ++ [T.extract P (P + size)] by rw [cutP_succ, hP, hQ])
      clear hP hQ
      go_wp2_with (first
        | (go_at_call 21; refine (HC.out _).mono ?_; rintro e wc ⟨rfl, bc⟩; have XC := hid (kept XR.out bc); have OC := hid (owns_below HO.out bc); have BC := hid (below_cat' HB.out bc); clear bc q0 q1 q2 q3; have q1 := box_cell XC.out 1 (v := .int .i64 size) rfl)
        | (at_builtin; refine append_one 36 9 i0 _ 16 Tryd.underlying36 hi hz0 hz1 hz2 rfl _ _ rfl rfl rfl rfl rfl rfl OC.out BC.out.size (by omega) (by omega) ?_; intro v' wd ow bd; have OD := hid ow; have BD := hid bd; clear ow bd))
      go_roundw
      case rel =>
        refine ⟨k + 1, by omega, by go_num, ?_, BC.out.trans BD.out⟩
        rw [HX.out, List.map_append]
        exact OD.out
      case measure => simp [intOf]; omega
    · obtain rfl : k = N := by omega
      go_wp2_with (go_at_call 21; refine (HC.out _).mono ?_; rintro e wc ⟨rfl, bc⟩; have OC := hid (owns_below HO.out bc); have BC := hid (below_cat' HB.out bc); clear bc q0 q1 q2 q3)
      go_ret
      have OE := owns_base OC.out B2.out.size
      refine ⟨_, rfl, ?_, below_cat' B2.out BC.out⟩
      rw [HTT.out]
      exact OE
end Go.Proofs.YtcoofoiaaljpoaaDoor
