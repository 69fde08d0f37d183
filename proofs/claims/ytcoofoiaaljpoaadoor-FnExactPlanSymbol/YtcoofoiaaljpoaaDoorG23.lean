/- How many numbers are in a set. -/
import Derived.Test.YtcoofoiaaljpoaaDoorG22
namespace Go.Proofs.YtcoofoiaaljpoaaDoor
open Go.ChangeShapes Go.WideShapes Go.ChangeAt Go.RowKit

/-- How many bits a byte has. -/
def pc8 (i : Nat) : Nat := ((List.range 8).filter fun j => i.testBit j).length
def popL : List Nat := (List.range 256).map pc8
theorem pop_at (T : ByteArray) (i : Nat) (h : i < T.size) (hT : T.data.toList.map (fun c => c.toNat) = popL) : (T[i]'h).toNat = pc8 i := by
  have hs : i < T.data.toList.length := by rw [Array.length_toList]; exact h
  have h1 : (T.data.toList.map (fun c => c.toNat))[i]? = some ((T[i]'h).toNat) := by
    rw [List.getElem?_map, List.getElem?_eq_getElem hs]
    rfl
  have hl : i < 256 := by
    have := congrArg List.length hT
    rw [List.length_map] at this
    have e : popL.length = 256 := by unfold popL; rw [List.length_map, List.length_range]
    omega
  rw [hT] at h1
  unfold popL at h1
  rw [List.getElem?_map, List.getElem?_range hl] at h1
  exact (Option.some.inj h1).symm
theorem pc8_le (i : Nat) : pc8 i ≤ 8 := Nat.le_trans (List.length_filter_le _ _) (by rw [List.length_range]; exact Nat.le_refl _)
theorem filter_shift (x n k : Nat) : ((List.range' k n).filter fun j => x.testBit j).length = ((List.range n).filter fun j => (x / 2 ^ k).testBit j).length := by
  rw [List.range'_eq_map_range, List.filter_map, List.length_map]
  congr 1
  apply List.filter_congr
  intro j _
  simp only [Function.comp]
  rw [Nat.testBit_div_two_pow, Nat.add_comm]
theorem pc8_mod (x : Nat) : pc8 (x % 256) = pc8 x := by
  unfold pc8
  congr 1
  apply List.filter_congr
  intro j hj
  rw [show 256 = 2 ^ 8 from rfl, Nat.testBit_mod_two_pow, decide_eq_true (List.mem_range.1 hj), Bool.true_and]
theorem bits_len (x : Nat) : (bitsOf x).length = pc8 x + pc8 (x / 256) + pc8 (x / 65536) := by
  unfold bitsOf
  rw [List.length_map, show List.range 24 = List.range' 0 8 ++ List.range' 8 8 ++ List.range' 16 8 from by decide, List.filter_append, List.filter_append, List.length_append, List.length_append, filter_shift, filter_shift, filter_shift, Nat.pow_zero, Nat.div_one]
  rfl

set_option maxRecDepth 100000 in
set_option maxHeartbeats 1000000 in
theorem ones_any (x : Nat) (w : World) (hx : x < 16777216) :
    Calls Tryd.prog 64 #[.int .u32 x] w fun e w' => e = .returned (.int .i64 ((bitsOf x).length : Int)) ∧ Dr w w' := by
  have z1 : (x : Int) / 16777216 = 0 := by omega
  have am : ∀ y : Nat, y < 4294967296 → bits .and .u32 (y : Int) 255 = ((y % 256 : Nat) : Int) := fun y hy => by
    have := u32_and_nat y 255 hy (by omega)
    rw [show y &&& 255 = y % 2 ^ 8 from Nat.and_two_pow_sub_one_eq_mod y 8] at this
    exact this
  obtain ⟨i1, e1⟩ : ∃ i, i = x / 65536 % 256 := ⟨_, rfl⟩
  obtain ⟨i2, e2⟩ : ∃ i, i = x / 256 % 256 := ⟨_, rfl⟩
  obtain ⟨i3, e3⟩ : ∃ i, i = x % 256 := ⟨_, rfl⟩
  have a1 : bits .and .u32 ((x : Int) / 65536) 255 = (i1 : Int) := by rw [e1, ← am _ (by omega)]; rfl
  have a2 : bits .and .u32 ((x : Int) / 256) 255 = (i2 : Int) := by rw [e2, ← am _ (by omega)]; rfl
  have a3 : bits .and .u32 (x : Int) 255 = (i3 : Int) := by rw [e3, ← am _ (by omega)]
  have h1 : (i1 : Int) < 256 := by omega
  have h2 : (i2 : Int) < 256 := by omega
  have h3 : (i3 : Int) < 256 := by omega
  have hfin : (bitsOf x).length = pc8 0 + pc8 i1 + pc8 i2 + pc8 i3 := by
    rw [bits_len, e1, e2, e3, pc8_mod, pc8_mod, pc8_mod, show pc8 0 = 0 from by decide]; omega
  have hb0 := pc8_le 0
  have hb1 := pc8_le i1
  have hb2 := pc8_le i2
  have hb3 := pc8_le i3
  have HF := hid hfin
  have HB := hid (And.intro hb0 (And.intro hb1 (And.intro hb2 hb3)))
  clear e1 e2 e3 am hfin hb0 hb1 hb2 hb3
  go_enter Tryd.func64, Tryd.ntmps64
  go_wp2
  refine wp_region_quiet_lit (by kernel_rfl) (by kernel_rfl) ?_
  repeat (first | go_big_quiet_step (fail) | quiet_step (fail))
  refine wpQuiet_nil ?_
  intro _ hw'
  obtain ⟨nq, hw''⟩ := hw'
  subst hw''
  go_wp2
  go_ret
  refine ⟨ret_int ?_, ⟨nq, rfl⟩⟩
  rw [pop_at _ 0, pop_at _ i1, pop_at _ i2, pop_at _ i3]
  · have e1 := HF.out
    have e2 := HB.out
    omega
  all_goals kernel_rfl
end Go.Proofs.YtcoofoiaaljpoaaDoor
