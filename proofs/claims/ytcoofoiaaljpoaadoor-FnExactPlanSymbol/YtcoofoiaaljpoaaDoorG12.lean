/- A text cut into the blocks of a plan, by the program. -/
import Derived.Test.YtcoofoiaaljpoaaDoorG5
import Derived.Test.YtcoofoiaaljpoaaDoorG11
import Derived.Lib.LazyBuf
namespace Go.Proofs.YtcoofoiaaljpoaaDoor
open Go.ChangeShapes Go.WideShapes Go.ChangeAt Go.RowKit Go.Sort Go.Shelf
attribute [local go_sem] Oper.semAt_some

/-- The bytes of a text. -/
def numT (t : ByteArray) : List Int := t.data.toList.map (fun b => (b.toNat : Int))
theorem numT_len (t : ByteArray) : (numT t).length = t.size := by
  show (t.data.toList.map _).length = t.data.size
  simp
/-- The bytes of a block, as the program lays them. -/
def blkN (t : ByteArray) (s k : Nat) : List Int := ((numT t).drop (k * s)).take s ++ List.replicate (s - (t.size - k * s)) 0
theorem rep_data (n : Nat) (s : ByteArray) : (rep n s).data.toList = (List.replicate n s.data.toList).flatten := by
  induction n with
  | zero => rfl
  | succ n ih => rw [rep, ByteArray.data_append, Array.toList_append, ih, List.replicate_succ, List.flatten_cons]
theorem blkN_len (t : ByteArray) (s k : Nat) (hk : k * s ≤ t.size) : (blkN t s k).length = s := by
  unfold blkN
  rw [List.length_append, List.length_take, List.length_drop, numT_len, List.length_replicate]
  omega
theorem blk_eq (t : ByteArray) (s k M : Nat) (hk : k * s ≤ t.size) (hM : (k + 1) * s ≤ M) (hm : t.size ≤ M) : strOfNums (blkN t s k) = (t ++ rep (M - t.size) (strOfNums [0])).extract (k * s) ((k + 1) * s) := by
  have e1 : (k + 1) * s = k * s + s := Nat.succ_mul k s
  apply ba_ext
  apply Array.toList_inj.1
  rw [strOfNums_data, ByteArray.data_extract, Array.toList_extract, ByteArray.data_append, Array.toList_append, rep_data, strOfNums_data]
  unfold blkN numT
  have hl : t.data.toList.length = t.size := by
    show t.data.toList.length = t.data.size
    simp
  have e2 : (List.replicate (M - t.size) (List.map (fun n : Int => UInt8.ofNat n.toNat) [0])).flatten = List.replicate (M - t.size) (0 : UInt8) := by
    simp
  rw [e2, e1, List.extract_eq_take_drop, Nat.add_sub_cancel_left, List.drop_append_of_le_length (by rw [hl]; exact hk), List.take_append, List.length_drop, hl, List.take_replicate, List.map_append, List.map_take, List.map_drop, List.map_map, List.map_replicate]
  congr 1
  · congr 2
    conv => rhs; rw [← List.map_id t.data.toList]
    apply List.map_congr_left
    intro b _
    simp
  · rw [Nat.min_eq_left (by omega)]
    rfl
theorem cutP_get (t : ByteArray) (s N : Nat) : (cutP t s N) = (List.finRange N).map (fun k => t.extract (k.val * s) ((k.val + 1) * s)) := by
  unfold cutP
  apply List.ext_getElem
  · simp
  · intro i h1 h2
    simp
end Go.Proofs.YtcoofoiaaljpoaaDoor
