/- Numbers in decimals: values. -/
import Derived.Test.YtcoofoiaaljpoaaBase
import Derived.Test.YtcoofoiaaljpoaaQB
import Derived.Lib.ItoaNum
import Derived.Lib.ItoaLen
import Derived.Deep.RegionWith
import Derived.Laws.BytesArg
namespace Go.Proofs.Ytcoofoiaaljpoaa
open Go.ChangeShapes Go.WideShapes Go.ChangeAt Go.RowKit

/-- A number in decimals. -/
def decS (n : Nat) : ByteArray := ⟨(Lib.decDigits n).toArray⟩
theorem decS_one {n : Nat} (h : n < 10) : decS n = strOfNums [48 + (n : Int)] := by
  rw [decS, Lib.decDigits_one h, strOfNums]
  simp only [List.map_cons, List.map_nil]
  congr 4
theorem decS_more {n : Nat} (h : ¬ n < 10) : decS n = decS (n / 10) ++ strOfNums [48 + (n : Int) % 10] := by
  apply ByteArray.ext
  apply Array.toList_inj.1
  rw [decS, Lib.decDigits, dif_neg h]
  have e : (48 + (n : Int) % 10).toNat = 48 + n % 10 := by omega
  simp [decS, strOfNums, e]

theorem decS_size (n : Nat) (h : n ≤ 4611686018427387904) : (decS n).size ≤ 21 := by
  have := Lib.itoa_length_le (n : Int) (by omega) (by omega)
  rw [Lib.itoa_nonneg] at this
  simpa [decS, ByteArray.size] using this

theorem cv_one (W : World) (g : Nat) (z : Int) (h : W.heap[g]? = some (.cells #[.int .u8 z] 5 (0, 0))) :
    (convert 51 9 (.slice (some ⟨g, 0, none⟩) 1 1)).run Try.prog W = .ok (.string (strOfNums [z])) W :=
  run_convert_bytes_arg (P := Try.prog) W 51 5 Try.underlying51 Try.underlying5 g 0 1 1 [z] rfl (by
    intro i hi
    obtain rfl : i = 0 := by omega
    exact box_cell h 0 rfl) 9 Try.underlying9
theorem cv_new (z : Int) : ∀ W : World, (convert 51 9 (.slice (some ⟨W.heap.size, 0, none⟩) 1 1)).run Try.prog (W.alloc (.cells #[.int .u8 z] 5)) = .ok (.string (strOfNums [z])) (W.alloc (.cells #[.int .u8 z] 5)) :=
  fun W => cv_one _ _ z (laid W _ _)
theorem cv_drew (z : Int) : ∀ W : World, (convert 51 9 (.slice (some ⟨W.heap.size, 0, none⟩) 1 1)).run Try.prog (W.alloc (.cells #[.int .u8 z] 5)).drew = .ok (.string (strOfNums [z])) (W.alloc (.cells #[.int .u8 z] 5)).drew :=
  fun W => cv_one _ _ z (laid W _ _)
theorem below_newD (w : World) (o : Obj) : Below w.heap.size w (w.alloc o) := (Below.refl _ _).alloc (Nat.le_refl _) _
theorem below_catD {a b c : World} (h : Below a.heap.size a b) (k : Below b.heap.size b c) : Below a.heap.size a c := h.trans (k.mono h.size)
theorem below_drewD (w : World) : Below w.heap.size w w.drew := (Below.refl _ _).drew
end Go.Proofs.Ytcoofoiaaljpoaa
