/- Numbers in decimals, by the model. -/
import Derived.Test.YtpalcgelcnlhbaaDoorBase
import Derived.Test.YtpalcgelcnlhbaaDoorQB
import Derived.Lib.ItoaNum
import Derived.Lib.ItoaLen
import Derived.Deep.RegionWith
import Derived.Laws.BytesArg
namespace Go.Proofs.YtpalcgelcnlhbaaDoor
open Go.ChangeShapes Go.WideShapes Go.ChangeAt Go.RowKit

/-- A number in decimals. -/
def decS (n : Nat) : ByteArray := ⟨(Lib.decDigits n).toArray⟩
theorem decS_one {n : Nat} (h : n < 10) : decS n = strOfNums [48 + (n : Int)] := by
  rw [decS, Lib.decDigits_one h, strOfNums]
  simp only [List.map_cons, List.map_nil]
  congr 4
theorem decS_more {n : Nat} (h : ¬ n < 10) : decS n = decS (n / 10) ++ strOfNums [48 + (n : Int) % 10] := by
  apply ByteArray.ext
  apply Array.toList_inj.1
  rw [decS, Lib.decDigits, dif_neg h]
  have e : (48 + (n : Int) % 10).toNat = 48 + n % 10 := by omega
  simp [decS, strOfNums, e]

theorem decS_size (n : Nat) (h : n ≤ 4611686018427387904) : (decS n).size ≤ 21 := by
  have := Lib.itoa_length_le (n : Int) (by omega) (by omega)
  rw [Lib.itoa_nonneg] at this
  simpa [decS, ByteArray.size] using this

theorem cv_one (W : World) (g : Nat) (z : Int) (h : W.heap[g]? = some (.cells #[.int .u8 z] 5 (0, 0))) :
    (convert 43 9 (.slice (some ⟨g, 0, none⟩) 1 1)).run Tryd.prog W = .ok (.string (strOfNums [z])) W :=
  run_convert_bytes_arg (P := Tryd.prog) W 43 5 Tryd.underlying43 Tryd.underlying5 g 0 1 1 [z] rfl (by
    intro i hi
    obtain rfl : i = 0 := by omega
    exact box_cell h 0 rfl) 9 Tryd.underlying9
theorem cv_new (z : Int) : ∀ W : World, (convert 43 9 (.slice (some ⟨W.heap.size, 0, none⟩) 1 1)).run Tryd.prog (W.alloc (.cells #[.int .u8 z] 5)) = .ok (.string (strOfNums [z])) (W.alloc (.cells #[.int .u8 z] 5)) :=
  fun W => cv_one _ _ z (laid W _ _)
theorem cv_drew (z : Int) : ∀ W : World, (convert 43 9 (.slice (some ⟨W.heap.size, 0, none⟩) 1 1)).run Tryd.prog (W.alloc (.cells #[.int .u8 z] 5)).drew = .ok (.string (strOfNums [z])) (W.alloc (.cells #[.int .u8 z] 5)).drew :=
  fun W => cv_one _ _ z (laid W _ _)
theorem below_newD (w : World) (o : Obj) : Below w.heap.size w (w.alloc o) := (Below.refl _ _).alloc (Nat.le_refl _) _
theorem below_catD {a b c : World} (h : Below a.heap.size a b) (k : Below b.heap.size b c) : Below a.heap.size a c := h.trans (k.mono h.size)
theorem below_drewD (w : World) : Below w.heap.size w w.drew := (Below.refl _ _).drew

set_option maxHeartbeats 1000000 in
set_option maxRecDepth 100000 in
theorem l1Dec_any (B : Nat) : ∀ (n : Nat) (w : World), n ≤ B → n ≤ 4611686018427387904 →
    Calls Tryd.prog 27 #[.int .i64 n] w fun r w' => r = .returned (.string (decS n)) ∧ Below w.heap.size w w' := by
  induction B with
  | zero =>
    intro n w h0 _
    obtain rfl : n = 0 := by omega
    have E := hid (decS_one (n := 0) (by omega))
    have h1 := cv_new 48
    go_enter Tryd.func27, Tryd.ntmps27
    go_wp2_with fail
    go_ret
    rw [E.out]
    exact ⟨rfl, below_newD _ _⟩
  | succ B ih =>
    intro n w hB hn
    by_cases h : n < 10
    · have E := hid (decS_one h)
      have h1 := cv_new (48 + (n : Int))
      go_enter Tryd.func27, Tryd.ntmps27
      go_wp2_with fail
      go_ret
      rw [E.out]
      exact ⟨rfl, below_newD _ _⟩
    · have E := hid (decS_more h)
      have hi : ∀ w, Calls Tryd.prog 27 #[.int .i64 ((n : Int) / 10)] w fun r w' => r = .returned (.string (decS (n / 10))) ∧ Below w.heap.size w w' := fun w => by
        have := ih (n / 10) w (by omega) (by omega)
        rw [Int.natCast_ediv] at this
        exact this
      have IH := hid hi
      clear hi
      have h10 : 10 ≤ n := by omega
      have q1 : (n : Int).tdiv 10 = ((n : Int) / 10) := by rw [Int.tdiv_eq_ediv_of_nonneg (by omega)]
      have q2 : (n : Int).tmod 10 = (n : Int) % 10 := Int.tmod_eq_emod_of_nonneg (by omega)
      have q3 : IntKind.i64.wrap (((n : Int) / 10)) = ((n : Int) / 10) := by simp [IntKind.wrap, IntKind.bits, IntKind.signed]; omega
      have q4 : IntKind.i64.wrap ((n : Int) % 10) = (n : Int) % 10 := by simp [IntKind.wrap, IntKind.bits, IntKind.signed]; omega
      have q5 : IntKind.i64.wrap (48 + (n : Int) % 10) = 48 + (n : Int) % 10 := by simp [IntKind.wrap, IntKind.bits, IntKind.signed]; omega
      have q6 : IntKind.u8.wrap (48 + (n : Int) % 10) = 48 + (n : Int) % 10 := by simp [IntKind.wrap, IntKind.bits, IntKind.signed]; omega
      have h1 := cv_new (48 + (n : Int) % 10)
      have h2 := cv_drew (48 + (n : Int) % 10)
      have hs := decS_size (n / 10) (by omega)
      have hs1 : (strOfNums [48 + (n : Int) % 10]).size = 1 := rfl
      clear ih h
      go_enter Tryd.func27, Tryd.ntmps27
      go_wp2_with fail
      go_region_with (go_at_call 27; refine (IH.out _).mono ?_; rintro e w1 ⟨rfl, hb1⟩; try (have hk := cv_one w1 w.heap.size (48 + (n : Int) % 10) ((hb1.block w.heap.size (by simp)).trans (laid w _ _))))
      all_goals go_wp2_with fail
      all_goals go_ret
      all_goals rw [E.out]
      all_goals refine ⟨rfl, ?_⟩
      all_goals first
        | exact below_catD (below_drewD w) (below_catD hb1 (below_newD _ _))
        | exact below_catD (below_newD w _) (below_catD (below_drewD _) hb1)
        | exact below_catD hb1 (below_newD _ _)
end Go.Proofs.YtpalcgelcnlhbaaDoor
