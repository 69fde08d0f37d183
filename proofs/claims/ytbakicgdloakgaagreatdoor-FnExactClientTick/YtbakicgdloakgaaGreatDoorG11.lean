/- Plans that are marked, as the laws do it. Plans that are held, as the laws do it. A row drawn, the program's way: those that are left as bits. RowDraw: the program's and the model's. RowDraw, the program's, of what is no count or seed. A drawn row ascends, and has at least one number. Texts and their bytes. errors.As at the program's own error: nothing, or the error itself. Numbers in decimals: values. Equations marked and held, as the laws do it. The row of a symbol of a plan that is ok, by the program. Which block a getting wants: the first of a hundred that it lacks. Texts copied by the library. -/
import Derived.Test.YtbakicgdloakgaaGreatDoorG2
import Derived.Test.YtbakicgdloakgaaGreatDoorG10
import Derived.Test.YtbakicgdloakgaaGreatDoorG5
import Derived.Test.YtbakicgdloakgaaGreatDoorG8
import Derived.Laws.BitsAllLaws
import Derived.WalkKit
import Derived.LaidEql
import Derived.Stop.Asserts
import Derived.RowKitTokens
import Derived.Test.YtbakicgdloakgaaGreatDoorG0
import Derived.Lib.ItoaNum
import Derived.Lib.ItoaLen
import Derived.Deep.RegionWith
import Derived.Laws.BytesArg
namespace Go.Proofs.YtbakicgdloakgaaGreatDoor
open Go.ChangeShapes Go.WideShapes Go.ChangeAt Go.RowKit Go.Sort

set_option maxRecDepth 100000 in
set_option maxHeartbeats 1000000 in
theorem markPlan_any (base : Nat) (long size : Int) (a1 a2 : Option Addr) (c1 c2 : Nat) (ws gs : List Int) (k : Int) (w : World) (o1 : w.ownsRow base 3 1 (.slice a1 ws.length c1) ws.length (ws.map (Value.int .i64))) (o2 : w.ownsRow base 3 1 (.slice a2 gs.length c2) gs.length (gs.map (Value.int .i64))) (ap : Apart (.slice a1 ws.length c1) (.slice a2 gs.length c2)) (hb : base ≤ w.heap.size) (hx : ws.length ≤ 1048576) (hy : gs.length ≤ 1048576) (k0 : 0 ≤ k) (k1 : k ≤ 1048576) :
    Calls Tryz.prog 61 #[.agg #[.int .i64 long, .int .i64 size, .slice a1 ws.length c1, .slice a2 gs.length c2], .int .i64 k] w fun e w' => e = .returned (.int .i64 (k + ws.length + gs.length)) ∧
      w'.ownsRow base 3 1 (.slice a1 ws.length c1) ws.length ((marks k ws.length).map (Value.int .i64)) ∧ w'.ownsRow base 3 1 (.slice a2 gs.length c2) gs.length ((marks (k + ws.length) gs.length).map (Value.int .i64)) ∧ Below base w w' ∧ ∀ g, g < w.heap.size → (.slice a1 ws.length c1 : Value).ownBlock ≠ some g → (.slice a2 gs.length c2 : Value).ownBlock ≠ some g → w'.heap[g]? = w.heap[g]? := by
  have O1 := hid (owns_below o1 (below_alloc' w (.cells #[.int .i64 long, .int .i64 size, .slice a1 ws.length c1, .slice a2 gs.length c2] 33)))
  have O2 := hid (owns_below o2 (below_alloc' w (.cells #[.int .i64 long, .int .i64 size, .slice a1 ws.length c1, .slice a2 gs.length c2] 33)))
  have X0 := hid (laid w #[.int .i64 long, .int .i64 size, .slice a1 ws.length c1, .slice a2 gs.length c2] 33)
  have n1 : (.slice a1 ws.length c1 : Value).ownBlock ≠ some w.heap.size := fun h => by have := (o1.lt _ h).2; omega
  have n2 : (.slice a2 gs.length c2 : Value).ownBlock ≠ some w.heap.size := fun h => by have := (o2.lt _ h).2; omega
  have N1 := hid n1
  have N2 := hid n2
  have AP := hid ap
  clear o1 o2 ap n1 n2
  go_enter Tryz.func61, Tryz.ntmps61
  go_wp2_with fail
  refine (markIntS_any base _ ws.length ws k _ (by exact O1.out) (by omega) (by omega) (by omega)).mono ?_
  rintro e w1 ⟨rfl, m1, g1⟩
  have M1 := hid m1
  have G1 := hid g1
  have P2 := hid (owns_grown O2.out g1 AP.out.2)
  have X1 := hid ((g1.block w.heap.size (by simp) (fun h => N1.out h.symm)).trans X0.out)
  clear m1 g1
  have p3 := box_cell X1.out 3 (v := .slice a2 gs.length c2) rfl
  go_wp2_with fail
  refine (markIntS_any base _ gs.length gs (k + ws.length) _ (by exact P2.out) (by omega) (by omega) (by omega)).mono ?_
  rintro e w2 ⟨rfl, m2, g2⟩
  have b1 := grown_base G1.out O1.out (by simp; omega)
  have hz := b1.size
  go_wp2_with fail
  go_ret
  refine ⟨ret_int (by omega), owns_grown M1.out g2 AP.out.1, m2, (((Below.refl base w).alloc hb _).trans b1).trans (grown_base g2 P2.out (by simp at hz; omega)), fun g hg hn1 hn2 => ?_⟩
  have hs : g < (w.alloc (.cells #[.int .i64 long, .int .i64 size, .slice a1 ws.length c1, .slice a2 gs.length c2] 33)).heap.size := by simp; omega
  rw [g2.block g (Nat.lt_of_lt_of_le hs G1.out.size) (fun h => hn2 h.symm), G1.out.block g hs (fun h => hn1 h.symm)]
  exact (below_alloc' w _).block g hg
end Go.Proofs.YtbakicgdloakgaaGreatDoor
namespace Go.Proofs.YtbakicgdloakgaaGreatDoor
open Go.ChangeShapes Go.WideShapes Go.ChangeAt Go.RowKit Go.Sort

end Go.Proofs.YtbakicgdloakgaaGreatDoor
namespace Go.Proofs.YtbakicgdloakgaaGreatDoor
open Go.ChangeShapes Go.WideShapes Go.ChangeAt Go.RowKit

end Go.Proofs.YtbakicgdloakgaaGreatDoor
namespace Go.Proofs.YtbakicgdloakgaaGreatDoor
open Go.ChangeShapes Go.WideShapes Go.ChangeAt Go.RowKit

end Go.Proofs.YtbakicgdloakgaaGreatDoor
namespace Go.Proofs.YtbakicgdloakgaaGreatDoor
open Go.ChangeShapes Go.WideShapes Go.ChangeAt Go.RowKit

end Go.Proofs.YtbakicgdloakgaaGreatDoor
namespace Go.Proofs.YtbakicgdloakgaaGreatDoor
open Go.ChangeShapes Go.WideShapes Go.ChangeAt Go.RowKit

end Go.Proofs.YtbakicgdloakgaaGreatDoor
namespace Go.Proofs.YtbakicgdloakgaaGreatDoor
open Go.ChangeShapes Go.WideShapes Go.ChangeAt Go.RowKit

def BytesL (xs : List Int) : Prop := ∀ x ∈ xs, 0 ≤ x ∧ x ≤ 255
end Go.Proofs.YtbakicgdloakgaaGreatDoor
namespace Go.Proofs.YtbakicgdloakgaaGreatDoor
open Go.ChangeShapes Go.WideShapes Go.ChangeAt Go.RowKit Go.Sort
open Go.Extern.Stop Go.Stop Go.Extern

end Go.Proofs.YtbakicgdloakgaaGreatDoor
namespace Go.Proofs.YtbakicgdloakgaaGreatDoor
open Go.ChangeShapes Go.WideShapes Go.ChangeAt Go.RowKit

/-- A number in decimals. -/
def decS (n : Nat) : ByteArray := ⟨(Lib.decDigits n).toArray⟩
theorem decS_one {n : Nat} (h : n < 10) : decS n = strOfNums [48 + (n : Int)] := by
  rw [decS, Lib.decDigits_one h, strOfNums]
  simp only [List.map_cons, List.map_nil]
  congr 4
theorem decS_more {n : Nat} (h : ¬ n < 10) : decS n = decS (n / 10) ++ strOfNums [48 + (n : Int) % 10] := by
  apply ByteArray.ext
  apply Array.toList_inj.1
  rw [decS, Lib.decDigits, dif_neg h]
  have e : (48 + (n : Int) % 10).toNat = 48 + n % 10 := by omega
  simp [decS, strOfNums, e]

theorem decS_size (n : Nat) (h : n ≤ 4611686018427387904) : (decS n).size ≤ 21 := by
  have := Lib.itoa_length_le (n : Int) (by omega) (by omega)
  rw [Lib.itoa_nonneg] at this
  simpa [decS, ByteArray.size] using this

theorem cv_one (W : World) (g : Nat) (z : Int) (h : W.heap[g]? = some (.cells #[.int .u8 z] 5 (0, 0))) :
    (convert 89 9 (.slice (some ⟨g, 0, none⟩) 1 1)).run Tryz.prog W = .ok (.string (strOfNums [z])) W :=
  run_convert_bytes_arg (P := Tryz.prog) W 89 5 Tryz.underlying89 Tryz.underlying5 g 0 1 1 [z] rfl (by
    intro i hi
    obtain rfl : i = 0 := by omega
    exact box_cell h 0 rfl) 9 Tryz.underlying9
theorem cv_new (z : Int) : ∀ W : World, (convert 89 9 (.slice (some ⟨W.heap.size, 0, none⟩) 1 1)).run Tryz.prog (W.alloc (.cells #[.int .u8 z] 5)) = .ok (.string (strOfNums [z])) (W.alloc (.cells #[.int .u8 z] 5)) :=
  fun W => cv_one _ _ z (laid W _ _)
end Go.Proofs.YtbakicgdloakgaaGreatDoor
namespace Go.Proofs.YtbakicgdloakgaaGreatDoor
open Go.ChangeShapes Go.WideShapes Go.ChangeAt Go.RowKit Go.Sort

/-- A mark that is a text. -/
def mtext (k : Nat) : ByteArray := ⟨#[109]⟩ ++ decS k
theorem decS_pos (n : Nat) (o : ByteArray) (j : Nat) (hj : 0 < j) (h : decS n = decS j ++ o) : (j / 10 = 0 → strOfNums [48 + (j : Int) % 10] ++ o = decS n) ∧ (0 < j / 10 → decS n = decS (j / 10) ++ (strOfNums [48 + (j : Int) % 10] ++ o)) := by
  by_cases h10 : j < 10
  · refine ⟨fun _ => ?_, fun h1 => by omega⟩
    rw [h, decS_one h10, show (j : Int) % 10 = j by omega]
  · refine ⟨fun h1 => by omega, fun _ => ?_⟩
    rw [h, decS_more h10, ByteArray.append_assoc]
set_option maxHeartbeats 2000000 in
set_option maxRecDepth 100000 in
theorem markText_any (n : Nat) (w : World) (h0 : 0 < n) (hn : n ≤ 1152921504606846976) :
    Calls Tryz.prog 37 #[.int .i64 n] w fun e w' => e = .returned (.string (mtext n)) ∧ Below w.heap.size w w' := by
  have hsz := decS_size n (by omega)
  have HZ := hid hsz
  clear hsz
  go_enter Tryz.func37, Tryz.ntmps37
  go_wp2_with fail
  go_loopw [0, 3] (fun kk out wr => ∃ (j : Nat) (o : ByteArray), j ≤ n ∧ kk = .int .i64 j ∧ out = .string o ∧ (j = 0 → o = decS n) ∧ (0 < j → decS n = decS j ++ o) ∧ Below w.heap.size w wr) (fun kk _ _ => (intOf kk).toNat)
  case atStart => exact ⟨n, ByteArray.empty, Nat.le_refl _, rfl, rfl, fun h => by omega, fun _ => by rw [ByteArray.append_empty], Below.refl _ _⟩
  case round =>
    obtain ⟨j, o, hj, rfl, rfl, hz, hp, B⟩ := hrel
    rcases Nat.eq_zero_or_pos j with h | h
    · subst h
      have HO := hid (hz rfl)
      have ho : o.size ≤ 21 := by rw [HO.out]; exact HZ.out
      clear hz hp
      go_wp2_with fail
      go_ret
      exact ⟨by rw [HO.out]; rfl, B⟩
    · have HP := hid (decS_pos n o j h (hp h))
      have ho : o.size ≤ 21 := by
        have h1 := HZ.out
        rw [hp h, ByteArray.size_append] at h1
        omega
      have h1 := cv_new (48 + (j : Int) % 10)
      have hs1 : (strOfNums [48 + (j : Int) % 10]).size = 1 := rfl
      have q1 : (j : Int).tdiv 10 = ((j : Int) / 10) := by rw [Int.tdiv_eq_ediv_of_nonneg (by omega)]
      have q2 : (j : Int).tmod 10 = (j : Int) % 10 := Int.tmod_eq_emod_of_nonneg (by omega)
      have q6 : IntKind.u8.wrap (48 + (j : Int) % 10) = 48 + (j : Int) % 10 := by simp [IntKind.wrap, IntKind.bits, IntKind.signed]; omega
      have HB := hid B
      clear hz hp B
      go_wp2_with fail
      go_roundw
      case rel => exact ⟨j / 10, _, by omega, by go_num, rfl, fun hz => (HP.out.1 hz), fun hp => HP.out.2 hp, u_cat HB.out (u_b1 _ _)⟩
      case measure => simp [intOf]; omega
end Go.Proofs.YtbakicgdloakgaaGreatDoor
namespace Go.Proofs.YtbakicgdloakgaaGreatDoor
open Go.ChangeShapes Go.WideShapes Go.ChangeAt Go.RowKit Go.Sort

end Go.Proofs.YtbakicgdloakgaaGreatDoor
namespace Go.Proofs.YtbakicgdloakgaaGreatDoor
open Go.ChangeShapes Go.WideShapes Go.ChangeAt Go.RowKit Go.Sort

end Go.Proofs.YtbakicgdloakgaaGreatDoor
namespace Go.Proofs.YtbakicgdloakgaaGreatDoor
open Go.ChangeShapes Go.WideShapes Go.ChangeAt Go.RowKit

theorem clone_all (s : ByteArray) (w : World) (hs : s.size ≤ 281474976710656) :
    Calls Tryz.prog 32 #[.string s] w fun e w' => e = .returned (.string s) ∧ Below w.heap.size w w' := by
  have H := hid (Tryz.stringslite_Clone s w hs)
  go_enter Tryz.func32, Tryz.ntmps32
  go_wp2_with (go_at_call 57; refine H.out.mono ?_; rintro e w1 ⟨rfl, hb1⟩; have B1 := hid hb1; clear hb1)
  go_ret
  exact ⟨rfl, B1.out⟩
end Go.Proofs.YtbakicgdloakgaaGreatDoor
