/- A record of a thing: its pieces built together. -/
import Derived.Test.YtjnhihckehcglaaDoorBld
import Derived.Test.YtjnhihckehcglaaDoorShR
import Derived.Test.YtjnhihckehcglaaDoorStrsH
import Derived.Test.YtjnhihckehcglaaDoorName
namespace Go.Proofs.YtjnhihckehcglaaDoor
open Go.ChangeShapes Go.WideShapes Go.ChangeAt Go.RowKit

def joinL (ss : List ByteArray) : List UInt8 := ss.flatMap fun s => s.data.toList
theorem joinL_take (ss : List ByteArray) (k : Nat) (h : k < ss.length) : joinL (ss.take (k + 1)) = joinL (ss.take k) ++ (ss.getD k ByteArray.empty).data.toList := by
  rw [getS_eq h, List.take_add_one, List.getElem?_eq_getElem h, joinL, List.flatMap_append]
  show _ ++ (_ ++ []) = _
  rw [List.append_nil]
  rfl
theorem joinL_take_le (ss : List ByteArray) (k : Nat) : (joinL (ss.take k)).length ≤ (joinL ss).length := by
  have : joinL ss = joinL (ss.take k) ++ joinL (ss.drop k) := by simp only [joinL, ← List.flatMap_append, List.take_append_drop]
  rw [this, List.length_append]
  omega

set_option maxHeartbeats 1000000 in
theorem catJoin_any (a : Option Addr) (cap : Nat) (ss : List ByteArray) (w : World) (ha : StrsAt w a ss) (hx : ss.length ≤ 1048576) (hsz : (joinL ss).length ≤ 1048576) :
    Calls Tryd.prog 10 #[.slice a ss.length cap] w fun e w' => e = .returned (.string ⟨(joinL ss).toArray⟩) ∧ Below w.heap.size w w' := by
  have HB := hid (Lib.fresh_isBuilder 36 5 w)
  have HSZ := hid hsz
  clear hsz
  go_enter Tryd.func10, Tryd.ntmps10
  go_wp2
  go_loopw [8] (fun i wr => ∃ k : Nat, k ≤ ss.length ∧ i = .int .i64 k ∧ Lib.IsBuilder 36 5 w.heap.size w.heap.size (Lib.byteCells (joinL (ss.take k))) wr ∧ Below w.heap.size w wr) (fun i _ => ss.length - (intOf i).toNat)
  case atStart => exact ⟨0, Nat.zero_le _, rfl, HB.out, (Below.refl _ _).alloc (Nat.le_refl _) _⟩
  case round =>
    obtain ⟨k, hk, rfl, hb, hnx⟩ := hrel
    by_cases hlt : k < ss.length
    · obtain ⟨bb, off, rfl, hc⟩ := ha (by intro h; simp [h] at hlt)
      have hck := hc k hlt
      have hck' := (hnx.cell (p := ⟨bb, off + k, none⟩) (block_lt_of_cell hck)).trans hck
      have HJ := hid (joinL_take ss k hlt)
      have HL := hid (joinL_take_le ss (k + 1))
      have HBB := hid hb
      have HS := hid hnx.size
      obtain ⟨X, hX⟩ : ∃ X, X = ss.getD k ByteArray.empty := ⟨_, rfl⟩
      rw [← hX] at hck' HJ
      clear hc hck hX hb
      go_wp2_with (go_at_call 14; refine (writeString_any _ _ _ _ _ HBB.out ?_ ?_).mono ?_)
      · have h1 := HJ.out; have h2 := HL.out; have h3 := HSZ.out
        rw [h1, List.length_append] at h2
        rw [Lib.byteCells_length]
        have : X.size = X.data.toList.length := by rw [Array.length_toList]; rfl
        omega
      · exact HS.out
      rintro e w1 ⟨rfl, h1, hb1⟩
      have H1 := hid h1
      clear h1
      go_wp2
      go_roundw
      case rel =>
        refine ⟨k + 1, by omega, by go_num, ?_, hnx.trans hb1⟩
        rw [HJ.out, Lib.byteCells_append]
        exact Or.inr H1.out
      case measure => simp [intOf]; omega
    · obtain rfl : k = ss.length := by omega
      have HBB := hid hb
      have HS := hid hnx.size
      clear hb
      go_wp2_with (go_at_call 15; refine (bldString _ _ _ _ HBB.out HS.out).mono ?_)
      rintro e w1 ⟨rfl, hb1⟩
      go_wp2
      go_ret
      exact ⟨rfl, hnx.trans hb1⟩

/-- What is written down: the house's figure, a blank, the name, a colon, the text. -/
def recB (h : Nat) (a t : ByteArray) : ByteArray := ⟨(joinL [⟨(Lib.decDigits h).toArray⟩, ⟨#[32]⟩, a, ⟨#[58]⟩, t]).toArray⟩
def recOk (h : Int) (a t : ByteArray) : Bool := decide (0 ≤ h ∧ h ≤ 1) && nameB a && decide (t.size ≤ 300)

set_option maxHeartbeats 1000000 in
theorem implCatRecord_no (h : Int) (a t : ByteArray) (w : World) (ha : a.size ≤ maxLen) (_ht : t.size ≤ maxLen) (hno : recOk h a t = false) :
    Calls Tryd.prog 5 #[.int .i64 h, .string a, .string t] w fun e w' => e = .returned (.string ByteArray.empty) ∧ w' = w := by
  have HN := hid hno
  clear hno
  by_cases h0 : 0 ≤ h
  · by_cases h1 : h < 2
    · have h0' : decide (0 ≤ h) = true := decide_eq_true h0
      have h1' : decide (h < 2) = true := decide_eq_true h1
      cases hn : nameB a
      · go_enter Tryd.func5, Tryd.ntmps5
        go_wp2_with (first | (go_at_call 9; refine (implNameOk a _ ha).mono ?_; rintro e w' ⟨rfl, rfl⟩) | go_in)
        go_ret
        exact ⟨rfl, rfl⟩
      · have hlt : decide ((300 : Int) < (t.size : Int)) = true := by
          have := HN.out
          rw [recOk, hn, decide_eq_true (by omega), Bool.true_and, Bool.true_and, decide_eq_false_iff_not] at this
          exact decide_eq_true (by omega)
        go_enter Tryd.func5, Tryd.ntmps5
        go_wp2_with (first | (go_at_call 9; refine (implNameOk a _ ha).mono ?_; rintro e w' ⟨rfl, rfl⟩) | go_in)
        go_ret
        exact ⟨rfl, rfl⟩
    · have h0' : decide (0 ≤ h) = true := decide_eq_true h0
      have h1' : decide (h < 2) = false := decide_eq_false h1
      go_enter Tryd.func5, Tryd.ntmps5
      go_wp2_with go_in
      go_ret
      exact ⟨rfl, rfl⟩
  · have h0' : decide (0 ≤ h) = false := decide_eq_false h0
    go_enter Tryd.func5, Tryd.ntmps5
    go_wp2_with go_in
    go_ret
    exact ⟨rfl, rfl⟩

theorem five_strs (w : World) (x0 x1 x2 x3 x4 : ByteArray) : StrsAt (w.alloc (.cells #[.string x0, .string x1, .string x2, .string x3, .string x4] 9)) (some ⟨w.heap.size, 0, none⟩) [x0, x1, x2, x3, x4] := fun _ => by
  refine ⟨w.heap.size, 0, rfl, fun i hi => ?_⟩
  rw [Nat.zero_add, Lib.cell_of_heap (heap_alloc_new w _)]
  have hi' : i < 5 := hi
  match i, hi' with
  | 0, _ => rfl
  | 1, _ => rfl
  | 2, _ => rfl
  | 3, _ => rfl
  | 4, _ => rfl

theorem join_five_le (x0 x1 x2 x3 x4 : ByteArray) : (joinL [x0, x1, x2, x3, x4]).length = x0.size + x1.size + x2.size + x3.size + x4.size := by
  simp only [joinL, List.flatMap_cons, List.flatMap_nil, List.length_append, Array.length_toList, List.length_nil]
  show x0.size + (x1.size + (x2.size + (x3.size + (x4.size + 0)))) = _
  omega

theorem digit_size (h : Nat) (hh : h ≤ 1) : (⟨(Lib.decDigits h).toArray⟩ : ByteArray).size = 1 := by
  rw [Lib.decDigits_one (by omega)]
  rfl

set_option maxHeartbeats 1000000 in
theorem implCatRecord_yes (h : Nat) (a t : ByteArray) (w : World) (ha : a.size ≤ maxLen) (hh : h ≤ 1) (hn : nameB a = true) (ht : t.size ≤ 300) (hs : a.size ≤ 6) :
    Calls Tryd.prog 5 #[.int .i64 h, .string a, .string t] w fun e w' => e = .returned (.string (recB h a t)) ∧ Below w.heap.size w w' := by
  have h0' : decide (0 ≤ (h : Int)) = true := decide_eq_true (by omega)
  have h1' : decide ((h : Int) < 2) = true := decide_eq_true (by omega)
  have hlt : decide ((300 : Int) < (t.size : Int)) = false := decide_eq_false (by omega)
  have hd := digit_size h hh
  have H100 : Hid (h < 100) := hid (by omega)
  unfold recB
  obtain ⟨D, hD⟩ : ∃ D : ByteArray, D = ⟨(Lib.decDigits h).toArray⟩ := ⟨_, rfl⟩
  rw [← hD] at hd ⊢
  have hj : (joinL [D, ⟨#[32]⟩, a, ⟨#[58]⟩, t]).length ≤ 1048576 := by
    rw [join_five_le]
    have e1 : (⟨#[32]⟩ : ByteArray).size = 1 := rfl
    have e2 : (⟨#[58]⟩ : ByteArray).size = 1 := rfl
    omega
  have hitoa : ∀ w : World, Calls Tryd.prog 11 #[.int .i64 h] w fun e w' => e = .returned (.string D) ∧ w' = w := by rw [hD]; exact fun w => itoaSmall h H100.out w
  have HI := hid hitoa
  have HC := hid (catJoin_any _ 5 _ _ (five_strs w D ⟨#[32]⟩ a ⟨#[58]⟩ t) (by simp) hj)
  clear hitoa hD ht hs hd hh hj
  go_enter Tryd.func5, Tryd.ntmps5
  go_wp2_with (first
    | (go_at_call 9; refine (implNameOk a _ ha).mono ?_; rintro e w' ⟨rfl, rfl⟩)
    | (go_at_call 11; refine (HI.out _).mono ?_; rintro e w' ⟨rfl, rfl⟩)
    | (go_at_call 8; go_in)
    | (go_at_call 10; refine HC.out.mono ?_))
  rintro e w2 ⟨rfl, hb⟩
  go_wp2_with fail
  go_ret
  exact ⟨rfl, ((Below.refl _ _).alloc (Nat.le_refl _) _).trans (hb.mono (by simp))⟩
end Go.Proofs.YtjnhihckehcglaaDoor
