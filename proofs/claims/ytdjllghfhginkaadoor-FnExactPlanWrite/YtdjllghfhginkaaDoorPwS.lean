/- Plans as text, by the model: numbers with commas between. -/
import Derived.Test.YtdjllghfhginkaaDoorDec
import Derived.Test.YtdjllghfhginkaaDoorIntsH
import Derived.Lib.Join
namespace Go.Proofs.YtdjllghfhginkaaDoor
open Go.ChangeShapes Go.WideShapes Go.ChangeAt Go.RowKit

/-- Numbers with commas between. -/
def cmL (xs : List Int) : List UInt8 := Lib.join (xs.map fun x => (decS x.toNat).data.toList) [44]
def cmS (xs : List Int) : ByteArray := ⟨(cmL xs).toArray⟩
theorem tail_snoc (sep x : List UInt8) (r : List (List UInt8)) : Lib.joinTail sep (r ++ [x]) = Lib.joinTail sep r ++ (sep ++ x) := by simp [Lib.joinTail]
theorem cmL_one (x : Int) : cmL [x] = (decS x.toNat).data.toList := Lib.join_one _ _
theorem cmL_snoc (xs : List Int) (x : Int) (h : xs ≠ []) : cmL (xs ++ [x]) = cmL xs ++ [44] ++ (decS x.toNat).data.toList := by
  obtain ⟨y, r, rfl⟩ : ∃ y r, xs = y :: r := by
    cases xs with
    | nil => exact absurd rfl h
    | cons y r => exact ⟨y, r, rfl⟩
  simp only [cmL, List.map_append, List.map_cons, List.map_nil, List.cons_append, Lib.join_cons, tail_snoc, List.append_assoc]
theorem cmS_one (x : Int) : cmS [x] = decS x.toNat := by rw [cmS, cmL_one]
theorem cmS_snoc (xs : List Int) (x : Int) (h : xs ≠ []) : (cmS xs ++ (⟨#[44]⟩ : ByteArray)) ++ decS x.toNat = cmS (xs ++ [x]) := by
  apply ByteArray.ext
  apply Array.toList_inj.1
  rw [cmS, cmS, cmL_snoc xs x h]
  simp
theorem cmS_nil : cmS [] = ⟨#[]⟩ := rfl
theorem take_succI (xs : List Int) (k : Nat) (h : k < xs.length) : xs.take (k + 1) = xs.take k ++ [xs.getD k 0] := by
  rw [List.take_succ_eq_append_getElem h]
  simp [List.getD, h]
theorem cmS_size (xs : List Int) (h : ∀ x ∈ xs, 0 ≤ x ∧ x ≤ 99999) : (cmS xs).size ≤ 22 * xs.length := by
  have h0 : ∀ ys : List Int, (∀ x ∈ ys, 0 ≤ x ∧ x ≤ 99999) → (Lib.joinTail [44] (ys.map fun x => (decS x.toNat).data.toList)).length ≤ 22 * ys.length := by
    intro ys
    induction ys with
    | nil => intro _; simp [Lib.joinTail]
    | cons y r ih =>
      intro hy
      have h1 := decS_size y.toNat (by have := hy y (by simp); omega)
      have h2 := ih (fun m hm => hy m (by simp [hm]))
      have e : (decS y.toNat).data.toList.length = (decS y.toNat).size := by rw [Array.length_toList]; rfl
      simp only [Lib.joinTail, List.map_cons, List.flatten_cons, List.length_append, List.length_cons, List.length_nil, e] at h2 ⊢
      omega
  have e : (cmS xs).size = (cmL xs).length := by show (cmL xs).toArray.size = _; simp
  rw [e]
  cases xs with
  | nil => simp [cmL, Lib.join_nil]
  | cons x r =>
    have h1 := decS_size x.toNat (by have := h x (by simp); omega)
    have h2 := h0 r (fun m hm => h m (by simp [hm]))
    have e : (decS x.toNat).data.toList.length = (decS x.toNat).size := by rw [Array.length_toList]; rfl
    simp only [cmL, List.map_cons, Lib.join_cons, List.length_append, List.length_cons, e]
    omega

set_option maxHeartbeats 1000000 in
theorem l5List_any (a : Option Addr) (c : Nat) (xs : List Int) (w : World) (ha : IntsAt w a xs) (hl : xs.length ≤ 3) (hx : ∀ x ∈ xs, 0 ≤ x ∧ x ≤ 99999) :
    Calls Tryd.prog 12 #[.slice a xs.length c] w fun r w' => r = .returned (.string (cmS xs)) ∧ Below w.heap.size w w' := by
  have HX := hid hx
  clear hx
  go_enter Tryd.func12, Tryd.ntmps12
  go_wp2_with fail
  go_loopw [3, 4] (fun s i wr => ∃ k : Nat, k ≤ xs.length ∧ i = .int .i64 k ∧ s = .string (cmS (xs.take k)) ∧ Below w.heap.size w wr) (fun _ i _ => xs.length - (intOf i).toNat)
  case atStart => exact ⟨0, Nat.zero_le _, rfl, rfl, Below.refl _ _⟩
  case round =>
    obtain ⟨k, hk, rfl, rfl, hb⟩ := hrel
    by_cases hlt : k < xs.length
    · obtain ⟨b, off, rfl, hc⟩ := ha (by intro h; simp [h] at hlt)
      have hck := hc k hlt
      have hck' := (hb.cell (p := ⟨b, off + k, none⟩) (block_lt_of_cell hck)).trans hck
      obtain ⟨X, hX⟩ : ∃ X, X = xs.getD k 0 := ⟨_, rfl⟩
      have hm : X ∈ xs := by rw [hX]; simp [List.getD, hlt]
      have hxb := HX.out X hm
      have HT := hid (take_succI xs k hlt)
      rw [← hX] at hck' HT
      obtain ⟨n, rfl⟩ : ∃ n : Nat, X = n := ⟨X.toNat, by omega⟩
      have HD := hid (fun w => l1Dec_any n n w (Nat.le_refl _) (by omega))
      have hs := decS_size n (by omega)
      have ht := cmS_size (xs.take k) (fun x hx => HX.out x (List.mem_of_mem_take hx))
      rw [List.length_take] at ht
      have ht' : (cmS (xs.take k)).size ≤ 66 := by omega
      have HB := hid hb
      by_cases h0 : k = 0
      · have HO := hid (show cmS (xs.take k) ++ decS n = cmS (xs.take k ++ [(n : Int)]) by
          rw [h0]
          show cmS [] ++ decS n = cmS [(n : Int)]
          rw [cmS_one, cmS_nil, Int.toNat_natCast]
          apply ByteArray.ext
          apply Array.toList_inj.1
          simp)
        have hk0 : (k : Int) ≤ 0 := by omega
        obtain ⟨Y, hY⟩ : ∃ Y, Y = cmS (xs.take k) := ⟨_, rfl⟩
        rw [← hY] at ht' HO ⊢
        clear hX hc hck ht hm hb hxb hY h0
        go_wp2_with (go_at_call 11; refine (HD.out _).mono ?_; rintro e w1 ⟨rfl, hb1⟩; have HB1 := hid hb1; clear hb1)
        go_roundw
        case rel => exact ⟨k + 1, by omega, by go_num, by rw [HT.out, ← HO.out], below_catD HB.out HB1.out⟩
        case measure => simp [intOf]; omega
      · have HO := hid (cmS_snoc (xs.take k) (n : Int) (by rw [Ne, ← List.length_eq_zero_iff, List.length_take]; omega))
        have hk0 : (0 : Int) < (k : Int) := by omega
        obtain ⟨Y, hY⟩ : ∃ Y, Y = cmS (xs.take k) := ⟨_, rfl⟩
        rw [← hY] at ht' HO ⊢
        clear hX hc hck ht hm hb hxb hY
        go_wp2_with (go_at_call 11; refine (HD.out _).mono ?_; rintro e w1 ⟨rfl, hb1⟩; have HB1 := hid hb1; clear hb1)
        go_roundw
        case rel => exact ⟨k + 1, by omega, by go_num, by rw [HT.out, ← HO.out]; rfl, below_catD HB.out HB1.out⟩
        case measure => simp [intOf]; omega
    · obtain rfl : k = xs.length := by omega
      rw [List.take_length]
      go_wp2_with fail
      go_ret
      exact ⟨rfl, hb⟩
end Go.Proofs.YtdjllghfhginkaaDoor
