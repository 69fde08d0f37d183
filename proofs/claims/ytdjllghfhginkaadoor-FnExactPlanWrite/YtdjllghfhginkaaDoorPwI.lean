/- Plans as text, by the program: numbers with commas between. -/
import Derived.Test.YtdjllghfhginkaaDoorPwS
import Derived.Test.YtdjllghfhginkaaDoorItoa
import Derived.Test.YtdjllghfhginkaaDoorStrsH
namespace Go.Proofs.YtdjllghfhginkaaDoor
open Go.ChangeShapes Go.WideShapes Go.ChangeAt Go.RowKit

theorem cm_map (xs : List Int) : (xs.map fun x => decS x.toNat).map (·.data.toList) = xs.map fun x => (decS x.toNat).data.toList := by
  rw [List.map_map]
  rfl
theorem join_cm (g cap : Nat) (xs : List Int) (w : World) (hown : w.ownsRow 0 9 1 (.slice (some ⟨g, 0, none⟩) xs.length cap) xs.length (xs.map fun x => Value.string (decS x.toNat))) (hl : xs.length ≤ 3) (hx : ∀ x ∈ xs, 0 ≤ x ∧ x ≤ 99999) (h0 : xs ≠ []) :
    Calls Tryd.prog 25 #[.slice (some ⟨g, 0, none⟩) xs.length cap, .string ⟨#[44]⟩] w fun e w' => e = .returned (.string (cmS xs)) ∧ Below w.heap.size w w' := by
  have hne : xs.length ≠ 0 := by rw [Ne, List.length_eq_zero_iff]; exact h0
  have hsz := cmS_size xs hx
  have e1 : (cmS xs).size = (cmL xs).length := by show (cmL xs).toArray.size = _; simp
  have hcell : ∀ (j : Nat) x, (xs.map fun x => decS x.toNat)[j]? = some x → w.cell? ⟨g, 0 + j, none⟩ = some (.string x) := by
    intro j x hj
    have hjl : j < xs.length := by
      rcases Nat.lt_or_ge j xs.length with h | h
      · exact h
      · simp [List.getElem?_eq_none h] at hj
    rw [Nat.zero_add, hown.cellAt j (by omega)]
    simp [List.getElem?_map, List.getElem?_eq_getElem hjl] at hj ⊢
    exact hj
  have hb : g < w.heap.size := by
    have := hcell 0 (decS (xs.getD 0 0).toNat) (by
      rw [List.getElem?_map]
      cases xs with
      | nil => exact absurd rfl h0
      | cons y r => rfl)
    exact block_lt_of_cell this
  have hcap : xs.length ≤ cap := by
    rcases hown.2 with ⟨h, _⟩ | ⟨g', cap', cur, hv, _, _, hc, _⟩
    · cases h
    · simp only [Value.slice.injEq] at hv
      obtain ⟨_, _, rfl⟩ := hv
      exact hc
  have := Tryd.strings_Join g 0 cap (xs.map fun x => decS x.toNat) ⟨#[44]⟩ w hcell hb (by simp; omega) (by simpa using hcap) (by
    rw [cm_map]
    show (cmL xs).length ≤ _
    omega)
  rw [cm_map, List.length_map] at this
  exact this

set_option maxHeartbeats 1000000 in
theorem planListWrite_any (a : Option Addr) (c : Nat) (xs : List Int) (w : World) (ha : IntsAt w a xs) (hl : xs.length ≤ 3) (h0 : xs ≠ []) (hx : ∀ x ∈ xs, 0 ≤ x ∧ x ≤ 99999) (hp : Pow w) :
    Calls Tryd.prog 16 #[.slice a xs.length c] w fun r w' => r = .returned (.string (cmS xs)) ∧ Below w.heap.size w w' := by
  obtain ⟨i0, hi, hz0, hz1, hz2⟩ := info_parts Tryd.info9
  have HX := hid hx
  have HP := hid hp
  have H0 := hid h0
  clear hx hp h0
  go_enter Tryd.func16, Tryd.ntmps16
  go_wp2_with fail
  go_loopw [3, 8] (fun v i wr => ∃ k : Nat, k ≤ xs.length ∧ i = .int .i64 k ∧ wr.ownsRow w.heap.size 9 1 v k ((xs.take k).map fun x => Value.string (decS x.toNat)) ∧ Below w.heap.size w wr) (fun _ i _ => xs.length - (intOf i).toNat)
  case atStart => exact ⟨0, Nat.zero_le _, rfl, ⟨rfl, Or.inl ⟨rfl, rfl⟩⟩, Below.refl _ _⟩
  case round =>
    obtain ⟨k, hk, rfl, hown, hb⟩ := hrel
    by_cases hlt : k < xs.length
    · obtain ⟨b, off, rfl, hc⟩ := ha (by intro h; simp [h] at hlt)
      have hck := hc k hlt
      have hck' := (hb.cell (p := ⟨b, off + k, none⟩) (block_lt_of_cell hck)).trans hck
      obtain ⟨X, hX⟩ : ∃ X, X = xs.getD k 0 := ⟨_, rfl⟩
      have hm : X ∈ xs := by rw [hX]; simp [List.getD, hlt]
      have hxb := HX.out X hm
      have HT := hid (take_succI xs k hlt)
      rw [← hX] at hck' HT
      obtain ⟨n, rfl⟩ : ∃ n : Nat, X = n := ⟨X.toNat, by omega⟩
      have HB := hid hb
      have HD := hid (itoa_any n _ (by omega) (HP.out.below hb))
      have HO := hid hown
      clear hX hc hck hm hb hxb hown
      go_wp2_with (first
        | (go_at_call 15; refine HD.out.mono ?_; rintro e w1 ⟨rfl, hb1⟩; have HB1 := hid hb1; have hown1 := owns_below HO.out hb1; have hsz1 : w.heap.size ≤ w1.heap.size := (Nat.le_trans HB.out.size hb1.size); clear hb1)
        | (at_builtin; refine append_one 43 9 i0 _ 16 Tryd.underlying43 hi hz0 hz1 hz2 rfl _ _ rfl rfl rfl rfl rfl rfl hown1 hsz1 (by omega) (by omega) ?_; intro v' w2 hown2 hb2))
      have HO2 := hid hown2
      have HB2 := hid hb2
      clear hown1 hown2 hb2
      go_roundw
      case rel =>
        refine ⟨k + 1, by omega, by go_num, ?_, (HB.out.trans (HB1.out.mono HB.out.size)).trans HB2.out⟩
        rw [HT.out, List.map_append]
        exact HO2.out
      case measure => simp [intOf]; omega
    · obtain rfl : k = xs.length := by omega
      rw [List.take_length] at hown
      have hne : xs.length ≠ 0 := by rw [Ne, List.length_eq_zero_iff]; exact H0.out
      obtain ⟨g, cap, rfl⟩ : ∃ g cap, _ = Value.slice (some ⟨g, 0, none⟩) xs.length cap := by
        rcases hown.2 with ⟨_, h⟩ | ⟨g, cap, cur, hv, _⟩
        · exact absurd h hne
        · exact ⟨g, cap, hv⟩
      have HJ := hid (join_cm g cap xs _ (owns_base hown (Nat.zero_le _)) hl HX.out H0.out)
      have HB := hid hb
      clear hown hb hk hlt
      go_wp2_with (go_at_call 25; refine HJ.out.mono ?_; rintro e w1 ⟨rfl, hb1⟩; have HB1 := hid hb1; clear hb1)
      go_ret
      exact ⟨rfl, below_catD HB.out HB1.out⟩
end Go.Proofs.YtdjllghfhginkaaDoor
