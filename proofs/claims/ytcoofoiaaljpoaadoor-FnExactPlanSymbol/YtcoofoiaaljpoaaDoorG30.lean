/- The number of blocks by a part: the program's and the model's. -/
import Derived.Test.YtcoofoiaaljpoaaDoorG29
import Derived.Test.YtcoofoiaaljpoaaDoorG7
namespace Go.Proofs.YtcoofoiaaljpoaaDoor
open Go.ChangeShapes Go.WideShapes Go.ChangeAt Go.RowKit

/-- The first number for which the parts up to it are more than the part. -/
def degOf : List Int → Int → Nat
  | [], _ => 0
  | d :: r, p => if p < d then 1 else degOf r (p - d) + 1

/-- The first k together. -/
def sumTo (ds : List Int) (k : Nat) : Int := (ds.take k).sum
theorem sumTo_zero (ds : List Int) : sumTo ds 0 = 0 := rfl
theorem sumTo_succ (ds : List Int) (k : Nat) (h : k < ds.length) : sumTo ds (k + 1) = sumTo ds k + ds.getD k 0 := by
  unfold sumTo
  rw [List.take_succ_eq_append_getElem h, List.sum_append]
  simp [List.getD, h]
theorem sumTo_all (ds : List Int) : sumTo ds ds.length = ds.sum := by unfold sumTo; rw [List.take_length]

theorem degOf_drop (ds : List Int) (p : Int) (k : Nat) (h : k < ds.length) : degOf (ds.drop k) (p - sumTo ds k) = if p - sumTo ds k < ds.getD k 0 then 1 else degOf (ds.drop (k + 1)) (p - sumTo ds (k + 1)) + 1 := by
  rw [List.drop_eq_getElem_cons h, degOf, sumTo_succ ds k h]
  have : ds.getD k 0 = ds[k] := by simp [List.getD, h]
  rw [this, Int.sub_sub]

theorem degSt_sum (count k : Nat) : (degSt count k).1.sum + (degSt count k).2 = 65536 := by
  induction k with
  | zero => simp [degSt]
  | succ k ih => simp only [degSt, List.sum_append, List.sum_cons, List.sum_nil]; omega
theorem degI_sum (count : Nat) : (degI count).sum = 65536 := by
  have := degSt_sum count (count - 1)
  simp only [degI, List.sum_append, List.sum_cons, List.sum_nil]; omega
theorem degI_len (count : Nat) (h : 1 ≤ count) : (degI count).length = count := by
  simp only [degI, List.length_append, degSt_len]; simp; omega
theorem degSt_in (count k : Nat) (h : 1 ≤ count) : ∀ x ∈ (degSt count k).1, 0 ≤ x ∧ x ≤ 65536 := by
  induction k with
  | zero => simp [degSt]
  | succ k ih =>
    intro x hx
    simp only [degSt, List.mem_append, List.mem_singleton] at hx
    rcases hx with hx | hx
    · exact ih x hx
    · have h1 := wishI_bd count (k + 1) h (by omega)
      have h2 := degSt_bd count k h
      omega
theorem degI_in (count : Nat) (h : 1 ≤ count) : ∀ x ∈ degI count, 0 ≤ x ∧ x ≤ 65536 := by
  intro x hx
  simp only [degI, List.mem_append, List.mem_singleton] at hx
  rcases hx with hx | hx
  · exact degSt_in count _ h x hx
  · rw [hx]; exact degSt_bd count _ h
theorem degI_at (count k : Nat) (h : 1 ≤ count) : 0 ≤ (degI count).getD k 0 ∧ (degI count).getD k 0 ≤ 65536 := by
  by_cases hk : k < (degI count).length
  · have : (degI count).getD k 0 = (degI count)[k] := by simp [List.getD, hk]
    rw [this]; exact degI_in count h _ (List.getElem_mem _)
  · simp [List.getD, List.getElem?_eq_none (Nat.le_of_not_lt hk)]

/-- A cell of a row of ints that is owned. -/
theorem owns_int {w : World} {base : Nat} {e : TypeId} {v : Value} {n : Nat} {xs : List Int} (h : w.ownsRow base e 1 v n (xs.map (Value.int .i64))) (hn : 0 < n) :
    ∃ g cap, v = .slice (some ⟨g, 0, none⟩) n cap ∧ base ≤ g ∧ ∀ k, k < n → w.cell? ⟨g, k, none⟩ = some (.int .i64 (xs.getD k 0)) := by
  have hl : xs.length = n := by simpa using h.1
  obtain ⟨g, cap, rfl, hg⟩ := owns_shape h (by intro e; simp at e; rw [e] at hl; simp at hl; omega)
  refine ⟨g, cap, rfl, hg, fun k hk => ?_⟩
  rw [h.cellAt k (by omega)]
  simp [hl, hk, List.getD]

set_option maxHeartbeats 1000000 in
set_option maxRecDepth 100000 in
theorem implDegreeOf_in (count : Nat) (p : Int) (h1 : 1 ≤ count) (h2 : count ≤ 24) (p1 : 0 ≤ p) (p2 : p < 65536) (w : World) :
    Calls Tryd.prog 57 #[.int .i64 count, .int .i64 p] w fun e w' => e = .returned (.int .i64 (degOf (degI count) p)) ∧ Below w.heap.size w w' := by
  have h65 : decide (65536 ≤ p) = false := by simp; omega
  go_enter Tryd.func57, Tryd.ntmps57
  go_wp2_with (go_at_call 62; refine (implDegrees_in count h1 h2 _).mono ?_; rintro e w1 ⟨v, rfl, hown, hb⟩; obtain ⟨g, cap, rfl, hg, hc⟩ := owns_int hown (by omega))
  go_loop [5, 17] (fun u i => ∃ k : Nat, k ≤ count ∧ i = .int .i64 k ∧ u = .int .i64 (sumTo (degI count) k) ∧ 0 ≤ sumTo (degI count) k ∧ sumTo (degI count) k ≤ p ∧ degOf (degI count) p = k + degOf ((degI count).drop k) (p - sumTo (degI count) k)) (fun _ i => count - (intOf i).toNat)
  case atStart => exact ⟨0, by omega, rfl, rfl, by simp [sumTo], by simpa [sumTo] using p1, by simp [sumTo]⟩
  case round =>
    obtain ⟨k, hk, rfl, rfl, hs1, hs2, hd⟩ := hrel
    by_cases hlt : k < count
    · have hd2 := degOf_drop (degI count) p k (by rw [degI_len count h1]; exact hlt)
      have hs := sumTo_succ (degI count) k (by rw [degI_len count h1]; exact hlt)
      have hck := hc k hlt
      have hat := degI_at count k h1
      obtain ⟨D, hD⟩ : ∃ D, D = (degI count).getD k 0 := ⟨_, rfl⟩
      obtain ⟨S, hS⟩ : ∃ S, S = sumTo (degI count) k := ⟨_, rfl⟩
      rw [← hD] at hd2 hs hck hat
      rw [← hS] at hd2 hs hs1 hs2 hd ⊢
      have H1 : Hid _ := hd2
      have H2 : Hid _ := hs
      have H3 : Hid _ := hd
      clear hd2 hs hd hc hD hS hown
      by_cases hgt : p < S + D
      · go_wp2
        go_ret
        refine ⟨ret_int ?_, hb⟩
        rw [H3.out, H1.out, if_pos (by omega)]
        omega
      · go_wp2
        go_round
        case rel => exact ⟨k + 1, by omega, by go_num, by rw [H2.out], by rw [H2.out]; omega, by rw [H2.out]; omega, by rw [H3.out, H1.out, if_neg (by omega)]; omega⟩
        case measure => simp [intOf]; omega
    · exfalso
      obtain rfl : k = count := by omega
      have := sumTo_all (degI k)
      rw [degI_len k h1, degI_sum] at this
      omega

set_option maxRecDepth 100000 in
theorem implDegreeOf_out (c p : Int) (h : p < 0 ∨ 65536 ≤ p ∨ c < 1 ∨ 24 < c) (w : World) :
    Calls Tryd.prog 57 #[.int .i64 c, .int .i64 p] w fun e w' => e = .returned (.int .i64 0) ∧ Below w.heap.size w w' := by
  by_cases h1 : p < 0
  · clear h
    go_enter Tryd.func57, Tryd.ntmps57
    go_wp2
    go_ret
    exact ⟨rfl, Below.refl _ _⟩
  · by_cases h2 : 65536 ≤ p
    · clear h
      go_enter Tryd.func57, Tryd.ntmps57
      go_wp2
      go_ret
      exact ⟨rfl, Below.refl _ _⟩
    · have h3 : c < 1 ∨ 24 < c := by omega
      have h4 : decide (65536 ≤ p) = false := by simp; omega
      clear h
      go_enter Tryd.func57, Tryd.ntmps57
      go_wp2_with (go_at_call 62; refine (implDegrees_out c h3 _).mono ?_; rintro e w1 ⟨rfl, rfl⟩)
      refine wp_loop_rounds 1 ?_
      rw [rounds_succ]
      go_wp2
      go_ret
      exact ⟨rfl, Below.refl _ _⟩

set_option maxHeartbeats 1000000 in
set_option maxRecDepth 100000 in
theorem l4Degree_any (count : Nat) (p : Int) (h1 : 1 ≤ count) (h2 : count ≤ 24) (p1 : 0 ≤ p) (p2 : p < 65536) (w : World) :
    Calls Tryd.prog 35 #[.int .i64 count, .int .i64 p] w fun e w' => e = .returned (.int .i64 (degOf (degI count) p)) ∧ Below w.heap.size w w' := by
  go_enter Tryd.func35, Tryd.ntmps35
  go_wp2_with (go_at_call 50; refine (l4Degrees_any count h1 h2 _).mono ?_; rintro e w1 ⟨v, rfl, hown, hb⟩; obtain ⟨g, cap, rfl, hg, hc⟩ := owns_int hown (by omega))
  go_loop [1, 6] (fun u i => ∃ k : Nat, k + 1 ≤ count ∧ i = .int .i64 (k + 1) ∧ u = .int .i64 (p - sumTo (degI count) k) ∧ 0 ≤ sumTo (degI count) k ∧ sumTo (degI count) k ≤ p ∧ degOf (degI count) p = k + degOf ((degI count).drop k) (p - sumTo (degI count) k)) (fun _ i => count - (intOf i).toNat)
  case atStart => exact ⟨0, by omega, rfl, by simp [sumTo], by simp [sumTo], by simpa [sumTo] using p1, by simp [sumTo]⟩
  case round =>
    obtain ⟨k, hk, rfl, rfl, hs1, hs2, hd⟩ := hrel
    have hd2 := degOf_drop (degI count) p k (by rw [degI_len count h1]; exact hk)
    have hs := sumTo_succ (degI count) k (by rw [degI_len count h1]; exact hk)
    have hck := hc k hk
    have hat := degI_at count k h1
    obtain ⟨D, hD⟩ : ∃ D, D = (degI count).getD k 0 := ⟨_, rfl⟩
    obtain ⟨S, hS⟩ : ∃ S, S = sumTo (degI count) k := ⟨_, rfl⟩
    rw [← hD] at hd2 hs hck hat
    rw [← hS] at hd2 hs hs1 hs2 hd ⊢
    have H1 : Hid _ := hd2
    have H2 : Hid _ := hs
    have H3 : Hid _ := hd
    clear hd2 hs hd hc hD hS hown
    by_cases hlt : k + 1 < count
    · by_cases hgt : p - S < D
      · go_wp2
        go_ret
        refine ⟨ret_int ?_, hb⟩
        rw [H3.out, H1.out, if_pos (by omega)]
        omega
      · go_wp2
        go_round
        case rel => exact ⟨k + 1, by omega, by go_num, by rw [H2.out]; go_num, by rw [H2.out]; omega, by rw [H2.out]; omega, by rw [H3.out, H1.out, if_neg (by omega)]; omega⟩
        case measure => simp [intOf]; omega
    · obtain rfl : count = k + 1 := by omega
      have hall := sumTo_all (degI (k + 1))
      rw [degI_len _ h1, degI_sum, H2.out] at hall
      go_wp2
      go_ret
      refine ⟨ret_int ?_, hb⟩
      rw [H3.out, H1.out, if_pos (by omega)]
      omega
end Go.Proofs.YtcoofoiaaljpoaaDoor
