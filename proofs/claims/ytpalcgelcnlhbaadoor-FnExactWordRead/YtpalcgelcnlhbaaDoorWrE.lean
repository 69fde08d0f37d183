/- Words read by the model: all texts. -/
import Derived.Test.YtpalcgelcnlhbaaDoorWrD
namespace Go.Proofs.YtpalcgelcnlhbaaDoor
open Go.ChangeShapes Go.WideShapes Go.ChangeAt Go.RowKit Go.Sort

theorem fnd_one {s : ByteArray} {a c : Nat} {K : Nat} {v : Int} (h : fndP s a c (K : Int)) (h' : fndP s a c v) : v = (K : Int) := by
  rcases h with ⟨h, _⟩ | ⟨k, hk, h1, ⟨h2, h3⟩, h4⟩
  · omega
  · obtain rfl : k = K := by omega
    rcases h' with ⟨rfl, h5⟩ | ⟨k', rfl, h6, ⟨h7, h8⟩, h9⟩
    · exact absurd h3 (h5 k h1 h2)
    · rcases Nat.lt_trichotomy k' k with h | h | h
      · exact absurd h8 (h4 k' h6 h h7)
      · rw [h]
      · exact absurd h3 (h9 k h1 h h2)
theorem numF_mk (n : Nat) (h : n ≤ 99999) : numF ⟨(decS n).data.toList.toArray⟩ = n := by
  rw [mkS]
  exact numF_dec n (by omega)

theorem specWordRead_yes (s : ByteArray) (k c t e n : Nat) (name data : ByteArray) (w : World) (h : Good s k c t e n name data) :
    Calls Tryd.prog 4 #[.string s] w fun r w' => r = .returned (.tuple #[.agg #[.int .i64 k, .int .i64 c, .int .i64 t, .int .i64 e, .int .i64 n, .string name, .string data], .bool true]) ∧ Below w.heap.size w w' := by
  obtain ⟨_, g2, _⟩ := h.facts
  obtain ⟨K, h1, h2, h3, h4, h5⟩ := h.found
  have hb := word_bounds h.ok
  have l5 : name.size ≤ maxLen := by unfold maxLen; omega
  have l6 : data.size ≤ maxLen := by unfold maxLen; omega
  have hok := fun w => specWordOk k c t e n name data w l5 l6
  rw [h.ok] at hok
  have hw := fun w => specWordWrite_yes k c t e n name data w l5 l6 h.ok
  rw [h.eq] at hw
  exact specWordRead_six s K _ _ _ _ _ _ w g2 h1 h2 h3 h4 k c t e n name data (numF_mk k (by omega)) (numF_mk c (by omega)) (numF_mk t (by omega)) (numF_mk e (by omega)) (numF_mk n (by omega)) (mkS name) h5 true true hok s (by simp) hw

/-- The answer that is none, with the answer's block written. -/
theorem zero_ret (w W : World) (hR : W.heap[w.heap.size]? = some (.cells #[.int .i64 0, .int .i64 0, .int .i64 0, .int .i64 0, .int .i64 0, .string ⟨#[]⟩, .string ⟨#[]⟩] 23 (0, 0))) (hB : Below w.heap.size w W) :
    ∃ V, V = ((((((W.setCell ⟨w.heap.size, 0, none⟩ (.int .i64 0)).setCell ⟨w.heap.size, 1, none⟩ (.int .i64 0)).setCell ⟨w.heap.size, 2, none⟩ (.int .i64 0)).setCell ⟨w.heap.size, 3, none⟩ (.int .i64 0)).setCell ⟨w.heap.size, 4, none⟩ (.int .i64 0)).setCell ⟨w.heap.size, 5, none⟩ (.string ⟨#[]⟩)).setCell ⟨w.heap.size, 6, none⟩ (.string ⟨#[]⟩) ∧
      V.heap[w.heap.size]? = some (.cells #[.int .i64 0, .int .i64 0, .int .i64 0, .int .i64 0, .int .i64 0, .string ⟨#[]⟩, .string ⟨#[]⟩] 23 (0, 0)) ∧ Below w.heap.size w V := by
  obtain ⟨V, h1, h2, h3⟩ := set7 hR (.int .i64 0) (.int .i64 0) (.int .i64 0) (.int .i64 0) (.int .i64 0) (.string ⟨#[]⟩) (.string ⟨#[]⟩)
  exact ⟨V, h1, h2, h3 w (Nat.le_refl _) hB⟩

set_option maxHeartbeats 4000000 in
set_option maxRecDepth 100000 in
theorem specWordRead_out (s : ByteArray) (w : World) (hs : s.size ≤ 1048576) (h : (∀ K : Nat, ¬ fndP s 7 58 K) ∨ 160 < s.size) :
    Calls Tryd.prog 4 #[.string s] w fun r w' => r = .returned (.tuple #[.agg #[.int .i64 0, .int .i64 0, .int .i64 0, .int .i64 0, .int .i64 0, .string ⟨#[]⟩, .string ⟨#[]⟩], .bool false]) ∧ Below w.heap.size w w' := by
  have HF := hid (fun w => find58 s w (by unfold maxLen; omega))
  rcases h with h | h
  · have HV : Hid (∀ v, fndP s 7 58 v → v = -1) := hid (fun v hv => by
      rcases hv with ⟨h1, _⟩ | ⟨k, rfl, h2⟩
      · exact h1
      · exact absurd (.inr ⟨k, rfl, h2⟩) (h k))
    clear h
    go_enter Tryd.func4, Tryd.ntmps4
    go_wp2_with (go_at_call 7; refine (HF.out _).mono ?_; rintro r w1 ⟨v, rfl, hv, hw⟩; subst hw; obtain rfl := HV.out v hv; clear hv)
    exact bodyPost_ret (v := .tuple #[.agg #[.int .i64 0, .int .i64 0, .int .i64 0, .int .i64 0, .int .i64 0, .string ⟨#[]⟩, .string ⟨#[]⟩], .bool false]) (by simp [results, Tryd.results4, go_sem]) rfl ⟨rfl, below_newD _ _⟩
  · have d2 : decide (160 < (s.size : Int)) = true := decide_eq_true (by omega)
    go_enter Tryd.func4, Tryd.ntmps4
    go_wp2_with (go_at_call 7; refine (HF.out _).mono ?_; rintro r w1 ⟨v, rfl, hv, hw⟩; subst hw; clear hv; cases hd : decide (v < 0))
    all_goals exact bodyPost_ret (v := .tuple #[.agg #[.int .i64 0, .int .i64 0, .int .i64 0, .int .i64 0, .int .i64 0, .string ⟨#[]⟩, .string ⟨#[]⟩], .bool false]) (by simp [results, Tryd.results4, go_sem]) rfl ⟨rfl, below_newD _ _⟩

set_option maxHeartbeats 4000000 in
set_option maxRecDepth 100000 in
theorem specWordRead_few (s : ByteArray) (K : Nat) (w : World) (hs : s.size ≤ 160) (hK : 7 ≤ K) (hK2 : K < s.size) (hv : ∀ v, fndP s 7 58 v → v = (K : Int)) (h6 : (spl 32 (s.extract 7 K).data.toList).length ≠ 6) :
    Calls Tryd.prog 4 #[.string s] w fun r w' => r = .returned (.tuple #[.agg #[.int .i64 0, .int .i64 0, .int .i64 0, .int .i64 0, .int .i64 0, .string ⟨#[]⟩, .string ⟨#[]⟩], .bool false]) ∧ Below w.heap.size w w' := by
  have HF := hid (fun w => find58 s w (by unfold maxLen; omega))
  have HV := hid hv
  have HC := hid (fun w => cuts32 (s.extract 7 K) w (by rw [ByteArray.size_extract]; omega))
  obtain ⟨L, hL⟩ : ∃ L, L = (spl 32 (s.extract 7 K).data.toList).length := ⟨_, rfl⟩
  rw [← hL] at HC h6
  have h6' : ((L : Int) != 6) = true := by rw [bne_iff_ne]; omega
  have R0 := hid (res0 w)
  have d2 : decide (160 < (s.size : Int)) = false := decide_eq_false (by omega)
  have d1 : decide ((K : Int) < 0) = false := decide_eq_false (by omega)
  clear hv hL h6
  go_enter Tryd.func4, Tryd.ntmps4
  go_wp2_with (first
    | (go_at_call 7; refine (HF.out _).mono ?_; rintro r w1 ⟨v, rfl, hv, hw⟩; subst hw; obtain rfl := HV.out v hv; clear hv)
    | (go_at_call 8; refine (HC.out _).mono ?_; rintro r w1 ⟨a, cap, rfl, ha, hb⟩; have B1 := hid (below_catD (below_newD _ _) hb); have R1 := hid (kept R0.out hb); clear ha hb; have r0 := box_cell R1.out 0 (v := .int .i64 0) rfl; have r1 := box_cell R1.out 1 (v := .int .i64 0) rfl; have r2 := box_cell R1.out 2 (v := .int .i64 0) rfl; have r3 := box_cell R1.out 3 (v := .int .i64 0) rfl; have r4 := box_cell R1.out 4 (v := .int .i64 0) rfl; have r5 := box_cell R1.out 5 (v := .string ⟨#[]⟩) rfl; have r6 := box_cell R1.out 6 (v := .string ⟨#[]⟩) rfl; have z0 := box_frozen R1.out 0; have z1 := box_frozen R1.out 1; have z2 := box_frozen R1.out 2; have z3 := box_frozen R1.out 3; have z4 := box_frozen R1.out 4; have z5 := box_frozen R1.out 5; have z6 := box_frozen R1.out 6; have l0 := lt_of_block R1.out))
  obtain ⟨V, hV, Z7, HB⟩ := zero_ret w w1 R1.out B1.out
  rw [← hV]
  clear hV
  have v0 := box_cell Z7 0 (v := .int .i64 0) rfl
  have v1 := box_cell Z7 1 (v := .int .i64 0) rfl
  have v2 := box_cell Z7 2 (v := .int .i64 0) rfl
  have v3 := box_cell Z7 3 (v := .int .i64 0) rfl
  have v4 := box_cell Z7 4 (v := .int .i64 0) rfl
  have v5 := box_cell Z7 5 (v := .string ⟨#[]⟩) rfl
  have v6 := box_cell Z7 6 (v := .string ⟨#[]⟩) rfl
  refine bodyPost_ret (w := V) (v := .tuple #[.agg #[.int .i64 0, .int .i64 0, .int .i64 0, .int .i64 0, .int .i64 0, .string ⟨#[]⟩, .string ⟨#[]⟩], .bool false]) ?_ rfl ⟨rfl, HB⟩
  simp [results, Tryd.results4, go_sem, v0, v1, v2, v3, v4, v5, v6]

theorem six_of {l : List (List UInt8)} (h : l.length = 6) : ∃ p0 p1 p2 p3 p4 p5, l = [p0, p1, p2, p3, p4, p5] := by
  match l, h with
  | [p0, p1, p2, p3, p4, p5], _ => exact ⟨p0, p1, p2, p3, p4, p5, rfl⟩

theorem specWordRead_no (s : ByteArray) (w : World) (hs : s.size ≤ 1048576) (hno : ∀ k c t e n name data, ¬ Good s k c t e n name data) :
    Calls Tryd.prog 4 #[.string s] w fun r w' => r = .returned (.tuple #[.agg #[.int .i64 0, .int .i64 0, .int .i64 0, .int .i64 0, .int .i64 0, .string ⟨#[]⟩, .string ⟨#[]⟩], .bool false]) ∧ Below w.heap.size w w' := by
  by_cases hK : ∃ K : Nat, fndP s 7 58 K
  · obtain ⟨K, hK⟩ := hK
    by_cases h160 : 160 < s.size
    · exact specWordRead_out s w hs (.inr h160)
    · have hv : ∀ v, fndP s 7 58 v → v = (K : Int) := fun v h => fnd_one hK h
      have hk : 7 ≤ K ∧ K < s.size := by
        rcases hK with ⟨h, _⟩ | ⟨k, hk, h1, ⟨h2, _⟩, _⟩
        · omega
        · omega
      by_cases h6 : (spl 32 (s.extract 7 K).data.toList).length = 6
      · obtain ⟨p0, p1, p2, p3, p4, p5, hsp⟩ := six_of h6
        have hl5 : p5.length ≤ 1000 := by
          have h1 := spl_piece 32 _ p5 (by rw [hsp]; simp)
          have hz : (s.extract 7 K).data.toList.length = (s.extract 7 K).size := by rw [Array.length_toList]; rfl
          rw [hz, ByteArray.size_extract] at h1
          omega
        have l5 : (⟨p5.toArray⟩ : ByteArray).size ≤ maxLen := by
          show p5.toArray.size ≤ _
          unfold maxLen
          simp
          omega
        have l6 : (s.extract (K + 1) s.size).size ≤ maxLen := by rw [ByteArray.size_extract]; unfold maxLen; omega
        have hok := fun w => specWordOk (numF ⟨p0.toArray⟩) (numF ⟨p1.toArray⟩) (numF ⟨p2.toArray⟩) (numF ⟨p3.toArray⟩) (numF ⟨p4.toArray⟩) ⟨p5.toArray⟩ (s.extract (K + 1) s.size) w l5 l6
        cases hb : wordB (numF ⟨p0.toArray⟩) (numF ⟨p1.toArray⟩) (numF ⟨p2.toArray⟩) (numF ⟨p3.toArray⟩) (numF ⟨p4.toArray⟩) ⟨p5.toArray⟩ (s.extract (K + 1) s.size)
        · rw [hb] at hok
          exact specWordRead_six s K p0 p1 p2 p3 p4 p5 w (by omega) hk.1 hk.2 hv hsp _ _ _ _ _ _ _ rfl rfl rfl rfl rfl rfl rfl false _ hok ByteArray.empty rfl (fun w => specWordWrite_no _ _ _ _ _ _ _ w l5 l6 hb)
        · rw [hb] at hok
          have hbd := word_bounds hb
          obtain ⟨k', e0⟩ : ∃ k' : Nat, numF ⟨p0.toArray⟩ = k' := ⟨(numF ⟨p0.toArray⟩).toNat, by omega⟩
          obtain ⟨c', e1⟩ : ∃ k' : Nat, numF ⟨p1.toArray⟩ = k' := ⟨(numF ⟨p1.toArray⟩).toNat, by omega⟩
          obtain ⟨t', e2⟩ : ∃ k' : Nat, numF ⟨p2.toArray⟩ = k' := ⟨(numF ⟨p2.toArray⟩).toNat, by omega⟩
          obtain ⟨e', e3⟩ : ∃ k' : Nat, numF ⟨p3.toArray⟩ = k' := ⟨(numF ⟨p3.toArray⟩).toNat, by omega⟩
          obtain ⟨n', e4⟩ : ∃ k' : Nat, numF ⟨p4.toArray⟩ = k' := ⟨(numF ⟨p4.toArray⟩).toNat, by omega⟩
          rw [e0, e1, e2, e3, e4] at hb hok
          exact specWordRead_six s K p0 p1 p2 p3 p4 p5 w (by omega) hk.1 hk.2 hv hsp k' c' t' e' n' _ _ e0 e1 e2 e3 e4 rfl rfl true false hok (outW k' c' t' e' n' ⟨p5.toArray⟩ (s.extract (K + 1) s.size)) (ne_list fun he => hno _ _ _ _ _ _ _ ⟨hb, he⟩) (fun w => specWordWrite_yes _ _ _ _ _ _ _ w l5 l6 hb)
      · exact specWordRead_few s K w (by omega) hk.1 hk.2 hv h6
  · exact specWordRead_out s w hs (.inl fun K h => hK ⟨K, h⟩)
end Go.Proofs.YtpalcgelcnlhbaaDoor
