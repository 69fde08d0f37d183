/- Equations that are ok, pair by pair. How many of the first blocks are known, and a block that is known, by the program. A list of a solver, ok or not; links of one block. Solvers that are ok, by the model. -/
import Derived.Test.YtbakicgdloakgaaGreatDoorG12
import Derived.Test.YtbakicgdloakgaaGreatDoorG2
namespace Go.Proofs.YtbakicgdloakgaaGreatDoor
open Go.ChangeShapes Go.WideShapes Go.ChangeAt Go.RowKit Go.Sort Go.Shelf
attribute [local go_sem] Oper.semAt_some

/-- Equations that are ok, pair by pair. -/
theorem okE_iff {c z : Int} : ∀ {es : List EqV}, okE c z es ↔ ∀ i (hi : i < es.length), (ascB (-1) c es[i].r = true ∧ (es[i].d.size : Int) = z ∧ es[i].r ≠ []) ∧ ∀ j (hj : j < es.length), i < j → fit1 es[i].r es[j].r
  | [] => ⟨fun _ i hi => by simp at hi, fun _ => trivial⟩
  | e :: es => by
    constructor
    · rintro ⟨⟨h1, h2, h3⟩, h4⟩ i hi
      have ih := okE_iff.1 h4
      cases i with
      | zero => exact ⟨⟨h1, h2, h3.1⟩, fun j hj hlt => by
          cases j with
          | zero => omega
          | succ j => exact h3.2 _ (List.mem_map_of_mem (List.getElem_mem (by simpa using hj)))⟩
      | succ i =>
        have := ih i (by simpa using hi)
        exact ⟨this.1, fun j hj hlt => by
          cases j with
          | zero => omega
          | succ j => exact this.2 j (by simpa using hj) (by omega)⟩
    · intro h
      refine ⟨⟨(h 0 (by simp)).1.1, (h 0 (by simp)).1.2.1, (h 0 (by simp)).1.2.2, fun r hr => ?_⟩, okE_iff.2 fun i hi => ⟨(h (i + 1) (by simpa using hi)).1, fun j hj hlt => (h (i + 1) (by simpa using hi)).2 (j + 1) (by simpa using hj) (by omega)⟩⟩
      obtain ⟨f, hf, rfl⟩ := List.mem_map.1 hr
      obtain ⟨j, hj, rfl⟩ := List.getElem_of_mem hf
      exact (h 0 (by simp)).2 (j + 1) (by simpa using hj) (by omega)
/-- What the model looks at first. -/
def p1At (c z : Int) (es : List EqV) (i : Nat) : Prop := ∃ hi : i < es.length, (ascB (-1) c es[i].r = true ∧ es[i].r ≠ [] ∧ (es[i].d.size : Int) = z) ∧ (0 < i → ∃ hj : i - 1 < es.length, hd es[i - 1].r < hd es[i].r)
/-- .. and then. -/
def p2At (es : List EqV) (i k : Nat) : Prop := ∀ (hi : i < es.length) (hk : k < es.length), k ≠ i → hd es[i].r ∉ es[k].r
theorem p1_asc {c z : Int} {es : List EqV} (h : ∀ i, i < es.length → p1At c z es i) : ∀ (d i : Nat) (hi : i < es.length) (hj : i + d + 1 < es.length), hd es[i].r < hd es[i + d + 1].r := by
  intro d
  induction d with
  | zero =>
    intro i hi hj
    obtain ⟨_, _, h2⟩ := h (i + 1) hj
    obtain ⟨_, h3⟩ := h2 (by omega)
    exact h3
  | succ d ih =>
    intro i hi hj
    have h1 := ih i hi (by omega)
    obtain ⟨_, _, h2⟩ := h (i + (d + 1) + 1) hj
    obtain ⟨_, h3⟩ := h2 (by omega)
    have e : hd (es[i + (d + 1) + 1 - 1]'(by omega)).r = hd (es[i + d + 1]'(by omega)).r := rfl
    omega
theorem okE_p {c z : Int} {es : List EqV} : okE c z es ↔ (∀ i, i < es.length → p1At c z es i) ∧ ∀ i k, p2At es i k := by
  constructor
  · intro h
    have h' := okE_iff.1 h
    refine ⟨fun i hi => ⟨hi, ⟨(h' i hi).1.1, (h' i hi).1.2.2, (h' i hi).1.2.1⟩, fun h0 => ⟨by omega, ((h' (i - 1) (by omega)).2 i hi (by omega)).1⟩⟩, fun i k hi hk hne => ?_⟩
    rcases Nat.lt_or_ge k i with hlt | hge
    · exact ((h' k hk).2 i hi hlt).2
    · have := ((h' i hi).2 k hk (by omega)).1
      intro hm
      have := hd_le (h' k hk).1.1 hm
      omega
  · rintro ⟨h1, h2⟩
    refine okE_iff.2 fun i hi => ?_
    obtain ⟨_, ⟨a1, a2, a3⟩, _⟩ := h1 i hi
    refine ⟨⟨a1, a3, a2⟩, fun j hj hlt => ⟨?_, h2 j i hj hi (by omega)⟩⟩
    obtain ⟨d, rfl⟩ : ∃ d, j = i + d + 1 := ⟨j - i - 1, by omega⟩
    exact p1_asc h1 d i hi hj
end Go.Proofs.YtbakicgdloakgaaGreatDoor
namespace Go.Proofs.YtbakicgdloakgaaGreatDoor
open Go.ChangeShapes Go.WideShapes Go.ChangeAt Go.RowKit Go.Sort Go.Shelf
attribute [local go_sem] Oper.semAt_some

/-- From a number on, how far the rows are that number alone. -/
def pfx : Nat → List (List Int) → Nat
  | n, [] => n
  | n, r :: rs => if r = [(n : Int)] then pfx (n + 1) rs else n
/-- Rows that are their places alone. -/
def Places (rs : List (List Int)) : Prop := ∀ i (h : i < rs.length), rs[i] = [(i : Int)]
theorem pfx_over (p t : List (List Int)) : ∀ n : Nat, (∀ i (h : i < p.length), p[i] = [((n + i : Nat) : Int)]) → pfx n (p ++ t) = pfx (n + p.length) t := by
  induction p with
  | nil => intro n _; rfl
  | cons r p ih =>
    intro n h
    have h0 : r = [(n : Int)] := h 0 (by simp)
    show (if r = [(n : Int)] then pfx (n + 1) (p ++ t) else n) = _
    rw [if_pos h0, ih (n + 1) (fun i hi => by have := h (i + 1) (by simpa using hi); simpa [Nat.add_assoc, Nat.add_comm 1 i] using this), List.length_cons, Nat.add_assoc, Nat.add_comm 1 p.length]
theorem pfx_all {rs : List (List Int)} (h : Places rs) : pfx 0 rs = rs.length := by
  have := pfx_over rs [] 0 (fun i hi => by simpa using h i hi)
  rw [List.append_nil] at this
  rw [this, Nat.zero_add]
  rfl
theorem pfx_stop {p : List (List Int)} {r : List Int} {t : List (List Int)} (h : Places p) (hr : r ≠ [(p.length : Int)]) : pfx 0 (p ++ r :: t) = p.length := by
  rw [pfx_over p (r :: t) 0 (fun i hi => by simpa using h i hi), Nat.zero_add]
  show (if r = [(p.length : Int)] then _ else p.length) = _
  rw [if_neg hr]
theorem Places.snoc {p : List (List Int)} {r : List Int} (h : Places p) (hr : r = [(p.length : Int)]) : Places (p ++ [r]) := fun i hi => by
  by_cases hlt : i < p.length
  · rw [List.getElem_append_left hlt]; exact h i hlt
  · obtain rfl : i = p.length := by simp at hi; omega
    rw [List.getElem_append_right (Nat.le_refl _)]
    simpa using hr
/-- The rows of links. -/
def rowsA {ls : List Lk} (p : List {x : Lk // x ∈ ls}) : List (List Int) := p.map (fun x => x.1.r)
theorem rowsA_len {ls : List Lk} (p : List {x : Lk // x ∈ ls}) : (rowsA p).length = p.length := List.length_map _
theorem rowsA_snoc {ls : List Lk} (p : List {x : Lk // x ∈ ls}) (x : {x : Lk // x ∈ ls}) : rowsA (p ++ [x]) = rowsA p ++ [x.1.r] := by simp [rowsA]
theorem attach_rows (ls : List Lk) : rowsA ls.attach = ls.map Lk.r := by
  unfold rowsA
  have : ls.attach.map (fun x => x.1) = ls := List.attach_map_subtype_val ls
  calc ls.attach.map (fun x => x.1.r) = (ls.attach.map (fun x => x.1)).map Lk.r := by rw [List.map_map]; rfl
    _ = ls.map Lk.r := by rw [this]
end Go.Proofs.YtbakicgdloakgaaGreatDoor
namespace Go.Proofs.YtbakicgdloakgaaGreatDoor
open Go.ChangeShapes Go.WideShapes Go.ChangeAt Go.RowKit Go.Sort Go.Shelf
attribute [local go_sem] Oper.semAt_some

set_option maxRecDepth 100000 in
set_option maxHeartbeats 1000000 in
theorem isBlock_any (b : Nat) (r : List Int) (at' : Int) (w : World) (hb : w.cell? ⟨b, 0, none⟩ = some (.int .u32 (setI r : Nat))) (hr : ascB (-1) 24 r = true) (hne : r ≠ []) (hT : Tab w) :
    Calls Tryz.prog 136 #[.pointer (some ⟨b, 0, none⟩), .int .i64 at'] w fun e w' => e = .returned (.bool (decide (r = [at']))) ∧ Dr w w' := by
  have HT := hid hT
  have K1 := hid (sizeS hr)
  have K2 := hid (firstS hr hne)
  have HD := hid (show decide (r = [at']) = decide (r.length = 1 ∧ hd r = at') from by rw [decide_eq_decide]; exact (one_row r at').symm)
  by_cases h1 : r.length = 1
  · have e1 : ((r.length : Int) == 1) = true := by simp [h1]
    by_cases h2 : hd r = at'
    · have e2 : (hd r == at') = true := by simp [h2]
      have HF := hid (show decide (r = [at']) = true by rw [HD.out]; exact decide_eq_true ⟨h1, h2⟩)
      clear h1 h2 hr hne hT HD
      generalize hd r = F at K2 e2
      generalize r.length = L at K1 e1
      generalize setI r = s at K1 K2 hb
      go_enter Tryz.func136, Tryz.ntmps136
      go_wp2_with (go_at_call 137; refine (K1.out _).mono ?_; rintro e w1 ⟨rfl, d1⟩; have hb1 := (d1.cell _).trans hb; have D1 := hid d1; clear d1 hb)
      refine (K2.out _ (HT.out.below (D1.out.below _))).mono ?_
      rintro e w2 ⟨rfl, hw⟩; replace hw := hw.symm; subst hw
      go_wp2_with fail
      go_ret
      exact ⟨ret_bool HF.out.symm, D1.out⟩
    · have e2 : (hd r == at') = false := by simp [h2]
      have HF := hid (show decide (r = [at']) = false by rw [HD.out]; exact decide_eq_false (fun h => h2 h.2))
      clear h1 h2 hr hne hT HD
      generalize hd r = F at K2 e2
      generalize r.length = L at K1 e1
      generalize setI r = s at K1 K2 hb
      go_enter Tryz.func136, Tryz.ntmps136
      go_wp2_with (go_at_call 137; refine (K1.out _).mono ?_; rintro e w1 ⟨rfl, d1⟩; have hb1 := (d1.cell _).trans hb; have D1 := hid d1; clear d1 hb)
      refine (K2.out _ (HT.out.below (D1.out.below _))).mono ?_
      rintro e w2 ⟨rfl, hw⟩; replace hw := hw.symm; subst hw
      go_wp2_with fail
      go_ret
      exact ⟨ret_bool HF.out.symm, D1.out⟩
  · have e1 : ((r.length : Int) == 1) = false := by simp; omega
    have HF := hid (show decide (r = [at']) = false by rw [HD.out]; exact decide_eq_false (fun h => h1 h.1))
    clear h1 hr hne hT HD
    generalize hd r = F at K2
    generalize r.length = L at K1 e1
    generalize setI r = s at K1 K2 hb
    go_enter Tryz.func136, Tryz.ntmps136
    go_wp2_with (go_at_call 137; refine (K1.out _).mono ?_; rintro e w1 ⟨rfl, d1⟩; have hb1 := (d1.cell _).trans hb; have D1 := hid d1; clear d1 hb)
    go_ret
    exact ⟨ret_bool HF.out.symm, D1.out⟩
end Go.Proofs.YtbakicgdloakgaaGreatDoor
namespace Go.Proofs.YtbakicgdloakgaaGreatDoor
open Go.ChangeShapes Go.WideShapes Go.ChangeAt Go.RowKit Go.Sort Go.Shelf
attribute [local go_sem] Oper.semAt_some

set_option maxRecDepth 100000 in
set_option maxHeartbeats 1000000 in
theorem l3Has_any (a : Option Addr) (cap : Nat) (xs : List Int) (n : Int) (w : World) (ha : IntsAt w a xs) (hx : xs.length ≤ 1048576) :
    Calls Tryz.prog 87 #[.slice a xs.length cap, .int .i64 n] w fun e w' => e = .returned (.bool (decide (n ∈ xs))) ∧ w' = w := by
  go_enter Tryz.func87, Tryz.ntmps87
  go_wp2
  go_loop [5] (fun i => ∃ k : Nat, k ≤ xs.length ∧ i = .int .i64 k ∧ n ∉ xs.take k) (fun i => xs.length - (intOf i).toNat)
  case atStart => exact ⟨0, by omega, rfl, by simp⟩
  case round =>
    obtain ⟨k, hk, rfl, hno⟩ := hrel
    have HN := hid hno
    clear hno
    by_cases hlt : k < xs.length
    · obtain ⟨b, off, rfl, hc⟩ := ha (by intro h; simp [h] at hlt)
      have hck := hc k hlt
      have HX := hid (show xs.take (k + 1) = xs.take k ++ [xs.getD k 0] by rw [List.take_succ_eq_append_getElem hlt, getD_eq hlt])
      have HM := hid (show xs.getD k 0 ∈ xs by rw [getD_eq hlt]; exact List.getElem_mem hlt)
      obtain ⟨X, hX⟩ : ∃ X, X = xs.getD k 0 := ⟨_, rfl⟩
      rw [← hX] at hck HX HM
      clear hX hc
      by_cases he : X = n
      · have he1 : (X == n) = true := by simpa using he
        have HD := hid (show decide (n ∈ xs) = true from decide_eq_true (by rw [← he]; exact HM.out))
        clear he
        go_wp2
        go_ret
        exact ⟨ret_bool HD.out.symm, rfl⟩
      · have he1 : (X == n) = false := by simpa using he
        have HE := hid he
        clear he
        go_wp2
        go_round
        case rel => exact ⟨k + 1, by omega, by go_num, by rw [HX.out]; intro h; rcases List.mem_append.1 h with h | h; exact HN.out h; simp only [List.mem_singleton] at h; exact HE.out h.symm⟩
        case measure => simp [intOf]; omega
    · have HD := hid (show decide (n ∈ xs) = false from decide_eq_false (fun h => HN.out (by rw [List.take_of_length_le (by omega)]; exact h)))
      go_wp2
      go_ret
      exact ⟨ret_bool HD.out.symm, rfl⟩
end Go.Proofs.YtbakicgdloakgaaGreatDoor
