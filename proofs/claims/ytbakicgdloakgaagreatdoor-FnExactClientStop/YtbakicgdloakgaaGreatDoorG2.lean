/- Rows as lists and as bits: plain mathematics. Words: kinds 1 to 3. Words: kinds 4 to 6. Rows: what is one, by the model. Sets of numbers as bits: the least one, and all of them in order. -/
import Derived.Test.YtbakicgdloakgaaGreatDoorG1
namespace Go.Proofs.YtbakicgdloakgaaGreatDoor
open Go.ChangeShapes Go.WideShapes Go.ChangeAt Go.RowKit

theorem asc_cons {lo hi x : Int} {r : List Int} : ascB lo hi (x :: r) = true ↔ (lo < x ∧ x < hi) ∧ ascB x hi r = true := by
  rw [ascB, Bool.and_eq_true, decide_eq_true_eq]
theorem asc_mem {lo hi : Int} {xs : List Int} (h : ascB lo hi xs = true) {x : Int} (hx : x ∈ xs) : lo < x ∧ x < hi := by
  induction xs generalizing lo with
  | nil => simp at hx
  | cons y r ih =>
    obtain ⟨h1, h2⟩ := asc_cons.1 h
    rcases List.mem_cons.1 hx with rfl | hx
    · exact h1
    · have := ih h2 hx
      omega
/-- Two ascending lists of the same numbers are one. -/
theorem asc_ext {lo hi : Int} {xs ys : List Int} (hx : ascB lo hi xs = true) (hy : ascB lo hi ys = true) (h : ∀ z, z ∈ xs ↔ z ∈ ys) : xs = ys := by
  induction xs generalizing lo ys with
  | nil =>
    cases ys with
    | nil => rfl
    | cons y s => exact absurd ((h y).2 (List.mem_cons_self ..)) (by simp)
  | cons x r ih =>
    cases ys with
    | nil => exact absurd ((h x).1 (List.mem_cons_self ..)) (by simp)
    | cons y s =>
      obtain ⟨h1, h2⟩ := asc_cons.1 hx
      obtain ⟨h3, h4⟩ := asc_cons.1 hy
      have e : x = y := by
        have a1 := (h x).1 (List.mem_cons_self ..)
        have a2 := (h y).2 (List.mem_cons_self ..)
        rcases List.mem_cons.1 a1 with e | a1
        · exact e
        · rcases List.mem_cons.1 a2 with e | a2
          · exact e.symm
          · have := asc_mem h2 a2
            have := asc_mem h4 a1
            omega
      subst e
      congr 1
      refine ih h2 h4 (fun z => ⟨fun hz => ?_, fun hz => ?_⟩)
      · rcases List.mem_cons.1 ((h z).1 (List.mem_cons_of_mem _ hz)) with e | hz'
        · subst e; have := asc_mem h2 hz; omega
        · exact hz'
      · rcases List.mem_cons.1 ((h z).2 (List.mem_cons_of_mem _ hz)) with e | hz'
        · subst e; have := asc_mem h4 hz; omega
        · exact hz'

/-- What is in just one of two ascending lists. -/
def xorM : List Int → List Int → List Int
  | [], b => b
  | x :: a, [] => x :: a
  | x :: a, y :: b => if x < y then x :: xorM a (y :: b) else if y < x then y :: xorM (x :: a) b else xorM a b
/-- The numbers of a set, ascending. -/
def bitsOf (r : Nat) : List Int := ((List.range 24).filter fun i => r.testBit i).map fun (i : Nat) => (i : Int)
theorem bitsOf_mem (r : Nat) (z : Int) : z ∈ bitsOf r ↔ ∃ i : Nat, z = i ∧ i < 24 ∧ r.testBit i = true := by
  unfold bitsOf
  simp only [List.mem_map, List.mem_filter, List.mem_range]
  constructor
  · rintro ⟨i, ⟨h1, h2⟩, rfl⟩; exact ⟨i, rfl, h1, h2⟩
  · rintro ⟨i, rfl, h1, h2⟩; exact ⟨i, ⟨h1, h2⟩, rfl⟩
theorem asc_filter (f : Nat → Bool) (n k : Nat) (lo : Int) (h : lo < k) : ascB lo ((k + n : Nat) : Int) (((List.range' k n).filter f).map fun (i : Nat) => (i : Int)) = true := by
  induction n generalizing k lo with
  | zero => rfl
  | succ n ih =>
    rw [List.range'_succ, List.filter_cons]
    split
    · rw [List.map_cons, asc_cons]
      exact ⟨⟨h, by omega⟩, by have := ih (k + 1) k (by omega); rw [show k + 1 + n = k + (n + 1) by omega] at this; exact this⟩
    · have := ih (k + 1) lo (by omega)
      rw [show k + 1 + n = k + (n + 1) by omega] at this
      exact this
theorem bitsOf_asc (r : Nat) : ascB (-1) 24 (bitsOf r) = true := by
  have := asc_filter (fun i => r.testBit i) 24 0 (-1) (by omega)
  rw [← List.range_eq_range'] at this
  exact this

theorem foldl_bits (xs : List Int) (s : Nat) (i : Nat) : (xs.foldl (fun s x => s ||| 2 ^ x.toNat) s).testBit i = (s.testBit i || xs.any fun x => x.toNat == i) := by
  induction xs generalizing s with
  | nil => simp
  | cons x r ih =>
    rw [List.foldl_cons, ih, Nat.testBit_or, Nat.testBit_two_pow, List.any_cons, Bool.or_assoc]
    congr 2
theorem setI_bit (xs : List Int) (i : Nat) : (setI xs).testBit i = xs.any fun x => x.toNat == i := by
  unfold setI
  rw [foldl_bits]
  simp
theorem setI_mem {xs : List Int} {hi : Int} (h : ascB (-1) hi xs = true) (i : Nat) : (setI xs).testBit i = true ↔ (i : Int) ∈ xs := by
  rw [setI_bit, List.any_eq_true]
  constructor
  · rintro ⟨x, hx, he⟩
    have := asc_mem h hx
    have e : x = (i : Int) := by have := beq_iff_eq.1 he; omega
    rw [← e]; exact hx
  · intro hx
    exact ⟨_, hx, by simp⟩
/-- A row is the numbers of its bits. -/
theorem bits_set {xs : List Int} (h : ascB (-1) 24 xs = true) : bitsOf (setI xs) = xs := by
  refine asc_ext (bitsOf_asc _) h (fun z => ?_)
  rw [bitsOf_mem]
  constructor
  · rintro ⟨i, rfl, _, hb⟩; exact (setI_mem h i).1 hb
  · intro hz
    have := asc_mem h hz
    obtain ⟨i, rfl⟩ := Int.eq_ofNat_of_zero_le (show 0 ≤ z by omega)
    exact ⟨i, rfl, by omega, (setI_mem h i).2 hz⟩
end Go.Proofs.YtbakicgdloakgaaGreatDoor
namespace Go.Proofs.YtbakicgdloakgaaGreatDoor
open Go.ChangeShapes Go.WideShapes Go.ChangeAt Go.RowKit Go.Sort


theorem kindWord_1 (e : Int) (name : ByteArray) (w : World) :
    Calls Tryz.prog 152 #[.agg #[.int .i64 e, .string name]] w fun r w' => r = .returned (.agg #[.int .i64 1, .int .i64 0, .int .i64 0, .int .i64 e, .int .i64 0, .string name, .string ⟨#[]⟩]) ∧ Below w.heap.size w w' := by
  go_enter Tryz.func152, Tryz.ntmps152
  go_wp2
  exact bodyPost_ret (v := .agg #[.int .i64 1, .int .i64 0, .int .i64 0, .int .i64 e, .int .i64 0, .string name, .string ⟨#[]⟩]) (by simp [results, Tryz.results152, go_sem]) rfl ⟨rfl, below_catW (below_allocW _ _) (below_allocW _ _)⟩
set_option maxHeartbeats 2000000 in
theorem kindFrom_1 (c t : Int) (e : Int) (name : ByteArray) (w : World) :
    Calls Tryz.prog 65 #[.iface 97 (.agg #[.int .i64 e, .string name]), .int .i64 c, .int .i64 t] w fun r w' => r = .returned (.agg #[.int .i64 1, .int .i64 c, .int .i64 t, .int .i64 e, .int .i64 0, .string name, .string ⟨#[]⟩]) ∧ Below w.heap.size w w' := by
  have hm : ∀ w : World, (method 269 97 (.agg #[.int .i64 e, .string name]) "loop.example/wellhead/impl.word").run Tryz.prog w = .ok (152, .agg #[.int .i64 e, .string name]) w := fun _ => by kernel_rfl
  go_enter Tryz.func65, Tryz.ntmps65
  go_wp2_with fail
  refine (kindWord_1 e name _).mono ?_
  rintro r w1 ⟨rfl, b1⟩
  have R1 := hid (kept (laid w #[.int .i64 0, .int .i64 0, .int .i64 0, .int .i64 0, .int .i64 0, .string ⟨#[]⟩, .string ⟨#[]⟩] 64) b1)
  have B1 := hid (below_catW (below_allocW _ _) b1)
  have hl : w.heap.size < w1.heap.size := lt_of_block R1.out
  clear b1 hm
  have r0 := box_cell R1.out 0 (v := .int .i64 0) rfl
  have r1 := box_cell R1.out 1 (v := .int .i64 0) rfl
  have r2 := box_cell R1.out 2 (v := .int .i64 0) rfl
  have r3 := box_cell R1.out 3 (v := .int .i64 0) rfl
  have r4 := box_cell R1.out 4 (v := .int .i64 0) rfl
  have r5 := box_cell R1.out 5 (v := .string ⟨#[]⟩) rfl
  have r6 := box_cell R1.out 6 (v := .string ⟨#[]⟩) rfl
  have f0 := box_frozen R1.out 0
  have f1 := box_frozen R1.out 1
  have f2 := box_frozen R1.out 2
  have f3 := box_frozen R1.out 3
  have f4 := box_frozen R1.out 4
  have f5 := box_frozen R1.out 5
  have f6 := box_frozen R1.out 6
  go_wp2_with fail
  have rr := kept (set_block (set_block (set_block (set_block (set_block (set_block (set_block (R1.out) 0 (.int .i64 1)) 1 (.int .i64 c)) 2 (.int .i64 t)) 3 (.int .i64 e)) 4 (.int .i64 0)) 5 (.string name)) 6 (.string ⟨#[]⟩)) (below_allocW _ (.cells #[.int .i64 1, .int .i64 c, .int .i64 t, .int .i64 e, .int .i64 0, .string name, .string ⟨#[]⟩] 64))
  have q0 := box_cell rr 0 (v := .int .i64 1) rfl
  have q1 := box_cell rr 1 (v := .int .i64 c) rfl
  have q2 := box_cell rr 2 (v := .int .i64 t) rfl
  have q3 := box_cell rr 3 (v := .int .i64 e) rfl
  have q4 := box_cell rr 4 (v := .int .i64 0) rfl
  have q5 := box_cell rr 5 (v := .string name) rfl
  have q6 := box_cell rr 6 (v := .string ⟨#[]⟩) rfl
  have bF := below_catW (Below.setCell (Below.setCell (Below.setCell (Below.setCell (Below.setCell (Below.setCell (Below.setCell (B1.out) (p := ⟨w.heap.size, 0, none⟩) (by simp) (.int .i64 1)) (p := ⟨w.heap.size, 1, none⟩) (by simp) (.int .i64 c)) (p := ⟨w.heap.size, 2, none⟩) (by simp) (.int .i64 t)) (p := ⟨w.heap.size, 3, none⟩) (by simp) (.int .i64 e)) (p := ⟨w.heap.size, 4, none⟩) (by simp) (.int .i64 0)) (p := ⟨w.heap.size, 5, none⟩) (by simp) (.string name)) (p := ⟨w.heap.size, 6, none⟩) (by simp) (.string ⟨#[]⟩)) (below_allocW _ (.cells #[.int .i64 1, .int .i64 c, .int .i64 t, .int .i64 e, .int .i64 0, .string name, .string ⟨#[]⟩] 64))
  refine bodyPost_ret (v := .agg #[.int .i64 1, .int .i64 c, .int .i64 t, .int .i64 e, .int .i64 0, .string name, .string ⟨#[]⟩]) ?_ rfl ⟨rfl, bF⟩
  unfold results; rw [Tryz.results65]; simp [go_sem, q0, q1, q2, q3, q4, q5, q6]

end Go.Proofs.YtbakicgdloakgaaGreatDoor
namespace Go.Proofs.YtbakicgdloakgaaGreatDoor
open Go.ChangeShapes Go.WideShapes Go.ChangeAt Go.RowKit Go.Sort


theorem kindWord_5 (e : Int) (n : Int) (w : World) :
    Calls Tryz.prog 139 #[.agg #[.int .i64 e, .int .i64 n]] w fun r w' => r = .returned (.agg #[.int .i64 5, .int .i64 0, .int .i64 0, .int .i64 e, .int .i64 n, .string ⟨#[]⟩, .string ⟨#[]⟩]) ∧ Below w.heap.size w w' := by
  go_enter Tryz.func139, Tryz.ntmps139
  go_wp2
  exact bodyPost_ret (v := .agg #[.int .i64 5, .int .i64 0, .int .i64 0, .int .i64 e, .int .i64 n, .string ⟨#[]⟩, .string ⟨#[]⟩]) (by simp [results, Tryz.results139, go_sem]) rfl ⟨rfl, below_catW (below_allocW _ _) (below_allocW _ _)⟩
set_option maxHeartbeats 2000000 in
theorem kindFrom_5 (c t : Int) (e : Int) (n : Int) (w : World) :
    Calls Tryz.prog 65 #[.iface 92 (.agg #[.int .i64 e, .int .i64 n]), .int .i64 c, .int .i64 t] w fun r w' => r = .returned (.agg #[.int .i64 5, .int .i64 c, .int .i64 t, .int .i64 e, .int .i64 n, .string ⟨#[]⟩, .string ⟨#[]⟩]) ∧ Below w.heap.size w w' := by
  have hm : ∀ w : World, (method 269 92 (.agg #[.int .i64 e, .int .i64 n]) "loop.example/wellhead/impl.word").run Tryz.prog w = .ok (139, .agg #[.int .i64 e, .int .i64 n]) w := fun _ => by kernel_rfl
  go_enter Tryz.func65, Tryz.ntmps65
  go_wp2_with fail
  refine (kindWord_5 e n _).mono ?_
  rintro r w1 ⟨rfl, b1⟩
  have R1 := hid (kept (laid w #[.int .i64 0, .int .i64 0, .int .i64 0, .int .i64 0, .int .i64 0, .string ⟨#[]⟩, .string ⟨#[]⟩] 64) b1)
  have B1 := hid (below_catW (below_allocW _ _) b1)
  have hl : w.heap.size < w1.heap.size := lt_of_block R1.out
  clear b1 hm
  have r0 := box_cell R1.out 0 (v := .int .i64 0) rfl
  have r1 := box_cell R1.out 1 (v := .int .i64 0) rfl
  have r2 := box_cell R1.out 2 (v := .int .i64 0) rfl
  have r3 := box_cell R1.out 3 (v := .int .i64 0) rfl
  have r4 := box_cell R1.out 4 (v := .int .i64 0) rfl
  have r5 := box_cell R1.out 5 (v := .string ⟨#[]⟩) rfl
  have r6 := box_cell R1.out 6 (v := .string ⟨#[]⟩) rfl
  have f0 := box_frozen R1.out 0
  have f1 := box_frozen R1.out 1
  have f2 := box_frozen R1.out 2
  have f3 := box_frozen R1.out 3
  have f4 := box_frozen R1.out 4
  have f5 := box_frozen R1.out 5
  have f6 := box_frozen R1.out 6
  go_wp2_with fail
  have rr := kept (set_block (set_block (set_block (set_block (set_block (set_block (set_block (R1.out) 0 (.int .i64 5)) 1 (.int .i64 c)) 2 (.int .i64 t)) 3 (.int .i64 e)) 4 (.int .i64 n)) 5 (.string ⟨#[]⟩)) 6 (.string ⟨#[]⟩)) (below_allocW _ (.cells #[.int .i64 5, .int .i64 c, .int .i64 t, .int .i64 e, .int .i64 n, .string ⟨#[]⟩, .string ⟨#[]⟩] 64))
  have q0 := box_cell rr 0 (v := .int .i64 5) rfl
  have q1 := box_cell rr 1 (v := .int .i64 c) rfl
  have q2 := box_cell rr 2 (v := .int .i64 t) rfl
  have q3 := box_cell rr 3 (v := .int .i64 e) rfl
  have q4 := box_cell rr 4 (v := .int .i64 n) rfl
  have q5 := box_cell rr 5 (v := .string ⟨#[]⟩) rfl
  have q6 := box_cell rr 6 (v := .string ⟨#[]⟩) rfl
  have bF := below_catW (Below.setCell (Below.setCell (Below.setCell (Below.setCell (Below.setCell (Below.setCell (Below.setCell (B1.out) (p := ⟨w.heap.size, 0, none⟩) (by simp) (.int .i64 5)) (p := ⟨w.heap.size, 1, none⟩) (by simp) (.int .i64 c)) (p := ⟨w.heap.size, 2, none⟩) (by simp) (.int .i64 t)) (p := ⟨w.heap.size, 3, none⟩) (by simp) (.int .i64 e)) (p := ⟨w.heap.size, 4, none⟩) (by simp) (.int .i64 n)) (p := ⟨w.heap.size, 5, none⟩) (by simp) (.string ⟨#[]⟩)) (p := ⟨w.heap.size, 6, none⟩) (by simp) (.string ⟨#[]⟩)) (below_allocW _ (.cells #[.int .i64 5, .int .i64 c, .int .i64 t, .int .i64 e, .int .i64 n, .string ⟨#[]⟩, .string ⟨#[]⟩] 64))
  refine bodyPost_ret (v := .agg #[.int .i64 5, .int .i64 c, .int .i64 t, .int .i64 e, .int .i64 n, .string ⟨#[]⟩, .string ⟨#[]⟩]) ?_ rfl ⟨rfl, bF⟩
  unfold results; rw [Tryz.results65]; simp [go_sem, q0, q1, q2, q3, q4, q5, q6]

end Go.Proofs.YtbakicgdloakgaaGreatDoor
namespace Go.Proofs.YtbakicgdloakgaaGreatDoor
open Go.ChangeShapes Go.WideShapes Go.ChangeAt Go.RowKit

set_option maxRecDepth 100000 in
set_option maxHeartbeats 1000000 in
theorem specRowOk_in (a : Option Addr) (cap : Nat) (xs : List Int) (c : Int) (w : World) (ha : IntsAt w a xs) (hx : xs.length ≤ 1152921504606846976) (c1 : 0 ≤ c) (c2 : c ≤ 24) :
    Calls Tryz.prog 86 #[.slice a xs.length cap, .int .i64 c] w fun e w' => e = .returned (.bool (ascB (-1) c xs)) ∧ Dr w w' := by
  go_enter Tryz.func86, Tryz.ntmps86
  go_wp2
  go_loopw [5] (fun i wr => ∃ k : Nat, k ≤ xs.length ∧ i = .int .i64 k ∧ -1 ≤ prevI xs k ∧ ascB (-1) c xs = ascB (prevI xs k) c (xs.drop k) ∧ Dr w wr) (fun i _ => xs.length - (intOf i).toNat)
  case atStart => exact ⟨0, Nat.zero_le _, rfl, by simp [prevI], rfl, Dr.refl _⟩
  case round =>
    obtain ⟨k, hk, rfl, hp, he, hdr⟩ := hrel
    by_cases hlt : k < xs.length
    · obtain ⟨b, off, rfl, hc⟩ := ha (by intro h; simp [h] at hlt)
      have hck := (hdr.cell _).trans (hc k hlt)
      have e1 := asc_step xs k c hlt
      have e3 := prevI_succ xs k
      have e4 : 0 < k → prevI xs k = xs.getD (k - 1) 0 := fun h => by unfold prevI; rw [if_neg (by omega)]
      have hcp : 0 < k → wr.cell? ⟨b, off + (k - 1), none⟩ = some (.int .i64 (prevI xs k)) := fun h => by rw [e4 h, hdr.cell]; exact hc (k - 1) (by omega)
      have e5 : k = 0 → prevI xs k = -1 := fun h => by simp [prevI, h]
      obtain ⟨X, hX⟩ : ∃ X, X = xs.getD k 0 := ⟨_, rfl⟩
      obtain ⟨L, hL⟩ : ∃ L, L = prevI xs k := ⟨_, rfl⟩
      rw [← hX] at hck e1 e3
      rw [← hL] at e1 hp he hcp e5
      have H1 : Hid _ := e1
      have H3 : Hid _ := e3
      have HE : Hid _ := he
      clear e1 e3 he hX hL hc e4
      by_cases h1 : 0 ≤ X ∧ X ≤ c - 1
      · rcases Nat.eq_zero_or_pos k with h0 | h0
        · have hL := e5 h0
          subst h0
          subst hL
          rw [Nat.add_zero] at hck
          clear hcp e5
          go_wp2
          go_quiet ((go_at_call 46; exact Calls.quiet_of_same (l1In_yes _ _ _ _ (by omega))))
          go_wp2
          go_roundw
          case rel => exact ⟨1, by omega, by go_num, by rw [H3.out]; omega, by rw [HE.out, H1.out, H3.out, decide_eq_true (by omega)]; rfl, hdr.step nq⟩
          case measure => simp [intOf]; omega
        · have hcp' := hcp h0
          clear hcp e5
          by_cases hle : X ≤ L
          · have hle' : decide (X ≤ L) = true := by simp; omega
            go_wp2
            go_quiet ((go_at_call 46; exact Calls.quiet_of_same (l1In_yes _ _ _ _ (by omega))))
            go_wp2
            go_ret
            exact ⟨ret_bool (by rw [HE.out, H1.out, decide_eq_false (by omega)]; rfl), hdr.step nq⟩
          · have hle' : decide (X ≤ L) = false := by simp; omega
            go_wp2
            go_quiet ((go_at_call 46; exact Calls.quiet_of_same (l1In_yes _ _ _ _ (by omega))))
            go_wp2
            go_roundw
            case rel => exact ⟨k + 1, by omega, by go_num, by rw [H3.out]; omega, by rw [HE.out, H1.out, H3.out, decide_eq_true (by omega)]; rfl, hdr.step nq⟩
            case measure => simp [intOf]; omega
      · clear hcp e5
        go_wp2
        go_quiet ((go_at_call 46; exact Calls.quiet_of_same (l1In_no _ _ _ _ (by omega))))
        go_wp2
        go_ret
        exact ⟨ret_bool (by rw [HE.out, H1.out, decide_eq_false (by omega)]; rfl), hdr.step nq⟩
    · obtain rfl : k = xs.length := by omega
      have h1 : ascB (-1) c xs = true := by rw [he, List.drop_length]; rfl
      have H1 : Hid _ := h1
      clear h1 he
      go_wp2_with (go_at_call 46; refine (l1In_yes _ _ _ _ (by omega)).mono ?_; rintro e w' ⟨rfl, rfl⟩)
      go_ret
      exact ⟨ret_bool H1.out.symm, hdr⟩

end Go.Proofs.YtbakicgdloakgaaGreatDoor
namespace Go.Proofs.YtbakicgdloakgaaGreatDoor
open Go.ChangeShapes Go.WideShapes Go.ChangeAt Go.RowKit

theorem low_and (t : Nat) : ∀ (n m : Nat), 2 ^ t * (2 * m + 1) < 2 ^ n → (2 ^ t * (2 * m + 1)) &&& (2 ^ n - 2 ^ t * (2 * m + 1)) = 2 ^ t := by
  induction t with
  | zero =>
    intro n m h
    simp only [Nat.pow_zero, Nat.one_mul] at h ⊢
    apply Nat.eq_of_testBit_eq
    intro i
    rw [Nat.testBit_and, Nat.testBit_two_pow_sub_succ (by omega)]
    cases i with
    | zero =>
      have hn : 0 < n := by
        rcases Nat.eq_zero_or_pos n with e | e
        · subst e; simp at h
        · exact e
      simp [Nat.testBit_zero, hn]
    | succ i =>
      rw [Nat.testBit_succ, Nat.testBit_succ, Nat.testBit_succ]
      rw [show (2 * m + 1) / 2 = m by omega, show (2 * m) / 2 = m by omega]
      cases m.testBit i <;> simp
  | succ t ih =>
    intro n m h
    cases n with
    | zero =>
      have : 0 < 2 ^ (t + 1) * (2 * m + 1) := Nat.mul_pos (Nat.pow_pos (by omega)) (by omega)
      simp at h
      omega
    | succ n =>
      have e : 2 ^ (t + 1) * (2 * m + 1) = 2 * (2 ^ t * (2 * m + 1)) := by rw [Nat.pow_succ, Nat.mul_comm (2 ^ t) 2, Nat.mul_assoc]
      have e2 : 2 ^ (n + 1) = 2 * 2 ^ n := by rw [Nat.pow_succ, Nat.mul_comm]
      rw [e, e2] at h ⊢
      have ih' := ih n m (by omega)
      generalize 2 ^ t * (2 * m + 1) = X at h ih' ⊢
      rw [← Nat.mul_sub, Nat.pow_succ, Nat.mul_comm (2 ^ t) 2, ← ih']
      generalize 2 ^ n - X = Y
      apply Nat.eq_of_testBit_eq
      intro i
      rw [Nat.testBit_and]
      cases i with
      | zero => simp
      | succ i => rw [Nat.testBit_succ, Nat.testBit_succ, Nat.testBit_succ, Nat.mul_div_cancel_left _ (by omega), Nat.mul_div_cancel_left _ (by omega), Nat.mul_div_cancel_left _ (by omega), Nat.testBit_and]
/-- The table by which the place of a bit is found. -/
def tabL : List Int := [0, 1, 28, 2, 29, 14, 24, 3, 30, 22, 20, 15, 25, 17, 4, 8, 31, 27, 13, 23, 21, 19, 16, 7, 26, 12, 18, 6, 11, 5, 10, 9]
def Tab (w : World) : Prop := ∀ i, i < 32 → w.cell? ⟨0, i, none⟩ = some (.int .u8 (tabL.getD i 0))
theorem Tab.below {w w' : World} (h : Tab w) (hb : Below w.heap.size w w') : Tab w' := fun i hi => by
  rw [hb.cell (p := ⟨0, i, none⟩) (block_lt_of_cell (h i hi))]; exact h i hi
theorem tab_at : ∀ t : Nat, t < 24 → (2 ^ t * 125613361 % 4294967296 / 134217728) < 32 ∧ tabL.getD (2 ^ t * 125613361 % 4294967296 / 134217728) 0 = (t : Int) := by decide
theorem low_ex (n : Nat) : ∀ x : Nat, x ≤ n → 0 < x → ∃ t m, x = 2 ^ t * (2 * m + 1) := by
  induction n with
  | zero => intro x h1 h2; omega
  | succ n ih =>
    intro x h1 h2
    rcases (show x % 2 = 1 ∨ x % 2 = 0 from by omega) with h | h
    · exact ⟨0, x / 2, by rw [Nat.pow_zero, Nat.one_mul]; omega⟩
    · obtain ⟨t, m, e⟩ := ih (x / 2) (by omega) (by omega)
      refine ⟨t + 1, m, ?_⟩
      rw [Nat.pow_succ, Nat.mul_comm (2 ^ t) 2, Nat.mul_assoc, ← e]
      omega
theorem low_lt {t m : Nat} (h : 2 ^ t * (2 * m + 1) < 16777216) : t < 24 := by
  rcases Nat.lt_or_ge t 24 with h' | h'
  · exact h'
  · have h1 : 2 ^ 24 ≤ 2 ^ t := Nat.pow_le_pow_right (by omega) h'
    have h2 : 2 ^ t * 1 ≤ 2 ^ t * (2 * m + 1) := Nat.mul_le_mul_left _ (by omega)
    omega
theorem low_bits (t m i : Nat) : (2 ^ t * (2 * m + 1)).testBit i = (decide (t ≤ i) && (2 * m + 1).testBit (i - t)) := by
  rw [Nat.mul_comm, Nat.testBit_mul_two_pow]
theorem low_at (t m : Nat) : (2 ^ t * (2 * m + 1)).testBit t = true := by rw [low_bits]; simp
theorem low_under {t m i : Nat} (h : i < t) : (2 ^ t * (2 * m + 1)).testBit i = false := by
  rw [low_bits, decide_eq_false (by omega), Bool.false_and]
theorem idx_eq (t m : Nat) (h : 2 ^ t * (2 * m + 1) < 16777216) :
    (bits .and .u32 ((2 ^ t * (2 * m + 1) : Nat) : Int) (-((2 ^ t * (2 * m + 1) : Nat) : Int) % 4294967296) * 125613361 % 4294967296 / 134217728).toNat = 2 ^ t * 125613361 % 4294967296 / 134217728 := by
  have hl := low_and t 32 m (by omega)
  have hp : 0 < 2 ^ t * (2 * m + 1) := Nat.mul_pos (Nat.pow_pos (by omega)) (by omega)
  generalize 2 ^ t * (2 * m + 1) = x at h hl hp ⊢
  have e : (-(x : Int) % 4294967296) = ((2 ^ 32 - x : Nat) : Int) := by omega
  rw [e, u32_and_nat x (2 ^ 32 - x) (by omega) (by omega), hl]
  generalize 2 ^ t = P
  have e3 : ((P : Int) * 125613361 % 4294967296 / 134217728) = ((P * 125613361 % 4294967296 / 134217728 : Nat) : Int) := by simp
  rw [e3, Int.toNat_natCast]
set_option maxRecDepth 100000 in
theorem tz_any (t m : Nat) (w : World) (hT : Tab w) (hx : 2 ^ t * (2 * m + 1) < 16777216) :
    Calls Tryz.prog 111 #[.int .u32 ((2 ^ t * (2 * m + 1) : Nat) : Int)] w fun e w' => e = .returned (.int .i64 t) ∧ w' = w := by
  have h24 := low_lt hx
  have hi := idx_eq t m hx
  have ht := tab_at t h24
  have hc := hT _ ht.1
  rw [ht.2, ← hi] at hc
  have hp : 0 < 2 ^ t * (2 * m + 1) := Nat.mul_pos (Nat.pow_pos (by omega)) (by omega)
  clear hi ht hT
  generalize 2 ^ t * (2 * m + 1) = x at hx hc hp ⊢
  have hne : ((x : Int) == 0) = false := by simp; omega
  go_enter Tryz.func111, Tryz.ntmps111
  go_wp2
  go_ret
  exact ⟨rfl, rfl⟩
set_option maxRecDepth 100000 in
theorem first_any (t m : Nat) (w : World) (hT : Tab w) (hx : 2 ^ t * (2 * m + 1) < 16777216) :
    Calls Tryz.prog 107 #[.int .u32 ((2 ^ t * (2 * m + 1) : Nat) : Int)] w fun e w' => e = .returned (.int .i64 t) ∧ w' = w := by
  go_enter Tryz.func107, Tryz.ntmps107
  go_wp2_with (go_at_call 111; refine (tz_any t m _ hT hx).mono ?_; rintro e w' ⟨rfl, hq⟩; replace hq := hq.symm; subst hq)
  go_ret
  exact ⟨rfl, rfl⟩
/-- A set without one number. -/
def outB (r t : Nat) : Nat := r &&& (4294967295 - 2 ^ t)
theorem outB_bit (r t i : Nat) (ht : t < 32) (hr : r < 4294967296) : (outB r t).testBit i = (r.testBit i && !(t == i)) := by
  unfold outB
  have h1 : 2 ^ t < 2 ^ 32 := Nat.pow_lt_pow_right (by omega) ht
  rw [Nat.testBit_and, show 4294967295 - 2 ^ t = 2 ^ 32 - (2 ^ t + 1) by omega, Nat.testBit_two_pow_sub_succ h1, Nat.testBit_two_pow]
  by_cases hi : i < 32
  · simp [hi]
    rfl
  · have : r.testBit i = false := Nat.testBit_lt_two_pow (Nat.lt_of_lt_of_le hr (Nat.pow_le_pow_right (n := 2) (i := 32) (by omega) (by omega)))
    simp [this]
theorem outB_lt {r t : Nat} (h : r.testBit t = true) (ht : t < 32) (hr : r < 4294967296) : outB r t < r := by
  have h1 : outB r t ≤ r := Nat.and_le_left
  rcases Nat.lt_or_ge (outB r t) r with h2 | h2
  · exact h2
  · have e : outB r t = r := by omega
    have := outB_bit r t t ht hr
    rw [e, h] at this
    simp at this
theorem andNot_pow (s n : Nat) (hs : s < 4294967296) (hn : n < 24) : bits .andNot .u32 (s : Int) (2 ^ n % 4294967296) = ((outB s n : Nat) : Int) := by
  have h1 : 2 ^ n < 2 ^ 24 := Nat.pow_lt_pow_right (by omega) hn
  have h2 : ((2 : Int) ^ n % 4294967296) = ((2 ^ n : Nat) : Int) := by
    have : ((2 : Int) ^ n) = ((2 ^ n : Nat) : Int) := by simp
    rw [this]
    generalize 2 ^ n = P at h1
    omega
  rw [h2]
  exact u32_andNot_nat s (2 ^ n) hs (by omega)
theorem range_snoc (R j t : Nat) (hj : j ≤ t) (h1 : ∀ i, j ≤ i → i < t → R.testBit i = false) (h2 : R.testBit t = true) :
    (List.range (t + 1)).filter (fun i => R.testBit i) = (List.range j).filter (fun i => R.testBit i) ++ [t] := by
  rw [List.range_succ, List.filter_append]
  congr 1
  · clear h2
    induction t with
    | zero => obtain rfl : j = 0 := by omega
              rfl
    | succ t ih =>
      rcases Nat.eq_or_lt_of_le hj with e | e
      · rw [e]
      · rw [List.range_succ, List.filter_append, ih (by omega) (fun i a b => h1 i a (by omega))]
        simp [h1 t (by omega) (by omega)]
  · simp [h2]
theorem range_end (R j : Nat) (hj : j ≤ 24) (h1 : ∀ i, j ≤ i → i < 24 → R.testBit i = false) : (List.range 24).filter (fun i => R.testBit i) = (List.range j).filter (fun i => R.testBit i) := by
  have h : ∀ n, j ≤ n → n ≤ 24 → (List.range n).filter (fun i => R.testBit i) = (List.range j).filter (fun i => R.testBit i) := by
    intro n
    induction n with
    | zero => intro a _; obtain rfl : j = 0 := by omega
              rfl
    | succ n ih =>
      intro a b
      rcases Nat.eq_or_lt_of_le a with e | e
      · rw [e]
      · rw [List.range_succ, List.filter_append, ih (by omega) (by omega)]
        simp [h1 n (by omega) (by omega)]
  exact h 24 hj (Nat.le_refl _)
/-- The numbers of a set below j. -/
def bitsTo (R j : Nat) : List Int := ((List.range j).filter fun i => R.testBit i).map fun (i : Nat) => (i : Int)
theorem bitsTo_len (R j : Nat) : (bitsTo R j).length ≤ j := by
  unfold bitsTo
  rw [List.length_map]
  exact Nat.le_trans (List.length_filter_le _ _) (by rw [List.length_range]; exact Nat.le_refl _)
end Go.Proofs.YtbakicgdloakgaaGreatDoor
