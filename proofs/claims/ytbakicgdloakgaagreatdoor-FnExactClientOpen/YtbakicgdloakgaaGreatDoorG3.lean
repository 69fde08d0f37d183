/- How many numbers are in a set. Sets of numbers as bits: the least one, and all of them in order. Rows by their first numbers, and what the program asks of its sets of bits. What is in just one of two rows: the model's and the program's. A region that draws its order: reads of what stays as it is, then what lays memory, then stores: walked once. Arguments that came in, read as data: numbers, texts, structs, slices of whatever. Plans: what is ok, by the model and by the program. -/
import Derived.Test.YtbakicgdloakgaaGreatDoorG2
import Derived.Test.YtbakicgdloakgaaGreatDoorG1
import Derived.OrdersHeld
import Derived.Test.YtbakicgdloakgaaGreatDoorG0
import Derived.Deep.Slices
import Derived.SliceStrings
import Derived.Deep.RegionHeld3
import Derived.Deep.DrawnRows
namespace Go.Proofs.YtbakicgdloakgaaGreatDoor
open Go.ChangeShapes Go.WideShapes Go.ChangeAt Go.RowKit

/-- How many bits a byte has. -/
def pc8 (i : Nat) : Nat := ((List.range 8).filter fun j => i.testBit j).length
def popL : List Nat := (List.range 256).map pc8
theorem pop_at (T : ByteArray) (i : Nat) (h : i < T.size) (hT : T.data.toList.map (fun c => c.toNat) = popL) : (T[i]'h).toNat = pc8 i := by
  have hs : i < T.data.toList.length := by rw [Array.length_toList]; exact h
  have h1 : (T.data.toList.map (fun c => c.toNat))[i]? = some ((T[i]'h).toNat) := by
    rw [List.getElem?_map, List.getElem?_eq_getElem hs]
    rfl
  have hl : i < 256 := by
    have := congrArg List.length hT
    rw [List.length_map] at this
    have e : popL.length = 256 := by unfold popL; rw [List.length_map, List.length_range]
    omega
  rw [hT] at h1
  unfold popL at h1
  rw [List.getElem?_map, List.getElem?_range hl] at h1
  exact (Option.some.inj h1).symm
theorem pc8_le (i : Nat) : pc8 i ≤ 8 := Nat.le_trans (List.length_filter_le _ _) (by rw [List.length_range]; exact Nat.le_refl _)
theorem filter_shift (x n k : Nat) : ((List.range' k n).filter fun j => x.testBit j).length = ((List.range n).filter fun j => (x / 2 ^ k).testBit j).length := by
  rw [List.range'_eq_map_range, List.filter_map, List.length_map]
  congr 1
  apply List.filter_congr
  intro j _
  simp only [Function.comp]
  rw [Nat.testBit_div_two_pow, Nat.add_comm]
theorem pc8_mod (x : Nat) : pc8 (x % 256) = pc8 x := by
  unfold pc8
  congr 1
  apply List.filter_congr
  intro j hj
  rw [show 256 = 2 ^ 8 from rfl, Nat.testBit_mod_two_pow, decide_eq_true (List.mem_range.1 hj), Bool.true_and]
theorem bits_len (x : Nat) : (bitsOf x).length = pc8 x + pc8 (x / 256) + pc8 (x / 65536) := by
  unfold bitsOf
  rw [List.length_map, show List.range 24 = List.range' 0 8 ++ List.range' 8 8 ++ List.range' 16 8 from by decide, List.filter_append, List.filter_append, List.length_append, List.length_append, filter_shift, filter_shift, filter_shift, Nat.pow_zero, Nat.div_one]
  rfl

set_option maxRecDepth 100000 in
set_option maxHeartbeats 1000000 in
theorem ones_any (x : Nat) (w : World) (hx : x < 16777216) :
    Calls Tryz.prog 138 #[.int .u32 x] w fun e w' => e = .returned (.int .i64 ((bitsOf x).length : Int)) ∧ Dr w w' := by
  have z1 : (x : Int) / 16777216 = 0 := by omega
  have am : ∀ y : Nat, y < 4294967296 → bits .and .u32 (y : Int) 255 = ((y % 256 : Nat) : Int) := fun y hy => by
    have := u32_and_nat y 255 hy (by omega)
    rw [show y &&& 255 = y % 2 ^ 8 from Nat.and_two_pow_sub_one_eq_mod y 8] at this
    exact this
  obtain ⟨i1, e1⟩ : ∃ i, i = x / 65536 % 256 := ⟨_, rfl⟩
  obtain ⟨i2, e2⟩ : ∃ i, i = x / 256 % 256 := ⟨_, rfl⟩
  obtain ⟨i3, e3⟩ : ∃ i, i = x % 256 := ⟨_, rfl⟩
  have a1 : bits .and .u32 ((x : Int) / 65536) 255 = (i1 : Int) := by rw [e1, ← am _ (by omega)]; rfl
  have a2 : bits .and .u32 ((x : Int) / 256) 255 = (i2 : Int) := by rw [e2, ← am _ (by omega)]; rfl
  have a3 : bits .and .u32 (x : Int) 255 = (i3 : Int) := by rw [e3, ← am _ (by omega)]
  have h1 : (i1 : Int) < 256 := by omega
  have h2 : (i2 : Int) < 256 := by omega
  have h3 : (i3 : Int) < 256 := by omega
  have hfin : (bitsOf x).length = pc8 0 + pc8 i1 + pc8 i2 + pc8 i3 := by
    rw [bits_len, e1, e2, e3, pc8_mod, pc8_mod, pc8_mod, show pc8 0 = 0 from by decide]; omega
  have hb0 := pc8_le 0
  have hb1 := pc8_le i1
  have hb2 := pc8_le i2
  have hb3 := pc8_le i3
  have HF := hid hfin
  have HB := hid (And.intro hb0 (And.intro hb1 (And.intro hb2 hb3)))
  clear e1 e2 e3 am hfin hb0 hb1 hb2 hb3
  go_enter Tryz.func138, Tryz.ntmps138
  go_wp2
  refine wp_region_quiet_lit (by kernel_rfl) (by kernel_rfl) ?_
  repeat (first | go_big_quiet_step (fail) | quiet_step (fail))
  refine wpQuiet_nil ?_
  intro _ hw'
  obtain ⟨nq, hw''⟩ := hw'
  subst hw''
  go_wp2
  go_ret
  refine ⟨ret_int ?_, ⟨nq, rfl⟩⟩
  rw [pop_at _ 0, pop_at _ i1, pop_at _ i2, pop_at _ i3]
  · have e1 := HF.out
    have e2 := HB.out
    omega
  all_goals kernel_rfl
end Go.Proofs.YtbakicgdloakgaaGreatDoor
namespace Go.Proofs.YtbakicgdloakgaaGreatDoor
open Go.ChangeShapes Go.WideShapes Go.ChangeAt Go.RowKit

set_option maxRecDepth 100000 in
theorem without_any (s n : Nat) (w : World) (hs : s < 4294967296) (hn : n < 24) :
    Calls Tryz.prog 110 #[.int .u32 s, .int .i64 n] w fun e w' => e = .returned (.int .u32 (outB s n : Nat)) ∧ w' = w := by
  go_enter Tryz.func110, Tryz.ntmps110
  go_wp2
  go_ret
  exact ⟨ret_int (andNot_pow s n hs hn), rfl⟩
set_option maxRecDepth 100000 in
set_option maxHeartbeats 1000000 in
theorem numbers_any (R : Nat) (w : World) (hR : R < 16777216) (hT : Tab w) :
    Calls Tryz.prog 104 #[.int .u32 R] w fun e w' => ∃ v, e = .returned v ∧ w'.ownsRow w.heap.size 3 1 v (bitsOf R).length ((bitsOf R).map (Value.int .i64)) ∧ Below w.heap.size w w' := by
  obtain ⟨i0, hi, hz0, hz1, hz2⟩ := info_parts Tryz.info3
  go_enter Tryz.func104, Tryz.ntmps104
  go_wp2
  go_loopw [0, 3] (fun q v wr => ∃ (r j : Nat), q = .int .u32 r ∧ r < 16777216 ∧ j ≤ 24 ∧ (∀ i, r.testBit i = (decide (j ≤ i) && R.testBit i)) ∧ wr.ownsRow w.heap.size 3 1 v (bitsTo R j).length ((bitsTo R j).map (Value.int .i64)) ∧ Below w.heap.size w wr) (fun q _ _ => (intOf q).toNat)
  case atStart => exact ⟨R, 0, rfl, hR, by omega, fun i => by simp, World.ownsRow_nil _ _ _ _, Below.refl _ _⟩
  case round =>
    obtain ⟨r, j, rfl, hr, hj, hb, hown, hnx⟩ := hrel
    have hT' := hT.below hnx
    have hsz := hnx.size
    have HB := hid hb
    clear hb
    rcases Nat.eq_zero_or_pos r with h0 | h0
    · subst h0
      have HW := hid hown
      clear hown
      go_wp2
      go_ret
      refine ⟨_, rfl, ?_, hnx⟩
      have e : bitsTo R j = bitsOf R := by
        unfold bitsTo bitsOf
        rw [range_end R j hj (fun i a b => by have := HB.out i; rw [decide_eq_true a] at this; simpa using this.symm)]
      have := HW.out
      rw [e] at this
      exact this
    · obtain ⟨t, m, e⟩ := low_ex r r (Nat.le_refl _) h0
      have hlow := low_lt (t := t) (m := m) (by rw [← e]; exact hr)
      have b1 : r.testBit t = true := by rw [e]; exact low_at t m
      have b2 : ∀ i, i < t → r.testBit i = false := fun i hi => by rw [e]; exact low_under hi
      have hjt : j ≤ t := by
        have := HB.out t
        rw [b1] at this
        simp at this
        exact this.1
      have hRt : R.testBit t = true := by
        have := HB.out t
        rw [b1] at this
        simp at this
        exact this.2
      have hsn := range_snoc R j t hjt (fun i a b => by have := HB.out i; rw [decide_eq_true a, b2 i b] at this; simpa using this.symm) hRt
      have hbl := bitsTo_len R j
      have hne : ((r : Int) == 0) = false := by simp; omega
      have HS := hid hsn
      have HE := hid e
      have H1 := hid b1
      clear hsn b1 b2 hRt e
      go_wp2_with (first
        | (go_at_call 107; rw [HE.out]; refine (first_any t m _ (by first | exact hT'' | exact hT') (by rw [← HE.out]; exact hr)).mono ?_; rintro e w' ⟨rfl, hq⟩; replace hq := hq.symm; subst hq; rw [← HE.out])
        | (go_at_call 110; refine (without_any r t _ (by omega) hlow).mono ?_; rintro e w' ⟨rfl, hq⟩; replace hq := hq.symm; subst hq)
        | (go_at_call 106; go_in)
        | (at_builtin; refine append_one 22 3 i0 _ 8 Tryz.underlying22 hi hz0 hz1 hz2 rfl _ _ rfl rfl rfl rfl rfl rfl hown hsz (by omega) (by omega) ?_; intro v' w1 hown1 hb1; have hT'' := hT.below (hnx.trans hb1)))
      go_roundw
      case rel =>
        refine ⟨outB r t, t + 1, rfl, Nat.lt_of_le_of_lt (Nat.le_of_lt (outB_lt H1.out (by omega) (by omega))) hr, by omega, fun i => ?_, ?_, hnx.trans hb1⟩
        · rw [outB_bit r t i (by omega) (by omega), HB.out i]
          by_cases hit : t = i
          · subst hit; simp; omega
          · by_cases hji : j ≤ i
            · by_cases hti : t + 1 ≤ i
              · simp [hji, hti, hit]
              · have hlt : i < t := by omega
                have h3 := HB.out i
                rw [HE.out, low_under hlt, decide_eq_true hji] at h3
                simp at h3
                simp [h3]
            · simp [hji, show ¬ t + 1 ≤ i by omega]
        · have e2 : bitsTo R (t + 1) = bitsTo R j ++ [(t : Int)] := by
            unfold bitsTo
            rw [HS.out, List.map_append]
            rfl
          rw [e2, List.length_append, List.map_append]
          exact hown1
      case measure =>
        have := outB_lt H1.out (show t < 32 by omega) (show r < 4294967296 by omega)
        simp [intOf]
        omega
end Go.Proofs.YtbakicgdloakgaaGreatDoor
namespace Go.Proofs.YtbakicgdloakgaaGreatDoor
open Go.ChangeShapes Go.WideShapes Go.ChangeAt Go.RowKit

/-- The first number of a row. -/
def hd (xs : List Int) : Int := xs.headD 0
theorem hd_mem {xs : List Int} (h : xs ≠ []) : hd xs ∈ xs := by
  cases xs with
  | nil => exact absurd rfl h
  | cons x r => exact List.mem_cons_self ..
theorem hd_le {lo hi : Int} {xs : List Int} (h : ascB lo hi xs = true) {z : Int} (hz : z ∈ xs) : hd xs ≤ z := by
  cases xs with
  | nil => simp at hz
  | cons x r =>
    obtain ⟨_, h2⟩ := asc_cons.1 h
    rcases List.mem_cons.1 hz with rfl | hz
    · exact Int.le_refl _
    · have := asc_mem h2 hz
      show x ≤ z
      omega
theorem setS_small {xs : List Int} (h : ascB (-1) 24 xs = true) : setI xs < 16777216 := by
  refine Nat.lt_pow_two_of_testBit (n := 24) _ (fun i hi => ?_)
  cases hb : (setI xs).testBit i with
  | false => rfl
  | true =>
    have := asc_mem h ((setI_mem h i).1 hb)
    omega
theorem asc_24 {c : Int} {xs : List Int} (h : ascB (-1) c xs = true) (hc : c ≤ 24) : ascB (-1) 24 xs = true := by
  have : ∀ lo, ascB lo c xs = true → ascB lo 24 xs = true := by
    clear h
    induction xs with
    | nil => intro lo _; rfl
    | cons x r ih =>
      intro lo h
      obtain ⟨h1, h2⟩ := asc_cons.1 h
      exact asc_cons.2 ⟨by omega, ih x h2⟩
  exact this _ h
theorem set_zero {xs : List Int} (h : ascB (-1) 24 xs = true) : setI xs = 0 ↔ xs = [] := by
  constructor
  · intro h0
    cases xs with
    | nil => rfl
    | cons x r =>
      have hx := asc_mem h (List.mem_cons_self ..)
      obtain ⟨i, rfl⟩ := Int.eq_ofNat_of_zero_le (show 0 ≤ x by omega)
      have := (setI_mem h i).2 (List.mem_cons_self ..)
      rw [h0] at this
      simp at this
  · rintro rfl; rfl
/-- The lowest bit of a row is its first number. -/
theorem low_of {xs : List Int} (h : ascB (-1) 24 xs = true) (hne : xs ≠ []) : ∃ t m : Nat, setI xs = 2 ^ t * (2 * m + 1) ∧ hd xs = t := by
  have h0 : 0 < setI xs := Nat.pos_of_ne_zero (fun e => hne ((set_zero h).1 e))
  obtain ⟨t, m, e⟩ := low_ex _ _ (Nat.le_refl _) h0
  refine ⟨t, m, e, ?_⟩
  have h1 : (t : Int) ∈ xs := (setI_mem h t).1 (by rw [e]; exact low_at t m)
  have h2 := hd_mem hne
  have h3 := hd_le h h1
  have h4 := asc_mem h h2
  obtain ⟨i, hi⟩ := Int.eq_ofNat_of_zero_le (show 0 ≤ hd xs by omega)
  rw [hi] at h2 h3
  have h5 := (setI_mem h i).2 h2
  by_cases hlt : i < t
  · rw [e, low_under hlt] at h5; simp at h5
  · omega

theorem firstS {xs : List Int} (h : ascB (-1) 24 xs = true) (hne : xs ≠ []) (w : World) (hT : Tab w) :
    Calls Tryz.prog 107 #[.int .u32 (setI xs : Nat)] w fun e w' => e = .returned (.int .i64 (hd xs)) ∧ w' = w := by
  obtain ⟨t, m, e, ht⟩ := low_of h hne
  rw [e, ht]
  exact first_any t m w hT (by rw [← e]; exact setS_small h)
set_option maxRecDepth 100000 in
theorem emptyS {xs : List Int} (h : ascB (-1) 24 xs = true) (w : World) :
    Calls Tryz.prog 106 #[.int .u32 (setI xs : Nat)] w fun e w' => e = .returned (.bool (decide (xs = []))) ∧ w' = w := by
  have hq : (((setI xs : Nat) : Int) == 0) = decide (xs = []) := by
    rw [Bool.eq_iff_iff]
    simp only [beq_iff_eq, decide_eq_true_eq, ← set_zero h]
    omega
  generalize setI xs = s at hq
  go_enter Tryz.func106, Tryz.ntmps106
  go_wp2
  go_ret
  exact ⟨rfl, rfl⟩
theorem shr_and (s n : Nat) : s >>> n &&& 1 = if s.testBit n then 1 else 0 := by
  rw [Nat.testBit, Nat.and_comm]
  have := Nat.and_one_is_mod (s >>> n)
  rw [Nat.and_comm] at this
  rw [this]
  have h2 : s >>> n % 2 = 0 ∨ s >>> n % 2 = 1 := by omega
  rcases h2 with h2 | h2 <;> simp [h2]
end Go.Proofs.YtbakicgdloakgaaGreatDoor
namespace Go.Proofs.YtbakicgdloakgaaGreatDoor
open Go.ChangeShapes Go.WideShapes Go.ChangeAt Go.RowKit

end Go.Proofs.YtbakicgdloakgaaGreatDoor
namespace Go.Proofs.YtbakicgdloakgaaGreatDoor
open Go.ChangeShapes Go.WideShapes Go.ChangeAt Go.RowKit Go.Sort

section
variable {P : Program} {ops : Array Oper} {md : Region.Mode} {Q : Exit → Act → World → Prop} {C : World → Prop} {c : Nat}

/-- Whatever order comes; behind those ahead of c the class is kept. -/
def wpMid (P : Program) (md : Region.Mode) (ops : Array Oper) (Q : Exit → Act → World → Prop) (C : World → Prop) (c : Nat) : Nat → Array Bool → Act → World → Prop
  | 0, listed, a, w => Region.ready md ops listed = [] ∧ Q .normal a w
  | fuel + 1, listed, a, w => (Region.ready md ops listed = [] → Q .normal a w) ∧
      ∀ i ∈ Region.ready md ops listed, wpOp P ops Q i (fun a' w' => (i < c → C w') ∧ wpMid P md ops Q C c fuel (listed.setIfInBounds i true) a' w') a w
theorem wpAny_of_wpMid : ∀ (fuel : Nat) (listed : Array Bool) (a : Act) (w : World), wpMid P md ops Q C c fuel listed a w → wpAny P md ops Q fuel listed a w
  | 0, _, _, _, h => h
  | fuel + 1, _, _, _, h => ⟨h.1, fun i hi => wpOp_mono (fun a' w' h' => wpAny_of_wpMid fuel _ a' w' h'.2) (h.2 i hi)⟩

theorem wpMid_first {i : Nat} {oi : Oper} {v : Value} (hi : ops[i]? = some oi) (hs : Region.noSelect ops = true) (hQ : ∀ c a d v w, Q (.panic c) (a.put d v) w → Q (.panic c) a w)
    (hpost : ∀ j, c ≤ j → j < ops.size → behind md ops i ops.size j = true) (hic : i < c) :
    ∀ (fuel : Nat) (listed : Array Bool) (a : Act) (w : World), Shut md ops listed →
      (∀ j oj, ops[j]? = some oj → j ≠ i → listed.getD j true = false → (∀ e ∈ oj.after, Region.binds md e = true → e.on ≠ i) → oi.apart ops oj = true) →
      i ∈ Region.ready md ops listed → YieldsIf P ops C oi v a → C w →
      wpMid P md ops Q C c fuel (listed.setIfInBounds i true) (a.put oi.dst v) w → wpMid P md ops Q C c (fuel + 1) listed a w
  | 0, listed, a, w, _, _, hr, hy, hC, H => by
    refine ⟨fun h => (by rw [h] at hr; cases hr), fun j hj => ?_⟩
    by_cases hji : j = i
    · subst hji; exact hy.wpOp hi hC ⟨fun _ => hC, H⟩
    · have := ready_mono hj hji
      rw [H.1] at this
      cases this
  | fuel + 1, listed, a, w, hsh, hfree, hr, hy, hC, H => by
    refine ⟨fun h => (by rw [h] at hr; cases hr), fun j hj => ?_⟩
    by_cases hji : j = i
    · subst hji; exact hy.wpOp hi hC ⟨fun _ => hC, H⟩
    · obtain ⟨hjun, oj, hoj, hall⟩ := mem_ready.1 hj
      have hjc : j < c := by
        rcases Nat.lt_or_ge j c with h1 | h1
        · exact h1
        · exact absurd (behind_listed hsh _ j (hpost j h1 (Array.getElem?_eq_some_iff.1 hoj).1) (fun o' ho' e he hb => by rw [hoj] at ho'; cases ho'; exact hall e he hb)) (not_ready hr)
      have h1 := H.2 j (ready_mono hj hji)
      have h2 := wpOp_putIf hoj (hfree j oj hoj hji hjun (unready hr hj hoj)) (fun cs b => Region.noSelect_spec hs i oi cs b hi) (fun cs b => Region.noSelect_spec hs j oj cs b hoj) (fun c a w h => hQ c a _ _ w h) hy h1
      refine wpOp_mono (fun a' w' h3 => ⟨h3.2.1, wpMid_first hi hs hQ hpost hic fuel (listed.setIfInBounds j true) a' w' (hsh.set hj) ?_ (ready_mono hr (Ne.symm hji)) h3.1 (h3.2.1 hjc) ?_⟩) h2
      · intro k ok hk hki hun hno
        refine hfree k ok hk hki ?_ hno
        by_cases hjk : j = k
        · subst hjk; exact hjun
        · rwa [getD_set_ne true hjk] at hun
      · rw [Array.setIfInBounds_comm _ _ hji]
        exact h3.2.2

/-- An operation that only reads. -/
def readOp (o : Oper) : Bool := match o.op with | .move _ | .assign _ | .pick _ _ _ | .load _ _ | .fieldAddr _ _ _ | .nilCheck _ | .indexAddr _ _ _ | .extract _ _ | .unOp _ _ _ | .convert _ _ _ => true | _ => false
/-- What ends well ends with a value. -/
def IsVal (s : Sem Next) : Prop := ∀ (P : Program) (w : World) (x : Next) (w' : World), s.run P w = .ok x w' → ∃ u, x = .value u
theorem IsVal.pure (u : Value) : IsVal (Pure.pure (Next.value u)) := fun P w x w' h => by
  have h1 : (Pure.pure (Next.value u) : Sem Next).run P w = .ok (.value u) w := rfl
  rw [h1] at h
  cases h
  exact ⟨u, rfl⟩
theorem IsVal.bind {α : Type} (s : Sem α) (f : α → Sem Next) (h : ∀ x, IsVal (f x)) : IsVal (s >>= f) := fun P w x w' hr => by
  rw [Sem.run_bind] at hr
  cases hs : s.run P w with
  | ok y w1 => rw [hs] at hr; exact h y P w1 x w' hr
  | halt y w1 => rw [hs] at hr; cases hr
theorem IsVal.ite {p : Prop} [Decidable p] {s t : Sem Next} (h : IsVal s) (k : IsVal t) : IsVal (if p then s else t) := by split <;> assumption
theorem IsVal.run {s : Sem Next} (h : IsVal s) {P : Program} {w : World} {C : World → Prop} {v : Value} (hq : Oper.quietUpon P C w v (s.run P w)) : s.run P w = .ok (.value v) w := by
  cases hr : s.run P w with
  | ok x w' =>
    obtain ⟨u, rfl⟩ := h _ _ _ _ hr
    rw [hr] at hq
    obtain ⟨h1, h2⟩ := hq
    subst h1 h2
    rfl
  | halt x w' => rw [hr] at hq; exact hq.elim
theorem readOp_run {P : Program} {o : Oper} (h : readOp o = true) (ρ : Operand → Value) (w : World) {C : World → Prop} {v : Value} (hq : Oper.quietUpon P C w v ((execOp ρ o).run P w)) : (execOp ρ o).run P w = .ok (.value v) w := by
  obtain ⟨dst, op, type, pos, after, guard⟩ := o
  cases op <;> simp only [readOp] at h <;> try cases h
  case move x => exact pureOp_run (o := ⟨dst, .move x, type, pos, after, guard⟩) rfl ρ w w hq
  case assign x => exact pureOp_run (o := ⟨dst, .assign x, type, pos, after, guard⟩) rfl ρ w w hq
  case pick x y z => exact pureOp_run (o := ⟨dst, .pick x y z, type, pos, after, guard⟩) rfl ρ w w hq
  case nilCheck x =>
    simp only [execOp] at hq ⊢
    split at hq
    · exact hq.elim
    · exact hq.elim
    · exact hq.elim
    · split at hq
      · exact hq.elim
      · exact IsVal.run (IsVal.bind _ _ (fun _ => IsVal.bind _ _ (fun _ => IsVal.ite (IsVal.bind _ _ (fun _ => IsVal.pure _)) (IsVal.pure _)))) hq
      · exact IsVal.run (IsVal.pure _) hq
    · exact IsVal.run (IsVal.pure _) hq
  all_goals exact IsVal.run (IsVal.bind _ _ (fun _ => IsVal.pure _)) hq

/-- The rest in order; behind the first n the class is kept. -/
def wpRest (P : Program) (ops : Array Oper) (Q : Exit → Act → World → Prop) (C : World → Prop) : Nat → List Oper → Act → World → Prop
  | 0, l, a, w => wpList P ops Q l a w
  | _ + 1, [], a, w => Q .normal a w
  | n + 1, o :: rest, a, w => if Region.wanted o (yielded ops a.tmps) then o.wp P a w (fun a' w' => C w' ∧ wpRest P ops Q C n rest a' w') Q else C w ∧ wpRest P ops Q C n rest (a.put o.dst undef) w
theorem wpRest_step {n : Nat} {o : Oper} {rest : List Oper} {a : Act} {w : World} (h : ∀ K : Act → World → Prop, (∀ a' w', C w' → wpRest P ops Q C n rest a' w' → K a' w') → if Region.wanted o (yielded ops a.tmps) then o.wp P a w K Q else C w ∧ K (a.put o.dst undef) w) :
    wpRest P ops Q C (n + 1) (o :: rest) a w := by
  have h1 := h (fun a' w' => C w' ∧ wpRest P ops Q C n rest a' w') (fun _ _ k1 k2 => ⟨k1, k2⟩)
  unfold wpRest
  split
  · rename_i hw; simpa only [hw, if_true] using h1
  · rename_i hw
    simp only [hw] at h1
    exact h1.2

end

end Go.Proofs.YtbakicgdloakgaaGreatDoor
namespace Go.Proofs.YtbakicgdloakgaaGreatDoor
open Go.ChangeShapes Go.WideShapes Go.ChangeAt Go.RowKit

/-- Cells that can be read as a value of a type. -/
def Reads (W : World) (t : TypeId) (cs : List Value) : Prop :=
  ∃ (H : Type) (enc : TypeId × Value → H) (fuel : Nat) (x : DataW H × List MemPlace), DataW.trod enc Tryz.prog W 0 (fun _ => true) true fuel t cs = some x

theorem Reads.int {W : World} {t : TypeId} {k : IntKind} {cs : List Value} (ht : Tryz.prog.underlying t = some (.int k)) (h : Reads W t cs) : ∃ n, cs = [.int k n] ∧ (Lit.int k n).wf = true := by
  obtain ⟨H, enc, fuel, x, h⟩ := h
  cases fuel with
  | zero => simp [DataW.trod] at h
  | succ n =>
    unfold DataW.trod at h
    rw [ht] at h
    split at h <;> simp_all
theorem Reads.string {W : World} {t : TypeId} {cs : List Value} (ht : Tryz.prog.underlying t = some .string) (h : Reads W t cs) : ∃ s, cs = [.string s] ∧ s.size ≤ maxLen := by
  obtain ⟨H, enc, fuel, x, h⟩ := h
  cases fuel with
  | zero => simp [DataW.trod] at h
  | succ n =>
    unfold DataW.trod at h
    rw [ht] at h
    split at h <;> simp_all
theorem Reads.bool {W : World} {t : TypeId} {cs : List Value} (ht : Tryz.prog.underlying t = some .bool) (h : Reads W t cs) : ∃ b, cs = [.bool b] := by
  obtain ⟨H, enc, fuel, x, h⟩ := h
  cases fuel with
  | zero => simp [DataW.trod] at h
  | succ n =>
    unfold DataW.trod at h
    rw [ht] at h
    split at h <;> simp_all
theorem Reads.struct {W : World} {t : TypeId} {fs : Array Field} {cs : List Value} (ht : Tryz.prog.underlying t = some (.struct fs)) (h : Reads W t cs) :
    cs.length = Tryz.prog.cellsOf t ∧ ∀ (i : Nat) (f : Field), fs[i]? = some f → Reads W f.type ((cs.drop f.offset).take (Tryz.prog.cellsOf f.type)) := by
  obtain ⟨H, enc, fuel, x, h⟩ := h
  obtain ⟨xs, n, _, _, hl, hx, hf⟩ := DataW.trod_struct ht h
  refine ⟨hl, fun i f hi => ?_⟩
  have h1 := hf i f hi
  have : i < fs.size := by
    rcases Nat.lt_or_ge i fs.size with h | h
    · exact h
    · rw [Array.getElem?_eq_none h] at hi; simp at hi
  rw [List.getElem?_eq_getElem (by omega)] at h1
  exact ⟨H, enc, n, _, h1⟩
theorem Reads.slice {W : World} {t e : TypeId} {cs : List Value} (ht : Tryz.prog.underlying t = some (.slice e)) (h : Reads W t cs) :
    cs = [.slice none 0 0] ∨ ∃ (a : Addr) (len cap : Nat), cs = [.slice (some a) len cap] ∧ len ≤ cap ∧ cap ≤ maxLen ∧
      ∀ i, i < cap → ∃ cs', W.cells? 0 (a.add (i * Tryz.prog.cellsOf e)) (Tryz.prog.cellsOf e) = some cs' ∧ Reads W e cs' := by
  obtain ⟨H, enc, fuel, x, h⟩ := h
  rcases Go.Deep.open_slice ht h with ⟨h0, _⟩ | ⟨a, len, cap, m, n, D, Pl, h0, _, hl, hm, hmm, _, hx⟩
  · exact Or.inl h0
  · refine Or.inr ⟨a, len, cap, h0, hl, hm, fun i hi => ?_⟩
    obtain ⟨cs', h1, h2⟩ := hx i (by rw [hmm]; simpa using hi)
    exact ⟨cs', h1, H, enc, n, _, h2⟩
theorem Reads.ints {W : World} {t e : TypeId} {k : IntKind} {cs : List Value} (ht : Tryz.prog.underlying t = some (.slice e)) (he : Tryz.prog.underlying e = some (.int k)) (hc : Tryz.prog.cellsOf e = 1) (h : Reads W t cs) :
    ∃ a len cap zs, cs = [.slice a len cap] ∧ IsRow k W a len cap zs := by
  obtain ⟨H, enc, fuel, x, h⟩ := h
  rcases open_ints ht he hc h with ⟨hcs, _⟩ | ⟨x, l, c, zs, hcs, _, hl, hm, hz, _, hcell, hwz⟩
  · exact ⟨none, 0, 0, [], hcs, .inl ⟨rfl, rfl, rfl, rfl⟩⟩
  · exact ⟨some x, l, c, zs, hcs, .inr ⟨_, rfl, hl, hm, by simpa using hz, hcell, hwz⟩⟩
set_option maxRecDepth 100000 in
/-- The cells of an argument that is a struct. -/
theorem Reads.arg {H : Type} {enc : TypeId × Value → H} {W : World} {t : TypeId} {fs : Array Field} {r : Reach} {b0 : Nat} {v : Value} {d : DataW H} {ps : List MemPlace} (ht : Tryz.prog.underlying t = some (.struct fs))
    (hv : Value.okWide Tryz.prog W r b0 t v) (h : DataW.Trod enc Tryz.prog W 0 (fun _ => true) true t v d ps) : ∃ cs : List Value, v = .agg cs.toArray ∧ Reads W t cs := by
  obtain ⟨cs, rfl, _⟩ := okWide_struct ht hv
  obtain ⟨m, hm⟩ := h
  refine ⟨cs.toList, by simp, H, enc, m, (d, ps), ?_⟩
  simpa [Value.cells] using hm
end Go.Proofs.YtbakicgdloakgaaGreatDoor
namespace Go.Proofs.YtbakicgdloakgaaGreatDoor
open Go.ChangeShapes Go.WideShapes Go.ChangeAt Go.RowKit

/-- All that was there is read as it was. -/
theorem bcell {W w1 : World} (hb : Below W.heap.size W w1) : (∀ b o, b < W.heap.size → w1.cell? ⟨b, o, none⟩ = W.cell? ⟨b, o, none⟩) ∧ (∀ b o, b < W.heap.size → w1.frozen? ⟨b, o, none⟩ = W.frozen? ⟨b, o, none⟩) :=
  ⟨fun b o h => hb.cell (p := ⟨b, o, none⟩) h, fun b o h => hb.frozen (p := ⟨b, o, none⟩) h⟩
theorem below_alloc' (w : World) (o : Obj) : Below w.heap.size w (w.alloc o) := (Below.refl _ _).alloc (Nat.le_refl _) o
theorem below_cat' {a b c : World} (h : Below a.heap.size a b) (k : Below b.heap.size b c) : Below a.heap.size a c := h.trans (k.mono h.size)

/-- How many blocks. -/
def cntI (long size : Int) : Int := (long + size - 1) / size
/-- The window ahead of a place. -/
def prev0 (ws : List Int) (k : Nat) : Int := if k = 0 then 0 else ws.getD (k - 1) 0
theorem prev0_succ (ws : List Int) (k : Nat) : prev0 ws (k + 1) = ws.getD k 0 := by simp [prev0]
/-- Windows that ascend up to all blocks. -/
def winP (n : Int) (ws : List Int) : Prop := 1 ≤ ws.length ∧ ws.length ≤ 3 ∧ (∀ k, k < ws.length → prev0 ws k < ws.getD k 0) ∧ prev0 ws ws.length = n
instance (n : Int) (ws : List Int) : Decidable (winP n ws) := by unfold winP; infer_instance
/-- Weights that may be. -/
def wgtP (m : Nat) (gs : List Int) : Prop := (∀ k, k < gs.length → 1 ≤ gs.getD k 0 ∧ gs.getD k 0 ≤ 99) ∧ gs.length = m
instance (m : Nat) (gs : List Int) : Decidable (wgtP m gs) := by unfold wgtP; infer_instance
/-- Sizes that may be. -/
def sizP (long size : Int) : Prop := 1 ≤ long ∧ long ≤ 300 ∧ 1 ≤ size ∧ size ≤ 16 ∧ cntI long size ≤ 24
instance (long size : Int) : Decidable (sizP long size) := by unfold sizP; infer_instance
/-- A plan that is ok. -/
def planP (long size : Int) (ws gs : List Int) : Prop := sizP long size ∧ winP (cntI long size) ws ∧ wgtP ws.length gs
instance (long size : Int) (ws gs : List Int) : Decidable (planP long size ws gs) := by unfold planP; infer_instance

theorem cnt_pos (long size : Int) (h : 1 ≤ long) (h2 : 1 ≤ size) : 1 ≤ cntI long size := by
  unfold cntI
  rw [Int.le_ediv_iff_mul_le (by omega)]
  omega
set_option maxRecDepth 100000 in
theorem divideUp_any (a b : Int) (w : World) (h1 : 1 ≤ a) (h2 : a ≤ 1000) (h3 : 1 ≤ b) (h4 : b ≤ 1000) :
    Calls Tryz.prog 101 #[.int .i64 a, .int .i64 b] w fun e w' => e = .returned (.int .i64 (cntI a b)) ∧ w' = w := by
  go_enter Tryz.func101, Tryz.ntmps101
  go_wp2
  go_ret
  exact ⟨ret_int (by unfold cntI; first | rfl | (rw [Int.tdiv_eq_ediv_of_nonneg (by omega)])), rfl⟩

set_option maxRecDepth 100000 in
theorem implCount (long size : Int) (a1 a2 : Option Addr) (n1 c1 n2 c2 : Nat) (w : World) (h1 : 1 ≤ long) (h2 : long ≤ 300) (h3 : 1 ≤ size) (h4 : size ≤ 16) :
    Calls Tryz.prog 91 #[.agg #[.int .i64 long, .int .i64 size, .slice a1 n1 c1, .slice a2 n2 c2]] w fun e w' => e = .returned (.int .i64 (cntI long size)) ∧ Below w.heap.size w w' := by
  go_enter Tryz.func91, Tryz.ntmps91
  go_wp2_with (go_at_call 101; refine (divideUp_any _ _ _ (by omega) (by omega) (by omega) (by omega)).mono ?_; rintro e w' ⟨rfl, rfl⟩)
  go_ret
  exact ⟨rfl, below_alloc' _ _⟩

set_option maxRecDepth 100000 in
theorem specCount (long size : Int) (a1 a2 : Option Addr) (n1 c1 n2 c2 : Nat) (w : World) (h1 : 1 ≤ long) (h2 : long ≤ 300) (h3 : 1 ≤ size) (h4 : size ≤ 16) :
    Calls Tryz.prog 70 #[.agg #[.int .i64 long, .int .i64 size, .slice a1 n1 c1, .slice a2 n2 c2]] w fun e w' => e = .returned (.int .i64 (cntI long size)) ∧ Below w.heap.size w w' := by
  go_enter Tryz.func70, Tryz.ntmps70
  go_wp2
  go_ret
  exact ⟨ret_int (by unfold cntI; first | rfl | (rw [Int.tdiv_eq_ediv_of_nonneg (by omega)])), below_alloc' _ _⟩
end Go.Proofs.YtbakicgdloakgaaGreatDoor
