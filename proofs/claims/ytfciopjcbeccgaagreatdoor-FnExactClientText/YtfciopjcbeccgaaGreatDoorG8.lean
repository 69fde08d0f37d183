/- Rows of ints that are read. Rows of ints that came in. Rows: what is one, by the program. -/
import Derived.Test.YtfciopjcbeccgaaGreatDoorG0
import Derived.Laws.BitsAllLaws
namespace Go.Proofs.YtfciopjcbeccgaaGreatDoor
open Go.ChangeShapes Go.WideShapes Go.ChangeAt Go.RowKit

/-- The cells of a slice of ints that is read. -/
def IntsAt (w : World) (a : Option Addr) (xs : List Int) : Prop :=
  xs ≠ [] → ∃ b off, a = some ⟨b, off, none⟩ ∧ ∀ i, i < xs.length → w.cell? ⟨b, off + i, none⟩ = some (.int .i64 (xs.getD i 0))

/-- What is owned is read. -/
theorem owns_ints {w : World} {base : Nat} {e : TypeId} {v : Value} {n : Nat} {xs : List Int} (h : w.ownsRow base e 1 v n (xs.map (Value.int .i64))) :
    ∃ a cap, v = .slice a xs.length cap ∧ n = xs.length ∧ IntsAt w a xs := by
  have hl : xs.length = n := by simpa using h.1
  obtain ⟨a, cap, rfl⟩ := owns_slice h
  refine ⟨a, cap, by rw [hl], hl.symm, fun hne => ?_⟩
  obtain ⟨g, cap', hv, _⟩ := owns_shape h (by simpa using hne)
  simp only [Value.slice.injEq] at hv
  obtain ⟨rfl, _, rfl⟩ := hv
  refine ⟨g, 0, rfl, fun k hk => ?_⟩
  rw [Nat.zero_add, h.cellAt k (by omega)]
  simp [hk, List.getD]

theorem owns_at {w : World} {base : Nat} {e : TypeId} {a : Option Addr} {n m cap : Nat} {xs : List Int} (h : w.ownsRow base e 1 (.slice a m cap) n (xs.map (Value.int .i64))) : IntsAt w a xs := by
  obtain ⟨a', cap', hv, _, hi⟩ := owns_ints h
  simp only [Value.slice.injEq] at hv
  obtain ⟨rfl, _, _⟩ := hv
  exact hi
/-- A row that was marked: all that lies below its base is as it was. -/
theorem grown_base {w w' : World} {base : Nat} {e : TypeId} {size : Nat} {v : Value} {n : Nat} {xs : List Value} (h : w.grownBy w' v.ownBlock) (ho : w.ownsRow base e size v n xs) (hb : base ≤ w.heap.size) : Below base w w' :=
  (Below.refl _ _).grown h hb (fun k hk => (ho.lt k hk).1)
theorem IntsAt.drewN {w : World} {a : Option Addr} {xs : List Int} (h : IntsAt w a xs) (n : Nat) : IntsAt (w.drewN n) a xs := fun hne => h hne
theorem IntsAt.below {w w' : World} {a : Option Addr} {xs : List Int} (h : IntsAt w a xs) (hb : Below w.heap.size w w') : IntsAt w' a xs := fun hne => by
  obtain ⟨b, off, ha, hc⟩ := h hne
  refine ⟨b, off, ha, fun i hi => ?_⟩
  rw [hb.cell (p := ⟨b, off + i, none⟩) (block_lt_of_cell (hc i hi))]
  exact hc i hi

theorem take_eq {xs ys : List Int} {k : Nat} (h : xs.take k = ys.take k) (hk : k < xs.length) (hk2 : k < ys.length) (he : xs.getD k 0 = ys.getD k 0) : xs.take (k + 1) = ys.take (k + 1) := by
  rw [List.take_succ_eq_append_getElem hk, List.take_succ_eq_append_getElem hk2, h]
  have : xs[k] = ys[k] := by simpa [List.getD, hk, hk2] using he
  rw [this]
theorem take_ne {xs ys : List Int} {k : Nat} (he : xs.getD k 0 ≠ ys.getD k 0) : xs ≠ ys := by
  intro h; subst h; exact he rfl

theorem drewN_two (w : World) (n m : Nat) : ∃ k, (w.drewN n).drewN m = w.drewN k := ⟨n + m, by simp⟩

/-- A slice of integers that came in: nil, or a row of 'cap' cells, the first 'len' its elements. -/
def IsRow (k : IntKind) (w : World) (a : Option Addr) (len cap : Nat) (zs : List Int) : Prop :=
  (a = none ∧ len = 0 ∧ cap = 0 ∧ zs = []) ∨
  ∃ x, a = some x ∧ len ≤ cap ∧ cap ≤ maxLen ∧ zs.length = cap ∧ (∀ i, i < zs.length → w.cell? (x.add i) = some (.int k (zs.getD i 0))) ∧ ∀ n ∈ zs, (Lit.int k n).wf = true

theorem addr_add (b off i : Nat) : (⟨b, off, none⟩ : Addr).add i = ⟨b, off + i, none⟩ := by
  cases i with
  | zero => simp [Addr.add]
  | succ i => simp [Addr.add]
end Go.Proofs.YtfciopjcbeccgaaGreatDoor
namespace Go.Proofs.YtfciopjcbeccgaaGreatDoor
open Go.ChangeShapes Go.WideShapes Go.ChangeAt Go.RowKit

theorem isRow_len {k : IntKind} {w : World} {a : Option Addr} {len cap : Nat} {zs : List Int} (h : IsRow k w a len cap zs) : (zs.take len).length = len := by
  rcases h with ⟨_, rfl, _, rfl⟩ | ⟨x, _, h1, h2, h3, _⟩
  · rfl
  · rw [List.length_take]; omega

theorem isRow_ints {w : World} {a : Option Addr} {len cap : Nat} {zs : List Int} (h : IsRow .i64 w a len cap zs) : IntsAt w a (zs.take len) := by
  intro hne
  rcases h with ⟨_, rfl, _, rfl⟩ | ⟨x, rfl, h1, h2, h3, h4, _⟩
  · simp at hne
  · have hpos : 0 < len := by
      rcases Nat.eq_zero_or_pos len with h | h
      · subst h; simp at hne
      · exact h
    obtain ⟨b, off, spot⟩ := x
    have hc := h4 0 (by omega)
    have hspot : spot = none := by simpa [Addr.add] using World.cell?_spot hc
    subst hspot
    refine ⟨b, off, rfl, fun i hi => ?_⟩
    have hi' : i < len := by rw [List.length_take] at hi; omega
    have e : (zs.take len).getD i 0 = zs.getD i 0 := by simp [List.getD, hi']
    rw [e, ← addr_add]
    exact h4 i (by omega)

theorem getD_eq {xs : List Int} {k : Nat} (h : k < xs.length) : xs.getD k 0 = xs[k] := by simp [List.getD, h]
theorem copy_set (xs : List Int) (k : Nat) (h : k < xs.length) : (xs.take k ++ List.replicate (xs.length - k) (0 : Int)).set k (xs.getD k 0) = xs.take (k + 1) ++ List.replicate (xs.length - (k + 1)) 0 := by
  have hl : (xs.take k).length = k := by rw [List.length_take]; omega
  rw [List.set_append_right _ _ (by omega), hl, Nat.sub_self, List.take_succ_eq_append_getElem h, getD_eq h]
  obtain ⟨m, hm⟩ : ∃ m, xs.length - k = m + 1 := ⟨xs.length - k - 1, by omega⟩
  rw [hm, List.replicate_succ, List.set_cons_zero, show xs.length - (k + 1) = m by omega, List.append_assoc, List.singleton_append]
theorem made_ints (n : Nat) : (madeCells (Value.int .i64 0).cells (n * 1)).toList = (List.replicate n (0 : Int)).map (Value.int .i64) := by
  apply List.ext_getElem
  · simp [madeCells]
  · intro i h1 h2
    simp [madeCells, Value.cells, Nat.mod_one]
end Go.Proofs.YtfciopjcbeccgaaGreatDoor
namespace Go.Proofs.YtfciopjcbeccgaaGreatDoor
open Go.ChangeShapes Go.WideShapes Go.ChangeAt Go.RowKit

theorem or_pow (s n : Nat) (hs : s < 4294967296) (hn : n < 24) : bits .or .u32 (s : Int) (2 ^ n % 4294967296) = ((s ||| 2 ^ n : Nat) : Int) := by
  have h1 : 2 ^ n < 2 ^ 24 := Nat.pow_lt_pow_right (by omega) hn
  have h2 : ((2 : Int) ^ n % 4294967296) = ((2 ^ n : Nat) : Int) := by
    have : ((2 : Int) ^ n) = ((2 ^ n : Nat) : Int) := by simp
    rw [this]
    generalize 2 ^ n = P at h1
    omega
  rw [h2]
  exact u32_or_nat s (2 ^ n) hs (by omega)

set_option maxRecDepth 100000 in
theorem with_any (s n : Nat) (w : World) (hs : s < 4294967296) (hn : n < 24) :
    Calls Tryz.prog 74 #[.int .u32 s, .int .i64 n] w fun e w' => e = .returned (.int .u32 ((s ||| 2 ^ n : Nat) : Int)) ∧ w' = w := by
  go_enter Tryz.func74, Tryz.ntmps74
  go_wp2
  go_ret
  exact ⟨ret_int (or_pow s n hs hn), rfl⟩

/-- All above 'lo', ascending, below 'hi'. -/
def ascB (lo hi : Int) : List Int → Bool
  | [] => true
  | x :: r => decide (lo < x ∧ x < hi) && ascB x hi r
/-- What is a row of so many. -/
def rowOkB (xs : List Int) (count : Int) : Bool := decide (0 ≤ count ∧ count ≤ 24) && ascB (-1) count xs
/-- The number ahead of a place. -/
def prevI (xs : List Int) (k : Nat) : Int := if k = 0 then -1 else xs.getD (k - 1) 0
/-- The numbers as bits. -/
def setI (xs : List Int) : Nat := xs.foldl (fun s x => s ||| 2 ^ x.toNat) 0

/-- The bits of a row, nothing of what is none. -/
def rowBits (xs : List Int) (c : Int) : Nat := if ascB (-1) c xs then setI xs else 0
theorem rowBits_no {xs : List Int} {c : Int} (h : ascB (-1) c xs = false) : rowBits xs c = 0 := by simp [rowBits, h]
theorem rowBits_yes {xs : List Int} {c : Int} (h : ascB (-1) c xs = true) : rowBits xs c = setI xs := by simp [rowBits, h]
theorem prevI_succ (xs : List Int) (k : Nat) : prevI xs (k + 1) = xs.getD k 0 := by simp [prevI]
theorem asc_step (xs : List Int) (k : Nat) (hi : Int) (h : k < xs.length) :
    ascB (prevI xs k) hi (xs.drop k) = (decide (prevI xs k < xs.getD k 0 ∧ xs.getD k 0 < hi) && ascB (prevI xs (k + 1)) hi (xs.drop (k + 1))) := by
  rw [List.drop_eq_getElem_cons h, ascB, prevI_succ, getD_eq h]
theorem setI_snoc (xs : List Int) (k : Nat) (h : k < xs.length) : setI (xs.take (k + 1)) = setI (xs.take k) ||| 2 ^ (xs.getD k 0).toNat := by
  unfold setI
  rw [List.take_succ_eq_append_getElem h, List.foldl_append, getD_eq h]
  rfl
theorem setI_lt (s : Nat) (n : Nat) (hs : s < 16777216) (hn : n < 24) : s ||| 2 ^ n < 16777216 := by
  have h1 : 2 ^ n < 2 ^ 24 := Nat.pow_lt_pow_right (by omega) hn
  exact Nat.or_lt_two_pow (n := 24) (by omega) h1

set_option maxRecDepth 100000 in
theorem rowSetOf_out (a : Option Addr) (n cap : Nat) (c : Int) (w : World) (hc : c < 0 ∨ 24 < c) :
    Calls Tryz.prog 62 #[.slice a n cap, .int .i64 c] w fun e w' => e = .returned (.tuple #[.int .u32 0, .bool false]) ∧ w' = w := by
  rcases hc with h | h
  · go_enter Tryz.func62, Tryz.ntmps62
    go_wp2
    go_ret2
    exact ⟨rfl, rfl⟩
  · have h' : ¬ c < 0 := by omega
    go_enter Tryz.func62, Tryz.ntmps62
    go_wp2
    go_ret2
    exact ⟨rfl, rfl⟩

set_option maxRecDepth 100000 in
set_option maxHeartbeats 1000000 in
theorem rowSetOf_in (a : Option Addr) (cap : Nat) (xs : List Int) (c : Int) (w : World) (ha : IntsAt w a xs) (hx : xs.length ≤ 1152921504606846976) (c1 : 0 ≤ c) (c2 : c ≤ 24) :
    Calls Tryz.prog 62 #[.slice a xs.length cap, .int .i64 c] w fun e w' => e = .returned (.tuple #[.int .u32 (rowBits xs c : Nat), .bool (ascB (-1) c xs)]) ∧ w' = w := by
  have c2' : decide (24 < c) = false := by simp; omega
  go_enter Tryz.func62, Tryz.ntmps62
  go_wp2
  go_loop [6, 7, 18] (fun s l i => ∃ k : Nat, k ≤ xs.length ∧ i = .int .i64 k ∧ l = .int .i64 (prevI xs k) ∧ s = .int .u32 (setI (xs.take k) : Nat) ∧ setI (xs.take k) < 16777216 ∧ -1 ≤ prevI xs k ∧ ascB (-1) c xs = ascB (prevI xs k) c (xs.drop k)) (fun _ _ i => xs.length - (intOf i).toNat)
  case atStart => exact ⟨0, Nat.zero_le _, rfl, rfl, rfl, by simp [setI], by simp [prevI], rfl⟩
  case round =>
    obtain ⟨k, hk, rfl, rfl, rfl, hs, hp, he⟩ := hrel
    by_cases hlt : k < xs.length
    · obtain ⟨b, off, rfl, hc⟩ := ha (by intro h; simp [h] at hlt)
      have hck := hc k hlt
      have e1 := asc_step xs k c hlt
      have e2 := setI_snoc xs k hlt
      have e3 := prevI_succ xs k
      obtain ⟨X, hX⟩ : ∃ X, X = xs.getD k 0 := ⟨_, rfl⟩
      obtain ⟨L, hL⟩ : ∃ L, L = prevI xs k := ⟨_, rfl⟩
      obtain ⟨S, hS⟩ : ∃ S, S = setI (xs.take k) := ⟨_, rfl⟩
      rw [← hX] at hck e1 e2 e3
      rw [← hL] at e1 hp he ⊢
      rw [← hS] at e2 hs ⊢
      have H1 : Hid _ := e1
      have H2 : Hid _ := e2
      have H3 : Hid _ := e3
      have HE : Hid _ := he
      clear e1 e2 e3 he hX hL hS hc
      by_cases h1 : X ≤ L
      · go_wp2
        go_ret2
        have : ascB (-1) c xs = false := by rw [HE.out, H1.out]; simp; omega
        rw [rowBits_no this, this]
        exact ⟨rfl, rfl⟩
      · by_cases h2 : c ≤ X
        · have h1' : decide (X ≤ L) = false := by simp; omega
          go_wp2
          go_ret2
          have : ascB (-1) c xs = false := by rw [HE.out, H1.out]; simp; omega
          rw [rowBits_no this, this]
          exact ⟨rfl, rfl⟩
        · have h1' : decide (X ≤ L) = false := by simp; omega
          have h2' : decide (c ≤ X) = false := by simp; omega
          obtain ⟨x, rfl⟩ := Int.eq_ofNat_of_zero_le (show 0 ≤ X by omega)
          go_wp2_with (go_at_call 74; refine (with_any S x _ (by omega) (by omega)).mono ?_; rintro e w' ⟨rfl, rfl⟩)
          go_round
          case rel =>
            refine ⟨k + 1, by omega, by go_num, by rw [H3.out], by rw [H2.out]; simp, by rw [H2.out]; exact setI_lt S _ hs (by omega), by rw [H3.out]; omega, ?_⟩
            rw [HE.out, H1.out]
            simp; omega
          case measure => simp [intOf]; omega
    · obtain rfl : k = xs.length := by omega
      have h1 : ascB (-1) c xs = true := by rw [he, List.drop_length]; rfl
      have H1 : Hid _ := h1
      clear h1 he
      go_wp2
      go_ret2
      rw [rowBits_yes H1.out, H1.out]
      exact ⟨rfl, rfl⟩
end Go.Proofs.YtfciopjcbeccgaaGreatDoor
