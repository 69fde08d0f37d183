/- The reader of a code: what is picked lies below its limit. -/
import Derived.Test.YtgdmhodipjfkoaaIntsH
import Derived.Laws.BitsAllLaws
namespace Go.Proofs.Ytgdmhodipjfkoaa
open Go.ChangeShapes Go.WideShapes Go.ChangeAt Go.RowKit

theorem i64_xor_nat (a b : Nat) (ha : a < 4611686018427387904) (hb : b < 4611686018427387904) : bits .xor .i64 (a : Int) (b : Int) = ((a ^^^ b : Nat) : Int) := by
  have hx : a ^^^ b < 2 ^ 62 := Nat.xor_lt_two_pow (by omega) (by omega)
  show IntKind.i64.wrap ((BitVec.ofInt 64 (a : Int) ^^^ BitVec.ofInt 64 (b : Int)).toNat : Int) = _
  rw [BitVec.toNat_xor, ofInt_u64 a (by omega), ofInt_u64 b (by omega)]
  simp [IntKind.wrap, IntKind.bits, IntKind.signed]
  omega
theorem i64_xor_pos (a b : Int) (h1 : 0 ≤ a) (h2 : a < 4611686018427387904) (h3 : 0 ≤ b) (h4 : b < 4611686018427387904) : 0 ≤ bits .xor .i64 a b := by
  obtain ⟨A, rfl⟩ := Int.eq_ofNat_of_zero_le h1
  obtain ⟨B, rfl⟩ := Int.eq_ofNat_of_zero_le h3
  rw [i64_xor_nat A B (by omega) (by omega)]
  omega
theorem tmod_pos {x n : Int} (hx : 0 ≤ x) (hn : 1 ≤ n) : 0 ≤ x.tmod n ∧ x.tmod n < n := by
  rw [Int.tmod_eq_emod_of_nonneg hx]
  exact ⟨Int.emod_nonneg _ (by omega), Int.emod_lt_of_pos _ (by omega)⟩

/-- A reader at block g that has picked p numbers. -/
def Rd (w : World) (g : Nat) (p : Nat) : Prop := ∃ a n c, ∃ bs : List Int, w.heap[g]? = some (.cells #[.slice a n c, .int .i64 p] 44 (0, 0)) ∧ n ≤ 2000 ∧ bs.length = n ∧ (∀ k, 0 ≤ bs.getD k 0 ∧ bs.getD k 0 ≤ 255) ∧
  (0 < n → ∃ b off, a = some ⟨b, off, none⟩ ∧ b ≠ g ∧ b < g ∧ ∀ i, i < n → w.cell? ⟨b, off + i, none⟩ = some (.int .u8 (bs.getD i 0)))

/-- A reader behind one pick more. -/
theorem Rd_next {w w' : World} {g p : Nat} {a : Option Addr} {n c : Nat} {bs : List Int} (hh : w.heap[g]? = some (.cells #[.slice a n c, .int .i64 p] 44 (0, 0))) (hm : n ≤ 2000) (hl : bs.length = n) (hb : ∀ k, 0 ≤ bs.getD k 0 ∧ bs.getD k 0 ≤ 255)
    (hc : 0 < n → ∃ b off, a = some ⟨b, off, none⟩ ∧ b ≠ g ∧ b < g ∧ ∀ i, i < n → w.cell? ⟨b, off + i, none⟩ = some (.int .u8 (bs.getD i 0))) (nq : Nat)
    (hw : w' = (w.setCell ⟨g, 1, none⟩ (.int .i64 ((p : Int) + 1))).drewN nq) : Rd w' g (p + 1) ∧ Touch g w w' := by
  subst hw
  have hlt := lt_of_block hh
  have h' : w.heap[g] = .cells #[.slice a n c, .int .i64 p] 44 (0, 0) := by simpa [Array.getElem?_eq_getElem hlt] using hh
  refine ⟨⟨a, n, c, bs, ?_, hm, hl, hb, fun hn => ?_⟩, rfl, rfl, rfl, by show (w.setCell _ _).heap.size = _; simp [World.setCell], fun k hk => Below.heap_setCell _ ⟨g, 1, none⟩ _ k hk⟩
  · show (w.heap.modify g _)[g]? = _
    rw [Array.getElem?_eq_getElem (by simpa using hlt), Array.getElem_modify_self, h']
    rfl
  · obtain ⟨b, off, ha, hne, hbs, hcc⟩ := hc hn
    refine ⟨b, off, ha, hne, hbs, fun i hi => ?_⟩
    rw [← hcc i hi]
    exact World.cell?_of_block (w := w) (Below.heap_setCell _ ⟨g, 1, none⟩ _ b hne)

set_option maxHeartbeats 1000000 in
theorem pick_any (g p : Nat) (n : Int) (w : World) (hr : Rd w g p) (hp : p ≤ 1000000000) (h1 : 1 ≤ n) (h2 : n ≤ 1000000000) :
    Calls Try.prog 16 #[.pointer (some ⟨g, 0, none⟩), .int .i64 n] w fun e w' => ∃ r : Int, e = .returned (.int .i64 r) ∧ 0 ≤ r ∧ r < n ∧ Rd w' g (p + 1) ∧ Touch g w w' := by
  obtain ⟨a, m, c, bs, hh, hm, hl, hb, hc⟩ := hr
  have c0 : w.cell? ⟨g, 0, none⟩ = some (.slice a m c) := by simp [World.cell?, hh]
  have c1 : w.cell? ⟨g, 1, none⟩ = some (.int .i64 p) := by simp [World.cell?, hh]
  have f1 : w.frozen? ⟨g, 1, none⟩ = false := by simp [World.frozen?, hh]
  have NX := fun (w' : World) nq hw => Rd_next (w' := w') hh hm hl hb hc nq hw
  clear hh
  rcases (show m = 0 ∨ p < m ∨ (0 < m ∧ m ≤ p) from by omega) with h | h | ⟨h, h'⟩
  · subst h
    have HN : Hid _ := NX
    clear hc NX
    go_enter Try.func16, Try.ntmps16
    go_wp2
    go_ret
    exact ⟨_, rfl, by omega, by omega, HN.out _ 0 rfl⟩
  · obtain ⟨b, off, rfl, hbg, hbs, hcc⟩ := hc (by omega)
    have hck := hcc p h
    have hk := hb p
    obtain ⟨B, hB⟩ : ∃ B, B = bs.getD p 0 := ⟨_, rfl⟩
    rw [← hB] at hck hk
    have HN : Hid _ := NX
    have hm0 : ((m : Int) == 0) = false := by simp; omega
    have hr1 := Int.emod_nonneg B (b := n) (by omega)
    have hr2 := Int.emod_lt_of_pos B (b := n) (by omega)
    clear hcc hc hB hb NX
    go_enter Try.func16, Try.ntmps16
    go_wp2
    go_ret
    exact ⟨_, rfl, hr1, hr2, HN.out _ 0 rfl⟩
  · obtain ⟨b, off, rfl, hbg, hbs, hcc⟩ := hc (by omega)
    have hm0 : ((m : Int) == 0) = false := by simp; omega
    have q1 := Int.emod_nonneg (p : Int) (b := (m : Int)) (by omega)
    have q2 := Int.emod_lt_of_pos (p : Int) (b := (m : Int)) (by omega)
    have q3 := Int.emod_nonneg ((p : Int) * 7 + 3) (b := (m : Int)) (by omega)
    have q4 := Int.emod_lt_of_pos ((p : Int) * 7 + 3) (b := (m : Int)) (by omega)
    have q5 := Int.ediv_nonneg (a := (p : Int)) (b := (m : Int)) (by omega) (by omega)
    have q6 := Int.ediv_le_self (a := (p : Int)) (m : Int) (by omega)
    have k1 := hcc (p % m) (Nat.mod_lt _ h)
    have k2 := hcc ((p * 7 + 3) % m) (Nat.mod_lt _ h)
    have b1 := hb (p % m)
    have b2 := hb ((p * 7 + 3) % m)
    obtain ⟨B1, hB1⟩ : ∃ B, B = bs.getD (p % m) 0 := ⟨_, rfl⟩
    obtain ⟨B2, hB2⟩ : ∃ B, B = bs.getD ((p * 7 + 3) % m) 0 := ⟨_, rfl⟩
    rw [← hB1] at k1 b1
    rw [← hB2] at k2 b2
    have HN : Hid _ := NX
    have hx := i64_xor_pos (B1 * 131 + B2 * 1117 + ↑p * 29 + ↑p / ↑m * 53) ((B1 * 131 + B2 * 1117 + ↑p * 29 + ↑p / ↑m * 53) / 64) (by omega) (by omega) (by omega) (by omega)
    have HX : Hid _ := tmod_pos hx h1
    clear hcc hc hB1 hB2 hb NX hx
    go_enter Try.func16, Try.ntmps16
    go_wp2
    go_quiet (fail)
    go_wp2
    go_ret
    exact ⟨_, rfl, HX.out.1, HX.out.2, HN.out _ nq rfl⟩

/-- A code that came in: nil, or its bytes. -/
def Bytes (w : World) (a : Option Addr) (len cap : Nat) (zs : List Int) : Prop :=
  (a = none ∧ len = 0 ∧ cap = 0 ∧ zs = []) ∨
  ∃ x, a = some x ∧ len ≤ cap ∧ cap ≤ maxLen ∧ zs.length = cap ∧ (∀ i, i < zs.length → w.cell? (x.add i) = some (.int .u8 (zs.getD i 0))) ∧ ∀ n ∈ zs, (Lit.int .u8 n).wf = true

theorem rd_open {w : World} {a : Option Addr} {n c m cap : Nat} {zs : List Int} (hn : n ≤ m) (hn2 : n ≤ 2000) (h : Bytes w a m cap zs) :
    Rd (w.alloc (.cells #[.slice a n c, .int .i64 0] 44)) w.heap.size 0 := by
  rcases h with ⟨rfl, rfl, rfl, rfl⟩ | ⟨x, rfl, h1, h2, h3, h4, h5⟩
  · obtain rfl : n = 0 := by omega
    exact ⟨none, 0, c, [], heap_alloc_new w _, by omega, rfl, fun k => by simp, fun h => by omega⟩
  · refine ⟨some x, n, c, zs.take n, heap_alloc_new w _, hn2, by simp; omega, fun k => ?_, fun h => ?_⟩
    · by_cases hk : k < (zs.take n).length
      · have e : (zs.take n).getD k 0 = (zs.take n)[k] := by simp only [List.getD, List.getElem?_eq_getElem hk, Option.getD_some]
        rw [e]
        have := bounds_u8 (h5 _ (List.mem_of_mem_take (List.getElem_mem hk)))
        omega
      · simp only [List.getD, List.getElem?_eq_none (Nat.le_of_not_lt hk), Option.getD_none]; omega
    · obtain ⟨b, off, spot⟩ := x
      have hc := h4 0 (by omega)
      have hspot : spot = none := by simpa [Addr.add] using World.cell?_spot hc
      subst hspot
      have hlt : b < w.heap.size := block_lt_of_cell hc
      refine ⟨b, off, rfl, by omega, hlt, fun i hi => ?_⟩
      have hci : w.cell? ⟨b, off + i, none⟩ = some (.int .u8 (zs.getD i 0)) := by rw [← addr_add]; exact h4 i (by omega)
      have e : (zs.take n).getD i 0 = zs.getD i 0 := by simp [List.getD, hi]
      rw [e, ← hci]
      exact World.cell?_of_block (a := ⟨b, off + i, none⟩) (w := w) (Below.heap_alloc _ _ _ hlt)

theorem l1Open_any (a : Option Addr) (len cap : Nat) (zs : List Int) (w : World) (h : Bytes w a len cap zs) :
    Calls Try.prog 14 #[.slice a len cap] w fun e w' => e = .returned (.pointer (some ⟨w.heap.size, 0, none⟩)) ∧ Rd w' w.heap.size 0 ∧ Below w.heap.size w w' := by
  have hm : len ≤ maxLen ∧ len ≤ cap := by rcases h with ⟨_, rfl, rfl, _⟩ | ⟨_, _, h1, h2, _⟩ <;> omega
  obtain ⟨hm, hcap⟩ := hm
  unfold maxLen at hm
  have HB : Hid _ := h
  clear h
  by_cases hl : 2000 < len
  · have hl2 : (2000 : Int) ≤ (cap : Int) := by omega
    go_enter Try.func14, Try.ntmps14
    go_wp2
    go_ret
    exact ⟨rfl, rd_open (by omega) (Nat.le_refl _) HB.out, (Below.refl _ _).alloc (Nat.le_refl _) _⟩
  · go_enter Try.func14, Try.ntmps14
    go_wp2
    go_ret
    exact ⟨rfl, rd_open (Nat.le_refl _) (by omega) HB.out, (Below.refl _ _).alloc (Nat.le_refl _) _⟩
end Go.Proofs.Ytgdmhodipjfkoaa
