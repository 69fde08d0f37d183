/- Blocks put together: the program's and the model's. Blocks put together, the program's own. Texts and their bytes. -/
import Derived.Test.YtcoofoiaaljpoaaDoorG0
import Derived.Laws.BytesArg
import Derived.Deep.RegionLaw
import Derived.BigRegion
import Derived.Laws.BitsAllLaws
namespace Go.Proofs.YtcoofoiaaljpoaaDoor
open Go.ChangeShapes Go.WideShapes Go.ChangeAt Go.RowKit

theorem Tryd.info5 : (Tryd.prog.info? 5).map (fun i => (i.zero, i.size, i.bytes)) = some (some (.int .u8 0), 1, 1) := by kernel_rfl

/-- 'out = append(out, x)' as one step of a region that draws its order. -/
theorem step_append_one {P : Program} {w : World} {ops : Array Oper} {o : Oper} {a : Act} {K : Act → World → Prop} {Q : Exit → Act → World → Prop} {E : Prop} (t e : TypeId) (i : TypeInfo) (z : Value) (bytes : Nat)
    (ht : P.underlying t = some (.slice e)) (hi : P.info? e = some i) (hz : i.zero = some z) (hz1 : i.size = 1) (hz2 : i.bytes = bytes) (hzs : z.cells.size = 1)
    {base n g : Nat} {v u : Value} {xs : List Value} (s x : Operand) (hgd : o.guard = none) (ho : o.op = .call { callee := .builtin .append, args := #[s, x], argTypes := #[t, t] })
    (hs : a.eval s = v) (hx : a.eval x = .slice (some ⟨g, 0, none⟩) 1 1) (hg : g = w.heap.size) (hu : u.oneCell' = true)
    (hown : w.ownsRow base e 1 v n xs) (hbs : base ≤ w.heap.size) (hbd : (n + 1) * bytes ≤ 140737488355328) (hml : n + 1 ≤ 9223372036854775807)
    (h : ∀ v' w', w'.ownsRow base e 1 v' (n + 1) (xs ++ [u]) → Below base w w' → K (a.put o.dst v') w') :
    if Region.wanted o (yielded ops a.tmps) = true then Oper.wp P o a (w.alloc (.cells #[u] e)) K Q else E := by
  have hw : Region.wanted o (yielded ops a.tmps) = true := by simp [Region.wanted, hgd]
  rw [if_pos hw]
  subst hg
  obtain ⟨v', w', hrun, r1, r2, _⟩ := run_append_own (P := P) (w.alloc (.cells #[u] e)) base t o.type e i z 1 bytes ht hi hz hz1 hz2 hzs (by decide) v n xs (hown.alloc _) ⟨w.heap.size, 0, none⟩ 1 1 [u] rfl
    (by intro j u' hj
        match j, hj with
        | 0, hj => simp at hj; subst hj; simp [Addr.add])
    (by intro u' hu'; simp at hu'; subst hu'; exact hu) hml hbd (Nat.le_trans hbs (by rw [World.size_alloc]; omega))
  unfold Oper.wp
  simp [execOp, ho, resolve, invoke, builtin, hs, hx, hrun, Result.andThen]
  refine h v' w' r1 (((Below.refl _ _).alloc hbs _).grown r2 (Nat.le_trans hbs (by rw [World.size_alloc]; omega)) (fun j hj => ?_))
  have := (hown.lt j hj).1; omega

/-- The bytes of a text, as numbers. -/
def nums (s : ByteArray) : List Int := s.data.toList.map fun c => (c.toNat : Int)
theorem nums_len (s : ByteArray) : (nums s).length = s.size := by
  unfold nums
  rw [List.length_map, Array.length_toList]
  rfl
theorem nums_at (s : ByteArray) (k : Nat) (h : k < s.size) : (nums s).getD k 0 = ((s[k]'h).toNat : Int) := by
  have h' : k < s.data.toList.length := by simpa using h
  have h2 : (nums s)[k]? = some ((s.data.toList[k].toNat : Int)) := by
    unfold nums
    rw [List.getElem?_map, List.getElem?_eq_getElem h']
    rfl
  unfold List.getD
  rw [h2]
  rfl
theorem nums_bd (s : ByteArray) (k : Nat) : 0 ≤ (nums s).getD k 0 ∧ (nums s).getD k 0 ≤ 255 := by
  by_cases h : k < s.size
  · rw [nums_at s k h]
    have := (s[k]'h).toNat_lt
    omega
  · simp [List.getD, List.getElem?_eq_none (by rw [nums_len]; omega : (nums s).length ≤ k)]
/-- Two lists of bytes, bit by bit unlike. -/
def xorL (xs ys : List Int) : List Int := List.zipWith (fun x y => bits .xor .u8 x y) xs ys
theorem xorL_len (xs ys : List Int) (h : xs.length = ys.length) : (xorL xs ys).length = xs.length := by simp [xorL, h]
theorem xorL_take (xs ys : List Int) (k : Nat) (h1 : k < xs.length) (h2 : k < ys.length) :
    (xorL xs ys).take (k + 1) = (xorL xs ys).take k ++ [bits .xor .u8 (xs.getD k 0) (ys.getD k 0)] := by
  have h : k < (xorL xs ys).length := by simp [xorL]; omega
  rw [List.take_succ_eq_append_getElem h]
  simp [xorL, List.getD, h1, h2]

/-- Bytes that are owned, as a text. -/
theorem owns_text {P : Program} {w : World} {base : Nat} {src dst e : TypeId} {v : Value} {n : Nat} {xs : List Int} (h : w.ownsRow base e 1 v n (xs.map (Value.int .u8)))
    (hs : P.underlying src = some (.slice e)) (he : P.underlying e = some (.int .u8)) (hd : P.underlying dst = some .string) : (convert src dst v).run P w = .ok (.string (strOfNums xs)) w := by
  have hl : xs.length = n := by simpa using h.1
  rcases h.2 with ⟨rfl, h0⟩ | ⟨g, cap, cur, rfl, _⟩
  · obtain rfl : xs = [] := List.eq_nil_of_length_eq_zero (by omega)
    rw [run_convert_bytes_nil w src e hs he 0 0 dst hd]
    rfl
  · refine run_convert_bytes_arg w src e hs he g 0 n cap xs hl (fun i hi => ?_) dst hd
    rw [Nat.zero_add, h.cellAt i (by omega)]
    simp [List.getD, hl, hi]

set_option maxRecDepth 100000 in
set_option maxHeartbeats 1000000 in
theorem l2Block_any (a b : ByteArray) (w : World) (h : a.size = b.size) (hl : a.size ≤ 1048576) :
    Calls Tryd.prog 23 #[.string a, .string b] w fun e w' => e = .returned (.string (strOfNums (xorL (nums a) (nums b)))) ∧ Below w.heap.size w w' := by
  obtain ⟨i0, hi, hz0, hz1, hz2⟩ := info_parts Tryd.info5
  have HH : Hid _ := h
  clear h
  go_enter Tryd.func23, Tryd.ntmps23
  go_wp2
  go_loopw [5, 6] (fun v i wr => ∃ k : Nat, k ≤ a.size ∧ i = .int .i64 k ∧ wr.ownsRow w.heap.size 5 1 v k (((xorL (nums a) (nums b)).take k).map (Value.int .u8)) ∧ Below w.heap.size w wr) (fun _ i _ => a.size - (intOf i).toNat)
  case atStart =>
    exact ⟨0, by omega, rfl, World.ownsRow_lit w #[] 0 (Nat.le_refl _) (Nat.zero_le _) rfl, (Below.refl _ _).alloc (Nat.le_refl _) _⟩
  case round =>
    obtain ⟨k, hk, rfl, hown, hnx⟩ := hrel
    have hsz := hnx.size
    by_cases hlt : k < a.size
    · have hlt2 : k < b.size := by have := HH.out; omega
      have hown' := hown.drew
      go_wp2
      go_region_law (refine step_append_one (w := wr.drew) 45 5 i0 _ 1 Tryd.underlying45 hi hz0 hz1 hz2 rfl _ _ rfl rfl rfl rfl rfl rfl hown' hsz (by omega) (by omega) ?_; intro v' w1 hown1 hb1)
      all_goals
        go_wp2
        go_roundw
        case rel =>
          refine ⟨k + 1, by omega, by go_num, ?_, (hnx.drew).trans hb1⟩
          rw [xorL_take _ _ k (by rw [nums_len]; exact hlt) (by rw [nums_len]; exact hlt2), nums_at a k hlt, nums_at b k hlt2, List.map_append]
          exact hown1
        case measure => simp [intOf]; omega
    · obtain rfl : k = a.size := by omega
      have hcv := owns_text (P := Tryd.prog) (src := 45) (dst := 9) hown Tryd.underlying45 Tryd.underlying5 Tryd.underlying9
      go_wp2
      go_ret
      have e1 : (xorL (nums a) (nums b)).take a.size = xorL (nums a) (nums b) := List.take_of_length_le (by rw [xorL_len _ _ (by rw [nums_len, nums_len]; exact HH.out), nums_len]; exact Nat.le_refl _)
      rw [e1]
      exact ⟨rfl, hnx⟩
end Go.Proofs.YtcoofoiaaljpoaaDoor
namespace Go.Proofs.YtcoofoiaaljpoaaDoor
open Go.ChangeShapes Go.WideShapes Go.ChangeAt Go.RowKit

theorem made_bytes (n : Nat) : (madeCells (Value.int .u8 0).cells (n * 1)).toList = (List.replicate n (0 : Int)).map (Value.int .u8) := by
  apply List.ext_getElem
  · simp [madeCells]
  · intro i h1 h2
    simp [madeCells, Value.cells, Nat.mod_one]
theorem fill_set (xs : List Int) (n k : Nat) (x : Int) (h : k < n) (hl : xs.length = n) (hx : xs.take (k + 1) = xs.take k ++ [x]) :
    (xs.take k ++ List.replicate (n - k) (0 : Int)).set k x = xs.take (k + 1) ++ List.replicate (n - (k + 1)) 0 := by
  have hk : (xs.take k).length = k := by rw [List.length_take]; omega
  rw [List.set_append_right _ _ (by omega), hk, Nat.sub_self, hx]
  obtain ⟨m, hm⟩ : ∃ m, n - k = m + 1 := ⟨n - k - 1, by omega⟩
  rw [hm, List.replicate_succ, List.set_cons_zero, show n - (k + 1) = m by omega, List.append_assoc, List.singleton_append]
def blockOkB (a b : ByteArray) : Bool := decide (a.size = b.size ∧ a.size ≤ 16)
def blockOf (a b : ByteArray) : ByteArray := if a.size = b.size ∧ a.size ≤ 16 then strOfNums (xorL (nums a) (nums b)) else ⟨#[]⟩
theorem block_yes {a b : ByteArray} (h : a.size = b.size ∧ a.size ≤ 16) : blockOf a b = strOfNums (xorL (nums a) (nums b)) ∧ blockOkB a b = true := ⟨if_pos h, decide_eq_true h⟩
theorem block_no {a b : ByteArray} (h : ¬ (a.size = b.size ∧ a.size ≤ 16)) : blockOf a b = ⟨#[]⟩ ∧ blockOkB a b = false := ⟨if_neg h, decide_eq_false h⟩
end Go.Proofs.YtcoofoiaaljpoaaDoor
namespace Go.Proofs.YtcoofoiaaljpoaaDoor
open Go.ChangeShapes Go.WideShapes Go.ChangeAt Go.RowKit

theorem xor_bd (x y : Int) : 0 ≤ bits .xor .u8 x y ∧ bits .xor .u8 x y ≤ 255 := by
  have h : bits .xor .u8 x y = IntKind.u8.wrap ((BitVec.ofInt 8 x ^^^ BitVec.ofInt 8 y).toNat : Int) := rfl
  rw [h, IntKind.wrap_u8']
  omega
def BytesL (xs : List Int) : Prop := ∀ x ∈ xs, 0 ≤ x ∧ x ≤ 255
theorem xorL_bytes (xs ys : List Int) : BytesL (xorL xs ys) := by
  intro x hx
  unfold xorL at hx
  rw [List.zipWith_eq_zipWith_take_min] at hx
  obtain ⟨i, hi, rfl⟩ := List.getElem_of_mem hx
  rw [List.getElem_zipWith]
  exact xor_bd _ _
theorem nums_str {xs : List Int} (h : BytesL xs) : nums (strOfNums xs) = xs := by
  unfold nums
  rw [strOfNums_data, List.map_map]
  conv => rhs; rw [← List.map_id xs]
  apply List.map_congr_left
  intro x hx
  have := h x hx
  simp
  omega
theorem str_size (xs : List Int) : (strOfNums xs).size = xs.length := strOfNums_size xs
theorem nums_bytes (s : ByteArray) : BytesL (nums s) := by
  intro x hx
  unfold nums at hx
  obtain ⟨c, -, rfl⟩ := List.mem_map.1 hx
  have := c.toNat_lt
  omega
end Go.Proofs.YtcoofoiaaljpoaaDoor
