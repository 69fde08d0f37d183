/- An append of one element to a row that may bear a mark behind its end. -/
import Derived.Test.YtnjjdcalmgjaiaaDoorHsA
import Derived.Lib.ConvBytes
import Derived.Lib.FrozenHead2
namespace Go.Proofs.YtnjjdcalmgjaiaaDoor
open Go.ChangeShapes Go.WideShapes Go.ChangeAt Go.RowKit

/-- A row that the call owns; what is marked of its block lies behind it. -/
def OwnM (w : World) (base : Nat) (e : TypeId) (v : Value) (n : Nat) (xs : List Value) : Prop :=
  xs.length = n ∧ ∃ g cap cur, ∃ fz : Nat × Nat, v = .slice (some ⟨g, 0, none⟩) n cap ∧ base ≤ g ∧ w.heap[g]? = some (.cells cur e fz) ∧ (cur.size ≤ fz.1 ∨ fz.2 = 0) ∧ n ≤ cap ∧ cap ≤ maxLen ∧ cur.size = cap ∧ cur.toList.take n = xs
theorem OwnM.lt {w : World} {base : Nat} {e : TypeId} {v : Value} {n : Nat} {xs : List Value} (h : OwnM w base e v n xs) : ∀ k, v.ownBlock = some k → base ≤ k ∧ k < w.heap.size := by
  obtain ⟨_, g, cap, cur, fz, rfl, hb, hg, _⟩ := h
  intro k hk
  cases hk
  exact ⟨hb, lt_of_block hg⟩
theorem OwnM.below {w w' : World} {base : Nat} {e : TypeId} {v : Value} {n : Nat} {xs : List Value} (h : OwnM w base e v n xs) (hb : Below w.heap.size w w') : OwnM w' base e v n xs := by
  obtain ⟨hl, g, cap, cur, fz, hv, hg, hx, r⟩ := h
  exact ⟨hl, g, cap, cur, fz, hv, hg, kept hx hb, r⟩
theorem OwnM.cell {w : World} {base : Nat} {e : TypeId} {v : Value} {n : Nat} {xs : List Value} (h : OwnM w base e v n xs) : ∃ g cap, v = .slice (some ⟨g, 0, none⟩) n cap ∧ base ≤ g ∧ n ≤ cap ∧ cap ≤ maxLen ∧ ∀ j u, xs[j]? = some u → w.cell? ⟨g, j, none⟩ = some u := by
  obtain ⟨hl, g, cap, cur, fz, rfl, hb, hg, hf, hn, hc, hs, ht⟩ := h
  refine ⟨g, cap, rfl, hb, hn, hc, fun j u hu => ?_⟩
  rw [cell_of_row w g j cur e fz hg]
  rw [← ht, List.getElem?_take] at hu
  split at hu
  · simpa using hu
  · cases hu
theorem append_roomM {P : Program} (w : World) (t ty e : TypeId) (i : TypeInfo) (ht : P.underlying t = some (.slice e)) (hi : P.info? e = some i) (hs1 : i.size = 1)
    (g n cap : Nat) (cur : Array Value) (fz : Nat × Nat) (hg : w.heap[g]? = some (.cells cur e fz)) (hf : cur.size ≤ fz.1 ∨ fz.2 = 0) (hroom : n + 1 ≤ cap) (hcs : cur.size = cap)
    (b c : Nat) (u : Value) (hb : w.cell? ⟨b, 0, none⟩ = some u) (hu : u.oneCell' = true) :
    (Builtin.append_ #[t, t] ty #[.slice (some ⟨g, 0, none⟩) n cap, .slice (some ⟨b, 0, none⟩) 1 c]).run P w = .ok (.slice (some ⟨g, 0, none⟩) (n + 1) cap) (w.setRow g (cur.setIfInBounds n u)) := by
  have hfc := run_firstCells_some (P := P) w i.size 1 ⟨b, 0, none⟩ 1 c [u] (by simp [hs1]) (fun j v hj => by
    match j, hj with
    | 0, hj => simp at hj; subst hj; simpa [Addr.add] using hb)
  have hcell : w.cell? ⟨g, n, none⟩ = some cur[n] := by simp [World.cell?, hg, show n < cur.size by omega]
  have hfro : w.frozen? ⟨g, n, none⟩ = false := by
    obtain ⟨lo, hh⟩ := fz
    simp only [World.frozen?, hg, Bool.and_eq_false_iff, decide_eq_false_iff_not]
    simp only at hf
    omega
  have hst : (storeCells ⟨g, n, none⟩ [u] 0).run P w = .ok () (w.setRow g (cur.setIfInBounds n u)) := by
    have h0 : (⟨g, n, none⟩ : Addr).add 0 = ⟨g, n, none⟩ := by simp [Addr.add]
    simp only [storeCells, Sem.run_bind, h0, run_store P w _ u _ hu, hcell]
    simp [hfro, setCell_eq_setRow w g n cur e fz u hg]
  rw [hs1] at hfc
  simp [Builtin.append_, run_underlying ht, sizeOf, typeInfo, hi, Builtin.lenOf, hroom, hfc, Addr.add_lit, hst, hs1]
/-- 'out = append(out, x)', x laid in a block of its own just before. -/
theorem append_oneM {P : Program} {w : World} {ops : Array Oper} {rest : List Oper} {o : Oper} {a : Act} {Q : Exit → Act → World → Prop} (t e : TypeId) (i : TypeInfo) (z : Value) (bytes : Nat)
    (ht : P.underlying t = some (.slice e)) (hi : P.info? e = some i) (hz : i.zero = some z) (hz1 : i.size = 1) (hz2 : i.bytes = bytes) (hzs : z.cells.size = 1)
    {base n g : Nat} {v u : Value} {xs : List Value} (s x : Operand) (hgd : o.guard = none) (ho : o.op = .call { callee := .builtin .append, args := #[s, x], argTypes := #[t, t] })
    (hs : a.eval s = v) (hx : a.eval x = .slice (some ⟨g, 0, none⟩) 1 1) (hg : g = w.heap.size) (hu : u.oneCell' = true)
    (hown : OwnM w base e v n xs) (hbs : base ≤ w.heap.size) (hbd : (n + 1) * bytes ≤ 140737488355328) (hml : n + 1 ≤ 1099511627776)
    (h : ∀ v' w', OwnM w' base e v' (n + 1) (xs ++ [u]) → Below base w w' → wpList P ops Q rest (a.put o.dst v') w') :
    wpList P ops Q (o :: rest) a (w.alloc (.cells #[u] e)) := by
  subst hg
  obtain ⟨hl, g, cap, cur, fz, rfl, hbg, hgg, hf, hnc, hcm, hcs, htake⟩ := hown
  have hlt := lt_of_block hgg
  have hgg' : (w.alloc (.cells #[u] e)).heap[g]? = some (.cells cur e fz) := (Below.heap_alloc _ _ _ (by omega)).trans hgg
  have hbc : (w.alloc (.cells #[u] e)).cell? ⟨w.heap.size, 0, none⟩ = some u := by simp
  have key : ∃ v' w', (Builtin.append_ #[t, t] o.type #[.slice (some ⟨g, 0, none⟩) n cap, .slice (some ⟨w.heap.size, 0, none⟩) 1 1]).run P (w.alloc (.cells #[u] e)) = .ok v' w' ∧ OwnM w' base e v' (n + 1) (xs ++ [u]) ∧ Below base w w' := by
    by_cases hroom : n + 1 ≤ cap
    · refine ⟨_, _, append_roomM _ t o.type e i ht hi hz1 g n cap cur fz hgg' hf hroom hcs w.heap.size 1 u hbc hu, ⟨by simp [hl], g, cap, _, fz, rfl, hbg, setRow_heap _ g cur _ e _ hgg', by simpa using hf, hroom, hcm, by simp [hcs], ?_⟩, ?_⟩
      · rw [Array.toList_setIfInBounds, ← htake]
        apply List.ext_getElem?
        intro k
        simp only [List.getElem?_take, List.getElem?_set, List.getElem?_append, List.length_take, Array.length_toList, List.getElem?_cons]
        rcases Nat.lt_trichotomy k n with h1 | h1 | h1
        · simp [h1, show k < n + 1 by omega, show n ≠ k by omega, show k < min n cur.size by omega]
        · subst h1; simp [show k < cur.size by omega, show ¬ k < min k cur.size by omega, show k - min k cur.size = 0 by omega]
        · simp [show ¬ k < n + 1 by omega, show ¬ k < min n cur.size by omega, show k - min n cur.size ≠ 0 by omega]
      · refine ⟨rfl, rfl, rfl, by simp [World.setRow], fun k hk => ?_⟩
        rw [setRow_other _ g k _ (by omega)]
        exact Below.heap_alloc _ _ _ (by omega)
    · have holds : ∀ j v, xs[j]? = some v → (w.alloc (.cells #[u] e)).cell? ((⟨g, 0, none⟩ : Addr).add j) = some v := fun j v hv => by
        have hadd : (⟨g, 0, none⟩ : Addr).add j = ⟨g, j, none⟩ := by unfold Addr.add; split <;> simp_all
        rw [hadd, cell_of_row _ g j cur e fz hgg']
        rw [← htake, List.getElem?_take] at hv
        split at hv
        · simpa using hv
        · cases hv
      have hr := run_append_grow (P := P) (w.alloc (.cells #[u] e)) t o.type e i z ht hi hz ⟨g, 0, none⟩ n cap xs (by simp [hl, hz1]) holds ⟨w.heap.size, 0, none⟩ 1 1 [u] (by simp [hz1]) (fun j v hj => by
        match j, hj with
        | 0, hj => simp at hj; subst hj; simp [Addr.add]) (by omega) (by omega) (growslice_fits (by omega) (by rw [hz2]; exact hbd))
      have hge := grownCap_ge (w.alloc (.cells #[u] e)) (n + 1) cap e
      have hcm2 : grownCap (w.alloc (.cells #[u] e)) (n + 1) cap e ≤ maxLen := grownCap_le_maxLen _ (n + 1) cap e (by unfold maxLen; omega)
      refine ⟨_, _, hr, ⟨by simp [hl], (w.alloc (.cells #[u] e)).heap.size, _, _, (0, 0), rfl, by simp; omega, heap_alloc_new (w.alloc (.cells #[u] e)).drew _, .inr rfl, hge, hcm2, ?_, ?_⟩, ?_⟩
      · simp only [Array.size_append, List.size_toArray, size_zeroCells, hzs, hl, List.length_cons, List.length_nil]
        omega
      · simp only [Array.toList_append, List.append_assoc]
        rw [← List.append_assoc, show n + 1 = (xs ++ [u]).length by simp [hl]]
        exact List.take_left
      · exact (((Below.refl _ _).alloc hbs _).drew).alloc (by simp; omega) _
  obtain ⟨v', w', hr, h2, h3⟩ := key
  refine wpList_plain hgd fun K hK => ?_
  unfold Oper.wp execOp
  simp only [ho, resolve, invoke, builtin, Sem.run_bind, Sem.run_pure, Result.andThen_ok, List.map_toArray, List.map_cons, List.map_nil, hs, hx, hr]
  exact hK _ _ (h v' w' h2 h3)
/-- The bytes of a text, laid anew. -/
theorem bytesM (w : World) (e : TypeId) (s : ByteArray) (hs : s.size ≤ 1099511627776) : OwnM (Go.Lib.bytesWorld w e s) w.heap.size e (.slice (some ⟨w.heap.size, 0, none⟩) s.size (grownCap w s.size 0 e)) s.size ((nums s).map (.int .u8)) := by
  have hge := grownCap_ge w s.size 0 e
  refine ⟨by simp [nums_len], w.heap.size, _, _, _, rfl, Nat.le_refl _, Go.Lib.bytesWorld_at_new w e s, .inl (Nat.le_refl _), hge, grownCap_le_maxLen w s.size 0 e (by unfold maxLen; omega), ?_, ?_⟩
  · simp [Go.Lib.bytesCells]
    have : s.data.size = s.size := rfl
    omega
  · have : s.data.toList.length = s.size := by simp
    simp only [Go.Lib.bytesCells, Array.toList_append, Array.toList_map]
    rw [List.take_append_of_le_length (by simp)]
    rw [List.take_of_length_le (by simp)]
    simp [nums, Function.comp_def]
theorem bytesM_below (w : World) (e : TypeId) (s : ByteArray) : Below w.heap.size w (Go.Lib.bytesWorld w e s) :=
  ⟨rfl, rfl, rfl, by rw [Go.Lib.bytesWorld_size]; exact Nat.le_succ _, fun k hk => Go.Lib.bytesWorld_at_old w e s k hk⟩
end Go.Proofs.YtnjjdcalmgjaiaaDoor
