/- Looks along a way, and a frame that is used no more. -/
import Derived.Test.YtnfjplmpaeiagaaPtM
namespace Go.Proofs.Ytnfjplmpaeiagaa
open Go.ChangeShapes Go.WideShapes Go.ChangeAt Go.RowKit Go.Sort Go.Shelf

/-- Looks at nodes, one behind the other. -/
def scanL (full : Bool) (house : Int) : List (Fin 8) → List Fr → List Fr × Option (Fin 8)
  | [], fs => (fs, none)
  | x :: xs, fs => match look full house (nth fs x) with
    | none => (fs, some x)
    | some f => scanL full house xs (fs.set x.val f)
theorem scanL_snoc (full : Bool) (house : Int) (x : Fin 8) : ∀ (pre : List (Fin 8)) (fs gs : List Fr), scanL full house pre fs = (gs, none) → scanL full house (pre ++ [x]) fs = match look full house (nth gs x) with
    | none => (gs, some x)
    | some f => (gs.set x.val f, none)
  | [], fs, gs, h => by
    cases h
    show scanL full house [x] fs = _
    unfold scanL
    cases look full house (nth fs x) <;> rfl
  | y :: pre, fs, gs, h => by
    unfold scanL at h
    show scanL full house (y :: (pre ++ [x])) fs = _
    unfold scanL
    cases hl : look full house (nth fs y) with
    | none => rw [hl] at h; cases h
    | some f => rw [hl] at h; exact scanL_snoc full house x pre _ gs h
theorem scanL_len (full : Bool) (house : Int) : ∀ (pre : List (Fin 8)) (fs : List Fr), (scanL full house pre fs).1.length = fs.length
  | [], _ => rfl
  | y :: pre, fs => by
    unfold scanL
    cases look full house (nth fs y) with
    | none => rfl
    | some f => exact (scanL_len full house pre _).trans (List.length_set)
theorem way_cons (p n : Nat) : way p (n + 1) = ⟨p % 8, Nat.mod_lt _ (by decide)⟩ :: way (p + 1) n := by
  simp only [way, List.range_succ_eq_map, List.map_cons, List.map_map, Nat.add_zero]
  congr 1
  apply List.map_congr_left
  intro i _
  simp only [Function.comp]
  congr 2
  omega
theorem scan_way (full : Bool) (house : Int) : ∀ (n p : Nat) (fs : List Fr), scan full house n p fs = ((scanL full house (way p n) fs).1, (scanL full house (way p n) fs).2.map Fin.val)
  | 0, p, fs => rfl
  | n + 1, p, fs => by
    rw [way_cons, scan_step]
    unfold scanL
    show _ = _
    have e : nth fs ⟨p % 8, Nat.mod_lt _ (by decide)⟩ = fs.getD (p % 8) Fr.no := rfl
    rw [e]
    cases look full house (fs.getD (p % 8) Fr.no) with
    | none => rfl
    | some f => exact scan_way full house n (p + 1) _
/-- What was found along a beginning of a way was found along all of it. -/
theorem scanL_found (full : Bool) (house : Int) (x : Fin 8) : ∀ (pre xs : List (Fin 8)) (fs gs : List Fr), scanL full house pre fs = (gs, none) → look full house (nth gs x) = none → scanL full house (pre ++ [x] ++ xs) fs = (gs, some x)
  | [], xs, fs, gs, h, hl => by
    cases h
    show scanL full house (x :: xs) fs = _
    unfold scanL
    rw [hl]
  | y :: pre, xs, fs, gs, h, hl => by
    unfold scanL at h
    show scanL full house (y :: (pre ++ [x] ++ xs)) fs = _
    unfold scanL
    cases hy : look full house (nth fs y) with
    | none => rw [hy] at h; cases h
    | some f => rw [hy] at h; exact scanL_found full house x pre xs _ gs h hl

theorem ndCells_set4 (ns : List Nd) (k : Nat) (n : Nd) (u : Bool) (hn : ns[k]? = some n) : (ndCells ns).set (k * 7 + 4) (.bool u) = ndCells (ns.set k ⟨⟨n.f.h, n.f.e, n.f.b, n.f.d, u⟩, n.p, n.x⟩) := by
  have hk : k < ns.length := (List.getElem?_eq_some_iff.1 hn).1
  apply List.ext_getElem?
  intro i
  by_cases hi : i < ns.length * 7
  · obtain ⟨m, j, hj, rfl⟩ : ∃ m j, j < 7 ∧ i = m * 7 + j := ⟨i / 7, i % 7, Nat.mod_lt _ (by omega), by omega⟩
    by_cases hm : m = k
    · subst hm
      rw [ndCells_at (ns.set m ⟨⟨n.f.h, n.f.e, n.f.b, n.f.d, u⟩, n.p, n.x⟩) m ⟨⟨n.f.h, n.f.e, n.f.b, n.f.d, u⟩, n.p, n.x⟩ (by simp [hk]) j hj]
      have hl := ndCells_len ns
      have e := ndCells_at ns m n hn
      match j, hj with
      | 0, _ => rw [List.getElem?_set_ne (by omega), e 0 (by omega)]; rfl
      | 1, _ => rw [List.getElem?_set_ne (by omega), e 1 (by omega)]; rfl
      | 2, _ => rw [List.getElem?_set_ne (by omega), e 2 (by omega)]; rfl
      | 3, _ => rw [List.getElem?_set_ne (by omega), e 3 (by omega)]; rfl
      | 4, _ => rw [List.getElem?_set_self (by rw [hl]; omega)]; rfl
      | 5, _ => rw [List.getElem?_set_ne (by omega), e 5 (by omega)]; rfl
      | 6, _ => rw [List.getElem?_set_ne (by omega), e 6 (by omega)]; rfl
    · have hf : (ns.set k ⟨⟨n.f.h, n.f.e, n.f.b, n.f.d, u⟩, n.p, n.x⟩)[m]? = some ns[m] := by rw [List.getElem?_set_ne (by omega), List.getElem?_eq_getElem (by omega)]
      rw [ndCells_at _ m ns[m] hf j hj, ← ndCells_at ns m ns[m] (List.getElem?_eq_getElem (by omega)) j hj]
      rw [List.getElem?_set_ne (by omega)]
  · rw [List.getElem?_eq_none (by simp [ndCells_len]; omega), List.getElem?_eq_none (by simp [ndCells_len]; omega)]
theorem NdsAt.unuse {w : World} {base g : Nat} {fs : List Fr} (h : NdsAt w base g (ring g fs)) (k : Nat) (f : Fr) (hf : fs[k]? = some f) (u : Bool) : NdsAt (w.setCell ⟨g, k * 7 + 4, none⟩ (.bool u)) base g (ring g (fs.set k ⟨f.h, f.e, f.b, f.d, u⟩)) := by
  unfold NdsAt
  have e := ndCells_set4 (ring g fs) k ⟨f, (k : Int), some ⟨g, (k + 1) % 8 * 7, none⟩⟩ u (ring_at g fs k f hf)
  rw [← ring_set, ← e]
  exact (World.ownsRow.stored h _ _).1

set_option maxHeartbeats 1000000 in
theorem stays_held (g base k : Nat) (fs : List Fr) (f : Fr) (w : World) (hN : NdsAt w base g (ring g fs)) (hf : fs[k]? = some f) (hd : 0 < f.d) :
    Calls Try.prog 56 #[.pointer (some ⟨g, k * 7, none⟩)] w fun e w' => e = .returned (.bool true) ∧ w' = w := by
  obtain ⟨-, -, -, c3, -, -, -⟩ := hN.cells k _ (ring_at g fs k f hf)
  dsimp only at c3
  clear hN
  go_enter Try.func56, Try.ntmps56
  go_wp2
  go_ret
  exact ⟨rfl, rfl⟩
set_option maxHeartbeats 1000000 in
theorem stays_free (g base k : Nat) (fs : List Fr) (f : Fr) (w : World) (hN : NdsAt w base g (ring g fs)) (hf : fs[k]? = some f) (hd : f.d ≤ 0) :
    Calls Try.prog 56 #[.pointer (some ⟨g, k * 7, none⟩)] w fun e w' => e = .returned (.bool f.u) ∧ w' = w.setCell ⟨g, k * 7 + 4, none⟩ (.bool false) := by
  obtain ⟨-, -, -, c3, c4, -, -⟩ := hN.cells k _ (ring_at g fs k f hf)
  have hz := hN.frozen
  dsimp only at c3 c4
  clear hN
  go_enter Try.func56, Try.ntmps56
  go_wp2
  go_ret
  exact ⟨rfl, rfl⟩
end Go.Proofs.Ytnfjplmpaeiagaa
