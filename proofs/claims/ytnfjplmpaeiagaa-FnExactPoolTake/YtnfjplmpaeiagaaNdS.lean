/- A frame stored into a node of the ring. -/
import Derived.Test.YtnfjplmpaeiagaaNdP
namespace Go.Proofs.Ytnfjplmpaeiagaa
open Go.ChangeShapes Go.WideShapes Go.ChangeAt Go.RowKit Go.Sort Go.Shelf

theorem ndCells_setF (ns : List Nd) (k : Nat) (n : Nd) (f : Fr) (hn : ns[k]? = some n) :
    (((((ndCells ns).set (k * 7) (.int .i64 f.h)).set (k * 7 + 1) (.int .i64 f.e)).set (k * 7 + 2) (.int .i64 f.b)).set (k * 7 + 3) (.int .i64 f.d)).set (k * 7 + 4) (.bool f.u) = ndCells (ns.set k ⟨f, n.p, n.x⟩) := by
  have hk : k < ns.length := (List.getElem?_eq_some_iff.1 hn).1
  apply List.ext_getElem?
  intro i
  by_cases hi : i < ns.length * 7
  · obtain ⟨m, j, hj, rfl⟩ : ∃ m j, j < 7 ∧ i = m * 7 + j := ⟨i / 7, i % 7, Nat.mod_lt _ (by omega), by omega⟩
    by_cases hm : m = k
    · subst hm
      rw [ndCells_at (ns.set m ⟨f, n.p, n.x⟩) m ⟨f, n.p, n.x⟩ (by simp [hk]) j hj]
      have hl := ndCells_len ns
      match j, hj with
      | 0, _ => simp [List.getElem?_set, Nd.cells, hl]; omega
      | 1, _ => simp [List.getElem?_set, Nd.cells, hl]; omega
      | 2, _ => simp [List.getElem?_set, Nd.cells, hl]; omega
      | 3, _ => simp [List.getElem?_set, Nd.cells, hl]; omega
      | 4, _ => simp [List.getElem?_set, Nd.cells, hl]; omega
      | 5, _ => rw [List.getElem?_set_ne (by omega), List.getElem?_set_ne (by omega), List.getElem?_set_ne (by omega), List.getElem?_set_ne (by omega), List.getElem?_set_ne (by omega), ndCells_at ns m n hn 5 (by omega)]; rfl
      | 6, _ => rw [List.getElem?_set_ne (by omega), List.getElem?_set_ne (by omega), List.getElem?_set_ne (by omega), List.getElem?_set_ne (by omega), List.getElem?_set_ne (by omega), ndCells_at ns m n hn 6 (by omega)]; rfl
    · have hf : (ns.set k ⟨f, n.p, n.x⟩)[m]? = some ns[m] := by rw [List.getElem?_set_ne (by omega), List.getElem?_eq_getElem (by omega)]
      rw [ndCells_at (ns.set k ⟨f, n.p, n.x⟩) m ns[m] hf j hj, ← ndCells_at ns m ns[m] (List.getElem?_eq_getElem (by omega)) j hj]
      rw [List.getElem?_set_ne (by omega), List.getElem?_set_ne (by omega), List.getElem?_set_ne (by omega), List.getElem?_set_ne (by omega), List.getElem?_set_ne (by omega)]
  · rw [List.getElem?_eq_none (by simp [ndCells_len]; omega), List.getElem?_eq_none (by simp [ndCells_len]; omega)]
theorem NdsAt.storeF {w : World} {base g : Nat} {fs : List Fr} (h : NdsAt w base g (ring g fs)) (k : Nat) (hk : k < 8) (f : Fr) :
    NdsAt (((((w.setCell ⟨g, k * 7, none⟩ (.int .i64 f.h)).setCell ⟨g, k * 7 + 1, none⟩ (.int .i64 f.e)).setCell ⟨g, k * 7 + 2, none⟩ (.int .i64 f.b)).setCell ⟨g, k * 7 + 3, none⟩ (.int .i64 f.d)).setCell ⟨g, k * 7 + 4, none⟩ (.bool f.u)) base g (ring g (fs.set k f)) := by
  have hl := h.len
  have hlf : fs.length = 8 := by rwa [ring_len] at hl
  unfold NdsAt
  rw [← ring_set, ← ndCells_setF (ring g fs) k ⟨fs[k], (k : Int), some ⟨g, (k + 1) % 8 * 7, none⟩⟩ f (ring_at g fs k fs[k] (List.getElem?_eq_getElem (by omega)))]
  exact (World.ownsRow.stored (World.ownsRow.stored (World.ownsRow.stored (World.ownsRow.stored (World.ownsRow.stored h _ _).1 _ _).1 _ _).1 _ _).1 _ _).1
/-- What keeps a ring's way. -/
def KeepsWay (g : Nat) (W W' : World) : Prop := Leads W g → Leads W' g
theorem keepsWay_t {g : Nat} {A B C : World} (h : KeepsWay g A B) (k : KeepsWay g B C) : KeepsWay g A C := fun x => k (h x)
theorem keepsWay_b {g n : Nat} (W : World) (l : Nat) (o o' : Obj) (_ : n ≤ l) (h : W.heap[l]? = some o) (hc : o.isCells = false) (_ : o.isWalk = false) : KeepsWay g W (W.putObj l o') :=
  fun hL k hk => cell_kept (hL k hk) (grownBy_putObj' W l o') (fun r e => by cases e; exact ⟨_, h, hc⟩)
/-- The editions of the nodes that came are dropped. -/
def dropP (d : Fr → Fr) (fs : List Fr) (pre : List (Fin 8)) : List Fr := pre.foldl (fun acc x => acc.set x.val (d (nth acc x))) fs
theorem dropP_snoc (d : Fr → Fr) (fs : List Fr) (pre : List (Fin 8)) (x : Fin 8) : dropP d fs (pre ++ [x]) = (dropP d fs pre).set x.val (d (nth (dropP d fs pre) x)) := by simp [dropP, List.foldl_append]
theorem dropP_len (d : Fr → Fr) (fs : List Fr) (pre : List (Fin 8)) : (dropP d fs pre).length = fs.length := by
  induction pre generalizing fs with
  | nil => rfl
  | cons x pre ih =>
    have := ih (fs.set x.val (d (nth fs x)))
    simp only [dropP, List.foldl_cons] at this ⊢
    rw [this, List.length_set]
theorem dropP_all (d : Fr → Fr) {fs : List Fr} (h8 : fs.length = 8) : dropP d fs (way 0 8) = fs.map d := by
  match fs, h8 with
  | [_, _, _, _, _, _, _, _], _ => rfl
theorem dropP_same (d : Fr → Fr) {fs : List Fr} (h8 : fs.length = 8) (pre : List (Fin 8)) (x : Fin 8) (h : d (nth (dropP d fs pre) x) = nth (dropP d fs pre) x) : dropP d fs (pre ++ [x]) = dropP d fs pre := by
  rw [dropP_snoc, h]
  apply List.ext_getElem?
  intro i
  by_cases hi : x.val = i
  · subst hi
    rw [List.getElem?_set_self (by rw [dropP_len, h8]; exact x.isLt), nth_at (by rw [dropP_len, h8])]
  · rw [List.getElem?_set_ne hi]
end Go.Proofs.Ytnfjplmpaeiagaa
