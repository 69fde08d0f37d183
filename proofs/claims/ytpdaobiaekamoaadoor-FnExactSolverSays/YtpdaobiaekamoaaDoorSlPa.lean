/- Facts about rows and noughts, ahead of what the model says of a row. -/
import Derived.Test.YtpdaobiaekamoaaDoorSlK
import Derived.Test.YtpdaobiaekamoaaDoorPcZ
import Derived.Test.YtpdaobiaekamoaaDoorApr
import Derived.Test.YtpdaobiaekamoaaDoorFrq
namespace Go.Proofs.YtpdaobiaekamoaaDoor
open Go.ChangeShapes Go.WideShapes Go.ChangeAt Go.RowKit Go.Sort Go.Shelf

/-- A row that came, as news for an append. -/
theorem row_news {W : World} {ar : Option Addr} {row : List Int} {ad : Addr} (h : IntsAt W ar row) (had : ar = some ad) : ∀ j u, (row.map (Value.int .i64))[j]? = some u → W.cell? (ad.add j) = some u := by
  intro j u hj
  have hjl : j < row.length := by have := (List.getElem?_eq_some_iff.1 hj).1; simpa using this
  obtain ⟨b, o, rfl, hc⟩ := h (by intro e; simp [e] at hjl)
  obtain rfl := Option.some.inj had
  rw [addr_add, hc j hjl, ← hj]
  simp [List.getD, hjl]
theorem none_len {W : World} {ar : Option Addr} {row : List Int} (h : IntsAt W ar row) (hn : ar = none) : row.length = 0 := by
  rcases row with _ | ⟨x, xs⟩
  · rfl
  · obtain ⟨b, o, hb, -⟩ := h (by simp)
    rw [hn] at hb
    cases hb
theorem row_ones {row : List Int} : ∀ u ∈ row.map (Value.int .i64), u.oneCell' = true := by
  intro u hu
  obtain ⟨y, -, rfl⟩ := List.mem_map.1 hu
  rfl
theorem asc_up {lo hi hi' : Int} {xs : List Int} (h : ascB lo hi xs = true) (hh : hi ≤ hi') : ascB lo hi' xs = true := by
  induction xs generalizing lo with
  | nil => rfl
  | cons x r ih =>
    obtain ⟨h1, h2⟩ := asc_cons.1 h
    exact asc_cons.2 ⟨by omega, ih h2⟩
theorem rep_zero (n : Nat) : rep n (strOfNums [0]) = strOfNums (List.replicate n 0) := by
  induction n with
  | zero => rfl
  | succ n ih =>
    rw [rep, ih, List.replicate_succ]
    rfl
theorem zeros_bytes {n : Nat} : BytesL (List.replicate n 0) := fun x hx => by
  obtain rfl := List.eq_of_mem_replicate hx
  omega
theorem okRows {c : Int} {n : Nat} {es : List EqV} (h : solverP c n es) : OkRows es n := fun e he => by
  obtain ⟨i, hi, rfl⟩ := List.getElem_of_mem he
  have h1 := (okE_iff.1 h.2 i hi).1
  exact ⟨asc_up h1.1 h.1.1.2, h1.2.2, by have := h1.2.1; omega⟩
/-- Behind the call: what is left of the row says it. -/
theorem says_post {c : Int} {n : Nat} {es : List EqV} {row : List Int} {s : List Int × List Int} (hp : solverP c n es) (hr : ascB (-1) c row = true) (hs : s = es.foldl stepE (row, List.replicate n 0)) :
    (s.1 = [] → saysT c n es row = strOfNums s.2 ∧ decide (saysP c n es row) = true) ∧ (s.1 ≠ [] → saysT c n es row = ⟨#[]⟩ ∧ decide (saysP c n es row) = false) := by
  have e : saysS es n row = s := by rw [hs]; rfl
  constructor
  · intro h
    have hP : saysP c n es row := ⟨hp, hr, by rw [e]; exact h⟩
    exact ⟨by unfold saysT; rw [if_pos hP, e], decide_eq_true hP⟩
  · intro h
    have hP : ¬ saysP c n es row := fun k => h (by rw [← e]; exact k.2.2)
    exact ⟨by unfold saysT; rw [if_neg hP], decide_eq_false hP⟩
end Go.Proofs.YtpdaobiaekamoaaDoor
