/- The law on a symbol that is learnt, out of both contracts. -/
import Derived.Test.YtegldmdcdnnegaaGreatDoorG43
namespace Go.Proofs.YtegldmdcdnnegaaGreatDoor
open Go.ChangeShapes Go.WideShapes Go.ChangeAt Go.RowKit Go.Sort Go.Shelf

theorem SamV.learnVG {es fs : List EqV} (h : SamV fs es) (row d : List Int) : learnV fs row d = learnV es row d := by
  unfold learnV
  rw [h.steps, vals_same.2 h]
theorem SamV.learnCG {es fs : List EqV} (h : SamV fs es) (row d : List Int) (n : Nat) : learnC fs row d n = learnC es row d n := by
  unfold learnC
  rw [h.steps]
theorem learnV_okG {c z : Int} {es : List EqV} {row d : List Int} (hp : solverP c z es) (hr : ascB (-1) c row = true) (hd : (d.length : Int) = z) : okV c z (learnV es row d) := by
  unfold learnV
  split
  · exact ok_vals.1 hp.2
  · rename_i h
    exact learn_ok hp.2 hp.1.1.2 hr hd h
theorem okV_smallG {c z : Int} {ks : List Vl} (h : okV c z ks) (hc : 0 ≤ c) (hc2 : c ≤ 24) (hz : z ≤ 16) : ks.length ≤ 1048576 ∧ ∀ k ∈ ks, k.1.length ≤ 1048576 ∧ k.2.size ≤ 1048576 :=
  ⟨by have := okV_24 h hc hc2; omega, fun k hk => by
    obtain ⟨h1, h2, -⟩ := h.1 k hk
    have := asc_len24 (asc_up h1 hc2)
    exact ⟨by omega, by omega⟩⟩
theorem SamV.getP {L S : Int} {ws gs : List Int} {C Z : Int} {es fs : List EqV} (h : SamV fs es) : getP L S ws gs C Z fs ↔ getP L S ws gs C Z es :=
  ⟨fun ⟨h1, h2, h3⟩ => ⟨h1, h.solver.1 h2, h3⟩, fun ⟨h1, h2, h3⟩ => ⟨h1, h.solver.2 h2, h3⟩⟩

theorem specGetAdd_any (L S : Int) (a1 a2 : Option Addr) (c1 c2 : Nat) (ws gs : List Int) (C Z : Int) (a : Option Addr) (cap : Nat) (es : List EqV) (id : Int) (data : ByteArray) (w : World) (h : GAt w a1 a2 a ws gs es) (hx : ws.length ≤ 1048576) (_hy : gs.length ≤ 1048576) (hl : es.length ≤ 1048576) (hsm : SmallE es) (hcap : ∀ e ∈ es, e.a = none → e.c = 0)
    (hg : getP L S ws gs C Z es) (vs : List Vl) (code : Int)
    (h3 : ¬ (0 ≤ id ∧ id ≤ 9999 ∧ (data.size : Int) = S) → vs = valsE es ∧ code = 3)
    (h4 : (0 ≤ id ∧ id ≤ 9999 ∧ (data.size : Int) = S) → vs = learnV es (rowI L S ws gs id) (numsOf data) ∧ code = learnC es (rowI L S ws gs id) (numsOf data) data.size) :
    Calls Tryz.prog 5 #[.agg #[.int .i64 L, .int .i64 S, .slice a1 ws.length c1, .slice a2 gs.length c2, .int .i64 C, .int .i64 Z, .slice a es.length cap], .int .i64 id, .string data] w fun e w' => GAddO w' w.heap.size L S C Z ws gs vs code false e ∧ Below w.heap.size w w' := by
  have hne1 : ws ≠ [] := fun h => by have := hg.1.2.1.1; rw [h] at this; simp at this
  have hne2 : gs ≠ [] := fun h => by have h1 := hg.1.2.1.1; have h2 := hg.1.2.2.2; rw [h] at h2; simp at h2; omega
  obtain ⟨x1, y1, rfl, g1⟩ := h.i1 hne1
  obtain ⟨x2, y2, rfl, g2⟩ := h.i2 hne2
  exact specGetAdd_yes L S x1 y1 x2 y2 c1 c2 ws gs C Z a cap es id data w h hl hsm hcap hg g1 g2 vs code h3 h4

theorem walk_FnExactGetAdd (cs0 : List Value) (id : Int) (data : ByteArray) (w : World) (w0 : Reads w 29 cs0) (_w1 : (Lit.int .i64 id).wf = true) (_w2 : data.size ≤ maxLen) (hT : Tab w) (hE : ErrT w) :
    Calls Tryz.prog 3 #[.agg cs0.toArray, .int .i64 id, .string data] w fun e w' => e = .returned (.bool true) ∧ Below w.heap.size w w' := by
  obtain ⟨L, S, a1, n1, k1, z1, a2, n2, k2, z2, C, Z, a, cap, es, rfl, r1, r2, ha, hl, hL⟩ := reads_getting w0
  have e1 := isRow_len r1
  have e2 := isRow_len r2
  have l1 := isRow_le r1
  have l2 := isRow_le r2
  have i1 := isRow_ints r1
  have i2 := isRow_ints r2
  obtain ⟨ws, hws⟩ : ∃ ws, z1.take n1 = ws := ⟨_, rfl⟩
  obtain ⟨gs, hgs⟩ : ∃ gs, z2.take n2 = gs := ⟨_, rfl⟩
  rw [hws] at e1 i1
  rw [hgs] at e2 i2
  subst e1 e2
  by_cases hdl : data.size ≤ 1048576
  · by_cases hp : getP L S ws gs C Z es
    · have c0 := hp.2.1.1.1.1
      by_cases hg : 0 ≤ id ∧ id ≤ 9999 ∧ (data.size : Int) = S
      · obtain ⟨ra, -⟩ := rowI_asc (id := id) hp.1 hg.1
        rw [← hp.2.2.1] at ra
        have hok := learnV_okG hp.2.1 ra (show ((numsOf data).length : Int) = Z by rw [numsOf_len, hg.2.2, hp.2.2.2])
        exact getAdd_of L S a1 a2 k1 k2 ws gs C Z a cap es id data L S C Z ws gs (learnV es (rowI L S ws gs id) (numsOf data)) (learnC es (rowI L S ws gs id) (numsOf data) data.size) w ⟨i1, i2, ha⟩ l1 l2 hl hL hdl hT hE
          (fun h1 _ _ => ⟨by omega, by omega, okV_smallG hok (by omega) hp.2.1.1.1.2 hp.2.1.1.2.2⟩)
          (fun p1 f1 p2 f2 a c' fs w h hs hx hl hsm hcap => specGetAdd_any L S p1 p2 f1 f2 ws gs C Z a c' fs id data w h (by omega) (by omega) hl hsm hcap (hs.getP.2 hp) _ _ (fun h => absurd hg h) (fun _ => ⟨(hs.learnVG _ _).symm, (hs.learnCG _ _ _).symm⟩))
          (fun p1 f1 p2 f2 a c' fs w h hs hx hl hsm hT hE => implGetAdd_any L S p1 p2 f1 f2 ws gs C Z a c' fs id data w h (by omega) (by omega) hl hsm hT hE _ _ _ _ _ _ _ _ (fun h => absurd (hs.getP.2 hp) h) (fun _ => ⟨rfl, rfl, rfl, rfl, rfl, rfl⟩) (fun _ h => absurd hg h) (fun _ _ => ⟨(hs.learnVG _ _).symm, (hs.learnCG _ _ _).symm⟩))
      · exact getAdd_of L S a1 a2 k1 k2 ws gs C Z a cap es id data L S C Z ws gs (valsE es) 3 w ⟨i1, i2, ha⟩ l1 l2 hl hL hdl hT hE
          (fun h1 h2 h3 => ⟨by omega, by omega, by simpa [valsE] using h2, fun k hk => by obtain ⟨e, he, rfl⟩ := List.mem_map.1 hk; exact h3 e he⟩)
          (fun p1 f1 p2 f2 a c' fs w h hs hx hl hsm hcap => specGetAdd_any L S p1 p2 f1 f2 ws gs C Z a c' fs id data w h (by omega) (by omega) hl hsm hcap (hs.getP.2 hp) _ _ (fun _ => ⟨(vals_same.2 hs).symm, rfl⟩) (fun h => absurd h hg))
          (fun p1 f1 p2 f2 a c' fs w h hs hx hl hsm hT hE => implGetAdd_any L S p1 p2 f1 f2 ws gs C Z a c' fs id data w h (by omega) (by omega) hl hsm hT hE _ _ _ _ _ _ _ _ (fun h => absurd (hs.getP.2 hp) h) (fun _ => ⟨rfl, rfl, rfl, rfl, rfl, rfl⟩) (fun _ _ => ⟨(vals_same.2 hs).symm, rfl⟩) (fun _ h => absurd h hg))
    · exact getAdd_of L S a1 a2 k1 k2 ws gs C Z a cap es id data 0 0 0 0 [] [] [] 3 w ⟨i1, i2, ha⟩ l1 l2 hl hL hdl hT hE
        (fun _ _ _ => ⟨by simp, by simp, by simp, fun k hk => by simp at hk⟩)
        (fun p1 f1 p2 f2 a c' fs w h hs hx hl hsm hcap => specGetAdd_no L S p1 p2 f1 f2 ws gs C Z a c' fs id data w h (by omega) (by omega) hl hsm (fun h => hp (hs.getP.1 h)))
        (fun p1 f1 p2 f2 a c' fs w h hs hx hl hsm hT hE => implGetAdd_any L S p1 p2 f1 f2 ws gs C Z a c' fs id data w h (by omega) (by omega) hl hsm hT hE _ _ _ _ _ _ _ _ (fun _ => ⟨rfl, rfl, rfl, rfl, rfl, rfl, rfl, rfl⟩) (fun h => absurd (hs.getP.1 h) hp) (fun h => absurd (hs.getP.1 h) hp) (fun h => absurd (hs.getP.1 h) hp))
  · have hd' : decide ((1048576 : Int) < (data.size : Int)) = true := decide_eq_true (by omega)
    have B := hid (u_b1 w (.cells #[.int .i64 L, .int .i64 S, .slice a1 ws.length k1, .slice a2 gs.length k2, .int .i64 C, .int .i64 Z, .slice a es.length cap] 29))
    clear hdl hT hE ha i1 i2
    go_enter Tryz.func3, Tryz.ntmps3
    go_wp2_with fail
    go_ret
    exact ⟨rfl, B.out⟩
end Go.Proofs.YtegldmdcdnnegaaGreatDoor
