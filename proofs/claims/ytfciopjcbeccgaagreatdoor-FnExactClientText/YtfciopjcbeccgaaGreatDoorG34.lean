/- What the model knows of equations. A text built of pieces: what a write into a strings.Builder does. A builder stays one where all that was there stays. A text many times. -/
import Derived.Test.YtfciopjcbeccgaaGreatDoorG20
import Derived.Test.YtfciopjcbeccgaaGreatDoorG19
import Derived.Test.YtfciopjcbeccgaaGreatDoorG33
import Derived.Test.YtfciopjcbeccgaaGreatDoorG0
import Derived.Lib.Builder
import Derived.Lib.Strings
import Derived.Shelf.Strings.Builder1
namespace Go.Proofs.YtfciopjcbeccgaaGreatDoor
open Go.ChangeShapes Go.WideShapes Go.ChangeAt Go.RowKit Go.Sort Go.Shelf
attribute [local go_sem] Oper.semAt_some

set_option maxHeartbeats 2000000 in
theorem l3Get_any (a : Option Addr) (cap : Nat) (es : List EqV) (c z at' : Int) (w : World) (ha : EqsAt w a es) (hsm : SmallE es) (hl : es.length ≤ 1048576) :
    Calls Tryz.prog 24 #[.agg #[.int .i64 c, .int .i64 z, .slice a es.length cap], .int .i64 at'] w fun e w' => e = .returned (.tuple #[.string (gotS (getE es at')), .bool (getE es at').isSome]) ∧ Below w.heap.size w w' := by
  have HA := hid (ha.below (u_b1 w (.cells #[.int .i64 c, .int .i64 z, .slice a es.length cap] 37)))
  have HS := hid hsm
  clear ha hsm
  go_enter Tryz.func24, Tryz.ntmps24
  go_wp2
  obtain ⟨W0, hW0⟩ : ∃ W0, W0 = w.alloc (.cells #[.int .i64 c, .int .i64 z, .slice a es.length cap] 37) := ⟨_, rfl⟩
  have X0 := laid w #[.int .i64 c, .int .i64 z, .slice a es.length cap] 37
  have HB := hid (u_b1 w (.cells #[.int .i64 c, .int .i64 z, .slice a es.length cap] 37))
  rw [← hW0] at X0 HB HA ⊢
  clear hW0
  have q2 := box_cell X0 2 (v := .slice a es.length cap) rfl
  clear X0
  go_loop [6] (fun i => ∃ k : Nat, k ≤ es.length ∧ i = .int .i64 k ∧ ∀ j (hj : j < es.length), j < k → es[j].r ≠ [at']) (fun i => es.length - (intOf i).toNat)
  case atStart => exact ⟨0, by omega, rfl, fun j hj h => by omega⟩
  case round =>
    obtain ⟨k, hk, rfl, hall⟩ := hrel
    have HL := hid hall
    clear hall
    by_cases hlt : k < es.length
    · obtain ⟨e, he⟩ : ∃ e, es[k] = e := ⟨_, rfl⟩
      have hel := (HS.out e (by rw [← he]; exact List.getElem_mem hlt)).1
      obtain ⟨b, off, rfl, hc⟩ := HA.out (by intro h; simp [h] at hlt)
      obtain ⟨c0, c1, crow⟩ := hc k e (by rw [List.getElem?_eq_getElem hlt, he])
      have HE := hid he
      clear he hc
      by_cases h1 : e.r.length = 1
      · have h1' : ((e.r.length : Int) == 1) = true := by simp [h1]
        have h1'' : (0 : Int) < e.r.length := by omega
        obtain ⟨rb, ro, hra, hrc⟩ := hd_cell crow (by intro h; simp [h] at h1)
        rw [hra] at c0
        by_cases h2 : hd e.r = at'
        · have h2' : (hd e.r == at') = true := by simpa using h2
          have HG := hid (show getE es at' = some e by
            rw [← HE.out]
            exact getE_at hlt (by rw [HE.out]; exact (one_row _ _).1 ⟨h1, h2⟩) (fun j hj => HL.out j (by omega) hj))
          clear h1 h2 crow
          generalize hd e.r = H at hrc h2'
          go_wp2
          go_ret2
          exact ⟨by rw [HG.out]; rfl, HB.out⟩
        · have h2' : (hd e.r == at') = false := by simpa using h2
          have HN := hid (show es[k].r ≠ [at'] by rw [HE.out]; exact fun h => h2 ((one_row _ _).2 h).2)
          clear h1 h2 crow
          generalize hd e.r = H at hrc h2'
          go_wp2
          go_round
          case rel => exact ⟨k + 1, by omega, by go_num, fun j hj hjk => (by
            rcases Nat.lt_succ_iff_lt_or_eq.1 hjk with h | h
            · exact HL.out j hj h
            · subst h; exact HN.out)⟩
          case measure => simp [intOf]; omega
      · have h1' : ((e.r.length : Int) == 1) = false := by simp; omega
        have HN := hid (show es[k].r ≠ [at'] by rw [HE.out]; exact fun h => h1 ((one_row _ _).2 h).1)
        clear h1 crow
        go_wp2
        go_round
        case rel => exact ⟨k + 1, by omega, by go_num, fun j hj hjk => (by
          rcases Nat.lt_succ_iff_lt_or_eq.1 hjk with h | h
          · exact HL.out j hj h
          · subst h; exact HN.out)⟩
        case measure => simp [intOf]; omega
    · have HG := hid (show getE es at' = none from getE_take_none (fun i hi => HL.out i hi (by omega)))
      go_wp2
      go_ret2
      exact ⟨by rw [HG.out]; rfl, HB.out⟩
set_option maxHeartbeats 2000000 in
theorem l3Prefix_any (a : Option Addr) (cap : Nat) (es : List EqV) (c z : Int) (w : World) (ha : EqsAt w a es) (hsm : SmallE es) (hl : es.length ≤ 1048576) (ho : okE c z es) :
    Calls Tryz.prog 23 #[.agg #[.int .i64 c, .int .i64 z, .slice a es.length cap]] w fun e w' => e = .returned (.int .i64 (pfx 0 (es.map EqV.r))) ∧ Below w.heap.size w w' := by
  have HA := hid ha
  have HS := hid hsm
  have HP := hid (prefix_known ho)
  have hpl : pfx 0 (es.map EqV.r) ≤ es.length := by
    have := (pfx_spec (es.map EqV.r) 0).2.1
    rw [List.length_map] at this
    omega
  clear ha hsm ho
  generalize pfx 0 (es.map EqV.r) = p at HP hpl
  go_enter Tryz.func23, Tryz.ntmps23
  go_wp2
  obtain ⟨W0, hW0⟩ : ∃ W0, W0 = w.alloc (.cells #[.int .i64 c, .int .i64 z, .slice a es.length cap] 37) := ⟨_, rfl⟩
  have X0 := laid w #[.int .i64 c, .int .i64 z, .slice a es.length cap] 37
  have HB := hid (u_b1 w (.cells #[.int .i64 c, .int .i64 z, .slice a es.length cap] 37))
  rw [← hW0] at X0 HB ⊢
  clear hW0
  go_loopw [3, 4, 5] (fun i _ _ wr => ∃ n : Nat, n ≤ p ∧ i = .int .i64 n ∧ wr.heap[w.heap.size]? = some (.cells #[.int .i64 c, .int .i64 z, .slice a es.length cap] 37 (0, 0)) ∧ Below w.heap.size w wr) (fun i _ _ _ => p - (intOf i).toNat)
  case atStart => exact ⟨0, by omega, rfl, X0, HB.out⟩
  case round =>
    clear X0 HB W0
    obtain ⟨n, hn, rfl, X, B⟩ := hrel
    have q0 := box_cell X 0 (v := .int .i64 c) rfl
    have q1 := box_cell X 1 (v := .int .i64 z) rfl
    have q2 := box_cell X 2 (v := .slice a es.length cap) rfl
    have K := hid (l3Get_any a cap es c z n wr (HA.out.below B) HS.out hl)
    have HX := hid X
    have HB := hid B
    clear X B
    by_cases hlt : n < p
    · rw [HP.out.1 n hlt] at K
      go_wp2_with (go_at_call 24; refine K.out.mono ?_; rintro e w2 ⟨rfl, b2⟩)
      go_roundw
      case rel => exact ⟨n + 1, by omega, by go_num, kept HX.out b2, u_cat HB.out b2⟩
      case measure => simp [intOf]; omega
    · obtain rfl : n = p := by omega
      rw [HP.out.2] at K
      simp only [Option.isSome_none, gotS] at K
      go_wp2_with (go_at_call 24; refine K.out.mono ?_; rintro e w2 ⟨rfl, b2⟩)
      go_ret
      exact ⟨rfl, u_cat HB.out b2⟩
end Go.Proofs.YtfciopjcbeccgaaGreatDoor
namespace Go.Proofs.YtfciopjcbeccgaaGreatDoor
open Go.ChangeShapes Go.WideShapes Go.ChangeAt Go.RowKit

theorem Tryz.bldSize : (Tryz.prog.info? 75).map (·.size) = some 2 := by kernel_rfl
theorem Tryz.bldLies : liesAt Tryz.prog Tryz.prog.depth 75 (2 / Tryz.prog.cellsOf 75) 0 75 1 = true := by kernel_rfl
theorem Tryz.bldByte : (Tryz.prog.info? 5).map (fun i => (i.zero, i.size, i.bytes)) = some (some (.int .u8 0), 1, 1) := by kernel_rfl

set_option maxHeartbeats 1000000 in
set_option maxRecDepth 100000 in
theorem copyCheck_used (b : Nat) (w : World) (h0 : w.cell? ⟨b, 0, none⟩ = some (.pointer (some ⟨b, 0, none⟩))) :
    Calls Tryz.prog 54 #[.pointer (some ⟨b, 0, none⟩)] w fun e w' => e = .returned (.tuple #[]) ∧ w' = w := by
  obtain ⟨j, hj, hjs⟩ := Option.map_eq_some_iff.1 Tryz.bldSize
  have hne := Lib.run_neq_ptr_same (P := Tryz.prog) w ⟨b, 0, none⟩ Tryz.underlying72 hj
  go_enter Tryz.func54, Tryz.ntmps54
  go_wp2
  go_end0
  exact ⟨rfl, rfl⟩

set_option maxHeartbeats 1000000 in
set_option maxRecDepth 100000 in
theorem copyCheck_fresh (b : Nat) (w : World) (h0 : w.cell? ⟨b, 0, none⟩ = some (.pointer none)) (hsh : w.shape? b = some (75, 2)) (hfz : w.frozen? ⟨b, 0, none⟩ = false) :
    Calls Tryz.prog 54 #[.pointer (some ⟨b, 0, none⟩)] w fun e w' => e = .returned (.tuple #[]) ∧ w' = w.setCell ⟨b, 0, none⟩ (.pointer (some ⟨b, 0, none⟩)) := by
  obtain ⟨j, hj, hjs⟩ := Option.map_eq_some_iff.1 Tryz.bldSize
  go_enter Tryz.func54, Tryz.ntmps54
  go_wp2
  rw [Lib.run_to_unsafe w ⟨b, 0, none⟩ Tryz.underlying72 Tryz.underlying123 hj (by rw [hjs]; decide) hsh (Nat.zero_lt_succ 1)]
  simp only [Result.andThen]
  rw [Oper.upon_value]
  go_wp2
  rw [run_callFunc_extern Tryz.func72 (by kernel_rfl) (by kernel_rfl) (by kernel_rfl) (e := Extern.AbiNoEscape.same) (by kernel_rfl)]
  rw [Lib.run_noEscape]
  simp only [Result.andThen]
  rw [Oper.upon_value]
  go_wp2
  rw [Lib.run_from_unsafe w ⟨b, 0, none⟩ Tryz.underlying123 Tryz.underlying72 hj hsh Tryz.bldLies]
  simp only [Result.andThen]
  rw [Oper.upon_value]
  go_wp2
  go_end0
  exact ⟨rfl, rfl⟩

theorem copyCheck_any (B b : Nat) (bs : List Value) (w : World) (h : Lib.IsBuilder 75 5 B b bs w) :
    Calls Tryz.prog 54 #[.pointer (some ⟨b, 0, none⟩)] w fun e w' => e = .returned (.tuple #[]) ∧ (Lib.BuilderAt 75 5 B b (.pointer (some ⟨b, 0, none⟩)) bs w' ∧ Below B w w') := by
  rcases h with h | h
  · refine (copyCheck_fresh b w h.cell0 h.shape h.frozen0).mono ?_
    rintro e w' ⟨rfl, rfl⟩
    exact ⟨rfl, h.used _, (Below.refl B w).setCell (p := ⟨b, 0, none⟩) h.1 _⟩
  · refine (copyCheck_used b w h.cell0).mono ?_
    rintro e w' ⟨rfl, rfl⟩
    exact ⟨rfl, h, Below.refl B _⟩

set_option maxHeartbeats 1000000 in
set_option maxRecDepth 100000 in
theorem writeString_any (B b : Nat) (bs : List Value) (s : ByteArray) (w : World) (h : Lib.IsBuilder 75 5 B b bs w) (hlen : bs.length + s.size ≤ 140737488355328) (hBw : B ≤ w.heap.size) :
    Calls Tryz.prog 34 #[.pointer (some ⟨b, 0, none⟩), .string s] w fun e w' => e = .returned (.tuple #[.int .i64 s.size, .nilIface]) ∧ (Lib.BuilderAt 75 5 B b (.pointer (some ⟨b, 0, none⟩)) (bs ++ Lib.strCells s) w' ∧ Below B w w') := by
  obtain ⟨i0, hi, hz0, hz1, hz2⟩ := info_parts Tryz.bldByte
  go_enter Tryz.func34, Tryz.ntmps34
  go_wp2_with (go_at_call 54; refine (copyCheck_any B b bs _ h).mono ?_)
  rintro e w1 ⟨rfl, h1, hb1⟩
  obtain ⟨hB, v, hbk, hown, hne⟩ := h1
  have c0 : w1.cell? ⟨b, 0, none⟩ = some (.pointer (some ⟨b, 0, none⟩)) := by rw [Lib.cell_of_heap hbk]; rfl
  have c1 : w1.cell? ⟨b, 1, none⟩ = some v := by rw [Lib.cell_of_heap hbk]; rfl
  go_wp2_with (at_builtin; refine Lib.wpList_append_own_string _ rfl _ _ 73 9 rfl B 5 i0 Tryz.underlying73 Tryz.underlying9 hi hz0 hz1 hz2 _ _ _ rfl hown s rfl ?c3 ?c4 ?c5 ?_)
  case c3 => unfold maxLen; omega
  case c4 => omega
  case c5 => have := hb1.size; omega
  intro v' w2 hown' hgrow _
  have hlt : b < w1.heap.size := by
    rcases Nat.lt_or_ge b w1.heap.size with h' | h'
    · exact h'
    · simp [Array.getElem?_eq_none h'] at hbk
  have hb2 : w2.heap[b]? = some (.cells #[.pointer (some ⟨b, 0, none⟩), v] 75 (0, 0)) := by
    rw [hgrow.block b hlt (fun e => hne e.symm)]
    exact hbk
  have d0 : w2.cell? ⟨b, 0, none⟩ = some (.pointer (some ⟨b, 0, none⟩)) := by rw [Lib.cell_of_heap hb2]; rfl
  have d1 : w2.cell? ⟨b, 1, none⟩ = some v := by rw [Lib.cell_of_heap hb2]; rfl
  have f1 : w2.frozen? ⟨b, 1, none⟩ = false := Lib.frozen_of_heap hb2 1
  obtain ⟨ao, n', cap, rfl⟩ : ∃ ao n' cap, v' = .slice ao n' cap := by
    rcases hown'.2 with ⟨hv, _⟩ | ⟨g, cap, cur, hv, _⟩
    · exact ⟨_, _, _, hv⟩
    · exact ⟨_, _, _, hv⟩
  go_wp2
  go_ret2
  refine ⟨rfl, ?_, ?_⟩
  · exact Lib.BuilderAt.put (T := 75) (e := 5) hB hb2 (bs' := bs ++ Lib.strCells s) (by simpa [Lib.strCells_length] using hown') (by decide)
  · exact (hb1.grown hgrow (by have := hb1.size; omega) (fun k hk => (hown.lt k hk).1)).setCell (p := ⟨b, 1, none⟩) hB _
end Go.Proofs.YtfciopjcbeccgaaGreatDoor
namespace Go.Proofs.YtfciopjcbeccgaaGreatDoor
open Go.ChangeShapes Go.WideShapes Go.ChangeAt Go.RowKit

theorem blB_below {T e : TypeId} {B b : Nat} {bs : List Value} {w w' : World} (h : Lib.IsBuilder T e B b bs w) (hb : Below w.heap.size w w') : Lib.IsBuilder T e B b bs w' := by
  rcases h with ⟨hB, v, hbk, hown, hne⟩ | ⟨hB, v, hbk, hown, hne⟩
  · exact .inl ⟨hB, v, kept hbk hb, owns_below hown hb, hne⟩
  · exact .inr ⟨hB, v, kept hbk hb, owns_below hown hb, hne⟩
theorem blF_below {T e : TypeId} {B b : Nat} {bs : List Value} {w w' : World} (h : Lib.IsBuilderF T e B b bs w) (hb : Below w.heap.size w w') : Lib.IsBuilderF T e B b bs w' := by
  have ow : ∀ {v : Value}, World.ownsRowF w B e 1 v bs.length bs → World.ownsRowF w' B e 1 v bs.length bs := fun {v} h => by
    obtain ⟨h1, h2⟩ := h
    refine ⟨h1, ?_⟩
    rcases h2 with h2 | ⟨g, cap, cur, hi, hv, hg, hh, r⟩
    · exact Or.inl h2
    · exact Or.inr ⟨g, cap, cur, hi, hv, hg, (hb.block g (lt_of_block hh)).trans hh, r⟩
  rcases h with ⟨hB, v, hbk, hown, hne⟩ | ⟨hB, v, hbk, hown, hne⟩
  · exact .inl ⟨hB, v, kept hbk hb, ow hown, hne⟩
  · exact .inr ⟨hB, v, kept hbk hb, ow hown, hne⟩
theorem bytes_app (l : List UInt8) (s : ByteArray) : Lib.byteCells l ++ Lib.strCells s = Lib.byteCells (l ++ s.data.toList) := by
  rw [Lib.byteCells_append]
  rfl
end Go.Proofs.YtfciopjcbeccgaaGreatDoor
namespace Go.Proofs.YtfciopjcbeccgaaGreatDoor
open Go.ChangeShapes Go.WideShapes Go.ChangeAt Go.RowKit

/-- A text n times. -/
def rep : Nat → ByteArray → ByteArray
  | 0, _ => ⟨#[]⟩
  | n + 1, s => s ++ rep n s
theorem ba_ext {a b : ByteArray} (h : a.data = b.data) : a = b := by cases a; cases b; simp_all
theorem ba_nil (s : ByteArray) : (⟨#[]⟩ : ByteArray) ++ s = s := by apply ba_ext; simp [ByteArray.data_append]
theorem ba_nil' (s : ByteArray) : s ++ (⟨#[]⟩ : ByteArray) = s := by apply ba_ext; simp [ByteArray.data_append]
theorem ba_assoc (a b c : ByteArray) : a ++ b ++ c = a ++ (b ++ c) := by apply ba_ext; simp [ByteArray.data_append, Array.append_assoc]
theorem rep_add (n m : Nat) (s : ByteArray) : rep (n + m) s = rep n s ++ rep m s := by
  induction n with
  | zero => rw [Nat.zero_add, rep, ba_nil]
  | succ n ih => rw [Nat.succ_add, rep, rep, ih, ba_assoc]
theorem rep_two (n : Nat) (s : ByteArray) : rep n (s ++ s) = rep (2 * n) s := by
  induction n with
  | zero => rfl
  | succ n ih => rw [rep, ih, show 2 * (n + 1) = (2 * n + 1) + 1 by omega, rep, rep, ba_assoc]
theorem rep_size (n : Nat) (s : ByteArray) : (rep n s).size = n * s.size := by
  induction n with
  | zero => rw [Nat.zero_mul]; rfl
  | succ n ih => rw [rep, ByteArray.size_append, ih, Nat.succ_mul]; omega
end Go.Proofs.YtfciopjcbeccgaaGreatDoor
