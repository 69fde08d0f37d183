/- The beginning of a thing that is known, by the program and by the model. -/
import Derived.Test.YtfciopjcbeccgaaGreatDoorG24
import Derived.Test.YtfciopjcbeccgaaGreatDoorG33
import Derived.Test.YtfciopjcbeccgaaGreatDoorG34
import Derived.Test.YtfciopjcbeccgaaGreatDoorG35
import Derived.Deep.RegionWith
namespace Go.Proofs.YtfciopjcbeccgaaGreatDoor
open Go.ChangeShapes Go.WideShapes Go.ChangeAt Go.RowKit Go.Sort Go.Shelf
attribute [local go_sem] Oper.semAt_some

/-- The first blocks together. -/
def txtE (es : List EqV) : Nat → ByteArray
  | 0 => ⟨#[]⟩
  | n + 1 => txtE es n ++ gotS (getE es n)
theorem gotS_size {c z : Int} {es : List EqV} (h : okE c z es) (hz0 : 0 ≤ z) (hz : z ≤ 16) (k : Int) : (gotS (getE es k)).size ≤ 16 := by
  cases hg : getE es k with
  | none => show (0 : Nat) ≤ 16; omega
  | some e =>
    have hm : e ∈ es := by unfold getE at hg; exact List.mem_of_find?_eq_some hg
    obtain ⟨i, hi, rfl⟩ := List.getElem_of_mem hm
    have := ((okE_iff.1 h) i hi).1.2.1
    show es[i].d.size ≤ 16
    omega
theorem txtE_size {es : List EqV} (h : ∀ k : Int, (gotS (getE es k)).size ≤ 16) : ∀ n, (txtE es n).size ≤ 16 * n
  | 0 => Nat.le_refl _
  | n + 1 => by
    have h1 := txtE_size h n
    have h2 := h n
    show (txtE es n ++ gotS (getE es n)).size ≤ _
    rw [ByteArray.size_append]
    omega
theorem txtE_list (es : List EqV) (n : Nat) : (txtE es (n + 1)).data.toList = (txtE es n).data.toList ++ (gotS (getE es n)).data.toList := by
  show (txtE es n ++ gotS (getE es n)).data.toList = _
  rw [ByteArray.data_append, Array.toList_append]
/-- What is known of the thing: so many blocks, and not more than it is long. -/
def cutT (t : ByteArray) (L : Int) : ByteArray := if L < t.size then t.extract 0 L.toNat else t
theorem ext_all (t : ByteArray) : t.extract 0 t.size = t := by
  apply ba_ext
  rw [ByteArray.data_extract]
  exact Array.extract_size
theorem cutT_min (t : ByteArray) (L : Int) (_h : 0 ≤ L) : t.extract 0 (min (t.size : Int) L).toNat = cutT t L := by
  unfold cutT
  by_cases hl : L < (t.size : Int)
  · rw [if_pos hl, show min (t.size : Int) L = L by omega]
  · rw [if_neg hl, show min (t.size : Int) L = (t.size : Int) by omega, Int.toNat_natCast, ext_all]
def textOf (L S : Int) (ws gs : List Int) (C Z : Int) (es : List EqV) : ByteArray := if getP L S ws gs C Z es then cutT (txtE es (pfx 0 (es.map EqV.r))) L else ⟨#[]⟩
set_option maxHeartbeats 8000000 in
set_option maxRecDepth 100000 in
theorem implGetText_any (L S : Int) (a1 a2 : Option Addr) (c1 c2 : Nat) (ws gs : List Int) (C Z : Int) (a : Option Addr) (cap : Nat) (es : List EqV) (w : World) (ha1 : IntsAt w a1 ws) (ha2 : IntsAt w a2 gs) (hx : ws.length ≤ 1048576) (hy : gs.length ≤ 1048576) (ha : EqsAt w a es) (hl : es.length ≤ 1048576) (hsm : SmallE es) (hT : Tab w) :
    Calls Tryz.prog 14 #[.agg #[.int .i64 L, .int .i64 S, .slice a1 ws.length c1, .slice a2 gs.length c2, .int .i64 C, .int .i64 Z, .slice a es.length cap]] w fun e w' => e = .returned (.string (textOf L S ws gs C Z es)) ∧ Below w.heap.size w w' := by
  have HA := hid ha
  have HS := hid hsm
  have HT := hid hT
  have H1 := hid ha1
  have H2 := hid ha2
  clear ha hsm hT ha1 ha2
  have B0 := hid (u_b1 w (.cells #[.int .i64 L, .int .i64 S, .slice a1 ws.length c1, .slice a2 gs.length c2, .int .i64 C, .int .i64 Z, .slice a es.length cap] 39))
  have X0 := hid (laid w #[.int .i64 L, .int .i64 S, .slice a1 ws.length c1, .slice a2 gs.length c2, .int .i64 C, .int .i64 Z, .slice a es.length cap] 39)
  go_enter Tryz.func14, Tryz.ntmps14
  go_wp2_with fail
  refine (known_any L S a1 a2 c1 c2 ws gs C Z a cap es _ (H1.out.below B0.out) (H2.out.below B0.out) hx hy (HA.out.below B0.out) hl HS.out (HT.out.below B0.out)).mono ?_
  rintro e w1 ⟨bb, ⟨hg, ls, b1, d1, b2, d2, rfl, -, -, -, -, -⟩ | ⟨hg, rfl⟩⟩
  · have HG := hid hg
    have HW := hid (show textOf L S ws gs C Z es = cutT (txtE es (pfx 0 (es.map EqV.r))) L from if_pos hg)
    have hL1 := hg.1.1.1
    have hL2 := hg.1.1.2.1
    have HZ := hid (gotS_size hg.2.1.2 (by have := hg.2.1.1.2; omega) hg.2.1.1.2.2)
    have X := hid (kept X0.out bb)
    have B := hid (u_cat B0.out bb)
    clear hg bb X0 B0
    repeat ((fail_if_success (with_reducible show Code.wp _ (Code.region 4 _ _) _ _ _)); (first | go_values | go_skip | go_guarded | go_step | go_upon | go_back | go_simp))
    obtain ⟨V, hV⟩ : ∃ V, V = w1.alloc (.cells #[.int .i64 L, .int .i64 S, .slice b1 ws.length d1, .slice b2 gs.length d2, .int .i64 C, .int .i64 Z, .pointer (ptrOf ls)] 69) := ⟨_, rfl⟩
    have bv : Below w1.heap.size w1 V := by rw [hV]; exact u_b1 _ _
    have HV := hid (show V.heap[w1.heap.size]? = some (.cells #[.int .i64 L, .int .i64 S, .slice b1 ws.length d1, .slice b2 gs.length d2, .int .i64 C, .int .i64 Z, .pointer (ptrOf ls)] 69 (0, 0)) by rw [hV]; exact laid _ _ _)
    rw [← hV]
    clear hV
    replace X := hid (kept X.out bv)
    replace B := hid (u_cat B.out bv)
    clear bv
    repeat ((fail_if_success (with_reducible show Code.wp _ (Code.region 5 _ _) _ _ _)); (first | go_values | go_skip | go_guarded | go_step | go_upon | go_back | go_simp))
    obtain ⟨U, hU⟩ : ∃ U, U = V.alloc (.cells #[.pointer none, .slice none 0 0] 75) := ⟨_, rfl⟩
    have bu : Below V.heap.size V U := by rw [hU]; exact u_b1 _ _
    have BD := hid (show Lib.IsBuilder 75 5 V.heap.size V.heap.size [] U by rw [hU]; exact Lib.fresh_isBuilder 75 5 V)
    have hus : U.heap.size = V.heap.size + 1 := by rw [hU]; simp
    rw [← hU]
    clear hU
    have hvs := lt_of_block HV.out
    have HXV := hid X.out
    have HBV := hid B.out
    replace X := hid (kept X.out bu)
    replace B := hid (u_cat B.out bu)
    have q4 := box_cell X.out 4 (v := .int .i64 C) rfl
    have q5 := box_cell X.out 5 (v := .int .i64 Z) rfl
    have q6 := box_cell X.out 6 (v := .slice a es.length cap) rfl
    have K := hid (implSolverPrefix_any a cap es C Z U (HA.out.below B.out) HS.out hl (HT.out.below B.out))
    rw [eqsOf_yes HG.out.2.1] at K
    go_wp2_with fail
    refine K.out.mono ?_
    rintro e w2 ⟨rfl, bb⟩
    have BD2 := hid (blB_below BD.out bb)
    have BB2 := hid (bu.trans (bb.mono (by omega)))
    have hp24 : pfx 0 (es.map EqV.r) ≤ 24 := by
      have h1 := pfx_spec (es.map EqV.r) 0
      have h2 := okE_24 HG.out.2.1.2 (by have := HG.out.2.1.1.1; omega) HG.out.2.1.1.1.2
      rw [List.length_map] at h1
      omega
    clear bb q4 q5 q6 K X B BD bu
    obtain ⟨P, hP⟩ : ∃ P, P = pfx 0 (es.map EqV.r) := ⟨_, rfl⟩
    rw [← hP] at HW hp24 ⊢
    clear hP
    go_wp2_with fail
    go_loopw [19] (fun i wr => ∃ k : Nat, k ≤ P ∧ i = .int .i64 k ∧ Lib.IsBuilder 75 5 V.heap.size V.heap.size (Lib.byteCells (txtE es k).data.toList) wr ∧ Below V.heap.size V wr) (fun i _ => P - (intOf i).toNat)
    case atStart => exact ⟨0, Nat.zero_le _, rfl, BD2.out, BB2.out⟩
    case round =>
      obtain ⟨k, hk, rfl, hbd, hbw⟩ := hrel
      have BD := hid hbd
      have BW := hid hbw
      have X := hid (kept HXV.out hbw)
      have KV := hid (kept HV.out hbw)
      have B := hid (u_cat HBV.out hbw)
      clear hbd hbw
      by_cases hlt : k < P
      · have q4 := box_cell X.out 4 (v := .int .i64 C) rfl
        have q5 := box_cell X.out 5 (v := .int .i64 Z) rfl
        have q6 := box_cell X.out 6 (v := .slice a es.length cap) rfl
        have K := hid (implSolverGet_any a cap es C Z k wr (HA.out.below B.out) HS.out hl (HT.out.below B.out))
        rw [eqsOf_yes HG.out.2.1] at K
        have hz := HZ.out k
        have hts := txtE_size HZ.out k
        have HN := hid (txtE_list es k)
        obtain ⟨s, hs⟩ : ∃ s, s = gotS (getE es k) := ⟨_, rfl⟩
        rw [← hs] at K hz HN
        have hlen : (Lib.byteCells (txtE es k).data.toList).length + s.size ≤ 140737488355328 := by
          rw [Lib.byteCells_length]
          have : (txtE es k).data.toList.length = (txtE es k).size := by rw [Array.length_toList]; rfl
          omega
        have HLN := hid hlen
        clear hs hlen hts
        go_wp2_with fail
        refine K.out.mono ?_
        rintro e w3 ⟨rfl, bb⟩
        replace BD := hid (blB_below BD.out bb)
        have hw3 : V.heap.size ≤ w3.heap.size := Nat.le_trans BW.out.size bb.size
        replace BW := hid (u_catn BW.out (Nat.le_refl _) bb)
        clear bb q4 q5 q6 K
        go_wp2_with fail
        refine (writeString_any V.heap.size V.heap.size _ s _ BD.out HLN.out hw3).mono ?_
        rintro e w4 ⟨rfl, c4, bb⟩
        have BD4 := hid (show Lib.IsBuilder 75 5 V.heap.size V.heap.size (Lib.byteCells (txtE es (k + 1)).data.toList) w4 by
          rw [HN.out, ← bytes_app]; exact Or.inr c4)
        replace BW := hid (BW.out.trans bb)
        clear bb c4
        go_wp2_with fail
        go_roundw
        case rel => exact ⟨k + 1, by omega, by go_num, BD4.out, BW.out⟩
        case measure => simp [intOf]; omega
      · obtain rfl : k = P := by omega
        have q0 := box_cell KV.out 0 (v := .int .i64 L) rfl
        have hts := txtE_size HZ.out k
        obtain ⟨T, hT'⟩ : ∃ T, T = txtE es k := ⟨_, rfl⟩
        rw [← hT'] at HW hts BD
        clear hT'
        have hz : T.data.toList.length = T.size := by rw [Array.length_toList]; rfl
        have HZT := hid hz
        have BF := hid (Lib.IsBuilderF.of BD.out)
        have hvw := BW.out.size
        clear BD hz X
        have HTE := hid (show (⟨T.data.toList.toArray⟩ : ByteArray) = T by cases T; simp)
        have HSTR : Hid (∀ W, Lib.IsBuilderF 75 5 V.heap.size V.heap.size (Lib.byteCells T.data.toList) W → V.heap.size ≤ W.heap.size →
            Calls Tryz.prog 35 #[.pointer (some ⟨V.heap.size, 0, none⟩)] W fun r w' => r = .returned (.string T) ∧ (Lib.IsBuilderF 75 5 V.heap.size V.heap.size (Lib.byteCells T.data.toList) w' ∧ Below V.heap.size W w')) := hid (fun W h1 h2 => by
          have := Tryz.Builder_String_any_f _ _ _ _ h1 h2
          rwa [HTE.out] at this)
        have HLEN : Hid (∀ W, Lib.IsBuilderF 75 5 V.heap.size V.heap.size (Lib.byteCells T.data.toList) W →
            Calls Tryz.prog 36 #[.pointer (some ⟨V.heap.size, 0, none⟩)] W fun r w' => r = .returned (.int .i64 T.size) ∧ w' = W) := hid (fun W h1 => by
          have := Tryz.Builder_Len_f _ _ _ _ h1
          rwa [Lib.byteCells_length, HZT.out] at this)
        have BFD := hid (blF_below BF.out (below_drewN (Below.refl wr.heap.size wr) 1))
        have BWD : Hid (Below V.heap.size V wr.drew) := hid BW.out.drew
        have q0d : wr.drew.cell? ⟨w1.heap.size, 0, none⟩ = some (.int .i64 L) := q0
        clear BF BW KV
        have hTL : (T.size : Int) ≤ 1000 := by omega
        have hm0 : 0 ≤ min (T.size : Int) L := by omega
        have hm1 : min (T.size : Int) L ≤ T.size := by omega
        have HC := hid (cutT_min T L (by omega))
        go_wp2_with fail
        go_region_with (first
          | (go_at_call 35; refine (HSTR.out _ BFD.out (by exact BWD.out.size)).mono ?_; rintro r w5 ⟨rfl, c5, b5⟩; have C5 := hid c5; have B5 := hid (BWD.out.trans b5); have q5 := (b5.cell (p := ⟨w1.heap.size, 0, none⟩) hvs).trans q0d; clear c5 b5)
          | (go_at_call 36; refine (HLEN.out _ C5.out).mono ?_; rintro r w6 ⟨rfl, hw6⟩; replace hw6 := hw6.symm; subst hw6))
        all_goals
          go_wp2_with fail
          go_ret
          exact ⟨by rw [HW.out, ← HC.out]; rfl, HBV.out.trans (B5.out.mono HBV.out.size)⟩
  · have HW := hid (show textOf L S ws gs C Z es = ⟨#[]⟩ from if_neg hg)
    have B := hid (u_cat B0.out bb)
    clear hg bb X0 B0
    go_wp2_with fail
    go_ret
    exact ⟨by rw [HW.out]; rfl, u_cat B.out (u_b1 _ _)⟩
set_option maxHeartbeats 4000000 in
theorem l6Text_in (L S : Int) (a1 a2 : Option Addr) (c1 c2 : Nat) (ws gs : List Int) (C Z : Int) (a : Option Addr) (cap : Nat) (es : List EqV) (w : World) (ha : EqsAt w a es) (hl : es.length ≤ 1048576) (hsm : SmallE es) (hg : getP L S ws gs C Z es) :
    Calls Tryz.prog 11 #[.agg #[.int .i64 L, .int .i64 S, .slice a1 ws.length c1, .slice a2 gs.length c2, .int .i64 C, .int .i64 Z, .slice a es.length cap]] w fun e w' => e = .returned (.string (textOf L S ws gs C Z es)) ∧ Below w.heap.size w w' := by
  have HA := hid ha
  have HS := hid hsm
  have HG := hid hg
  have HW := hid (show textOf L S ws gs C Z es = cutT (txtE es (pfx 0 (es.map EqV.r))) L from if_pos hg)
  have HZ := hid (gotS_size hg.2.1.2 (by have := hg.2.1.1.2; omega) hg.2.1.1.2.2)
  have hL1 := hg.1.1.1
  have hL2 := hg.1.1.2.1
  have hp24 : pfx 0 (es.map EqV.r) ≤ 24 := by
    have h1 := pfx_spec (es.map EqV.r) 0
    have h2 := okE_24 hg.2.1.2 (by have := hg.2.1.1.1; omega) hg.2.1.1.1.2
    rw [List.length_map] at h1
    omega
  have KP := hid (fun w h1 => l3Prefix_any a cap es C Z w h1 HS.out hl HG.out.2.1.2)
  obtain ⟨P, hP⟩ : ∃ P, P = pfx 0 (es.map EqV.r) := ⟨_, rfl⟩
  rw [← hP] at HW hp24 KP
  clear hP ha hsm hg
  go_enter Tryz.func11, Tryz.ntmps11
  repeat ((fail_if_success (with_reducible show Code.wp _ (Code.region 1 _ _) _ _ _)); (first | go_values | go_skip | go_guarded | go_step | go_upon | go_back | go_simp))
  obtain ⟨V, hV⟩ : ∃ V, V = w.alloc (.cells #[.int .i64 L, .int .i64 S, .slice a1 ws.length c1, .slice a2 gs.length c2, .int .i64 C, .int .i64 Z, .slice a es.length cap] 39) := ⟨_, rfl⟩
  have B := hid (show Below w.heap.size w V by rw [hV]; exact u_b1 _ _)
  have X := hid (show V.heap[w.heap.size]? = some (.cells #[.int .i64 L, .int .i64 S, .slice a1 ws.length c1, .slice a2 gs.length c2, .int .i64 C, .int .i64 Z, .slice a es.length cap] 39 (0, 0)) by rw [hV]; exact laid _ _ _)
  rw [← hV]
  clear hV
  go_wp2_with fail
  go_loopw [3, 4] (fun t i wr => ∃ k : Nat, k ≤ P ∧ i = .int .i64 k ∧ t = .string (txtE es k) ∧ Below V.heap.size V wr) (fun _ i _ => P - (intOf i).toNat)
  case atStart => exact ⟨0, Nat.zero_le _, rfl, rfl, Below.refl _ _⟩
  case round =>
    obtain ⟨k, hk, rfl, rfl, hb⟩ := hrel
    have BV := hid hb
    have XW := hid (kept X.out hb)
    have BW := hid (u_cat B.out hb)
    clear hb
    have q0 := box_cell XW.out 0 (v := .int .i64 L) rfl
    have q4 := box_cell XW.out 4 (v := .int .i64 C) rfl
    have q5 := box_cell XW.out 5 (v := .int .i64 Z) rfl
    have q6 := box_cell XW.out 6 (v := .slice a es.length cap) rfl
    go_wp2_with fail
    refine (KP.out _ (HA.out.below BW.out)).mono ?_
    rintro e w2 ⟨rfl, bb⟩
    replace XW := hid (kept XW.out bb)
    replace BW := hid (u_cat BW.out bb)
    replace BV := hid (u_cat BV.out bb)
    clear bb q0 q4 q5 q6
    by_cases hlt : k < P
    · have hlt1 : decide ((k : Int) < P) = true := by simp; omega
      have q4 := box_cell XW.out 4 (v := .int .i64 C) rfl
      have q5 := box_cell XW.out 5 (v := .int .i64 Z) rfl
      have q6 := box_cell XW.out 6 (v := .slice a es.length cap) rfl
      have hz := HZ.out k
      have hts := txtE_size HZ.out k
      have KG := hid (l3Get_any a cap es C Z k w2 (HA.out.below BW.out) HS.out hl)
      have HN := hid (show txtE es (k + 1) = txtE es k ++ gotS (getE es k) from rfl)
      obtain ⟨s, hs⟩ : ∃ s, s = gotS (getE es k) := ⟨_, rfl⟩
      obtain ⟨T, hT⟩ : ∃ T, T = txtE es k := ⟨_, rfl⟩
      rw [← hs] at KG hz HN
      rw [← hT] at hts HN ⊢
      clear hs hT
      go_wp2_with fail
      refine KG.out.mono ?_
      rintro e w3 ⟨rfl, bb⟩
      replace BV := hid (u_cat BV.out bb)
      clear bb q4 q5 q6
      go_wp2_with fail
      go_roundw
      case rel => exact ⟨k + 1, by omega, by go_num, by rw [HN.out], BV.out⟩
      case measure => simp [intOf]; omega
    · obtain rfl : k = P := by omega
      have hlt1 : decide ((k : Int) < k) = false := by simp
      have q0 := box_cell XW.out 0 (v := .int .i64 L) rfl
      have hts := txtE_size HZ.out k
      obtain ⟨T, hT⟩ : ∃ T, T = txtE es k := ⟨_, rfl⟩
      rw [← hT] at hts HW ⊢
      clear hT
      by_cases hLT : L < (T.size : Int)
      · have HC := hid (show cutT T L = T.extract 0 L.toNat from if_pos hLT)
        have hL3 : L ≤ (T.size : Int) := by omega
        go_wp2_with fail
        go_ret
        exact ⟨by rw [HW.out, HC.out]; rfl, BW.out⟩
      · have HC := hid (show cutT T L = T from if_neg hLT)
        go_wp2_with fail
        go_ret
        exact ⟨by rw [HW.out, HC.out]; rfl, BW.out⟩
theorem SamV.txtE {es fs : List EqV} (h : SamV fs es) : ∀ n, Go.Proofs.YtfciopjcbeccgaaGreatDoor.txtE fs n = Go.Proofs.YtfciopjcbeccgaaGreatDoor.txtE es n
  | 0 => rfl
  | n + 1 => by
    show Go.Proofs.YtfciopjcbeccgaaGreatDoor.txtE fs n ++ gotS (getE fs n) = Go.Proofs.YtfciopjcbeccgaaGreatDoor.txtE es n ++ gotS (getE es n)
    rw [SamV.txtE h n, (h.find (at' := n)).1]
theorem SamV.text {L S : Int} {ws gs : List Int} {C Z : Int} {es fs : List EqV} (h : SamV fs es) : textOf L S ws gs C Z fs = textOf L S ws gs C Z es := by
  unfold textOf
  rw [h.1, h.txtE]
  by_cases hp : Go.Proofs.YtfciopjcbeccgaaGreatDoor.getP L S ws gs C Z es
  · rw [if_pos hp, if_pos (h.getP.2 hp)]
  · rw [if_neg hp, if_neg (fun h1 => hp (h.getP.1 h1))]
end Go.Proofs.YtfciopjcbeccgaaGreatDoor
