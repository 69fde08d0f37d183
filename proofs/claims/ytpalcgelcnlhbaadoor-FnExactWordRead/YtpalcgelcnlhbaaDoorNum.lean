/- Numbers read from texts, by the program. -/
import Derived.Test.YtpalcgelcnlhbaaDoorItoa
import Derived.Lib.SmallJoins
import Derived.Lib.AtoiBound
import Derived.Lib.AtoiErrMem
namespace Go.Proofs.YtpalcgelcnlhbaaDoor
open Go.ChangeShapes Go.WideShapes Go.ChangeAt Go.RowKit

/-- What the reading of texts leans on: tables and variables of the library, as they were laid. -/
structure Env (w : World) : Prop where
  pow : Pow w
  max : ∃ m, w.cell? ⟨0, 0, none⟩ = some (.int .i64 m)
  err : ∃ tp p, w.var? Tryd.prog "strconv.ErrSyntax" = some #[.iface tp p]
theorem gErr : Tryd.prog.globalNamed "strconv.ErrSyntax" = some 1 := by kernel_rfl
theorem Env.below {w w' : World} (h : Env w) (hb : Below w.heap.size w w') : Env w' := by
  obtain ⟨m, hm⟩ := h.max
  obtain ⟨tp, p, hv⟩ := h.err
  exact ⟨h.pow.below hb, ⟨m, (hb.cell (p := ⟨0, 0, none⟩) (block_lt_of_cell hm)).trans hm⟩, ⟨tp, p, Joins.var_stays gErr hv hb (Nat.le_refl _)⟩⟩

theorem decFrom_app (r : List UInt8) : ∀ (l : List UInt8) (acc : Nat), Lib.decFrom acc (l ++ r) = (Lib.decFrom acc l).bind fun a => Lib.decFrom a r
  | [], acc => rfl
  | b :: l, acc => by
    simp only [List.cons_append, Lib.decFrom]
    cases Lib.digitVal b with
    | none => rfl
    | some d => exact decFrom_app r l _
theorem digit_ofNat {k : Nat} (h : k < 10) : Lib.digitVal (UInt8.ofNat (48 + k)) = some k := by
  have e : (UInt8.ofNat (48 + k)).toNat = 48 + k := by rw [UInt8.toNat_ofNat']; omega
  rw [Lib.digitVal, e, if_pos (by omega)]
  congr 1
  omega
theorem decFrom_dec (n : Nat) : Lib.decFrom 0 (Lib.decDigits n) = some n := by
  induction n using Nat.strongRecOn with
  | _ n ih =>
    by_cases h : n < 10
    · rw [Lib.decDigits_one h]
      simp only [Lib.decFrom, digit_ofNat h]
      congr 1
      omega
    · rw [Lib.decDigits, dif_neg h, decFrom_app, ih (n / 10) (by omega)]
      simp only [Option.bind_some, Lib.decFrom, digit_ofNat (show n % 10 < 10 by omega)]
      congr 1
      omega
theorem dec_cons (n : Nat) : ∃ (k : Nat) (r : List UInt8), k < 10 ∧ Lib.decDigits n = UInt8.ofNat (48 + k) :: r := by
  induction n using Nat.strongRecOn with
  | _ n ih =>
    by_cases h : n < 10
    · exact ⟨n, [], h, by rw [Lib.decDigits_one h]⟩
    · obtain ⟨k, r, hk, e⟩ := ih (n / 10) (by omega)
      exact ⟨k, r ++ [UInt8.ofNat (48 + n % 10)], hk, by rw [Lib.decDigits, dif_neg h, e]; rfl⟩
theorem atoi_dec (n : Nat) : Lib.atoi (Lib.decDigits n) = some (n : Int) := by
  have h := decFrom_dec n
  obtain ⟨k, r, hk, e⟩ := dec_cons n
  rw [e] at h ⊢
  have h45 : (UInt8.ofNat (48 + k) == 45) = false := by
    rw [beq_eq_false_iff_ne]
    intro h
    have := congrArg UInt8.toNat h
    rw [UInt8.toNat_ofNat'] at this
    simp at this
    omega
  have h43 : (UInt8.ofNat (48 + k) == 43) = false := by
    rw [beq_eq_false_iff_ne]
    intro h
    have := congrArg UInt8.toNat h
    rw [UInt8.toNat_ofNat'] at this
    simp at this
    omega
  simp only [Lib.atoi, h45, h43, Bool.false_eq_true, if_false, Lib.decNat, List.isEmpty_cons]
  rw [h]
  rfl
theorem decS_toList (n : Nat) : (decS n).data.toList = Lib.decDigits n := by simp [decS]
theorem decS_len6 {n : Nat} (h : n ≤ 999999) : (decS n).size ≤ 6 := by
  have e : (decS n).size = Lib.nDigits n := by
    rw [← Lib.decDigits_length]
    simp [decS, ByteArray.size]
  have : Lib.nDigits n ≤ 6 := by
    rw [Lib.nDigits]; split; · omega
    rw [Lib.nDigits]; split; · omega
    rw [Lib.nDigits]; split; · omega
    rw [Lib.nDigits]; split; · omega
    rw [Lib.nDigits]; split; · omega
    rw [Lib.nDigits, dif_pos (by omega)]
    omega
  omega

set_option maxHeartbeats 1000000 in
theorem numberRead_yes (n : Nat) (w : World) (hn : n ≤ 999999) (he : Env w) :
    Calls Tryd.prog 19 #[.string (decS n)] w fun r w' => r = .returned (.tuple #[.int .i64 n, .bool true]) ∧ Below w.heap.size w w' := by
  have h6 := decS_len6 hn
  have HA := hid (Tryd.strconv_Atoi (decS n) n (by omega) (by rw [decS_toList]; exact atoi_dec n) w)
  have HE := hid he
  have HI := hid (fun w hp => itoa_any n w (by omega) hp)
  obtain ⟨D, hD⟩ : ∃ D, D = decS n := ⟨_, rfl⟩
  rw [← hD] at h6 HA HI ⊢
  clear hD he
  go_enter Tryd.func19, Tryd.ntmps19
  go_wp2_with (first
    | (go_at_call 29; refine HA.out.mono ?_; rintro e w1 ⟨rfl, t, hw⟩; have B1 := hid (Lib.bytesWorld_below w 5 t); rw [← hw] at B1; clear hw)
    | (go_at_call 23; refine (HI.out _ (HE.out.pow.below B1.out)).mono ?_; rintro e w2 ⟨rfl, hb2⟩; have B2 := hid (below_catD B1.out hb2); clear hb2))
  go_ret2
  exact ⟨rfl, B2.out⟩

set_option maxHeartbeats 1000000 in
theorem numberRead_any (s : ByteArray) (w : World) (hs : s.size ≤ 1000) (he : Env w) :
    Calls Tryd.prog 19 #[.string s] w fun r w' => ∃ (v : Int) (b : Bool), r = .returned (.tuple #[.int .i64 v, .bool b]) ∧ Below w.heap.size w w' := by
  have HE := hid he
  by_cases h6 : s.size ≤ 6
  · cases ha : Lib.atoi s.data.toList with
    | none =>
      obtain ⟨tp, p, hv⟩ := he.err
      have HA := hid (Tryd.strconv_Atoi_err_var s (by omega) ha tp p w hv)
      clear ha hv he
      go_enter Tryd.func19, Tryd.ntmps19
      go_wp2_with (go_at_call 29; refine HA.out.mono ?_; rintro e w1 ⟨N, rfl, _, _, hb1⟩; have B1 := hid hb1; clear hb1)
      go_ret2
      exact ⟨0, false, rfl, B1.out⟩
    | some v =>
      have hbd := Lib.atoi_bound ha (by simp; omega)
      have HA := hid (Tryd.strconv_Atoi s v (by omega) ha w)
      clear ha he
      by_cases h0 : v < 0
      · go_enter Tryd.func19, Tryd.ntmps19
        go_wp2_with (go_at_call 29; refine HA.out.mono ?_; rintro e w1 ⟨rfl, t, hw⟩; have B1 := hid (Lib.bytesWorld_below w 5 t); rw [← hw] at B1; clear hw)
        go_ret2
        exact ⟨0, false, rfl, B1.out⟩
      · obtain ⟨n, rfl⟩ : ∃ n : Nat, v = n := ⟨v.toNat, by omega⟩
        have HI := hid (fun w hp => itoa_any n w (by omega) hp)
        obtain ⟨D, hD⟩ : ∃ D, D = decS n := ⟨_, rfl⟩
        rw [← hD] at HI
        clear hD
        by_cases hq : D = s
        · subst hq
          go_enter Tryd.func19, Tryd.ntmps19
          go_wp2_with (first
            | (go_at_call 29; refine HA.out.mono ?_; rintro e w1 ⟨rfl, t, hw⟩; have B1 := hid (Lib.bytesWorld_below w 5 t); rw [← hw] at B1; clear hw)
            | (go_at_call 23; refine (HI.out _ (HE.out.pow.below B1.out)).mono ?_; rintro e w2 ⟨rfl, hb2⟩; have B2 := hid (below_catD B1.out hb2); clear hb2))
          go_ret2
          exact ⟨n, true, rfl, B2.out⟩
        · go_enter Tryd.func19, Tryd.ntmps19
          go_wp2_with (first
            | (go_at_call 29; refine HA.out.mono ?_; rintro e w1 ⟨rfl, t, hw⟩; have B1 := hid (Lib.bytesWorld_below w 5 t); rw [← hw] at B1; clear hw)
            | (go_at_call 23; refine (HI.out _ (HE.out.pow.below B1.out)).mono ?_; rintro e w2 ⟨rfl, hb2⟩; have B2 := hid (below_catD B1.out hb2); clear hb2))
          all_goals go_ret2
          all_goals first | exact ⟨0, false, rfl, B2.out⟩ | exact ⟨n, true, rfl, B2.out⟩
  · go_enter Tryd.func19, Tryd.ntmps19
    go_wp2_with fail
    go_ret2
    exact ⟨0, false, rfl, Below.refl _ _⟩
end Go.Proofs.YtpalcgelcnlhbaaDoor
