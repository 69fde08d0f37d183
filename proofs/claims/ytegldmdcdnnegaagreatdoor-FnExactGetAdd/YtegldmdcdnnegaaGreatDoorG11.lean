/- An equation without the first numbers of those that are known, by the model. A text many times. Zero bytes, by the model. An append of a whole row, as one step of a region that draws its order. -/
import Derived.Test.YtegldmdcdnnegaaGreatDoorG8
import Derived.Test.YtegldmdcdnnegaaGreatDoorG9
import Derived.Test.YtegldmdcdnnegaaGreatDoorG10
import Derived.Test.YtegldmdcdnnegaaGreatDoorG0
import Derived.SliceStrings
import Derived.Test.YtegldmdcdnnegaaGreatDoorG2
import Derived.Deep.RegionLaw
import Derived.BigRegion
namespace Go.Proofs.YtegldmdcdnnegaaGreatDoor
open Go.ChangeShapes Go.WideShapes Go.ChangeAt Go.RowKit Go.Sort Go.Shelf
attribute [local go_sem] Oper.semAt_some

/-- Rows that are of at least one number, data of so many bytes. -/
def OkRows (es : List EqV) (n : Nat) : Prop := ∀ e ∈ es, ascB (-1) 24 e.r = true ∧ e.r ≠ [] ∧ e.d.size = n
theorem stepE_len {s : List Int × List Int} {e : EqV} (h : e.d.size = s.2.length) : (stepE s e).2.length = s.2.length := by
  unfold stepE
  split
  · exact xorL_len _ _ (by rw [numsOf_len]; exact h.symm)
  · rfl
theorem stepE_asc {s : List Int × List Int} {e : EqV} (h : ascB (-1) 24 s.1 = true) (he : ascB (-1) 24 e.r = true) : ascB (-1) 24 (stepE s e).1 = true := by
  unfold stepE
  split
  · exact xorM_asc h he
  · exact h
theorem asc_len24 {xs : List Int} (h : ascB (-1) 24 xs = true) : xs.length ≤ 24 := by
  rw [← bits_set h]
  exact bitsTo_len _ 24
theorem stepE_bytes {s : List Int × List Int} {e : EqV} (h : BytesL s.2) : BytesL (stepE s e).2 := by
  unfold stepE
  split
  · exact xorL_bytes _ _
  · exact h

/-- The row is of its own, or the one that came. -/
theorem row_keeps {w w' : World} {a ar : Option Addr} {c cr : Nat} {xs row : List Int} {base : Nat} (h : w'.ownsRow base 3 1 (.slice a xs.length c) xs.length (xs.map (Value.int .i64)) ∨ (a = ar ∧ c = cr ∧ xs = row))
    (hr : IntsAt w ar row) (hB : Below w.heap.size w w') (hs : w.heap.size ≤ base) : IntsAt w' a xs ∧
      (∀ b, b ≤ w.heap.size → w.ownsRow b 3 1 (.slice ar row.length cr) row.length (row.map (Value.int .i64)) → w'.ownsRow b 3 1 (.slice a xs.length c) xs.length (xs.map (Value.int .i64))) := by
  rcases h with h | ⟨rfl, rfl, rfl⟩
  · exact ⟨owns_at h, fun b hb _ => owns_base h (by omega)⟩
  · exact ⟨hr.below hB, fun b _ h => owns_below h hB⟩

set_option maxHeartbeats 8000000 in
set_option maxRecDepth 20000 in
theorem l3Less_any (a : Option Addr) (cap : Nat) (es : List EqV) (c z : Int) (ar : Option Addr) (cr : Nat) (row d : List Int) (n : Nat) (w : World) (ha : EqsAt w a es) (hok : OkRows es n) (hl : es.length ≤ 1048576) (hrow : IntsAt w ar row) (hasc : ascB (-1) 24 row = true) (hd : d.length = n) (hb : BytesL d) (hn : n ≤ 1000) :
    Calls Tryz.prog 37 #[.agg #[.int .i64 c, .int .i64 z, .slice a es.length cap], .agg #[.slice ar row.length cr, .string (strOfNums d)]] w fun e w' => ∃ a' c' s, s = es.foldl stepE (row, d) ∧ e = .returned (.agg #[.slice a' s.1.length c', .string (strOfNums s.2)]) ∧ IntsAt w' a' s.1 ∧
      (∀ base, base ≤ w.heap.size → w.ownsRow base 3 1 (.slice ar row.length cr) row.length (row.map (Value.int .i64)) → w'.ownsRow base 3 1 (.slice a' s.1.length c') s.1.length (s.1.map (Value.int .i64))) ∧ Below w.heap.size w w' := by
  have HA := hid ha
  have HO := hid hok
  have HRW := hid hrow
  have HAS := hid hasc
  have HD := hid hd
  have HB := hid hb
  clear ha hok hrow hasc hd hb
  go_enter Tryz.func37, Tryz.ntmps37
  repeat ((fail_if_success (with_reducible show Code.wp _ (Code.region 1 _ _) _ _ _)); (first | go_values | go_skip | go_guarded | go_step | go_upon | go_back | go_simp))
  obtain ⟨W0, hW0⟩ : ∃ W0, W0 = ((w.alloc (.cells #[.int .i64 c, .int .i64 z, .slice a es.length cap] 34)).alloc (.cells #[.slice ar row.length cr, .string (strOfNums d)] 81)).alloc (.cells #[.slice none 0 0, .string ⟨#[]⟩] 81) := ⟨_, rfl⟩
  obtain ⟨X0, X1, X2, B0⟩ := u_box3 (w := w) (c := #[.int .i64 c, .int .i64 z, .slice a es.length cap]) (t := 34) (d := #[.slice ar row.length cr, .string (strOfNums d)]) (s := 81) (f := #[.slice none 0 0, .string ⟨#[]⟩]) (r := 81) (w1 := W0) (by rw [hW0]; exact Below.refl _ _)
  have hs0 : W0.heap.size = w.heap.size + 3 := by rw [hW0]; simp
  rw [← hW0]
  clear hW0
  go_wp2_with fail
  go_loopw [5] (fun i wr => ∃ k : Nat, k ≤ es.length ∧ i = .int .i64 k ∧ ∃ a' c' s, s = (es.take k).foldl stepE (row, d) ∧ s.2.length = n ∧ BytesL s.2 ∧ ascB (-1) 24 s.1 = true ∧ (wr.ownsRow (w.heap.size + 3) 3 1 (.slice a' s.1.length c') s.1.length (s.1.map (Value.int .i64)) ∨ (a' = ar ∧ c' = cr ∧ s.1 = row)) ∧
      wr.heap[w.heap.size]? = some (.cells #[.int .i64 c, .int .i64 z, .slice a es.length cap] 34 (0, 0)) ∧ wr.heap[w.heap.size + 1]? = some (.cells #[.slice a' s.1.length c', .string (strOfNums s.2)] 81 (0, 0)) ∧ wr.heap[w.heap.size + 2]? = some (.cells #[.slice none 0 0, .string ⟨#[]⟩] 81 (0, 0)) ∧ Below w.heap.size w wr) (fun i _ => es.length - (intOf i).toNat)
  case atStart => exact ⟨0, Nat.zero_le _, rfl, ar, cr, (row, d), rfl, HD.out, HB.out, HAS.out, .inr ⟨rfl, rfl, rfl⟩, X0, X1, X2, B0⟩
  case round =>
    clear X0 X1 X2 B0
    obtain ⟨k, hk, rfl, a', c', s, hs, hsl, hsb, hsa, how, X0, X1, X2, B⟩ := hrel
    have hia := (row_keeps how HRW.out B (by omega)).1
    have HS := hid hs
    have HSL := hid hsl
    have HSB := hid hsb
    have HSA := hid hsa
    have IA := hid hia
    have OW := hid how
    have HX0 := hid X0
    have HX1 := hid X1
    have HX2 := hid X2
    have HBW := hid B
    have hs24 := asc_len24 hsa
    clear hs hsl hsb hsa hia how
    by_cases hlt : k < es.length
    · have hlt1 : decide ((k : Int) < es.length) = true := by simp; omega
      obtain ⟨e, he⟩ : ∃ e, es[k] = e := ⟨_, rfl⟩
      have hem : e ∈ es := by rw [← he]; exact List.getElem_mem hlt
      obtain ⟨ho1, ho2, ho3⟩ := HO.out e hem
      obtain ⟨b, off, rfl, hc⟩ := (HA.out.below B) (by intro h; simp [h] at hlt)
      obtain ⟨c0, c1, crow⟩ := hc k e (by rw [List.getElem?_eq_getElem hlt, he])
      obtain ⟨rb, ro, hra, hrc⟩ := hd_cell crow ho2
      have HE := hid (show es.take (k + 1) = es.take k ++ [e] by rw [List.take_succ_eq_append_getElem hlt, he])
      have HO1 := hid ho1
      have HO3 := hid (show e.d.size = s.2.length by rw [HSL.out]; exact ho3)
      have CR := hid crow
      have C0 := hid c0
      have C1 := hid c1
      have he24 := asc_len24 ho1
      have hpos : 0 < e.r.length := List.length_pos_iff.2 ho2
      rw [hra] at c0
      have y0 := cell_regrown (box_cell X0 2 (v := .slice (some ⟨b, off, none⟩) es.length cap) rfl)
      have y1 := cell_regrown (box_cell X1 0 (v := .slice a' s.1.length c') rfl)
      have u0 := cell_regrown c0
      have u2 := cell_regrown hrc
      have q2 := box_cell X0 2 (v := .slice (some ⟨b, off, none⟩) es.length cap) rfl
      have K := hid (rg (w := wr) (fun w' hb => same_below (l3Has_any a' c' s.1 (hd e.r) w' (IA.out.below hb) (by omega))))
      obtain ⟨F, hF⟩ : ∃ F, F = hd e.r := ⟨_, rfl⟩
      rw [← hF] at K u2
      have HF := hid hF
      clear X0 X1 X2 B hc c0 c1 crow hem ho1 ho2 ho3 hF hrc
      go_wp2_with fail
      by_cases hin : F ∈ s.1
      · rw [decide_eq_true hin] at K
        have HSE := hid (show (es.take (k + 1)).foldl stepE (row, d) = (xorM s.1 e.r, xorL s.2 (numsOf e.d)) by
          rw [HE.out, List.foldl_append, ← HS.out]
          show stepE s e = _
          unfold stepE
          rw [if_pos (by rw [← HF.out]; exact hin)])
        clear hin
        refine wp_region_quiet_below (by kernel_rfl) (by kernel_rfl) ?_
        repeat (first | go_big_quiet_step ((go_at_call 39; with_reducible exact K.out _ _)) | quiet_step ((go_at_call 39; with_reducible exact K.out _ _)))
        refine wpQuiet_nil ?_
        intro V hw'
        have hbq := of_class hw'
        clear hw' y0 y1 u0 u2 q2 K
        replace HX0 := hid (kept HX0.out hbq)
        replace HX1 := hid (kept HX1.out hbq)
        replace HX2 := hid (kept HX2.out hbq)
        replace HBW := hid (u_cat HBW.out hbq)
        replace IA := hid (IA.out.below hbq)
        replace CR := hid (CR.out.below hbq)
        replace OW := hid (OW.out.imp (fun h => owns_below h hbq) id)
        replace C0 := hid ((hbq.cell (p := ⟨b, off + k * 2, none⟩) (block_lt_of_cell C0.out)).trans C0.out)
        replace C1 := hid ((hbq.cell (p := ⟨b, off + k * 2 + 1, none⟩) (block_lt_of_cell C1.out)).trans C1.out)
        clear hbq

        go_wp2_with fail
        clear hra
        have KB := fun w => l2Block_any (strOfNums s.2) e.d w (by rw [strOfNums_size]; exact HO3.out.symm) (by rw [strOfNums_size]; have := HSL.out; omega)
        rw [nums_str HSB.out, show nums e.d = numsOf e.d from rfl] at KB
        have KB := hid KB
        have KX := hid (fun w h1 h2 => l2Xor_any a' e.a c' e.c s.1 e.r w h1 h2 (by omega) (by omega))
        have y0 := cell_regrown (box_cell HX0.out 2 (v := .slice (some ⟨b, off, none⟩) es.length cap) rfl)
        have y1 := cell_regrown (box_cell HX1.out 0 (v := .slice a' s.1.length c') rfl)
        have y2 := cell_regrown (box_cell HX1.out 1 (v := .string (strOfNums s.2)) rfl)
        have u0 := cell_regrown C0.out
        have u1 := cell_regrown C1.out
        have q2 := box_cell HX0.out 2 (v := .slice (some ⟨b, off, none⟩) es.length cap) rfl
        clear C0 C1
        refine wp_pick 19 3 [(0, 8), (9, 8)] [(8, 1), (17, 3)] (by kernel_rfl) (by kernel_rfl) (fun _ _ d _ _ h => by cases d <;> exact h) ?_
        simp only [cutOut, List.take_succ_cons, List.take_zero, List.drop_succ_cons, List.drop_zero, List.nil_append, List.cons_append, List.append_nil]
        repeat (first | go_big_quiet_step (fail) | quiet_step (fail))
        refine wpQuiet_nil ?_
        intro V2 hw'
        have hbq := of_class hw'
        clear hw' y0 y1 y2 u0 u1 q2
        have HST := hid (show stepE s e = (xorM s.1 e.r, xorL s.2 (numsOf e.d)) by
          have h := HSE.out
          rw [HE.out, List.foldl_append, ← HS.out] at h
          exact h)
        refine wpRest_step (fun Kn hK => ?_)
        go_simp
        with_reducible refine (KX.out V2 (IA.out.below hbq) (CR.out.below hbq)).mono ?_
        rintro _ w5 ⟨v, rfl, o5, b5⟩
        obtain ⟨a5, d5, rfl⟩ := owns_slice o5
        refine hK _ _ (class_of (u_cat hbq b5)) ?_
        clear hK Kn
        refine wpRest_step (fun Kn hK => ?_)
        go_simp
        with_reducible refine (KB.out w5).mono ?_
        rintro _ w6 ⟨rfl, b6⟩
        refine hK _ _ (class_of (u_cat (u_cat hbq b5) b6)) ?_
        clear hK Kn
        refine wpRest_step (fun Kn hK => ?_)
        go_simp
        refine hK _ _ (class_of (u_cat (u_cat hbq b5) b6)) ?_
        clear hK Kn
        have B6 := u_cat (u_cat hbq b5) b6
        have X0 := hid (kept HX0.out B6)
        have X1 := kept HX1.out B6
        have X2 := hid (kept HX2.out B6)
        have q0 := box_cell X1 0 (v := .slice a' s.1.length c') rfl
        have q1 := box_cell X1 1 (v := .string (strOfNums s.2)) rfl
        have z0 := box_frozen X1
        have lr := lt_of_block X1
        have S1 := hid (set_block (set_block X1 0 (.slice a5 (xorM s.1 e.r).length d5)) 1 (.string (strOfNums (xorL s.2 (numsOf e.d)))))
        have BW := hid (u_cat HBW.out B6)
        have hV3 : w.heap.size + 3 ≤ V2.heap.size := by have h1 := lt_of_block HX2.out; have h2 := hbq.size; omega
        have OW2 := hid (owns_base (owns_below o5 b6) hV3)
        clear hbq b5 b6 o5 X1 B6 HX0 HX1 HX2 HBW IA CR OW KB KX hV3
        go_wp2_with fail
        refine .inl ?_
        go_simp
        go_wp2_with fail
        go_roundw
        case rel =>
          refine ⟨k + 1, by omega, by go_num, a5, d5, (xorM s.1 e.r, xorL s.2 (numsOf e.d)), HSE.out.symm, ?_, ?_, ?_, .inl ?_, ?_, ?_, ?_, ?_⟩
          · rw [← HST.out, stepE_len HO3.out]; exact HSL.out
          · rw [← HST.out]; exact stepE_bytes HSB.out
          · rw [← HST.out]; exact stepE_asc HSA.out HO1.out
          · exact (Touch.setCell _ ⟨w.heap.size + 1, 1, none⟩ _).owns ((Touch.setCell _ ⟨w.heap.size + 1, 0, none⟩ _).owns OW2.out (by show w.heap.size + 1 < w.heap.size + 3; omega)) (by show w.heap.size + 1 < w.heap.size + 3; omega)
          · exact set_other (set_other X0.out (by omega) _ _) (by omega) _ _
          · exact S1.out
          · exact set_other (set_other X2.out (by omega) _ _) (by omega) _ _
          · refine u_set (u_set BW.out ?_ _ _) ?_ _ _ <;> omega
        case measure => simp [intOf]; omega
      · rw [decide_eq_false hin] at K
        have HSE := hid (show (es.take (k + 1)).foldl stepE (row, d) = s by
          rw [HE.out, List.foldl_append, ← HS.out]
          show stepE s e = _
          unfold stepE
          rw [if_neg (by rw [← HF.out]; exact hin)])
        clear hin
        refine wp_region_quiet_below (by kernel_rfl) (by kernel_rfl) ?_
        repeat (first | go_big_quiet_step ((go_at_call 39; with_reducible exact K.out _ _)) | quiet_step ((go_at_call 39; with_reducible exact K.out _ _)))
        refine wpQuiet_nil ?_
        intro V hw'
        have hbq := of_class hw'
        clear hw' y0 y1 u0 u2 q2 K
        replace HX0 := hid (kept HX0.out hbq)
        replace HX1 := hid (kept HX1.out hbq)
        replace HX2 := hid (kept HX2.out hbq)
        replace HBW := hid (u_cat HBW.out hbq)
        replace IA := hid (IA.out.below hbq)
        replace CR := hid (CR.out.below hbq)
        replace OW := hid (OW.out.imp (fun h => owns_below h hbq) id)
        replace C0 := hid ((hbq.cell (p := ⟨b, off + k * 2, none⟩) (block_lt_of_cell C0.out)).trans C0.out)
        replace C1 := hid ((hbq.cell (p := ⟨b, off + k * 2 + 1, none⟩) (block_lt_of_cell C1.out)).trans C1.out)
        clear hbq

        go_wp2_with fail
        go_roundw
        case rel => exact ⟨k + 1, by omega, by go_num, a', c', s, HSE.out.symm, HSL.out, HSB.out, HSA.out, OW.out, HX0.out, HX1.out, HX2.out, HBW.out⟩
        case measure => simp [intOf]; omega
    · have hlt1 : decide ((k : Int) < es.length) = false := by simp; omega
      obtain rfl : k = es.length := by omega
      have HSE := hid (show s = es.foldl stepE (row, d) by rw [HS.out, List.take_length])
      have q2 := box_cell X0 2 (v := .slice a es.length cap) rfl
      have p0 := box_cell X1 0 (v := .slice a' s.1.length c') rfl
      have p1 := box_cell X1 1 (v := .string (strOfNums s.2)) rfl
      have r0 := box_cell X2 0 (v := .slice none 0 0) rfl
      have r1 := box_cell X2 1 (v := .string ⟨#[]⟩) rfl
      have z0 := box_frozen X2
      have X5 := set_block (set_block X2 0 (.slice a' s.1.length c')) 1 (.string (strOfNums s.2))
      have x0 := box_cell X5 0 (v := .slice a' s.1.length c') (by simp)
      have x1 := box_cell X5 1 (v := .string (strOfNums s.2)) (by simp)
      have l2 := lt_of_block X2
      have HX5 := hid X5
      clear X0 X1 X2 B X5
      go_wp2_with fail
      obtain ⟨V, hV⟩ : ∃ V, V = (wr.setCell ⟨w.heap.size + 2, 0, none⟩ (.slice a' s.1.length c')).setCell ⟨w.heap.size + 2, 1, none⟩ (.string (strOfNums s.2)) := ⟨_, rfl⟩
      have BV : Below w.heap.size w V := by rw [hV]; refine u_set (u_set HBW.out ?_ _ _) ?_ _ _ <;> omega
      have OV : V.ownsRow (w.heap.size + 3) 3 1 (.slice a' s.1.length c') s.1.length (s.1.map (Value.int .i64)) ∨ (a' = ar ∧ c' = cr ∧ s.1 = row) := by
        rw [hV]
        exact OW.out.imp (fun h => (Touch.setCell _ ⟨w.heap.size + 2, 1, none⟩ _).owns ((Touch.setCell _ ⟨w.heap.size + 2, 0, none⟩ _).owns h (Nat.lt_succ_self _)) (Nat.lt_succ_self _)) id
      have KV := row_keeps OV HRW.out BV (by omega)
      refine bodyPost_ret (v := .agg #[.slice a' s.1.length c', .string (strOfNums s.2)]) ?_ rfl ⟨a', c', s, HSE.out, rfl, ?_, ?_, ?_⟩
      · simp [results, Tryz.results37, go_sem, x0, x1]
      · rw [← hV]; exact KV.1
      · rw [← hV]; exact KV.2
      · rw [← hV]; exact BV
end Go.Proofs.YtegldmdcdnnegaaGreatDoor
namespace Go.Proofs.YtegldmdcdnnegaaGreatDoor
open Go.ChangeShapes Go.WideShapes Go.ChangeAt Go.RowKit

/-- A text n times. -/
def rep : Nat → ByteArray → ByteArray
  | 0, _ => ⟨#[]⟩
  | n + 1, s => s ++ rep n s
theorem ba_ext {a b : ByteArray} (h : a.data = b.data) : a = b := by cases a; cases b; simp_all
theorem ba_nil (s : ByteArray) : (⟨#[]⟩ : ByteArray) ++ s = s := by apply ba_ext; simp [ByteArray.data_append]
theorem ba_nil' (s : ByteArray) : s ++ (⟨#[]⟩ : ByteArray) = s := by apply ba_ext; simp [ByteArray.data_append]
theorem ba_assoc (a b c : ByteArray) : a ++ b ++ c = a ++ (b ++ c) := by apply ba_ext; simp [ByteArray.data_append, Array.append_assoc]
theorem rep_add (n m : Nat) (s : ByteArray) : rep (n + m) s = rep n s ++ rep m s := by
  induction n with
  | zero => rw [Nat.zero_add, rep, ba_nil]
  | succ n ih => rw [Nat.succ_add, rep, rep, ih, ba_assoc]
theorem rep_two (n : Nat) (s : ByteArray) : rep n (s ++ s) = rep (2 * n) s := by
  induction n with
  | zero => rfl
  | succ n ih => rw [rep, ih, show 2 * (n + 1) = (2 * n + 1) + 1 by omega, rep, rep, ba_assoc]
theorem rep_size (n : Nat) (s : ByteArray) : (rep n s).size = n * s.size := by
  induction n with
  | zero => rw [Nat.zero_mul]; rfl
  | succ n ih => rw [rep, ByteArray.size_append, ih, Nat.succ_mul]; omega

set_option maxRecDepth 100000 in
set_option maxHeartbeats 1000000 in
theorem l1Many_any (s : ByteArray) (n : Nat) (w : World) (hn : n ≤ 1048576) (hs : s.size ≤ 1048576) :
    Calls Tryz.prog 67 #[.string s, .int .i64 n] w fun e w' => e = .returned (.string (rep n s)) ∧ w' = w := by
  go_enter Tryz.func67, Tryz.ntmps67
  go_wp2
  go_loop [0, 1, 5] (fun x q o => ∃ (t out : ByteArray) (m : Nat), x = .string t ∧ q = .int .i64 m ∧ o = .string out ∧ m ≤ n ∧ m * t.size ≤ n * s.size ∧ out.size ≤ n * s.size ∧ out ++ rep m t = rep n s) (fun _ q _ => (intOf q).toNat)
  case atStart => exact ⟨s, ⟨#[]⟩, n, rfl, rfl, rfl, Nat.le_refl _, Nat.le_refl _, Nat.zero_le _, ba_nil _⟩
  case round =>
    obtain ⟨t, out, m, rfl, rfl, rfl, hm, h1, h2, he⟩ := hrel
    have hp : n * s.size ≤ 1099511627776 := Nat.le_trans (Nat.mul_le_mul hn hs) (by omega)
    by_cases h0 : 0 < m
    · have ht : t.size ≤ 1099511627776 := Nat.le_trans (Nat.le_trans (Nat.le_mul_of_pos_left _ h0) h1) hp
      have ho : out.size ≤ 1099511627776 := Nat.le_trans h2 hp
      obtain ⟨q, hq⟩ : ∃ q, m = 2 * q ∨ m = 2 * q + 1 := ⟨m / 2, by omega⟩
      have HE := hid he
      have H1 := hid h1
      have H2 := hid h2
      have HP := hid hp
      clear he h1 h2 hp
      rcases hq with rfl | rfl
      · have e1 : (((2 * q : Nat) : Int) % 2 == 1) = false := by simp
        go_wp2
        go_round
        case rel =>
          refine ⟨t ++ t, out, q, rfl, by go_num, rfl, by omega, ?_, H2.out, ?_⟩
          · have := H1.out
            rw [ByteArray.size_append, ← Nat.two_mul, ← Nat.mul_assoc, Nat.mul_comm q 2]; exact this
          · rw [rep_two]; exact HE.out
        case measure => simp [intOf]; omega
      · have e1 : (((2 * q + 1 : Nat) : Int) % 2 == 1) = true := by simp
        have hsum : (out ++ rep (2 * q + 1) t).size = (rep n s).size := by rw [HE.out]
        rw [ByteArray.size_append, rep_size, rep_size, Nat.succ_mul] at hsum
        have HS := hid hsum
        clear hsum
        go_wp2
        go_round
        case rel =>
          refine ⟨t ++ t, out ++ t, q, rfl, by go_num, rfl, by omega, ?_, ?_, ?_⟩
          · have := H1.out
            rw [Nat.succ_mul] at this
            rw [ByteArray.size_append, ← Nat.two_mul, ← Nat.mul_assoc, Nat.mul_comm q 2]; omega
          · have := HS.out
            rw [ByteArray.size_append]; omega
          · rw [rep_two, ba_assoc, ← HE.out, rep]
        case measure => simp [intOf]; omega
    · obtain rfl : m = 0 := by omega
      have HE := hid he
      clear he
      go_wp2
      go_ret
      rw [← HE.out, rep, ba_nil']
      exact ⟨rfl, rfl⟩
end Go.Proofs.YtegldmdcdnnegaaGreatDoor
namespace Go.Proofs.YtegldmdcdnnegaaGreatDoor
open Go.ChangeShapes Go.WideShapes Go.ChangeAt Go.RowKit

set_option maxRecDepth 100000 in
theorem l3Zero_any (n : Nat) (w : World) (hn : n ≤ 1048576) :
    Calls Tryz.prog 38 #[.int .i64 n] w fun e w' => e = .returned (.string (rep n (strOfNums [0]))) ∧ Below w.heap.size w w' := by
  have hcv := run_convert_bytes_arg (P := Tryz.prog) (w.alloc (.cells #[.int .u8 0] 5)) 102 5 Tryz.underlying102 Tryz.underlying5 w.heap.size 0 1 1 [0] rfl (by
    intro i hi
    obtain rfl : i = 0 := by omega
    simp) 9 Tryz.underlying9
  go_enter Tryz.func38, Tryz.ntmps38
  go_wp2_with (go_at_call 67; refine (l1Many_any (strOfNums [0]) n _ (by omega) (by decide)).mono ?_; rintro e w' ⟨rfl, rfl⟩)
  go_ret
  exact ⟨rfl, u_b1 _ _⟩
end Go.Proofs.YtegldmdcdnnegaaGreatDoor
namespace Go.Proofs.YtegldmdcdnnegaaGreatDoor
open Go.ChangeShapes Go.WideShapes Go.ChangeAt Go.RowKit

/-- 'append(out, xs...)', out the call's own, xs whatever row: as one step of a region that draws its order. -/
theorem step_append_row {P : Program} {W : World} {ops : Array Oper} {o : Oper} {a : Act} {K : Act → World → Prop} {Q : Exit → Act → World → Prop} {E : Prop} (t e : TypeId) (i : TypeInfo) (z : Value) (bytes : Nat)
    (ht : P.underlying t = some (.slice e)) (hi : P.info? e = some i) (hz : i.zero = some z) (hz1 : i.size = 1) (hz2 : i.bytes = bytes) (hzs : z.cells.size = 1)
    {base n : Nat} {v : Value} {xs : List Value} (s x : Operand) (hgd : o.guard = none) (ho : o.op = .call { callee := .builtin .append, args := #[s, x], argTypes := #[t, t] })
    (hs : a.eval s = v) (ao : Option Addr) (m c : Nat) (news : List Value) (hx : a.eval x = .slice ao m c) (hl : news.length = m) (hnone : ao = none → m = 0 ∧ c = 0)
    (hown : W.ownsRow base e 1 v n xs) (hnews : ∀ ad, ao = some ad → ∀ j u, news[j]? = some u → W.cell? (ad.add j) = some u) (h1 : ∀ u ∈ news, u.oneCell' = true)
    (hbs : base ≤ W.heap.size) (hbd : (n + m) * bytes ≤ 140737488355328) (hml : n + m ≤ 9223372036854775807)
    (h : ∀ v' w', w'.ownsRow base e 1 v' (n + m) (xs ++ news) → W.grownBy w' v.ownBlock → K (a.put o.dst v') w') :
    if Region.wanted o (yielded ops a.tmps) = true then Oper.wp P o a W K Q else E := by
  have hw : Region.wanted o (yielded ops a.tmps) = true := by simp [Region.wanted, hgd]
  rw [if_pos hw]
  cases ao with
  | some ad =>
    obtain ⟨v', w', hrun, r1, r2, _⟩ := run_append_own (P := P) W base t o.type e i z 1 bytes ht hi hz hz1 hz2 hzs (by decide) v n xs hown ad m c news (by rw [hl, Nat.mul_one]) (hnews ad rfl) h1 hml hbd hbs
    unfold Oper.wp
    simp [execOp, ho, resolve, invoke, builtin, hs, hx, hrun, Result.andThen]
    exact h v' w' r1 r2
  | none =>
    obtain ⟨rfl, rfl⟩ := hnone rfl
    obtain rfl : news = [] := List.eq_nil_of_length_eq_zero hl
    have hrun := run_append_owned_none (P := P) W base t o.type e i 1 ht hi v n xs hown
    unfold Oper.wp
    simp [execOp, ho, resolve, invoke, builtin, hs, hx, hrun, Result.andThen]
    refine h v W ?_ ⟨rfl, rfl, rfl, Nat.le_refl _, fun _ _ _ => rfl⟩
    rw [List.append_nil]
    exact hown
end Go.Proofs.YtegldmdcdnnegaaGreatDoor
