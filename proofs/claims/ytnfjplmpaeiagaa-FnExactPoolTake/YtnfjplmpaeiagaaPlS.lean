/- Pools that are ok, by the model. -/
import Derived.Test.YtnfjplmpaeiagaaPlO
namespace Go.Proofs.Ytnfjplmpaeiagaa
open Go.ChangeShapes Go.WideShapes Go.ChangeAt Go.RowKit Go.Sort Go.Shelf

/-- Two frames of one edition and block. -/
def clash (f g : Fr) : Prop := 0 < f.e ∧ f.e = g.e ∧ f.b = g.b
instance (f g : Fr) : Decidable (clash f g) := by unfold clash; infer_instance
/-- The first so many frames are ok, and none has what one ahead of it has. -/
def okTo (fs : List Fr) (i : Nat) : Prop := ∀ j f, j < i → fs[j]? = some f → frP f ∧ ∀ k g, k < j → fs[k]? = some g → ¬ clash f g

theorem frP_nn {f : Fr} (h : frP f) : 0 ≤ f.e := by
  unfold frP at h
  split at h
  · omega
  · have := h.1.2.1; omega
theorem okTo_frames {fs : List Fr} (h8 : fs.length = 8) : okTo fs 8 ↔ framesP fs := by
  constructor
  · intro h x
    obtain ⟨h1, h2⟩ := h x.val (nth fs x) x.isLt (nth_at h8 x)
    refine ⟨h1, ?_⟩
    by_cases he : (nth fs x).e = 0
    · exact .inl he
    · right
      have hpos : 0 < (nth fs x).e := by have := frP_nn h1; omega
      unfold fnd
      rw [List.findIdx?_eq_some_iff_getElem]
      have hlt : x.val < fs.length := by have := x.isLt; omega
      have hx := nth_at h8 x
      rw [List.getElem?_eq_getElem hlt] at hx
      refine ⟨hlt, by rw [Option.some.inj hx]; simp [isAt], fun j hj => ?_⟩
      have hjl : j < fs.length := by omega
      have := h2 j fs[j] hj (List.getElem?_eq_getElem hjl)
      intro hc
      simp only [isAt, Bool.and_eq_true, beq_iff_eq] at hc
      exact this ⟨hpos, hc.1.symm, hc.2.symm⟩
  · intro h j f hj hf
    have hx := nth_at h8 ⟨j, hj⟩
    have hfe : f = nth fs ⟨j, hj⟩ := by rw [hf] at hx; exact Option.some.inj hx
    obtain ⟨h1, h2⟩ := h ⟨j, hj⟩
    rw [← hfe] at h1 h2
    refine ⟨h1, fun k g hk hg hc => ?_⟩
    rcases h2 with h2 | h2
    · have := hc.1; omega
    · unfold fnd at h2
      rw [List.findIdx?_eq_some_iff_getElem] at h2
      obtain ⟨_, _, h3⟩ := h2
      have hkl : k < fs.length := (List.getElem?_eq_some_iff.1 hg).1
      have := h3 k hk
      rw [List.getElem?_eq_getElem hkl] at hg
      rw [Option.some.inj hg] at this
      simp [isAt] at this
      exact this hc.2.1.symm hc.2.2.symm

theorem frOf_take (fs : List Fr) (k : Nat) (hk : k < fs.length) (h : Int) : frOf (fs.take (k + 1)) h = frOf (fs.take k) h + if isOf h fs[k] = true then 1 else 0 := by
  unfold frOf
  rw [List.take_succ_eq_append_getElem hk, List.filter_append, List.length_append]
  by_cases hx : isOf h fs[k] = true
  · simp [hx]
  · simp [hx]

set_option maxHeartbeats 2000000 in
theorem l10Of_any (a : Option Addr) (cap : Nat) (fs : List Fr) (hand house : Int) (w : World) (ha : FrsAt w a fs) (hx : fs.length ≤ 1048576) (hnn : ∀ f ∈ fs, 0 ≤ f.e) :
    Calls Try.prog 26 #[.agg #[.slice a fs.length cap, .int .i64 hand], .int .i64 house] w fun e w' => e = .returned (.int .i64 (frOf fs house)) ∧ Below w.heap.size w w' := by
  have HA := hid ha
  have HN := hid hnn
  clear ha hnn
  go_enter Try.func26, Try.ntmps26
  go_wp2
  go_loop [5, 6] (fun n i => ∃ k : Nat, k ≤ fs.length ∧ i = .int .i64 k ∧ n = .int .i64 (frOf (fs.take k) house)) (fun _ i => fs.length - (intOf i).toNat)
  case atStart => exact ⟨0, by omega, rfl, rfl⟩
  case round =>
    obtain ⟨k, hk, rfl, rfl⟩ := hrel
    have hle : frOf (fs.take k) house ≤ k := by
      have := List.length_filter_le (isOf house) (fs.take k)
      have := List.length_take_le k fs
      unfold frOf; omega
    by_cases hlt : k < fs.length
    · obtain ⟨b, off, rfl, hc⟩ := HA.out (by intro h; simp [h] at hlt)
      have hq := (hc k fs[k] (List.getElem?_eq_getElem hlt)).below (u_b1 w (.cells #[.slice (some ⟨b, off, none⟩) fs.length cap, .int .i64 hand] 29)) (block_lt_of_cell (hc k fs[k] (List.getElem?_eq_getElem hlt)).c0)
      obtain ⟨c0, c1, -, -, -⟩ := hq
      have hs := hid (frOf_take fs k hlt house)
      have hn0 := HN.out fs[k] (List.getElem_mem hlt)
      obtain ⟨f, hf⟩ : ∃ f, f = fs[k] := ⟨_, rfl⟩
      rw [← hf] at c0 c1 hs hn0
      have HI := hid (show isOf house f = (!decide (f.e = 0) && decide (f.h = house)) from rfl)
      clear hf hc
      by_cases he : f.e = 0
      · have h1 := hid (show isOf house f = false by rw [HI.out, decide_eq_true he]; rfl)
        have hd : decide (0 < f.e) = false := by simp; omega
        clear he hn0
        go_wp2
        go_round
        case rel => exact ⟨k + 1, by omega, by go_num, by rw [hs.out, h1.out]; rfl⟩
        case measure => simp [intOf]; omega
      · have hp : 0 < f.e := by omega
        have he' := hid (decide_eq_false he)
        clear he
        by_cases hh : f.h = house
        · have h1 := hid (show isOf house f = true by rw [HI.out, he'.out, decide_eq_true hh]; rfl)
          have hq : (f.h == house) = true := beq_iff_eq.2 hh
          clear hh
          go_wp2
          go_round
          case rel => exact ⟨k + 1, by omega, by go_num, by rw [hs.out, h1.out]; go_num⟩
          case measure => simp [intOf]; omega
        · have h1 := hid (show isOf house f = false by rw [HI.out, he'.out, decide_eq_false hh]; rfl)
          have hq : (f.h == house) = false := beq_eq_false_iff_ne.2 hh
          clear hh
          go_wp2
          go_round
          case rel => exact ⟨k + 1, by omega, by go_num, by rw [hs.out, h1.out]; rfl⟩
          case measure => simp [intOf]; omega
    · obtain rfl : k = fs.length := by omega
      go_wp2
      go_ret
      exact ⟨rfl, u_b1 _ _⟩

theorem okTo_succ {fs : List Fr} {i : Nat} {f : Fr} (h : okTo fs i) (hf : fs[i]? = some f) (h1 : frP f) (h2 : ∀ k g, k < i → fs[k]? = some g → ¬ clash f g) : okTo fs (i + 1) := by
  intro j f' hj hf'
  rcases Nat.lt_succ_iff_lt_or_eq.1 hj with hj | hj
  · exact h j f' hj hf'
  · subst hj
    rw [hf] at hf'
    cases hf'
    exact ⟨h1, h2⟩

set_option maxHeartbeats 4000000 in
theorem specPoolOk_in (b off : Nat) (cap : Nat) (fs : List Fr) (hand : Int) (w : World) (hc : ∀ k f, fs[k]? = some f → FrC w b (off + k * 5) f) (h8 : fs.length = 8) (hh : 0 ≤ hand ∧ hand ≤ 7) :
    Calls Try.prog 9 #[.agg #[.slice (some ⟨b, off, none⟩) 8 cap, .int .i64 hand]] w fun e w' => ∃ t, e = .returned (.bool t) ∧ (t = true ↔ framesP fs ∧ housesP fs) ∧ Below w.heap.size w w' := by
  have HC := hid hc
  have H8 := hid h8
  clear hc h8
  go_enter Try.func9, Try.ntmps9
  go_wp2_with (go_at_call 24; refine (l1In_yes _ _ _ _ hh).mono ?_; rintro e w' ⟨rfl, rfl⟩)
  go_loopw [3] (fun i wr => ∃ k : Nat, k ≤ 8 ∧ i = .int .i64 k ∧ okTo fs k ∧ wr.heap[w.heap.size]? = some (.cells #[.slice (some ⟨b, off, none⟩) 8 cap, .int .i64 hand] 29 (0, 0)) ∧ Below w.heap.size w wr) (fun i _ => 8 - (intOf i).toNat)
  case atStart => exact ⟨0, by omega, rfl, fun j f hj => by omega, laid _ _ _, u_b1 _ _⟩
  case round =>
    obtain ⟨i, hi, rfl, hok, X, B⟩ := hrel
    have HO := hid hok
    have q0 := box_cell X 0 (v := .slice (some ⟨b, off, none⟩) 8 cap) rfl
    have q1 := box_cell X 1 (v := .int .i64 hand) rfl
    have HX := hid X
    have HB := hid B
    clear hok X B
    by_cases hlt : i < 8
    · have hil : i < fs.length := by rw [H8.out]; exact hlt
      have HE := hid (List.getElem?_eq_getElem hil)
      have hck := HC.out i fs[i] HE.out
      obtain ⟨c0, c1, c2, c3, c4⟩ := hck.below HB.out (block_lt_of_cell hck.c0)
      obtain ⟨f, hf⟩ : ∃ f, f = fs[i] := ⟨_, rfl⟩
      rw [← hf] at c0 c1 c2 c3 c4 HE
      clear hck hf
      by_cases hP : frP f
      · have hd := hid (decide_eq_true hP)
        have HP := hid hP
        clear hP
        go_wp2_with (go_at_call 25; refine (l10Ok_any f _).mono ?_; rw [hd.out]; rintro e w2 ⟨rfl, b2⟩)
        have HX := hid (kept HX.out b2)
        have HB := hid (u_catn HB.out (Nat.le_refl _) b2)
        clear b2 q0 q1 c0 c1 c2 c3 c4
        go_loopw [4] (fun j wr => ∃ k : Nat, k ≤ i ∧ j = .int .i64 k ∧ (∀ k' g, k' < k → fs[k']? = some g → ¬ clash f g) ∧ wr.heap[w.heap.size]? = some (.cells #[.slice (some ⟨b, off, none⟩) 8 cap, .int .i64 hand] 29 (0, 0)) ∧ Below w.heap.size w wr) (fun j _ => i - (intOf j).toNat)
        case atStart => exact ⟨0, by omega, rfl, fun j f hj => by omega, HX.out, HB.out⟩
        case round =>
          obtain ⟨k, hk, rfl, hno, X, B⟩ := hrel
          have HNO := hid hno
          have q0 := box_cell X 0 (v := .slice (some ⟨b, off, none⟩) 8 cap) rfl
          have HX := hid X
          have HB := hid B
          clear hno X
          by_cases hkl : k < i
          · have hkl' : k < fs.length := by omega
            have HE2 := hid (List.getElem?_eq_getElem hkl')
            have hck := HC.out i f HE.out
            obtain ⟨-, c1, c2, -, -⟩ := hck.below B (block_lt_of_cell hck.c0)
            have hck2 := HC.out k fs[k] HE2.out
            obtain ⟨-, d1, d2, -, -⟩ := hck2.below B (block_lt_of_cell hck2.c0)
            obtain ⟨g, hg⟩ : ∃ g, g = fs[k] := ⟨_, rfl⟩
            rw [← hg] at d1 d2 HE2
            clear hck hck2 hg B
            have HNE : ∀ (_ : ¬ clash f g), ∀ k' g', k' < k + 1 → fs[k']? = some g' → ¬ clash f g' := fun hcl k' g' hk' hg' => by
              rcases Nat.lt_succ_iff_lt_or_eq.1 hk' with h | h
              · exact HNO.out k' g' h hg'
              · subst h; rw [HE2.out] at hg'; cases hg'; exact hcl
            have HNE := hid HNE
            by_cases he : 0 < f.e
            · obtain ⟨t1, ht1⟩ : ∃ t1, (f.e == g.e) = t1 := ⟨_, rfl⟩
              obtain ⟨t2, ht2⟩ : ∃ t2, (f.b == g.b) = t2 := ⟨_, rfl⟩
              have HCL := hid (show clash f g ↔ t1 = true ∧ t2 = true by
                unfold clash
                rw [← ht1, ← ht2, beq_iff_eq, beq_iff_eq]
                exact ⟨fun h => h.2, fun h => ⟨he, h⟩⟩)
              cases t1
              · go_wp2
                go_quiet (fail)
                go_wp2
                go_roundw
                case rel => exact ⟨k + 1, by omega, by go_num, HNE.out (fun h => by cases (HCL.out.1 h).1), HX.out, below_drewN HB.out _⟩
                case measure => simp [intOf]; omega
              · cases t2
                · go_wp2
                  go_quiet (fail)
                  go_wp2
                  go_roundw
                  case rel => exact ⟨k + 1, by omega, by go_num, HNE.out (fun h => by cases (HCL.out.1 h).2), HX.out, below_drewN HB.out _⟩
                  case measure => simp [intOf]; omega
                · have HF := hid (show ¬ framesP fs from fun h => by
                    rw [← okTo_frames H8.out] at h
                    exact (h i f hlt HE.out).2 k g hkl HE2.out (HCL.out.2 ⟨rfl, rfl⟩))
                  go_wp2
                  go_quiet (fail)
                  go_wp2
                  go_ret
                  exact ⟨false, rfl, ⟨fun h => (by cases h), fun h => absurd h.1 HF.out⟩, below_drewN HB.out _⟩
            · have hd0 : decide (0 < f.e) = false := decide_eq_false he
              have HCL := hid (show ¬ clash f g from fun h => he h.1)
              clear he
              go_wp2
              go_quiet (fail)
              go_wp2
              go_roundw
              case rel => exact ⟨k + 1, by omega, by go_num, HNE.out HCL.out, HX.out, below_drewN HB.out _⟩
              case measure => simp [intOf]; omega
          · obtain rfl : k = i := by omega
            clear B
            go_wp2
            go_roundw
            case rel => exact ⟨k + 1, by omega, by go_num, okTo_succ HO.out HE.out HP.out HNO.out, HX.out, HB.out⟩
            case measure => simp [intOf]; omega
      · have hd := hid (decide_eq_false hP)
        have HF := hid (show ¬ framesP fs from fun h => by
          rw [← okTo_frames H8.out] at h
          exact hP (h i f hlt HE.out).1)
        clear hP
        go_wp2_with (go_at_call 25; refine (l10Ok_any f _).mono ?_; rw [hd.out]; rintro e w2 ⟨rfl, b2⟩)
        go_ret
        exact ⟨false, rfl, ⟨fun h => (by cases h), fun h => absurd h.1 HF.out⟩, u_catn HB.out (Nat.le_refl _) b2⟩
    · have HO := hid (show okTo fs 8 by have h := HO.out; rwa [show i = 8 by omega] at h)
      have HF := hid ((okTo_frames H8.out).1 HO.out)
      have HNN := hid (show ∀ f ∈ fs, 0 ≤ f.e from fun f hf => by
        obtain ⟨j, hj⟩ := List.mem_iff_getElem?.1 hf
        have hjl := (List.getElem?_eq_some_iff.1 hj).1
        exact frP_nn (HO.out j f (by rw [← H8.out]; exact hjl) hj).1)
      have HL := hid (show ∀ h, frOf fs h ≤ 8 from fun h => by have := List.length_filter_le (isOf h) fs; have := H8.out; unfold frOf; omega)
      go_wp2
      clear q0 q1
      go_loopw [5] (fun j wr => ∃ k : Nat, k ≤ 2 ∧ j = .int .i64 k ∧ (∀ h : Nat, h < k → frOf fs h ≤ 5) ∧ wr.heap[w.heap.size]? = some (.cells #[.slice (some ⟨b, off, none⟩) 8 cap, .int .i64 hand] 29 (0, 0)) ∧ Below w.heap.size w wr) (fun j _ => 2 - (intOf j).toNat)
      case atStart => exact ⟨0, by omega, rfl, fun j hj => by omega, HX.out, HB.out⟩
      case round =>
        obtain ⟨k, hk, rfl, hall, X, B⟩ := hrel
        have HA := hid hall
        have q0 := box_cell X 0 (v := .slice (some ⟨b, off, none⟩) 8 cap) rfl
        have q1 := box_cell X 1 (v := .int .i64 hand) rfl
        have HX := hid X
        have HB := hid B
        clear hall X B
        by_cases hlt2 : k < 2
        · have hl := HL.out k
          have K := hid (l10Of_any (some ⟨b, off, none⟩) cap fs hand k)
          rw [H8.out] at K
          have HFA := hid (show FrsAt wr (some ⟨b, off, none⟩) fs from fun _ => ⟨b, off, rfl, fun j f hj => (HC.out j f hj).below HB.out (block_lt_of_cell (HC.out j f hj).c0)⟩)
          by_cases hle : frOf fs k ≤ 5
          · go_wp2_with (go_at_call 26; refine (K.out _ HFA.out (by omega) HNN.out).mono ?_; rintro e w2 ⟨rfl, b2⟩)
            go_roundw
            case rel => exact ⟨k + 1, by omega, by go_num, fun j hj => (by
              rcases Nat.lt_succ_iff_lt_or_eq.1 hj with h | h
              · exact HA.out j h
              · subst h; exact hle), kept HX.out b2, u_catn HB.out (Nat.le_refl _) b2⟩
            case measure => simp [intOf]; omega
          · have HH := hid (show ¬ housesP fs from fun h => hle (by
              match k, hlt2 with
              | 0, _ => exact h.1
              | 1, _ => exact h.2))
            go_wp2_with (go_at_call 26; refine (K.out _ HFA.out (by omega) HNN.out).mono ?_; rintro e w2 ⟨rfl, b2⟩)
            go_ret
            exact ⟨false, rfl, ⟨fun h => (by cases h), fun h => absurd h.2 HH.out⟩, u_catn HB.out (Nat.le_refl _) b2⟩
        · have HH := hid (show housesP fs from ⟨HA.out 0 (by omega), HA.out 1 (by omega)⟩)
          go_wp2
          go_ret
          exact ⟨true, rfl, ⟨fun _ => ⟨HF.out, HH.out⟩, fun _ => rfl⟩, HB.out⟩
end Go.Proofs.Ytnfjplmpaeiagaa
