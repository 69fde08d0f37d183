/- A client that is ok: the model and the program say the same. -/
import Derived.Test.YtbakicgdloakgaaGreatDoorG39
import Derived.Test.YtbakicgdloakgaaGreatDoorG38
namespace Go.Proofs.YtbakicgdloakgaaGreatDoor
open Go.ChangeShapes Go.WideShapes Go.ChangeAt Go.RowKit Go.Sort Go.Shelf
attribute [local go_sem] Oper.semAt_some

theorem non_get {L S : Int} {ws gs : List Int} {C Z : Int} {es : List EqV} (h : nonP L S ws.length gs.length C Z es.length) : ¬ getP L S ws gs C Z es := fun hg => by
  have h1 := hg.1.1.1
  have h2 := h.1
  omega

theorem specCli_any (i t s ed : Int) (nm : ByteArray) (L S : Int) (a1 a2 : Option Addr) (c1 c2 : Nat) (ws gs : List Int) (C Z : Int) (a : Option Addr) (cap : Nat) (es : List EqV) (w : World) (ha1 : IntsAt w a1 ws) (ha2 : IntsAt w a2 gs) (hx : ws.length ≤ 1048576) (hy : gs.length ≤ 1048576) (ha : EqsAt w a es) (hl : es.length ≤ 1048576) (hsm : SmallE es) (hnm : nm.size ≤ maxLen) :
    Calls Tryz.prog 24 #[.agg #[.int .i64 i, .int .i64 t, .int .i64 s, .string nm, .int .i64 ed, .int .i64 L, .int .i64 S, .slice a1 ws.length c1, .slice a2 gs.length c2, .int .i64 C, .int .i64 Z, .slice a es.length cap]] w fun e w' => e = .returned (.bool (decide (cliP i t s ed nm (nonP L S ws.length gs.length C Z es.length) (getP L S ws gs C Z es) (getP L S ws gs C Z es ∧ (es.length : Int) = C)))) ∧ Below w.heap.size w w' := by
  have hng := @non_get L S ws gs C Z es
  by_cases hi : 0 ≤ i ∧ i ≤ 3
  case neg =>
    rw [decide_eq_false (show ¬ (cliP i t s ed nm (nonP L S ws.length gs.length C Z es.length) (getP L S ws gs C Z es) (getP L S ws gs C Z es ∧ (es.length : Int) = C)) by clear ha1 ha2 ha hsm hnm hx hy hl; unfold cliP; grind)]
    exact specCli_i s ed i t nm L S a1 a2 c1 c2 ws gs C Z a cap es w ha1 ha2 hx hy ha hl hsm hnm (by omega)
  by_cases ht : 0 ≤ t ∧ t ≤ 99999
  case neg =>
    rw [decide_eq_false (show ¬ (cliP i t s ed nm (nonP L S ws.length gs.length C Z es.length) (getP L S ws gs C Z es) (getP L S ws gs C Z es ∧ (es.length : Int) = C)) by clear ha1 ha2 ha hsm hnm hx hy hl; unfold cliP; grind)]
    exact specCli_t s ed i t nm L S a1 a2 c1 c2 ws gs C Z a cap es w ha1 ha2 hx hy ha hl hsm hnm hi (by omega)
  by_cases hs : 0 ≤ s ∧ s ≤ 4
  case neg =>
    rw [decide_eq_false (show ¬ (cliP i t s ed nm (nonP L S ws.length gs.length C Z es.length) (getP L S ws gs C Z es) (getP L S ws gs C Z es ∧ (es.length : Int) = C)) by clear ha1 ha2 ha hsm hnm hx hy hl; unfold cliP; grind)]
    exact specCli_s s ed i t nm L S a1 a2 c1 c2 ws gs C Z a cap es w ha1 ha2 hx hy ha hl hsm hnm hi ht (by omega)
  by_cases he : 0 ≤ ed ∧ ed ≤ 99999
  case neg =>
    rw [decide_eq_false (show ¬ (cliP i t s ed nm (nonP L S ws.length gs.length C Z es.length) (getP L S ws gs C Z es) (getP L S ws gs C Z es ∧ (es.length : Int) = C)) by clear ha1 ha2 ha hsm hnm hx hy hl; unfold cliP; grind)]
    exact specCli_e s ed i t nm L S a1 a2 c1 c2 ws gs C Z a cap es w ha1 ha2 hx hy ha hl hsm hnm hi ht hs (by omega)
  by_cases e0 : ed = 0
  · subst e0
    by_cases hn : nonP L S ws.length gs.length C Z es.length
    case neg =>
      rw [decide_eq_false (show ¬ (cliP i t s 0 nm (nonP L S ws.length gs.length C Z es.length) (getP L S ws gs C Z es) (getP L S ws gs C Z es ∧ (es.length : Int) = C)) by clear ha1 ha2 ha hsm hnm hx hy hl; unfold cliP; grind)]
      exact specCli_n s i t nm L S a1 a2 c1 c2 ws gs C Z a cap es w ha1 ha2 hx hy ha hl hsm hnm hi ht hs hn
    obtain rfl | rfl | rfl | rfl | rfl : s = 0 ∨ s = 1 ∨ s = 2 ∨ s = 3 ∨ s = 4 := by omega
    · by_cases hne : nm = ⟨#[]⟩
      · subst hne
        rw [decide_eq_true (show (cliP i t 0 0 ⟨#[]⟩ (nonP L S ws.length gs.length C Z es.length) (getP L S ws gs C Z es) (getP L S ws gs C Z es ∧ (es.length : Int) = C)) by clear ha1 ha2 ha hsm hnm hx hy hl; unfold cliP; grind)]
        exact specCli_0zy i t ⟨#[]⟩ L S a1 a2 c1 c2 ws gs C Z a cap es w ha1 ha2 hx hy ha hl hsm hnm hi ht hn
      · skip
        rw [decide_eq_false (show ¬ (cliP i t 0 0 nm (nonP L S ws.length gs.length C Z es.length) (getP L S ws gs C Z es) (getP L S ws gs C Z es ∧ (es.length : Int) = C)) by clear ha1 ha2 ha hsm hnm hx hy hl; unfold cliP; grind)]
        exact specCli_0zn i t nm L S a1 a2 c1 c2 ws gs C Z a cap es w ha1 ha2 hx hy ha hl hsm hnm hi ht hn hne
    · by_cases h0 : t = 0
      · subst h0
        rw [decide_eq_false (show ¬ (cliP i 0 1 0 nm (nonP L S ws.length gs.length C Z es.length) (getP L S ws gs C Z es) (getP L S ws gs C Z es ∧ (es.length : Int) = C)) by clear ha1 ha2 ha hsm hnm hx hy hl; unfold cliP; grind)]
        exact specCli_1zt i 0 nm L S a1 a2 c1 c2 ws gs C Z a cap es w ha1 ha2 hx hy ha hl hsm hnm hi hn
      · have ht1 : 1 ≤ t ∧ t ≤ 99999 := by omega
        by_cases hm : nameB nm = true
        case neg =>
          have hm2 : nameB nm = false := by simpa using hm
          rw [decide_eq_false (show ¬ (cliP i t 1 0 nm (nonP L S ws.length gs.length C Z es.length) (getP L S ws gs C Z es) (getP L S ws gs C Z es ∧ (es.length : Int) = C)) by clear ha1 ha2 ha hsm hnm hx hy hl; unfold cliP; grind)]
          exact specCli_1zm i t nm L S a1 a2 c1 c2 ws gs C Z a cap es w ha1 ha2 hx hy ha hl hsm hnm hi ht1 hn hm2
        rw [decide_eq_true (show (cliP i t 1 0 nm (nonP L S ws.length gs.length C Z es.length) (getP L S ws gs C Z es) (getP L S ws gs C Z es ∧ (es.length : Int) = C)) by clear ha1 ha2 ha hsm hnm hx hy hl; unfold cliP; grind)]
        exact specCli_1z i t nm L S a1 a2 c1 c2 ws gs C Z a cap es w ha1 ha2 hx hy ha hl hsm hnm hi ht1 hn hm
    · by_cases h0 : t = 0
      · subst h0
        rw [decide_eq_false (show ¬ (cliP i 0 2 0 nm (nonP L S ws.length gs.length C Z es.length) (getP L S ws gs C Z es) (getP L S ws gs C Z es ∧ (es.length : Int) = C)) by clear ha1 ha2 ha hsm hnm hx hy hl; unfold cliP; grind)]
        exact specCli_2zt i 0 nm L S a1 a2 c1 c2 ws gs C Z a cap es w ha1 ha2 hx hy ha hl hsm hnm hi hn
      · have ht1 : 1 ≤ t ∧ t ≤ 99999 := by omega
        by_cases hm : nameB nm = true
        case neg =>
          have hm2 : nameB nm = false := by simpa using hm
          rw [decide_eq_false (show ¬ (cliP i t 2 0 nm (nonP L S ws.length gs.length C Z es.length) (getP L S ws gs C Z es) (getP L S ws gs C Z es ∧ (es.length : Int) = C)) by clear ha1 ha2 ha hsm hnm hx hy hl; unfold cliP; grind)]
          exact specCli_2zm i t nm L S a1 a2 c1 c2 ws gs C Z a cap es w ha1 ha2 hx hy ha hl hsm hnm hi ht1 hn hm2
        rw [decide_eq_false (show ¬ (cliP i t 2 0 nm (nonP L S ws.length gs.length C Z es.length) (getP L S ws gs C Z es) (getP L S ws gs C Z es ∧ (es.length : Int) = C)) by clear ha1 ha2 ha hsm hnm hx hy hl; unfold cliP; grind)]
        exact specCli_2z i t nm L S a1 a2 c1 c2 ws gs C Z a cap es w ha1 ha2 hx hy ha hl hsm hnm hi ht1 hn hm
    · by_cases h0 : t = 0
      · subst h0
        rw [decide_eq_false (show ¬ (cliP i 0 3 0 nm (nonP L S ws.length gs.length C Z es.length) (getP L S ws gs C Z es) (getP L S ws gs C Z es ∧ (es.length : Int) = C)) by clear ha1 ha2 ha hsm hnm hx hy hl; unfold cliP; grind)]
        exact specCli_3zt i 0 nm L S a1 a2 c1 c2 ws gs C Z a cap es w ha1 ha2 hx hy ha hl hsm hnm hi hn
      · have ht1 : 1 ≤ t ∧ t ≤ 99999 := by omega
        by_cases hm : nameB nm = true
        case neg =>
          have hm2 : nameB nm = false := by simpa using hm
          rw [decide_eq_false (show ¬ (cliP i t 3 0 nm (nonP L S ws.length gs.length C Z es.length) (getP L S ws gs C Z es) (getP L S ws gs C Z es ∧ (es.length : Int) = C)) by clear ha1 ha2 ha hsm hnm hx hy hl; unfold cliP; grind)]
          exact specCli_3zm i t nm L S a1 a2 c1 c2 ws gs C Z a cap es w ha1 ha2 hx hy ha hl hsm hnm hi ht1 hn hm2
        rw [decide_eq_false (show ¬ (cliP i t 3 0 nm (nonP L S ws.length gs.length C Z es.length) (getP L S ws gs C Z es) (getP L S ws gs C Z es ∧ (es.length : Int) = C)) by clear ha1 ha2 ha hsm hnm hx hy hl; unfold cliP; grind)]
        exact specCli_3z i t nm L S a1 a2 c1 c2 ws gs C Z a cap es w ha1 ha2 hx hy ha hl hsm hnm hi ht1 hn hm
    · by_cases h0 : t = 0
      · subst h0
        rw [decide_eq_false (show ¬ (cliP i 0 4 0 nm (nonP L S ws.length gs.length C Z es.length) (getP L S ws gs C Z es) (getP L S ws gs C Z es ∧ (es.length : Int) = C)) by clear ha1 ha2 ha hsm hnm hx hy hl; unfold cliP; grind)]
        exact specCli_4zt i 0 nm L S a1 a2 c1 c2 ws gs C Z a cap es w ha1 ha2 hx hy ha hl hsm hnm hi hn
      · have ht1 : 1 ≤ t ∧ t ≤ 99999 := by omega
        by_cases hm : nameB nm = true
        case neg =>
          have hm2 : nameB nm = false := by simpa using hm
          rw [decide_eq_false (show ¬ (cliP i t 4 0 nm (nonP L S ws.length gs.length C Z es.length) (getP L S ws gs C Z es) (getP L S ws gs C Z es ∧ (es.length : Int) = C)) by clear ha1 ha2 ha hsm hnm hx hy hl; unfold cliP; grind)]
          exact specCli_4zm i t nm L S a1 a2 c1 c2 ws gs C Z a cap es w ha1 ha2 hx hy ha hl hsm hnm hi ht1 hn hm2
        rw [decide_eq_true (show (cliP i t 4 0 nm (nonP L S ws.length gs.length C Z es.length) (getP L S ws gs C Z es) (getP L S ws gs C Z es ∧ (es.length : Int) = C)) by clear ha1 ha2 ha hsm hnm hx hy hl; unfold cliP; grind)]
        exact specCli_4z i t nm L S a1 a2 c1 c2 ws gs C Z a cap es w ha1 ha2 hx hy ha hl hsm hnm hi ht1 hn hm
  · have he1 : 0 < ed ∧ ed ≤ 99999 := by omega
    by_cases hg : getP L S ws gs C Z es
    case neg =>
      rw [decide_eq_false (show ¬ (cliP i t s ed nm (nonP L S ws.length gs.length C Z es.length) (getP L S ws gs C Z es) (getP L S ws gs C Z es ∧ (es.length : Int) = C)) by clear ha1 ha2 ha hsm hnm hx hy hl; unfold cliP; grind)]
      exact specCli_g s ed i t nm L S a1 a2 c1 c2 ws gs C Z a cap es w ha1 ha2 hx hy ha hl hsm hnm hi ht hs he1 hg
    obtain rfl | rfl | rfl | rfl | rfl : s = 0 ∨ s = 1 ∨ s = 2 ∨ s = 3 ∨ s = 4 := by omega
    · by_cases hne : nm = ⟨#[]⟩
      · subst hne
        rw [decide_eq_false (show ¬ (cliP i t 0 ed ⟨#[]⟩ (nonP L S ws.length gs.length C Z es.length) (getP L S ws gs C Z es) (getP L S ws gs C Z es ∧ (es.length : Int) = C)) by clear ha1 ha2 ha hsm hnm hx hy hl; unfold cliP; grind)]
        exact specCli_0py ed i t ⟨#[]⟩ L S a1 a2 c1 c2 ws gs C Z a cap es w ha1 ha2 hx hy ha hl hsm hnm hi ht he1 hg
      · skip
        rw [decide_eq_false (show ¬ (cliP i t 0 ed nm (nonP L S ws.length gs.length C Z es.length) (getP L S ws gs C Z es) (getP L S ws gs C Z es ∧ (es.length : Int) = C)) by clear ha1 ha2 ha hsm hnm hx hy hl; unfold cliP; grind)]
        exact specCli_0pn ed i t nm L S a1 a2 c1 c2 ws gs C Z a cap es w ha1 ha2 hx hy ha hl hsm hnm hi ht he1 hg hne
    · by_cases h0 : t = 0
      · subst h0
        rw [decide_eq_false (show ¬ (cliP i 0 1 ed nm (nonP L S ws.length gs.length C Z es.length) (getP L S ws gs C Z es) (getP L S ws gs C Z es ∧ (es.length : Int) = C)) by clear ha1 ha2 ha hsm hnm hx hy hl; unfold cliP; grind)]
        exact specCli_1pt ed i 0 nm L S a1 a2 c1 c2 ws gs C Z a cap es w ha1 ha2 hx hy ha hl hsm hnm hi he1 hg
      · have ht1 : 1 ≤ t ∧ t ≤ 99999 := by omega
        by_cases hm : nameB nm = true
        case neg =>
          have hm2 : nameB nm = false := by simpa using hm
          rw [decide_eq_false (show ¬ (cliP i t 1 ed nm (nonP L S ws.length gs.length C Z es.length) (getP L S ws gs C Z es) (getP L S ws gs C Z es ∧ (es.length : Int) = C)) by clear ha1 ha2 ha hsm hnm hx hy hl; unfold cliP; grind)]
          exact specCli_1pm ed i t nm L S a1 a2 c1 c2 ws gs C Z a cap es w ha1 ha2 hx hy ha hl hsm hnm hi ht1 he1 hg hm2
        by_cases hd : (getP L S ws gs C Z es ∧ (es.length : Int) = C)
        · skip
          rw [decide_eq_false (show ¬ (cliP i t 1 ed nm (nonP L S ws.length gs.length C Z es.length) (getP L S ws gs C Z es) (getP L S ws gs C Z es ∧ (es.length : Int) = C)) by clear ha1 ha2 ha hsm hnm hx hy hl; unfold cliP; grind)]
          exact specCli_1pd ed i t nm L S a1 a2 c1 c2 ws gs C Z a cap es w ha1 ha2 hx hy ha hl hsm hnm hi ht1 he1 hg hm hd
        · skip
          rw [decide_eq_true (show (cliP i t 1 ed nm (nonP L S ws.length gs.length C Z es.length) (getP L S ws gs C Z es) (getP L S ws gs C Z es ∧ (es.length : Int) = C)) by clear ha1 ha2 ha hsm hnm hx hy hl; unfold cliP; grind)]
          exact specCli_1pn ed i t nm L S a1 a2 c1 c2 ws gs C Z a cap es w ha1 ha2 hx hy ha hl hsm hnm hi ht1 he1 hg hm hd
    · by_cases h0 : t = 0
      · subst h0
        rw [decide_eq_false (show ¬ (cliP i 0 2 ed nm (nonP L S ws.length gs.length C Z es.length) (getP L S ws gs C Z es) (getP L S ws gs C Z es ∧ (es.length : Int) = C)) by clear ha1 ha2 ha hsm hnm hx hy hl; unfold cliP; grind)]
        exact specCli_2pt ed i 0 nm L S a1 a2 c1 c2 ws gs C Z a cap es w ha1 ha2 hx hy ha hl hsm hnm hi he1 hg
      · have ht1 : 1 ≤ t ∧ t ≤ 99999 := by omega
        by_cases hm : nameB nm = true
        case neg =>
          have hm2 : nameB nm = false := by simpa using hm
          rw [decide_eq_false (show ¬ (cliP i t 2 ed nm (nonP L S ws.length gs.length C Z es.length) (getP L S ws gs C Z es) (getP L S ws gs C Z es ∧ (es.length : Int) = C)) by clear ha1 ha2 ha hsm hnm hx hy hl; unfold cliP; grind)]
          exact specCli_2pm ed i t nm L S a1 a2 c1 c2 ws gs C Z a cap es w ha1 ha2 hx hy ha hl hsm hnm hi ht1 he1 hg hm2
        by_cases hd : (getP L S ws gs C Z es ∧ (es.length : Int) = C)
        · skip
          rw [decide_eq_false (show ¬ (cliP i t 2 ed nm (nonP L S ws.length gs.length C Z es.length) (getP L S ws gs C Z es) (getP L S ws gs C Z es ∧ (es.length : Int) = C)) by clear ha1 ha2 ha hsm hnm hx hy hl; unfold cliP; grind)]
          exact specCli_2pd ed i t nm L S a1 a2 c1 c2 ws gs C Z a cap es w ha1 ha2 hx hy ha hl hsm hnm hi ht1 he1 hg hm hd
        · skip
          rw [decide_eq_true (show (cliP i t 2 ed nm (nonP L S ws.length gs.length C Z es.length) (getP L S ws gs C Z es) (getP L S ws gs C Z es ∧ (es.length : Int) = C)) by clear ha1 ha2 ha hsm hnm hx hy hl; unfold cliP; grind)]
          exact specCli_2pn ed i t nm L S a1 a2 c1 c2 ws gs C Z a cap es w ha1 ha2 hx hy ha hl hsm hnm hi ht1 he1 hg hm hd
    · by_cases h0 : t = 0
      · subst h0
        rw [decide_eq_false (show ¬ (cliP i 0 3 ed nm (nonP L S ws.length gs.length C Z es.length) (getP L S ws gs C Z es) (getP L S ws gs C Z es ∧ (es.length : Int) = C)) by clear ha1 ha2 ha hsm hnm hx hy hl; unfold cliP; grind)]
        exact specCli_3pt ed i 0 nm L S a1 a2 c1 c2 ws gs C Z a cap es w ha1 ha2 hx hy ha hl hsm hnm hi he1 hg
      · have ht1 : 1 ≤ t ∧ t ≤ 99999 := by omega
        by_cases hm : nameB nm = true
        case neg =>
          have hm2 : nameB nm = false := by simpa using hm
          rw [decide_eq_false (show ¬ (cliP i t 3 ed nm (nonP L S ws.length gs.length C Z es.length) (getP L S ws gs C Z es) (getP L S ws gs C Z es ∧ (es.length : Int) = C)) by clear ha1 ha2 ha hsm hnm hx hy hl; unfold cliP; grind)]
          exact specCli_3pm ed i t nm L S a1 a2 c1 c2 ws gs C Z a cap es w ha1 ha2 hx hy ha hl hsm hnm hi ht1 he1 hg hm2
        by_cases hd : (getP L S ws gs C Z es ∧ (es.length : Int) = C)
        · skip
          rw [decide_eq_true (show (cliP i t 3 ed nm (nonP L S ws.length gs.length C Z es.length) (getP L S ws gs C Z es) (getP L S ws gs C Z es ∧ (es.length : Int) = C)) by clear ha1 ha2 ha hsm hnm hx hy hl; unfold cliP; grind)]
          exact specCli_3pd ed i t nm L S a1 a2 c1 c2 ws gs C Z a cap es w ha1 ha2 hx hy ha hl hsm hnm hi ht1 he1 hg hm hd
        · skip
          rw [decide_eq_false (show ¬ (cliP i t 3 ed nm (nonP L S ws.length gs.length C Z es.length) (getP L S ws gs C Z es) (getP L S ws gs C Z es ∧ (es.length : Int) = C)) by clear ha1 ha2 ha hsm hnm hx hy hl; unfold cliP; grind)]
          exact specCli_3pn ed i t nm L S a1 a2 c1 c2 ws gs C Z a cap es w ha1 ha2 hx hy ha hl hsm hnm hi ht1 he1 hg hm hd
    · by_cases h0 : t = 0
      · subst h0
        rw [decide_eq_false (show ¬ (cliP i 0 4 ed nm (nonP L S ws.length gs.length C Z es.length) (getP L S ws gs C Z es) (getP L S ws gs C Z es ∧ (es.length : Int) = C)) by clear ha1 ha2 ha hsm hnm hx hy hl; unfold cliP; grind)]
        exact specCli_4pt ed i 0 nm L S a1 a2 c1 c2 ws gs C Z a cap es w ha1 ha2 hx hy ha hl hsm hnm hi he1 hg
      · have ht1 : 1 ≤ t ∧ t ≤ 99999 := by omega
        by_cases hm : nameB nm = true
        case neg =>
          have hm2 : nameB nm = false := by simpa using hm
          rw [decide_eq_false (show ¬ (cliP i t 4 ed nm (nonP L S ws.length gs.length C Z es.length) (getP L S ws gs C Z es) (getP L S ws gs C Z es ∧ (es.length : Int) = C)) by clear ha1 ha2 ha hsm hnm hx hy hl; unfold cliP; grind)]
          exact specCli_4pm ed i t nm L S a1 a2 c1 c2 ws gs C Z a cap es w ha1 ha2 hx hy ha hl hsm hnm hi ht1 he1 hg hm2
        by_cases hd : (getP L S ws gs C Z es ∧ (es.length : Int) = C)
        · skip
          rw [decide_eq_false (show ¬ (cliP i t 4 ed nm (nonP L S ws.length gs.length C Z es.length) (getP L S ws gs C Z es) (getP L S ws gs C Z es ∧ (es.length : Int) = C)) by clear ha1 ha2 ha hsm hnm hx hy hl; unfold cliP; grind)]
          exact specCli_4pd ed i t nm L S a1 a2 c1 c2 ws gs C Z a cap es w ha1 ha2 hx hy ha hl hsm hnm hi ht1 he1 hg hm hd
        · skip
          rw [decide_eq_true (show (cliP i t 4 ed nm (nonP L S ws.length gs.length C Z es.length) (getP L S ws gs C Z es) (getP L S ws gs C Z es ∧ (es.length : Int) = C)) by clear ha1 ha2 ha hsm hnm hx hy hl; unfold cliP; grind)]
          exact specCli_4pn ed i t nm L S a1 a2 c1 c2 ws gs C Z a cap es w ha1 ha2 hx hy ha hl hsm hnm hi ht1 he1 hg hm hd

theorem stand_no (s : Int) (w : World) (h : s < 0 ∨ 4 < s) : Calls Tryz.prog 42 #[.int .i64 s] w fun e w' => e = .returned .nilIface ∧ w' = w := by
  have h0 : (s == 0) = false := beq_eq_false_iff_ne.2 (by omega)
  have h1 : (s == 1) = false := beq_eq_false_iff_ne.2 (by omega)
  have h2 : (s == 2) = false := beq_eq_false_iff_ne.2 (by omega)
  have h3 : (s == 3) = false := beq_eq_false_iff_ne.2 (by omega)
  have h4 : (s == 4) = false := beq_eq_false_iff_ne.2 (by omega)
  go_enter Tryz.func42, Tryz.ntmps42
  go_wp2
  go_ret
  exact ⟨rfl, rfl⟩
set_option maxHeartbeats 4000000 in
set_option maxRecDepth 100000 in
theorem implCli_no (i t s ed : Int) (nm : ByteArray) (L S : Int) (a1 a2 : Option Addr) (c1 c2 : Nat) (ws gs : List Int) (C Z : Int) (a : Option Addr) (cap : Nat) (es : List EqV) (w : World) (h : s < 0 ∨ 4 < s) :
    Calls Tryz.prog 29 #[.agg #[.int .i64 i, .int .i64 t, .int .i64 s, .string nm, .int .i64 ed, .int .i64 L, .int .i64 S, .slice a1 ws.length c1, .slice a2 gs.length c2, .int .i64 C, .int .i64 Z, .slice a es.length cap]] w fun e w' => e = .returned (.bool false) ∧ Below w.heap.size w w' := by
  go_enter Tryz.func29, Tryz.ntmps29
  go_wp2_with (go_at_call 42; refine (stand_no _ _ h).mono ?_; rintro e wa ⟨rfl, hq⟩; subst hq)
  go_ret
  exact ⟨rfl, u_b1 _ _⟩
theorem implCli_any (i t s ed : Int) (nm : ByteArray) (L S : Int) (a1 a2 : Option Addr) (c1 c2 : Nat) (ws gs : List Int) (C Z : Int) (a : Option Addr) (cap : Nat) (es : List EqV) (w : World) (ha1 : IntsAt w a1 ws) (ha2 : IntsAt w a2 gs) (hx : ws.length ≤ 1048576) (hy : gs.length ≤ 1048576) (ha : EqsAt w a es) (hl : es.length ≤ 1048576) (hsm : SmallE es) (hnm : nm.size ≤ maxLen) (hT : Tab w) :
    Calls Tryz.prog 29 #[.agg #[.int .i64 i, .int .i64 t, .int .i64 s, .string nm, .int .i64 ed, .int .i64 L, .int .i64 S, .slice a1 ws.length c1, .slice a2 gs.length c2, .int .i64 C, .int .i64 Z, .slice a es.length cap]] w fun e w' => e = .returned (.bool (decide (cliP i t s ed nm (nonP L S ws.length gs.length C Z es.length) (getP L S ws gs C Z es) (getP L S ws gs C Z es ∧ (es.length : Int) = C)))) ∧ Below w.heap.size w w' := by
  have hng := @non_get L S ws gs C Z es
  by_cases hs : 0 ≤ s ∧ s ≤ 4
  case neg =>
    rw [decide_eq_false (show ¬ (cliP i t s ed nm (nonP L S ws.length gs.length C Z es.length) (getP L S ws gs C Z es) (getP L S ws gs C Z es ∧ (es.length : Int) = C)) from fun h => hs h.2.2.1)]
    exact implCli_no i t s ed nm L S a1 a2 c1 c2 ws gs C Z a cap es w (by omega)
  obtain rfl | rfl | rfl | rfl | rfl : s = 0 ∨ s = 1 ∨ s = 2 ∨ s = 3 ∨ s = 4 := by omega
  · refine (implCli_0 i t ed nm L S a1 a2 c1 c2 ws gs C Z a cap es w ha1 ha2 hx hy ha hl hsm hnm hT).mono ?_
    rintro e w' ⟨rfl, b⟩
    refine ⟨?_, b⟩
    congr 2
    clear ha1 ha2 ha hsm hnm hx hy hl hT b
    rw [decide_eq_decide]
    unfold cliP
    grind
  · refine (implCli_1 i t ed nm L S a1 a2 c1 c2 ws gs C Z a cap es w ha1 ha2 hx hy ha hl hsm hnm hT).mono ?_
    rintro e w' ⟨rfl, b⟩
    refine ⟨?_, b⟩
    congr 2
    clear ha1 ha2 ha hsm hnm hx hy hl hT b
    rw [decide_eq_decide]
    unfold cliP
    grind
  · refine (implCli_2 i t ed nm L S a1 a2 c1 c2 ws gs C Z a cap es w ha1 ha2 hx hy ha hl hsm hnm hT).mono ?_
    rintro e w' ⟨rfl, b⟩
    refine ⟨?_, b⟩
    congr 2
    clear ha1 ha2 ha hsm hnm hx hy hl hT b
    rw [decide_eq_decide]
    unfold cliP
    grind
  · refine (implCli_3 i t ed nm L S a1 a2 c1 c2 ws gs C Z a cap es w ha1 ha2 hx hy ha hl hsm hnm hT).mono ?_
    rintro e w' ⟨rfl, b⟩
    refine ⟨?_, b⟩
    congr 2
    clear ha1 ha2 ha hsm hnm hx hy hl hT b
    rw [decide_eq_decide]
    unfold cliP
    grind
  · refine (implCli_4 i t ed nm L S a1 a2 c1 c2 ws gs C Z a cap es w ha1 ha2 hx hy ha hl hsm hnm hT).mono ?_
    rintro e w' ⟨rfl, b⟩
    refine ⟨?_, b⟩
    congr 2
    clear ha1 ha2 ha hsm hnm hx hy hl hT b
    rw [decide_eq_decide]
    unfold cliP
    grind
end Go.Proofs.YtbakicgdloakgaaGreatDoor
