/- A client that is ok: the model and the program say the same. Gettings copied by the model. -/
import Derived.Test.YtbakicgdloakgaaGreatDoorG28
import Derived.Test.YtbakicgdloakgaaGreatDoorG27
import Derived.Test.YtbakicgdloakgaaGreatDoorG23
import Derived.Test.YtbakicgdloakgaaGreatDoorG6
import Derived.Test.YtbakicgdloakgaaGreatDoorG21
import Derived.Test.YtbakicgdloakgaaGreatDoorG9
namespace Go.Proofs.YtbakicgdloakgaaGreatDoor
open Go.ChangeShapes Go.WideShapes Go.ChangeAt Go.RowKit Go.Sort Go.Shelf
attribute [local go_sem] Oper.semAt_some

theorem non_get {L S : Int} {ws gs : List Int} {C Z : Int} {es : List EqV} (h : nonP L S ws.length gs.length C Z es.length) : ¬ getP L S ws gs C Z es := fun hg => by
  have h1 := hg.1.1.1
  have h2 := h.1
  omega

theorem specCli_any (i t s ed : Int) (nm : ByteArray) (L S : Int) (a1 a2 : Option Addr) (c1 c2 : Nat) (ws gs : List Int) (C Z : Int) (a : Option Addr) (cap : Nat) (es : List EqV) (w : World) (ha1 : IntsAt w a1 ws) (ha2 : IntsAt w a2 gs) (hx : ws.length ≤ 1048576) (hy : gs.length ≤ 1048576) (ha : EqsAt w a es) (hl : es.length ≤ 1048576) (hsm : SmallE es) (hnm : nm.size ≤ maxLen) :
    Calls Tryz.prog 24 #[.agg #[.int .i64 i, .int .i64 t, .int .i64 s, .string nm, .int .i64 ed, .int .i64 L, .int .i64 S, .slice a1 ws.length c1, .slice a2 gs.length c2, .int .i64 C, .int .i64 Z, .slice a es.length cap]] w fun e w' => e = .returned (.bool (decide (cliP i t s ed nm (nonP L S ws.length gs.length C Z es.length) (getP L S ws gs C Z es) (getP L S ws gs C Z es ∧ (es.length : Int) = C)))) ∧ Below w.heap.size w w' := by
  have hng := @non_get L S ws gs C Z es
  by_cases hi : 0 ≤ i ∧ i ≤ 3
  case neg =>
    rw [decide_eq_false (show ¬ (cliP i t s ed nm (nonP L S ws.length gs.length C Z es.length) (getP L S ws gs C Z es) (getP L S ws gs C Z es ∧ (es.length : Int) = C)) by clear ha1 ha2 ha hsm hnm hx hy hl; unfold cliP; grind)]
    exact specCli_i s ed i t nm L S a1 a2 c1 c2 ws gs C Z a cap es w ha1 ha2 hx hy ha hl hsm hnm (by omega)
  by_cases ht : 0 ≤ t ∧ t ≤ 99999
  case neg =>
    rw [decide_eq_false (show ¬ (cliP i t s ed nm (nonP L S ws.length gs.length C Z es.length) (getP L S ws gs C Z es) (getP L S ws gs C Z es ∧ (es.length : Int) = C)) by clear ha1 ha2 ha hsm hnm hx hy hl; unfold cliP; grind)]
    exact specCli_t s ed i t nm L S a1 a2 c1 c2 ws gs C Z a cap es w ha1 ha2 hx hy ha hl hsm hnm hi (by omega)
  by_cases hs : 0 ≤ s ∧ s ≤ 4
  case neg =>
    rw [decide_eq_false (show ¬ (cliP i t s ed nm (nonP L S ws.length gs.length C Z es.length) (getP L S ws gs C Z es) (getP L S ws gs C Z es ∧ (es.length : Int) = C)) by clear ha1 ha2 ha hsm hnm hx hy hl; unfold cliP; grind)]
    exact specCli_s s ed i t nm L S a1 a2 c1 c2 ws gs C Z a cap es w ha1 ha2 hx hy ha hl hsm hnm hi ht (by omega)
  by_cases he : 0 ≤ ed ∧ ed ≤ 99999
  case neg =>
    rw [decide_eq_false (show ¬ (cliP i t s ed nm (nonP L S ws.length gs.length C Z es.length) (getP L S ws gs C Z es) (getP L S ws gs C Z es ∧ (es.length : Int) = C)) by clear ha1 ha2 ha hsm hnm hx hy hl; unfold cliP; grind)]
    exact specCli_e s ed i t nm L S a1 a2 c1 c2 ws gs C Z a cap es w ha1 ha2 hx hy ha hl hsm hnm hi ht hs (by omega)
  by_cases e0 : ed = 0
  · subst e0
    by_cases hn : nonP L S ws.length gs.length C Z es.length
    case neg =>
      rw [decide_eq_false (show ¬ (cliP i t s 0 nm (nonP L S ws.length gs.length C Z es.length) (getP L S ws gs C Z es) (getP L S ws gs C Z es ∧ (es.length : Int) = C)) by clear ha1 ha2 ha hsm hnm hx hy hl; unfold cliP; grind)]
      exact specCli_n s i t nm L S a1 a2 c1 c2 ws gs C Z a cap es w ha1 ha2 hx hy ha hl hsm hnm hi ht hs hn
    obtain rfl | rfl | rfl | rfl | rfl : s = 0 ∨ s = 1 ∨ s = 2 ∨ s = 3 ∨ s = 4 := by omega
    · by_cases hne : nm = ⟨#[]⟩
      · subst hne
        rw [decide_eq_true (show (cliP i t 0 0 ⟨#[]⟩ (nonP L S ws.length gs.length C Z es.length) (getP L S ws gs C Z es) (getP L S ws gs C Z es ∧ (es.length : Int) = C)) by clear ha1 ha2 ha hsm hnm hx hy hl; unfold cliP; grind)]
        exact specCli_0zy i t ⟨#[]⟩ L S a1 a2 c1 c2 ws gs C Z a cap es w ha1 ha2 hx hy ha hl hsm hnm hi ht hn
      · skip
        rw [decide_eq_false (show ¬ (cliP i t 0 0 nm (nonP L S ws.length gs.length C Z es.length) (getP L S ws gs C Z es) (getP L S ws gs C Z es ∧ (es.length : Int) = C)) by clear ha1 ha2 ha hsm hnm hx hy hl; unfold cliP; grind)]
        exact specCli_0zn i t nm L S a1 a2 c1 c2 ws gs C Z a cap es w ha1 ha2 hx hy ha hl hsm hnm hi ht hn hne
    · by_cases h0 : t = 0
      · subst h0
        rw [decide_eq_false (show ¬ (cliP i 0 1 0 nm (nonP L S ws.length gs.length C Z es.length) (getP L S ws gs C Z es) (getP L S ws gs C Z es ∧ (es.length : Int) = C)) by clear ha1 ha2 ha hsm hnm hx hy hl; unfold cliP; grind)]
        exact specCli_1zt i 0 nm L S a1 a2 c1 c2 ws gs C Z a cap es w ha1 ha2 hx hy ha hl hsm hnm hi hn
      · have ht1 : 1 ≤ t ∧ t ≤ 99999 := by omega
        by_cases hm : nameB nm = true
        case neg =>
          have hm2 : nameB nm = false := by simpa using hm
          rw [decide_eq_false (show ¬ (cliP i t 1 0 nm (nonP L S ws.length gs.length C Z es.length) (getP L S ws gs C Z es) (getP L S ws gs C Z es ∧ (es.length : Int) = C)) by clear ha1 ha2 ha hsm hnm hx hy hl; unfold cliP; grind)]
          exact specCli_1zm i t nm L S a1 a2 c1 c2 ws gs C Z a cap es w ha1 ha2 hx hy ha hl hsm hnm hi ht1 hn hm2
        rw [decide_eq_true (show (cliP i t 1 0 nm (nonP L S ws.length gs.length C Z es.length) (getP L S ws gs C Z es) (getP L S ws gs C Z es ∧ (es.length : Int) = C)) by clear ha1 ha2 ha hsm hnm hx hy hl; unfold cliP; grind)]
        exact specCli_1z i t nm L S a1 a2 c1 c2 ws gs C Z a cap es w ha1 ha2 hx hy ha hl hsm hnm hi ht1 hn hm
    · by_cases h0 : t = 0
      · subst h0
        rw [decide_eq_false (show ¬ (cliP i 0 2 0 nm (nonP L S ws.length gs.length C Z es.length) (getP L S ws gs C Z es) (getP L S ws gs C Z es ∧ (es.length : Int) = C)) by clear ha1 ha2 ha hsm hnm hx hy hl; unfold cliP; grind)]
        exact specCli_2zt i 0 nm L S a1 a2 c1 c2 ws gs C Z a cap es w ha1 ha2 hx hy ha hl hsm hnm hi hn
      · have ht1 : 1 ≤ t ∧ t ≤ 99999 := by omega
        by_cases hm : nameB nm = true
        case neg =>
          have hm2 : nameB nm = false := by simpa using hm
          rw [decide_eq_false (show ¬ (cliP i t 2 0 nm (nonP L S ws.length gs.length C Z es.length) (getP L S ws gs C Z es) (getP L S ws gs C Z es ∧ (es.length : Int) = C)) by clear ha1 ha2 ha hsm hnm hx hy hl; unfold cliP; grind)]
          exact specCli_2zm i t nm L S a1 a2 c1 c2 ws gs C Z a cap es w ha1 ha2 hx hy ha hl hsm hnm hi ht1 hn hm2
        rw [decide_eq_false (show ¬ (cliP i t 2 0 nm (nonP L S ws.length gs.length C Z es.length) (getP L S ws gs C Z es) (getP L S ws gs C Z es ∧ (es.length : Int) = C)) by clear ha1 ha2 ha hsm hnm hx hy hl; unfold cliP; grind)]
        exact specCli_2z i t nm L S a1 a2 c1 c2 ws gs C Z a cap es w ha1 ha2 hx hy ha hl hsm hnm hi ht1 hn hm
    · by_cases h0 : t = 0
      · subst h0
        rw [decide_eq_false (show ¬ (cliP i 0 3 0 nm (nonP L S ws.length gs.length C Z es.length) (getP L S ws gs C Z es) (getP L S ws gs C Z es ∧ (es.length : Int) = C)) by clear ha1 ha2 ha hsm hnm hx hy hl; unfold cliP; grind)]
        exact specCli_3zt i 0 nm L S a1 a2 c1 c2 ws gs C Z a cap es w ha1 ha2 hx hy ha hl hsm hnm hi hn
      · have ht1 : 1 ≤ t ∧ t ≤ 99999 := by omega
        by_cases hm : nameB nm = true
        case neg =>
          have hm2 : nameB nm = false := by simpa using hm
          rw [decide_eq_false (show ¬ (cliP i t 3 0 nm (nonP L S ws.length gs.length C Z es.length) (getP L S ws gs C Z es) (getP L S ws gs C Z es ∧ (es.length : Int) = C)) by clear ha1 ha2 ha hsm hnm hx hy hl; unfold cliP; grind)]
          exact specCli_3zm i t nm L S a1 a2 c1 c2 ws gs C Z a cap es w ha1 ha2 hx hy ha hl hsm hnm hi ht1 hn hm2
        rw [decide_eq_false (show ¬ (cliP i t 3 0 nm (nonP L S ws.length gs.length C Z es.length) (getP L S ws gs C Z es) (getP L S ws gs C Z es ∧ (es.length : Int) = C)) by clear ha1 ha2 ha hsm hnm hx hy hl; unfold cliP; grind)]
        exact specCli_3z i t nm L S a1 a2 c1 c2 ws gs C Z a cap es w ha1 ha2 hx hy ha hl hsm hnm hi ht1 hn hm
    · by_cases h0 : t = 0
      · subst h0
        rw [decide_eq_false (show ¬ (cliP i 0 4 0 nm (nonP L S ws.length gs.length C Z es.length) (getP L S ws gs C Z es) (getP L S ws gs C Z es ∧ (es.length : Int) = C)) by clear ha1 ha2 ha hsm hnm hx hy hl; unfold cliP; grind)]
        exact specCli_4zt i 0 nm L S a1 a2 c1 c2 ws gs C Z a cap es w ha1 ha2 hx hy ha hl hsm hnm hi hn
      · have ht1 : 1 ≤ t ∧ t ≤ 99999 := by omega
        by_cases hm : nameB nm = true
        case neg =>
          have hm2 : nameB nm = false := by simpa using hm
          rw [decide_eq_false (show ¬ (cliP i t 4 0 nm (nonP L S ws.length gs.length C Z es.length) (getP L S ws gs C Z es) (getP L S ws gs C Z es ∧ (es.length : Int) = C)) by clear ha1 ha2 ha hsm hnm hx hy hl; unfold cliP; grind)]
          exact specCli_4zm i t nm L S a1 a2 c1 c2 ws gs C Z a cap es w ha1 ha2 hx hy ha hl hsm hnm hi ht1 hn hm2
        rw [decide_eq_true (show (cliP i t 4 0 nm (nonP L S ws.length gs.length C Z es.length) (getP L S ws gs C Z es) (getP L S ws gs C Z es ∧ (es.length : Int) = C)) by clear ha1 ha2 ha hsm hnm hx hy hl; unfold cliP; grind)]
        exact specCli_4z i t nm L S a1 a2 c1 c2 ws gs C Z a cap es w ha1 ha2 hx hy ha hl hsm hnm hi ht1 hn hm
  · have he1 : 0 < ed ∧ ed ≤ 99999 := by omega
    by_cases hg : getP L S ws gs C Z es
    case neg =>
      rw [decide_eq_false (show ¬ (cliP i t s ed nm (nonP L S ws.length gs.length C Z es.length) (getP L S ws gs C Z es) (getP L S ws gs C Z es ∧ (es.length : Int) = C)) by clear ha1 ha2 ha hsm hnm hx hy hl; unfold cliP; grind)]
      exact specCli_g s ed i t nm L S a1 a2 c1 c2 ws gs C Z a cap es w ha1 ha2 hx hy ha hl hsm hnm hi ht hs he1 hg
    obtain rfl | rfl | rfl | rfl | rfl : s = 0 ∨ s = 1 ∨ s = 2 ∨ s = 3 ∨ s = 4 := by omega
    · by_cases hne : nm = ⟨#[]⟩
      · subst hne
        rw [decide_eq_false (show ¬ (cliP i t 0 ed ⟨#[]⟩ (nonP L S ws.length gs.length C Z es.length) (getP L S ws gs C Z es) (getP L S ws gs C Z es ∧ (es.length : Int) = C)) by clear ha1 ha2 ha hsm hnm hx hy hl; unfold cliP; grind)]
        exact specCli_0py ed i t ⟨#[]⟩ L S a1 a2 c1 c2 ws gs C Z a cap es w ha1 ha2 hx hy ha hl hsm hnm hi ht he1 hg
      · skip
        rw [decide_eq_false (show ¬ (cliP i t 0 ed nm (nonP L S ws.length gs.length C Z es.length) (getP L S ws gs C Z es) (getP L S ws gs C Z es ∧ (es.length : Int) = C)) by clear ha1 ha2 ha hsm hnm hx hy hl; unfold cliP; grind)]
        exact specCli_0pn ed i t nm L S a1 a2 c1 c2 ws gs C Z a cap es w ha1 ha2 hx hy ha hl hsm hnm hi ht he1 hg hne
    · by_cases h0 : t = 0
      · subst h0
        rw [decide_eq_false (show ¬ (cliP i 0 1 ed nm (nonP L S ws.length gs.length C Z es.length) (getP L S ws gs C Z es) (getP L S ws gs C Z es ∧ (es.length : Int) = C)) by clear ha1 ha2 ha hsm hnm hx hy hl; unfold cliP; grind)]
        exact specCli_1pt ed i 0 nm L S a1 a2 c1 c2 ws gs C Z a cap es w ha1 ha2 hx hy ha hl hsm hnm hi he1 hg
      · have ht1 : 1 ≤ t ∧ t ≤ 99999 := by omega
        by_cases hm : nameB nm = true
        case neg =>
          have hm2 : nameB nm = false := by simpa using hm
          rw [decide_eq_false (show ¬ (cliP i t 1 ed nm (nonP L S ws.length gs.length C Z es.length) (getP L S ws gs C Z es) (getP L S ws gs C Z es ∧ (es.length : Int) = C)) by clear ha1 ha2 ha hsm hnm hx hy hl; unfold cliP; grind)]
          exact specCli_1pm ed i t nm L S a1 a2 c1 c2 ws gs C Z a cap es w ha1 ha2 hx hy ha hl hsm hnm hi ht1 he1 hg hm2
        by_cases hd : (getP L S ws gs C Z es ∧ (es.length : Int) = C)
        · skip
          rw [decide_eq_false (show ¬ (cliP i t 1 ed nm (nonP L S ws.length gs.length C Z es.length) (getP L S ws gs C Z es) (getP L S ws gs C Z es ∧ (es.length : Int) = C)) by clear ha1 ha2 ha hsm hnm hx hy hl; unfold cliP; grind)]
          exact specCli_1pd ed i t nm L S a1 a2 c1 c2 ws gs C Z a cap es w ha1 ha2 hx hy ha hl hsm hnm hi ht1 he1 hg hm hd
        · skip
          rw [decide_eq_true (show (cliP i t 1 ed nm (nonP L S ws.length gs.length C Z es.length) (getP L S ws gs C Z es) (getP L S ws gs C Z es ∧ (es.length : Int) = C)) by clear ha1 ha2 ha hsm hnm hx hy hl; unfold cliP; grind)]
          exact specCli_1pn ed i t nm L S a1 a2 c1 c2 ws gs C Z a cap es w ha1 ha2 hx hy ha hl hsm hnm hi ht1 he1 hg hm hd
    · by_cases h0 : t = 0
      · subst h0
        rw [decide_eq_false (show ¬ (cliP i 0 2 ed nm (nonP L S ws.length gs.length C Z es.length) (getP L S ws gs C Z es) (getP L S ws gs C Z es ∧ (es.length : Int) = C)) by clear ha1 ha2 ha hsm hnm hx hy hl; unfold cliP; grind)]
        exact specCli_2pt ed i 0 nm L S a1 a2 c1 c2 ws gs C Z a cap es w ha1 ha2 hx hy ha hl hsm hnm hi he1 hg
      · have ht1 : 1 ≤ t ∧ t ≤ 99999 := by omega
        by_cases hm : nameB nm = true
        case neg =>
          have hm2 : nameB nm = false := by simpa using hm
          rw [decide_eq_false (show ¬ (cliP i t 2 ed nm (nonP L S ws.length gs.length C Z es.length) (getP L S ws gs C Z es) (getP L S ws gs C Z es ∧ (es.length : Int) = C)) by clear ha1 ha2 ha hsm hnm hx hy hl; unfold cliP; grind)]
          exact specCli_2pm ed i t nm L S a1 a2 c1 c2 ws gs C Z a cap es w ha1 ha2 hx hy ha hl hsm hnm hi ht1 he1 hg hm2
        by_cases hd : (getP L S ws gs C Z es ∧ (es.length : Int) = C)
        · skip
          rw [decide_eq_false (show ¬ (cliP i t 2 ed nm (nonP L S ws.length gs.length C Z es.length) (getP L S ws gs C Z es) (getP L S ws gs C Z es ∧ (es.length : Int) = C)) by clear ha1 ha2 ha hsm hnm hx hy hl; unfold cliP; grind)]
          exact specCli_2pd ed i t nm L S a1 a2 c1 c2 ws gs C Z a cap es w ha1 ha2 hx hy ha hl hsm hnm hi ht1 he1 hg hm hd
        · skip
          rw [decide_eq_true (show (cliP i t 2 ed nm (nonP L S ws.length gs.length C Z es.length) (getP L S ws gs C Z es) (getP L S ws gs C Z es ∧ (es.length : Int) = C)) by clear ha1 ha2 ha hsm hnm hx hy hl; unfold cliP; grind)]
          exact specCli_2pn ed i t nm L S a1 a2 c1 c2 ws gs C Z a cap es w ha1 ha2 hx hy ha hl hsm hnm hi ht1 he1 hg hm hd
    · by_cases h0 : t = 0
      · subst h0
        rw [decide_eq_false (show ¬ (cliP i 0 3 ed nm (nonP L S ws.length gs.length C Z es.length) (getP L S ws gs C Z es) (getP L S ws gs C Z es ∧ (es.length : Int) = C)) by clear ha1 ha2 ha hsm hnm hx hy hl; unfold cliP; grind)]
        exact specCli_3pt ed i 0 nm L S a1 a2 c1 c2 ws gs C Z a cap es w ha1 ha2 hx hy ha hl hsm hnm hi he1 hg
      · have ht1 : 1 ≤ t ∧ t ≤ 99999 := by omega
        by_cases hm : nameB nm = true
        case neg =>
          have hm2 : nameB nm = false := by simpa using hm
          rw [decide_eq_false (show ¬ (cliP i t 3 ed nm (nonP L S ws.length gs.length C Z es.length) (getP L S ws gs C Z es) (getP L S ws gs C Z es ∧ (es.length : Int) = C)) by clear ha1 ha2 ha hsm hnm hx hy hl; unfold cliP; grind)]
          exact specCli_3pm ed i t nm L S a1 a2 c1 c2 ws gs C Z a cap es w ha1 ha2 hx hy ha hl hsm hnm hi ht1 he1 hg hm2
        by_cases hd : (getP L S ws gs C Z es ∧ (es.length : Int) = C)
        · skip
          rw [decide_eq_true (show (cliP i t 3 ed nm (nonP L S ws.length gs.length C Z es.length) (getP L S ws gs C Z es) (getP L S ws gs C Z es ∧ (es.length : Int) = C)) by clear ha1 ha2 ha hsm hnm hx hy hl; unfold cliP; grind)]
          exact specCli_3pd ed i t nm L S a1 a2 c1 c2 ws gs C Z a cap es w ha1 ha2 hx hy ha hl hsm hnm hi ht1 he1 hg hm hd
        · skip
          rw [decide_eq_false (show ¬ (cliP i t 3 ed nm (nonP L S ws.length gs.length C Z es.length) (getP L S ws gs C Z es) (getP L S ws gs C Z es ∧ (es.length : Int) = C)) by clear ha1 ha2 ha hsm hnm hx hy hl; unfold cliP; grind)]
          exact specCli_3pn ed i t nm L S a1 a2 c1 c2 ws gs C Z a cap es w ha1 ha2 hx hy ha hl hsm hnm hi ht1 he1 hg hm hd
    · by_cases h0 : t = 0
      · subst h0
        rw [decide_eq_false (show ¬ (cliP i 0 4 ed nm (nonP L S ws.length gs.length C Z es.length) (getP L S ws gs C Z es) (getP L S ws gs C Z es ∧ (es.length : Int) = C)) by clear ha1 ha2 ha hsm hnm hx hy hl; unfold cliP; grind)]
        exact specCli_4pt ed i 0 nm L S a1 a2 c1 c2 ws gs C Z a cap es w ha1 ha2 hx hy ha hl hsm hnm hi he1 hg
      · have ht1 : 1 ≤ t ∧ t ≤ 99999 := by omega
        by_cases hm : nameB nm = true
        case neg =>
          have hm2 : nameB nm = false := by simpa using hm
          rw [decide_eq_false (show ¬ (cliP i t 4 ed nm (nonP L S ws.length gs.length C Z es.length) (getP L S ws gs C Z es) (getP L S ws gs C Z es ∧ (es.length : Int) = C)) by clear ha1 ha2 ha hsm hnm hx hy hl; unfold cliP; grind)]
          exact specCli_4pm ed i t nm L S a1 a2 c1 c2 ws gs C Z a cap es w ha1 ha2 hx hy ha hl hsm hnm hi ht1 he1 hg hm2
        by_cases hd : (getP L S ws gs C Z es ∧ (es.length : Int) = C)
        · skip
          rw [decide_eq_false (show ¬ (cliP i t 4 ed nm (nonP L S ws.length gs.length C Z es.length) (getP L S ws gs C Z es) (getP L S ws gs C Z es ∧ (es.length : Int) = C)) by clear ha1 ha2 ha hsm hnm hx hy hl; unfold cliP; grind)]
          exact specCli_4pd ed i t nm L S a1 a2 c1 c2 ws gs C Z a cap es w ha1 ha2 hx hy ha hl hsm hnm hi ht1 he1 hg hm hd
        · skip
          rw [decide_eq_true (show (cliP i t 4 ed nm (nonP L S ws.length gs.length C Z es.length) (getP L S ws gs C Z es) (getP L S ws gs C Z es ∧ (es.length : Int) = C)) by clear ha1 ha2 ha hsm hnm hx hy hl; unfold cliP; grind)]
          exact specCli_4pn ed i t nm L S a1 a2 c1 c2 ws gs C Z a cap es w ha1 ha2 hx hy ha hl hsm hnm hi ht1 he1 hg hm hd

theorem stand_no (s : Int) (w : World) (h : s < 0 ∨ 4 < s) : Calls Tryz.prog 42 #[.int .i64 s] w fun e w' => e = .returned .nilIface ∧ w' = w := by
  have h0 : (s == 0) = false := beq_eq_false_iff_ne.2 (by omega)
  have h1 : (s == 1) = false := beq_eq_false_iff_ne.2 (by omega)
  have h2 : (s == 2) = false := beq_eq_false_iff_ne.2 (by omega)
  have h3 : (s == 3) = false := beq_eq_false_iff_ne.2 (by omega)
  have h4 : (s == 4) = false := beq_eq_false_iff_ne.2 (by omega)
  go_enter Tryz.func42, Tryz.ntmps42
  go_wp2
  go_ret
  exact ⟨rfl, rfl⟩
set_option maxHeartbeats 4000000 in
set_option maxRecDepth 100000 in
theorem implCli_no (i t s ed : Int) (nm : ByteArray) (L S : Int) (a1 a2 : Option Addr) (c1 c2 : Nat) (ws gs : List Int) (C Z : Int) (a : Option Addr) (cap : Nat) (es : List EqV) (w : World) (h : s < 0 ∨ 4 < s) :
    Calls Tryz.prog 29 #[.agg #[.int .i64 i, .int .i64 t, .int .i64 s, .string nm, .int .i64 ed, .int .i64 L, .int .i64 S, .slice a1 ws.length c1, .slice a2 gs.length c2, .int .i64 C, .int .i64 Z, .slice a es.length cap]] w fun e w' => e = .returned (.bool false) ∧ Below w.heap.size w w' := by
  go_enter Tryz.func29, Tryz.ntmps29
  go_wp2_with (go_at_call 42; refine (stand_no _ _ h).mono ?_; rintro e wa ⟨rfl, hq⟩; subst hq)
  go_ret
  exact ⟨rfl, u_b1 _ _⟩
theorem implCli_any (i t s ed : Int) (nm : ByteArray) (L S : Int) (a1 a2 : Option Addr) (c1 c2 : Nat) (ws gs : List Int) (C Z : Int) (a : Option Addr) (cap : Nat) (es : List EqV) (w : World) (ha1 : IntsAt w a1 ws) (ha2 : IntsAt w a2 gs) (hx : ws.length ≤ 1048576) (hy : gs.length ≤ 1048576) (ha : EqsAt w a es) (hl : es.length ≤ 1048576) (hsm : SmallE es) (hnm : nm.size ≤ maxLen) (hT : Tab w) :
    Calls Tryz.prog 29 #[.agg #[.int .i64 i, .int .i64 t, .int .i64 s, .string nm, .int .i64 ed, .int .i64 L, .int .i64 S, .slice a1 ws.length c1, .slice a2 gs.length c2, .int .i64 C, .int .i64 Z, .slice a es.length cap]] w fun e w' => e = .returned (.bool (decide (cliP i t s ed nm (nonP L S ws.length gs.length C Z es.length) (getP L S ws gs C Z es) (getP L S ws gs C Z es ∧ (es.length : Int) = C)))) ∧ Below w.heap.size w w' := by
  have hng := @non_get L S ws gs C Z es
  by_cases hs : 0 ≤ s ∧ s ≤ 4
  case neg =>
    rw [decide_eq_false (show ¬ (cliP i t s ed nm (nonP L S ws.length gs.length C Z es.length) (getP L S ws gs C Z es) (getP L S ws gs C Z es ∧ (es.length : Int) = C)) from fun h => hs h.2.2.1)]
    exact implCli_no i t s ed nm L S a1 a2 c1 c2 ws gs C Z a cap es w (by omega)
  obtain rfl | rfl | rfl | rfl | rfl : s = 0 ∨ s = 1 ∨ s = 2 ∨ s = 3 ∨ s = 4 := by omega
  · refine (implCli_0 i t ed nm L S a1 a2 c1 c2 ws gs C Z a cap es w ha1 ha2 hx hy ha hl hsm hnm hT).mono ?_
    rintro e w' ⟨rfl, b⟩
    refine ⟨?_, b⟩
    congr 2
    clear ha1 ha2 ha hsm hnm hx hy hl hT b
    rw [decide_eq_decide]
    unfold cliP
    grind
  · refine (implCli_1 i t ed nm L S a1 a2 c1 c2 ws gs C Z a cap es w ha1 ha2 hx hy ha hl hsm hnm hT).mono ?_
    rintro e w' ⟨rfl, b⟩
    refine ⟨?_, b⟩
    congr 2
    clear ha1 ha2 ha hsm hnm hx hy hl hT b
    rw [decide_eq_decide]
    unfold cliP
    grind
  · refine (implCli_2 i t ed nm L S a1 a2 c1 c2 ws gs C Z a cap es w ha1 ha2 hx hy ha hl hsm hnm hT).mono ?_
    rintro e w' ⟨rfl, b⟩
    refine ⟨?_, b⟩
    congr 2
    clear ha1 ha2 ha hsm hnm hx hy hl hT b
    rw [decide_eq_decide]
    unfold cliP
    grind
  · refine (implCli_3 i t ed nm L S a1 a2 c1 c2 ws gs C Z a cap es w ha1 ha2 hx hy ha hl hsm hnm hT).mono ?_
    rintro e w' ⟨rfl, b⟩
    refine ⟨?_, b⟩
    congr 2
    clear ha1 ha2 ha hsm hnm hx hy hl hT b
    rw [decide_eq_decide]
    unfold cliP
    grind
  · refine (implCli_4 i t ed nm L S a1 a2 c1 c2 ws gs C Z a cap es w ha1 ha2 hx hy ha hl hsm hnm hT).mono ?_
    rintro e w' ⟨rfl, b⟩
    refine ⟨?_, b⟩
    congr 2
    clear ha1 ha2 ha hsm hnm hx hy hl hT b
    rw [decide_eq_decide]
    unfold cliP
    grind
end Go.Proofs.YtbakicgdloakgaaGreatDoor
namespace Go.Proofs.YtbakicgdloakgaaGreatDoor
open Go.ChangeShapes Go.WideShapes Go.ChangeAt Go.RowKit Go.Sort Go.Shelf
attribute [local go_sem] Oper.semAt_some

theorem GetOwn.set {w : World} {base : Nat} {ws gs : List Int} {b1 b2 : Option Addr} {d1 d2 : Nat} {a : Option Addr} {c : Nat} {fs : List EqV} (h : GetOwn w base ws gs b1 b2 d1 d2 a c fs) {g : Nat} (hg : g < base) (i : Nat) (u : Value) : GetOwn (w.setCell ⟨g, i, none⟩ u) base ws gs b1 b2 d1 d2 a c fs := by
  obtain ⟨n, h1, h2, h3, h4, h5⟩ := h.up
  exact ⟨owns_set h.o1 hg u, owns_set h.o2 hg u, h.ap, n, h1, h2, h3, owns_set h4 (Nat.lt_of_lt_of_le hg h1) u, h5.set (Nat.lt_of_lt_of_le hg h1) _ _⟩

set_option maxHeartbeats 4000000 in
set_option maxRecDepth 100000 in
theorem l6Copy_any (L S : Int) (x1 y1 x2 y2 : Nat) (c1 c2 : Nat) (ws gs : List Int) (C Z : Int) (a : Option Addr) (cap : Nat) (es : List EqV) (w : World) (h1 : ∀ i, i < ws.length → w.cell? ⟨x1, y1 + i, none⟩ = some (.int .i64 (ws.getD i 0))) (h2 : ∀ i, i < gs.length → w.cell? ⟨x2, y2 + i, none⟩ = some (.int .i64 (gs.getD i 0)))
    (n1 : ws.length ≤ 1000) (n2 : gs.length ≤ 1000) (p1 : 1 ≤ ws.length) (p2 : 1 ≤ gs.length) (ha : EqsAt w a es) (hl : es.length ≤ 1048576) (hsm : SmallE es) (hcap : ∀ e ∈ es, e.a = none → e.c = 0) :
    Calls Tryz.prog 50 #[.agg #[.int .i64 L, .int .i64 S, .slice (some ⟨x1, y1, none⟩) ws.length c1, .slice (some ⟨x2, y2, none⟩) gs.length c2, .int .i64 C, .int .i64 Z, .slice a es.length cap]] w fun e w' => ∃ b1 d1 b2 d2 a' c' fs, e = .returned (.agg #[.int .i64 L, .int .i64 S, .slice b1 ws.length d1, .slice b2 gs.length d2, .int .i64 C, .int .i64 Z, .slice a' fs.length c']) ∧
      GetOwn w' (w.heap.size + 2) ws gs b1 b2 d1 d2 a' c' fs ∧ SamV fs es ∧ Below w.heap.size w w' := by
  have l1 := block_lt_of_cell (h1 0 (by omega))
  have l2 := block_lt_of_cell (h2 0 (by omega))
  have CP := hid (fun W (b : Below w.heap.size w W) => l6Plan_any L S x1 y1 x2 y2 c1 c2 ws gs W (fun i hi => (b.cell (p := ⟨x1, y1 + i, none⟩) l1).trans (h1 i hi)) (fun i hi => (b.cell (p := ⟨x2, y2 + i, none⟩) l2).trans (h2 i hi)) n1 n2 p1 p2)
  have CS := hid (fun W (b : Below w.heap.size w W) => l3Copy_any a cap es C Z W (ha.below b) hl hsm hcap)
  clear h1 h2 ha hsm hcap l1 l2
  obtain ⟨W0, hW0⟩ : ∃ W0, W0 = (w.alloc (.cells #[.int .i64 L, .int .i64 S, .slice (some ⟨x1, y1, none⟩) ws.length c1, .slice (some ⟨x2, y2, none⟩) gs.length c2, .int .i64 C, .int .i64 Z, .slice a es.length cap] 38)).alloc (.cells #[.int .i64 0, .int .i64 0, .slice none 0 0, .slice none 0 0, .int .i64 0, .int .i64 0, .slice none 0 0] 38) := ⟨_, rfl⟩
  obtain ⟨X0, X1, B0⟩ := u_box2 (w := w) (c := #[.int .i64 L, .int .i64 S, .slice (some ⟨x1, y1, none⟩) ws.length c1, .slice (some ⟨x2, y2, none⟩) gs.length c2, .int .i64 C, .int .i64 Z, .slice a es.length cap]) (t := 38) (d := #[.int .i64 0, .int .i64 0, .slice none 0 0, .slice none 0 0, .int .i64 0, .int .i64 0, .slice none 0 0]) (s := 38) (w1 := W0) (by rw [hW0]; exact Below.refl _ _)
  have hs0 : w.heap.size + 2 ≤ W0.heap.size := by rw [hW0]; simp
  have y0 := cell_regrown (box_cell X0 0 (v := .int .i64 L) rfl)
  have y1' := cell_regrown (box_cell X0 1 (v := .int .i64 S) rfl)
  have y2' := cell_regrown (box_cell X0 2 (v := .slice (some ⟨x1, y1, none⟩) ws.length c1) rfl)
  have y3 := cell_regrown (box_cell X0 3 (v := .slice (some ⟨x2, y2, none⟩) gs.length c2) rfl)
  have y4 := cell_regrown (box_cell X0 4 (v := .int .i64 C) rfl)
  have y5 := cell_regrown (box_cell X0 5 (v := .int .i64 Z) rfl)
  have y6 := cell_regrown (box_cell X0 6 (v := .slice a es.length cap) rfl)
  have HX1 := hid X1
  have HB := hid B0
  clear X0 X1 B0
  go_enter Tryz.func50, Tryz.ntmps50
  repeat ((fail_if_success (with_reducible show Code.wp _ (Code.region 1 _ _) _ _ _)); (first | go_values | go_skip | go_guarded | go_step | go_upon | go_back | go_simp))
  rw [← hW0]
  clear hW0
  refine wp_plan 7 (.pull [(0, 2), (3, 2)] (.step 2 (.step 5 (.step 6 (.step 7 .done))))) (by kernel_rfl) (by kernel_rfl) ?_
  intro V0 hw0
  have hbq := of_class hw0
  refine pln_pull ?_
  simp only [cutOut, List.take_succ_cons, List.take_zero, List.drop_succ_cons, List.drop_zero, List.nil_append, List.cons_append, List.append_nil]
  repeat (first | go_big_quiet_step (fail) | quiet_step (fail))
  try refine wpQuiet_nil ?_
  clear y0 y1' y2' y3 y4 y5 y6
  refine pln_step rfl (by omega) (fun K hK => ?_)
  go_simp
  with_reducible refine (CP.out V0 (u_cat HB.out hbq)).mono ?_
  rintro _ V1 ⟨v, rfl, hpo, bb⟩
  obtain ⟨b1, d1, b2, d2, rfl, o1, o2, ap⟩ := planO_slices hpo
  have hcl := u_cat hbq bb
  refine hK _ _ (class_of hcl) ?_
  clear hK K hpo
  have O1 := hid o1
  have O2 := hid o2
  have AP := hid ap
  have hz0 := hbq.size
  have hz1 := bb.size
  clear o1 o2 ap bb
  refine pln_step rfl (by omega) (fun K hK => ?_)
  go_simp
  with_reducible refine (CS.out V1 (u_cat HB.out hcl)).mono ?_
  rintro _ V2 ⟨a', c', fs, rfl, o3, sm, r3, bb⟩
  have hcl2 := u_cat hcl bb
  refine hK _ _ (class_of hcl2) ?_
  clear hK K
  have hz2 := bb.size
  have G := hid (show GetOwn V2 (w.heap.size + 2) ws gs b1 b2 d1 d2 a' c' fs from ⟨owns_base (owns_below O1.out bb) (by omega), owns_base (owns_below O2.out bb) (by omega), AP.out, V1.heap.size, by omega, fun k e => (O1.out.lt k e).2, fun k e => (O2.out.lt k e).2, owns_base o3 (by omega), r3.mono (by omega)⟩)
  have SM := hid sm
  have B2 := hid (u_cat HB.out hcl2)
  have X1 := hid (kept HX1.out hcl2)
  clear o3 sm r3 bb O1 O2 AP
  refine pln_step rfl (by omega) (fun K hK => ?_)
  go_simp
  refine hK _ _ (class_of hcl2) ?_
  clear hK K
  have zr := box_frozen X1.out
  have s0 := box_cell X1.out 0 (v := .int .i64 0) rfl
  have s1 := box_cell X1.out 1 (v := .int .i64 0) rfl
  have s2 := box_cell X1.out 2 (v := .slice none 0 0) rfl
  have s3 := box_cell X1.out 3 (v := .slice none 0 0) rfl
  have s4 := box_cell X1.out 4 (v := .int .i64 0) rfl
  have s5 := box_cell X1.out 5 (v := .int .i64 0) rfl
  have s6 := box_cell X1.out 6 (v := .slice none 0 0) rfl
  have lr := lt_of_block X1.out
  refine pln_last rfl (by omega) (fun K hK => ?_)
  go_simp
  refine hK _ _ ?_
  clear hK K
  refine pln_done ?_
  have Y := set_block (set_block (set_block (set_block (set_block (set_block (set_block (X1.out) 0 (.int .i64 L)) 1 (.int .i64 S)) 2 (.slice b1 ws.length d1)) 3 (.slice b2 gs.length d2)) 4 (.int .i64 C)) 5 (.int .i64 Z)) 6 (.slice a' fs.length c')
  have y0 := box_cell Y 0 (v := .int .i64 L) (by simp)
  have y1' := box_cell Y 1 (v := .int .i64 S) (by simp)
  have y2' := box_cell Y 2 (v := .slice b1 ws.length d1) (by simp)
  have y3 := box_cell Y 3 (v := .slice b2 gs.length d2) (by simp)
  have y4 := box_cell Y 4 (v := .int .i64 C) (by simp)
  have y5 := box_cell Y 5 (v := .int .i64 Z) (by simp)
  have y6 := box_cell Y 6 (v := .slice a' fs.length c') (by simp)
  clear s0 s1 s2 s3 s4 s5 s6 zr lr Y hcl hcl2 hbq
  go_wp2_with fail
  have hg1 : w.heap.size + 1 < w.heap.size + 2 := by omega
  refine bodyPost_ret (v := .agg #[.int .i64 L, .int .i64 S, .slice b1 ws.length d1, .slice b2 gs.length d2, .int .i64 C, .int .i64 Z, .slice a' fs.length c']) ?_ rfl ⟨b1, d1, b2, d2, a', c', fs, rfl, ?_, SM.out, ?_⟩
  · unfold results; rw [Tryz.results50]; simp [go_sem, y0, y1', y2', y3, y4, y5, y6]
  · exact ((((((G.out.set hg1 _ _).set hg1 _ _).set hg1 _ _).set hg1 _ _).set hg1 _ _).set hg1 _ _).set hg1 _ _
  · exact u_set (u_set (u_set (u_set (u_set (u_set (u_set B2.out (by simp) _ _) (by simp) _ _) (by simp) _ _) (by simp) _ _) (by simp) _ _) (by simp) _ _) (by simp) _ _
end Go.Proofs.YtbakicgdloakgaaGreatDoor
