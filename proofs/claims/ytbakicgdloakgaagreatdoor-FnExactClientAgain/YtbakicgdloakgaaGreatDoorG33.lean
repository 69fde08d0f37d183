/- What a client says with a tick, by the model and by the program. A client that wants no more, by the model and by the program. A client that asks for a thing, by the model and by the program. -/
import Derived.Test.YtbakicgdloakgaaGreatDoorG32
import Derived.Test.YtbakicgdloakgaaGreatDoorG30
namespace Go.Proofs.YtbakicgdloakgaaGreatDoor
open Go.ChangeShapes Go.WideShapes Go.ChangeAt Go.RowKit Go.Sort Go.Shelf
attribute [local go_sem] Oper.semAt_some

end Go.Proofs.YtbakicgdloakgaaGreatDoor
namespace Go.Proofs.YtbakicgdloakgaaGreatDoor
open Go.ChangeShapes Go.WideShapes Go.ChangeAt Go.RowKit Go.Sort Go.Shelf
attribute [local go_sem] Oper.semAt_some

/-- A client and words that a call answers: rows of the call's own, the words behind them. -/
def CliO (w' : World) (B : Nat) (i t s ed : Int) (nm : ByteArray) (L S C Z : Int) (WW GG : List Int) (vs : List Vl) (o : Option WV) (r : Bool) (e : Ending) : Prop :=
  ∃ b1 e1 b2 e2 a c fs v m, e = .returned (.tuple #[.agg #[.int .i64 i, .int .i64 t, .int .i64 s, .string nm, .int .i64 ed, .int .i64 L, .int .i64 S, .slice b1 WW.length e1, .slice b2 GG.length e2, .int .i64 C, .int .i64 Z, .slice a fs.length c], v]) ∧ GetOwn w' B WW GG b1 b2 e1 e2 a c fs ∧ GIn B m b1 b2 a WW.length GG.length e1 e2 c fs ∧ WsAt w' m v o ∧ B ≤ m ∧ m ≤ w'.heap.size ∧ valsE fs = vs ∧ (r = true → RowsAp fs)
theorem gin_nil (lo hi : Nat) : GIn lo hi none none none 0 0 0 0 0 [] := ⟨fun k hk => (by cases hk), fun k hk => (by cases hk), fun k hk => (by cases hk), fun f hf => (by cases hf)⟩
/-- A client without rows. -/
theorem cliO_nil {w w' : World} {i t s ed : Int} {nm : ByteArray} {v : Value} {o : Option WV} {r : Bool} (hb : Below w.heap.size w w') (hw : WsAt w' w.heap.size v o) : CliO w' w.heap.size i t s ed nm 0 0 0 0 [] [] [] o r (.returned (.tuple #[.agg #[.int .i64 i, .int .i64 t, .int .i64 s, .string nm, .int .i64 ed, .int .i64 0, .int .i64 0, .slice none 0 0, .slice none 0 0, .int .i64 0, .int .i64 0, .slice none 0 0], v])) :=
  ⟨none, 0, none, 0, none, 0, [], v, w.heap.size, rfl, own_nil _ _, gin_nil _ _, hw, Nat.le_refl _, hb.size, rfl, fun _ => List.Pairwise.nil⟩
theorem sets_size : ∀ (vs : List Value) (w : World) (g k : Nat), w.heap.size ≤ (setsC w g vs k).heap.size
  | [], _, _, _ => Nat.le_refl _
  | v :: r, w, g, k => Nat.le_trans (by simp [World.setCell]) (sets_size r (w.setCell ⟨g, k, none⟩ v) g (k + 1))
theorem gin_mono {lo lo' hi : Nat} {b1 b2 a : Option Addr} {n1 n2 d1 d2 c : Nat} {fs : List EqV} (h : GIn lo hi b1 b2 a n1 n2 d1 d2 c fs) (hl : lo' ≤ lo) : GIn lo' hi b1 b2 a n1 n2 d1 d2 c fs :=
  ⟨fun k hk => ⟨Nat.le_trans hl (h.l1 k hk).1, (h.l1 k hk).2⟩, fun k hk => ⟨Nat.le_trans hl (h.l2 k hk).1, (h.l2 k hk).2⟩, fun k hk => ⟨Nat.le_trans hl (h.le k hk).1, (h.le k hk).2⟩, fun f hf k hk => ⟨Nat.le_trans hl (h.lr f hf k hk).1, (h.lr f hf k hk).2⟩⟩
end Go.Proofs.YtbakicgdloakgaaGreatDoor
namespace Go.Proofs.YtbakicgdloakgaaGreatDoor
open Go.ChangeShapes Go.WideShapes Go.ChangeAt Go.RowKit Go.Sort Go.Shelf
attribute [local go_sem] Oper.semAt_some

end Go.Proofs.YtbakicgdloakgaaGreatDoor
