/- The draws' reader: what it keeps. -/
import Derived.Test.YtgdmhodipjfkoaaRd
namespace Go.Proofs.Ytgdmhodipjfkoaa
open Go.ChangeShapes Go.WideShapes Go.ChangeAt Go.RowKit

theorem Rd.keptB {w w' : World} {g p B : Nat} (h : Rd w g p) (hb : Below B w w') (hg : g < B) : Rd w' g p := by
  obtain ⟨a, n, c, bs, hh, h1, h2, h3, h4⟩ := h
  refine ⟨a, n, c, bs, by rw [hb.block g hg]; exact hh, h1, h2, h3, fun hn => ?_⟩
  obtain ⟨b, off, ha, hne, hlt, hc⟩ := h4 hn
  exact ⟨b, off, ha, hne, hlt, fun i hi => by rw [hb.cell (p := ⟨b, off + i, none⟩) (Nat.lt_trans hlt hg)]; exact hc i hi⟩
theorem Rd.kept {w w' : World} {g p : Nat} (h : Rd w g p) (hb : Below w.heap.size w w') : Rd w' g p := by
  have hg : g < w.heap.size := by obtain ⟨a, n, c, bs, hh, _⟩ := h; exact lt_of_block hh
  exact h.keptB hb hg
theorem Rd.lt {w : World} {g p : Nat} (h : Rd w g p) : g < w.heap.size := by
  obtain ⟨a, n, c, bs, hh, _⟩ := h
  exact lt_of_block hh
theorem Touch.grown {g : Nat} {w w' : World} (h : Touch g w w') : w.grownBy w' (some g) :=
  ⟨h.os, h.tape, h.output, Nat.le_of_eq h.size.symm, fun k _ hk => h.block k (fun e => hk (by rw [e]))⟩
theorem below_grown {w w' : World} (h : Below w.heap.size w w') (r : Option Nat) : w.grownBy w' r := ⟨h.os, h.tape, h.output, h.size, fun k hk _ => h.block k hk⟩
theorem grown_trans {a b c : World} {r : Option Nat} (h : a.grownBy b r) (k : b.grownBy c r) : a.grownBy c r :=
  ⟨k.os.trans h.os, k.tape.trans h.tape, k.output.trans h.output, Nat.le_trans h.size k.size, fun i hi hr => (k.block i (Nat.lt_of_lt_of_le hi h.size) hr).trans (h.block i hi hr)⟩
theorem grown_below {w w' : World} {g B : Nat} (h : w.grownBy w' (some g)) (hB : B ≤ g) (hs : B ≤ w.heap.size) : Below B w w' :=
  ⟨h.os, h.tape, h.output, h.size, fun k hk => h.block k (by omega) (fun e => by injection e with e; omega)⟩
end Go.Proofs.Ytgdmhodipjfkoaa
