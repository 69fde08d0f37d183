/- errors.As at the program's own error: nothing, or the error itself. Rows of ints that are read. Rows of ints that came in. The model's test 'in limits', by its answer. Rows: what is one, by the program. -/
import Derived.Test.YtegldmdcdnnegaaGreatDoorG0
import Derived.WalkKit
import Derived.LaidEql
import Derived.Stop.Asserts
import Derived.RowKitTokens
import Derived.Laws.BitsAllLaws
namespace Go.Proofs.YtegldmdcdnnegaaGreatDoor
open Go.ChangeShapes Go.WideShapes Go.ChangeAt Go.RowKit Go.Sort
open Go.Extern.Stop Go.Stop Go.Extern

theorem as_nil (t : Value) (w : World) :
    Calls Tryz.prog 22 #[.nilIface, t] w fun e w' => e = .returned (.bool false) ∧ w' = w := by
  go_enter Tryz.func22, Tryz.ntmps22
  go_wp2
  go_ret
  exact ⟨rfl, rfl⟩

/-- The variable errors.errorType holds the handle of error. -/
def ErrT (w : World) : Prop := w.cell? ⟨0, 0, none⟩ = some (.iface 144 (.agg #[.pointer (some ⟨2, 61, none⟩)]))
theorem ErrT.below {w w' : World} (h : ErrT w) (hb : Below w.heap.size w w') : ErrT w' := (hb.cell (p := ⟨0, 0, none⟩) (block_lt_of_cell h)).trans h

theorem rf_valueOfP (t : Addr) (w : World) : (ReflectliteValue.unpack (.iface 67 (.pointer (some t)))).run Tryz.prog w
    = .ok (.agg #[.pointer (some ⟨2, 67, none⟩), .pointer (some ⟨w.heap.size, 0, none⟩), .int .u64 150]) (w.alloc (.cells #[.pointer (some t)] 67)) := by kernel_rfl
theorem rf_typeP (a : Addr) (w : World) : (ReflectliteValue.methodAny (ReflectliteValue.valueError "reflectlite.Value.Type" 0) (fun t _ _ _ => ReflectliteType.toType t) #[.agg #[.pointer (some ⟨2, 67, none⟩), .pointer (some a), .int .u64 150]]).run Tryz.prog w
    = .ok (.iface 144 (.agg #[.pointer (some ⟨2, 67, none⟩)])) w := by kernel_rfl
theorem rf_methodKind (h : Value) (w : World) : (Go.method 302 144 (.agg #[h]) "Kind").run Tryz.prog w = .ok (133, h) w := by kernel_rfl
theorem rf_kindP (w : World) : ((ReflectliteType.abiMethod fun t => (fun a : Nat => Value.int IntKind.u8 (a : Int)) <$> Rtype.kind t) #[.pointer (some ⟨2, 67, none⟩)]).run Tryz.prog w = .ok (.int .u8 22) w := by kernel_rfl
theorem rf_kindE (w : World) : ((ReflectliteType.abiMethod fun t => (fun a : Nat => Value.int IntKind.u8 (a : Int)) <$> Rtype.kind t) #[.pointer (some ⟨2, 65, none⟩)]).run Tryz.prog w = .ok (.int .u8 25) w := by kernel_rfl
theorem rf_lm (z : Sem Value) (f : TypeId → Addr → Nat → Nat → Sem Value) (v : Value) :
    ReflectliteValue.method z f #[v] = (do match ← ReflectliteValue.parts v with | none => z | some (t, a, fl) => f t a fl (fl % 32)) := rfl
theorem rf_partsP (a : Addr) (w : World) : (ReflectliteValue.parts (.agg #[.pointer (some ⟨2, 67, none⟩), .pointer (some a), .int .u64 150])).run Tryz.prog w = .ok (some (67, a, 150)) w := by kernel_rfl
theorem rf_isNilP (a p : Addr) (W : World) (ha : W.cell? a = some (.pointer (some p))) :
    (ReflectliteValue.method (ReflectliteValue.valueError "reflectlite.Value.IsNil" 0) ReflectliteValue.isNil #[.agg #[.pointer (some ⟨2, 67, none⟩), .pointer (some a), .int .u64 150]]).run Tryz.prog W = .ok (.bool false) W := by
  rw [rf_lm]
  simp only [Sem.run_bind, rf_partsP, Result.andThen]
  simp [ReflectliteValue.isNil, loadVar, isAgg, underlying, Tryz.underlying67, ha, Result.andThen]
theorem rf_methodElem (h : Value) (w : World) : (Go.method 302 144 (.agg #[h]) "Elem").run Tryz.prog w = .ok (145, .agg #[h]) w := by kernel_rfl
theorem rf_methodImplements (h : Value) (w : World) : (Go.method 302 144 (.agg #[h]) "Implements").run Tryz.prog w = .ok (146, .agg #[h]) w := by kernel_rfl
theorem rf_methodAssignableTo (h : Value) (w : World) : (Go.method 302 144 (.agg #[h]) "AssignableTo").run Tryz.prog w = .ok (143, .agg #[h]) w := by kernel_rfl
theorem rf_elemP (w : World) : (ReflectliteType.method ReflectliteType.elem #[.agg #[.pointer (some ⟨2, 67, none⟩)]]).run Tryz.prog w = .ok (.iface 144 (.agg #[.pointer (some ⟨2, 65, none⟩)])) w := by kernel_rfl
theorem rf_implementsE (w : World) : (ReflectliteType.relation "Implements" ReflectliteType.implements_ #[.agg #[.pointer (some ⟨2, 65, none⟩)], .iface 144 (.agg #[.pointer (some ⟨2, 61, none⟩)])]).run Tryz.prog w = .ok (.bool true) w := by kernel_rfl
theorem rf_typeOfE (v : Value) (w : World) : (ReflectliteType.typeOf #[.iface 65 v]).run Tryz.prog w = .ok (.iface 144 (.agg #[.pointer (some ⟨2, 65, none⟩)])) w := by kernel_rfl
theorem rf_assignableE (w : World) : (ReflectliteType.relation "AssignableTo" ReflectliteType.assignableTo #[.agg #[.pointer (some ⟨2, 65, none⟩)], .iface 144 (.agg #[.pointer (some ⟨2, 65, none⟩)])]).run Tryz.prog w = .ok (.bool true) w := by kernel_rfl
theorem rf_valueOfE (x y : Int) (w : World) : (ReflectliteValue.unpack (.iface 65 (.agg #[.int .i64 x, .int .i64 y]))).run Tryz.prog w
    = .ok (.agg #[.pointer (some ⟨2, 65, none⟩), .pointer (some ⟨w.heap.size, 0, none⟩), .int .u64 153]) (w.alloc (.cells #[.int .i64 x, .int .i64 y] 65)) := by kernel_rfl
theorem rf_elemOfP (w : World) : (Rtype.elem? 67).run Tryz.prog w = .ok (some 65) w := by kernel_rfl
theorem rf_mkE (p : Addr) (w : World) : (ReflectliteValue.mk 65 p ReflectliteValue.flagAddr).run Tryz.prog w = .ok (.agg #[.pointer (some ⟨2, 65, none⟩), .pointer (some p), .int .u64 409]) w := by kernel_rfl
theorem rf_elemV (a p : Addr) (W : World) (ha : W.cell? a = some (.pointer (some p))) :
    (ReflectliteValue.method (ReflectliteValue.valueError "reflectlite.Value.Elem" 0) ReflectliteValue.elem #[.agg #[.pointer (some ⟨2, 67, none⟩), .pointer (some a), .int .u64 150]]).run Tryz.prog W
      = .ok (.agg #[.pointer (some ⟨2, 65, none⟩), .pointer (some p), .int .u64 409]) W := by
  rw [rf_lm]
  simp only [Sem.run_bind, rf_partsP, Result.andThen]
  simp [ReflectliteValue.elem, loadVar, isAgg, underlying, Tryz.underlying67, ha, Result.andThen, rf_elemOfP, rf_mkE]
theorem rf_partsEa (a : Addr) (w : World) : (ReflectliteValue.parts (.agg #[.pointer (some ⟨2, 65, none⟩), .pointer (some a), .int .u64 409])).run Tryz.prog w = .ok (some (65, a, 409)) w := by kernel_rfl
theorem rf_partsE (a : Addr) (w : World) : (ReflectliteValue.parts (.agg #[.pointer (some ⟨2, 65, none⟩), .pointer (some a), .int .u64 153])).run Tryz.prog w = .ok (some (65, a, 153)) w := by kernel_rfl
theorem rf_directE (w : World) : (Rtype.directlyAssignable 65 65).run Tryz.prog w = .ok true w := by kernel_rfl
theorem rf_sizeE (w : World) : (sizeOf 65).run Tryz.prog w = .ok 2 w := by kernel_rfl
theorem rf_aggE (w : World) : (isAgg 65).run Tryz.prog w = .ok true w := by kernel_rfl
theorem rf_s (v x : Value) : ReflectliteValue.set #[v, x] = (do
    let (some (dst, a, fl), some (src, b, _)) := (← ReflectliteValue.parts v, ← ReflectliteValue.parts x)
      | unsupported (.noEntry "extern/(internal/reflectlite.Value).Set.zeroValue")
    if fl / ReflectliteValue.flagAddr % 2 == 0 then unsupported (.noEntry "extern/(internal/reflectlite.Value).Set.unaddressable")
    let val ← loadVar src b
    if ← Rtype.directlyAssignable dst src then storeVar dst a val
    else if ← Rtype.implements dst src then
      if (← Rtype.kind src) == 20 then
        match val with
        | .nilIface => unsupported (.noEntry "extern/reflectlite: a nil value of one interface type handed on as a value of another")
        | _ => storeVar dst a val
      else storeVar dst a (.iface src val)
    else panicString ("reflectlite.Set: value of type " ++ (← Rtype.spelt src) ++ " is not assignable to type " ++ (← Rtype.spelt dst))
    pure (.tuple #[])) := rfl
theorem rf_load2 (b : Nat) (x y : Value) (W : World) (h0 : W.cell? ⟨b, 0, none⟩ = some x) (h1 : W.cell? ⟨b, 1, none⟩ = some y) :
    (loadVar 65 ⟨b, 0, none⟩).run Tryz.prog W = .ok (.agg #[x, y]) W := by
  unfold loadVar
  simp [loadCells, loadCellsFrom, Addr.add, h0, h1, Result.andThen]
theorem rf_store2 (b : Nat) (x y : Int) (u v : Value) (W : World) (h0 : W.cell? ⟨b, 0, none⟩ = some u) (h1 : W.cell? ⟨b, 1, none⟩ = some v) (f0 : W.frozen? ⟨b, 0, none⟩ = false) (f1 : W.frozen? ⟨b, 1, none⟩ = false) :
    (storeVar 65 ⟨b, 0, none⟩ (.agg #[.int .i64 x, .int .i64 y])).run Tryz.prog W = .ok () ((W.setCell ⟨b, 0, none⟩ (.int .i64 x)).setCell ⟨b, 1, none⟩ (.int .i64 y)) := by
  have s0 : (store ⟨b, 0, none⟩ (.int .i64 x)).run Tryz.prog W = .ok () (W.setCell ⟨b, 0, none⟩ (.int .i64 x)) := by rw [run_store _ _ _ _ _ rfl]; simp [h0, f0]
  have s1 : (store ⟨b, 1, none⟩ (.int .i64 y)).run Tryz.prog (W.setCell ⟨b, 0, none⟩ (.int .i64 x)) = .ok () ((W.setCell ⟨b, 0, none⟩ (.int .i64 x)).setCell ⟨b, 1, none⟩ (.int .i64 y)) := by
    have h1' : (W.setCell ⟨b, 0, none⟩ (.int .i64 x)).cell? ⟨b, 1, none⟩ = some v := by rw [World.cell?_setCell_other W ⟨b, 0, none⟩ ⟨b, 1, none⟩ _ (by simp)]; exact h1
    have f1' : (W.setCell ⟨b, 0, none⟩ (.int .i64 x)).frozen? ⟨b, 1, none⟩ = false := by rw [World.frozen?_setCell]; exact f1
    rw [run_store _ _ _ _ _ rfl]; simp [h1', f1']
  unfold storeVar
  simp [Value.cells, storeCells, Addr.add, s0, s1, Result.andThen]
theorem rf_setE (t b : Nat) (x y : Int) (u v : Value) (W : World) (b0 : W.cell? ⟨b, 0, none⟩ = some (.int .i64 x)) (b1 : W.cell? ⟨b, 1, none⟩ = some (.int .i64 y)) (h0 : W.cell? ⟨t, 0, none⟩ = some u) (h1 : W.cell? ⟨t, 1, none⟩ = some v) (f0 : W.frozen? ⟨t, 0, none⟩ = false) (f1 : W.frozen? ⟨t, 1, none⟩ = false) :
    (ReflectliteValue.set #[.agg #[.pointer (some ⟨2, 65, none⟩), .pointer (some ⟨t, 0, none⟩), .int .u64 409], .agg #[.pointer (some ⟨2, 65, none⟩), .pointer (some ⟨b, 0, none⟩), .int .u64 153]]).run Tryz.prog W
      = .ok (.tuple #[]) ((W.setCell ⟨t, 0, none⟩ (.int .i64 x)).setCell ⟨t, 1, none⟩ (.int .i64 y)) := by
  have e1 := rf_load2 b _ _ W b0 b1
  have e2 := rf_store2 t x y u v W h0 h1 f0 f1
  rw [rf_s]
  simp only [Sem.run_bind, rf_partsEa, rf_partsE, Result.andThen]
  simp [ReflectliteValue.flagAddr, e1, e2, Result.andThen, rf_directE]

set_option maxHeartbeats 4000000 in
set_option maxRecDepth 100000 in
/-- The error itself: true; what the target points to is set; all else that was there is kept. -/
theorem as_hit (t : Nat) (x y : Int) (u v : Value) (w : World) (hg : ErrT w) (h0 : w.cell? ⟨t, 0, none⟩ = some u) (h1 : w.cell? ⟨t, 1, none⟩ = some v) (f0 : w.frozen? ⟨t, 0, none⟩ = false) (f1 : w.frozen? ⟨t, 1, none⟩ = false) :
    Calls Tryz.prog 22 #[.iface 65 (.agg #[.int .i64 x, .int .i64 y]), .iface 67 (.pointer (some ⟨t, 0, none⟩))] w fun e w' => e = .returned (.bool true) ∧ ∃ V, Below w.heap.size w V ∧ w' = (V.setCell ⟨t, 0, none⟩ (.int .i64 x)).setCell ⟨t, 1, none⟩ (.int .i64 y) := by
  have e54 := @run_callFunc_extern Tryz.prog 54 _ (fun args => ReflectliteValue.unpack (args.getD 0 (.tuple #[]))) Tryz.func54 (by kernel_rfl) (by kernel_rfl) (by kernel_rfl) (by kernel_rfl)
  have e55 := @run_callFunc_extern Tryz.prog 55 _ (ReflectliteValue.methodAny (ReflectliteValue.valueError "reflectlite.Value.Type" 0) (fun t _ _ _ => ReflectliteType.toType t)) Tryz.func55 (by kernel_rfl) (by kernel_rfl) (by kernel_rfl) (by kernel_rfl)
  have e56 := @run_callFunc_extern Tryz.prog 56 _ (ReflectliteValue.method (ReflectliteValue.valueError "reflectlite.Value.IsNil" 0) ReflectliteValue.isNil) Tryz.func56 (by kernel_rfl) (by kernel_rfl) (by kernel_rfl) (by kernel_rfl)
  have eKd := @run_callFunc_extern Tryz.prog 133 _ (ReflectliteType.abiMethod fun t => do pure (.int .u8 (← Rtype.kind t))) Tryz.func133 (by kernel_rfl) (by kernel_rfl) (by kernel_rfl) (by kernel_rfl)
  have eEl := @run_callFunc_extern Tryz.prog 145 _ (ReflectliteType.method ReflectliteType.elem) Tryz.func145 (by kernel_rfl) (by kernel_rfl) (by kernel_rfl) (by kernel_rfl)
  have eIm := @run_callFunc_extern Tryz.prog 146 _ (ReflectliteType.relation "Implements" ReflectliteType.implements_) Tryz.func146 (by kernel_rfl) (by kernel_rfl) (by kernel_rfl) (by kernel_rfl)
  have eTo := @run_callFunc_extern Tryz.prog 95 _ ReflectliteType.typeOf Tryz.func95 (by kernel_rfl) (by kernel_rfl) (by kernel_rfl) (by kernel_rfl)
  have eAt := @run_callFunc_extern Tryz.prog 143 _ (ReflectliteType.relation "AssignableTo" ReflectliteType.assignableTo) Tryz.func143 (by kernel_rfl) (by kernel_rfl) (by kernel_rfl) (by kernel_rfl)
  have eEv := @run_callFunc_extern Tryz.prog 96 _ (ReflectliteValue.method (ReflectliteValue.valueError "reflectlite.Value.Elem" 0) ReflectliteValue.elem) Tryz.func96 (by kernel_rfl) (by kernel_rfl) (by kernel_rfl) (by kernel_rfl)
  have eSe := @run_callFunc_extern Tryz.prog 97 _ ReflectliteValue.set Tryz.func97 (by kernel_rfl) (by kernel_rfl) (by kernel_rfl) (by kernel_rfl)
  have tO := rf_typeOfE
  have mA := rf_methodAssignableTo
  have aE := rf_assignableE
  have vE := rf_valueOfE
  have vP := rf_valueOfP
  have tP := rf_typeP
  have mK := rf_methodKind
  have mE := rf_methodElem
  have mI := rf_methodImplements
  have kP := rf_kindP
  have kE := rf_kindE
  have eP := rf_elemP
  have iE := rf_implementsE
  have htl : t < w.heap.size := block_lt_of_cell (a := ⟨t, 0, none⟩) h0
  obtain ⟨W1, hW1⟩ : ∃ W1, W1 = (w.alloc (.cells #[.pointer (some ⟨t, 0, none⟩)] 67)).alloc (.cells #[.pointer (some ⟨2, 67, none⟩), .pointer (some ⟨w.heap.size, 0, none⟩), .int .u64 150] 106) := ⟨_, rfl⟩
  have b1 : Below w.heap.size w W1 := by rw [hW1]; exact u_b2 _ _ _
  have c1 : W1.cell? ⟨w.heap.size, 0, none⟩ = some (.pointer (some ⟨t, 0, none⟩)) := by
    rw [hW1]
    exact box_cell (kept (laid w #[.pointer (some ⟨t, 0, none⟩)] 67) (u_b1 _ _)) 0 rfl
  have d1 : W1.heap[w.heap.size + 1]? = some (.cells #[.pointer (some ⟨2, 67, none⟩), .pointer (some ⟨w.heap.size, 0, none⟩), .int .u64 150] 106 (0, 0)) := by
    rw [hW1]
    exact u_laid _ _ _ (by simp)
  have e0 := box_cell d1 0 (v := .pointer (some ⟨2, 67, none⟩)) rfl
  have e1 := box_cell d1 1 (v := .pointer (some ⟨w.heap.size, 0, none⟩)) rfl
  have e2 := box_cell d1 2 (v := .int .u64 150) rfl
  clear d1
  have n8 := rf_isNilP ⟨w.heap.size, 0, none⟩ ⟨t, 0, none⟩ W1 c1
  have hgv : W1.cell? ⟨0, 0, none⟩ = some (.iface 144 (.agg #[.pointer (some ⟨2, 61, none⟩)])) := hg.below b1
  go_enter Tryz.func22, Tryz.ntmps22
  repeat ((fail_if_success (with_reducible show Code.wp _ (Code.region 6 _ _) _ _ _)); (first | go_values | go_skip | go_guarded | go_step | go_upon | go_back | go_simp))
  rw [← hW1]
  clear hW1
  go_wp2
  obtain ⟨W2, hW2⟩ : ∃ W2, W2 = W1.alloc (.cells #[.pointer (some ⟨2, 67, none⟩), .pointer (some ⟨w.heap.size, 0, none⟩), .int .u64 150] 106) := ⟨_, rfl⟩
  have b2 : Below W1.heap.size W1 W2 := by rw [hW2]; exact u_b1 _ _
  have d2 : W2.heap[W1.heap.size]? = some (.cells #[.pointer (some ⟨2, 67, none⟩), .pointer (some ⟨w.heap.size, 0, none⟩), .int .u64 150] 106 (0, 0)) := by rw [hW2]; exact laid _ _ _
  have g0 := box_cell d2 0 (v := .pointer (some ⟨2, 67, none⟩)) rfl
  have g1 := box_cell d2 1 (v := .pointer (some ⟨w.heap.size, 0, none⟩)) rfl
  have g2 := box_cell d2 2 (v := .int .u64 150) rfl
  have c2 := (b2.cell (p := ⟨w.heap.size, 0, none⟩) (block_lt_of_cell c1)).trans c1
  have B2 := u_cat b1 b2
  have el := rf_elemV ⟨w.heap.size, 0, none⟩ ⟨t, 0, none⟩ W2 c2
  rw [← hW2]
  clear hW2 d2 e0 e1 e2 n8 hgv
  obtain ⟨W3, hW3⟩ : ∃ W3, W3 = W2.alloc (.cells #[.int .i64 x, .int .i64 y] 65) := ⟨_, rfl⟩
  have b3 : Below W2.heap.size W2 W3 := by rw [hW3]; exact u_b1 _ _
  have d3 : W3.heap[W2.heap.size]? = some (.cells #[.int .i64 x, .int .i64 y] 65 (0, 0)) := by rw [hW3]; exact laid _ _ _
  have B3 := u_cat B2 b3
  have st := rf_setE t W2.heap.size x y u v W3 (box_cell d3 0 rfl) (box_cell d3 1 rfl) ((B3.cell (p := ⟨t, 0, none⟩) htl).trans h0) ((B3.cell (p := ⟨t, 1, none⟩) htl).trans h1) (by rw [B3.frozen (p := ⟨t, 0, none⟩) htl]; exact f0) (by rw [B3.frozen (p := ⟨t, 1, none⟩) htl]; exact f1)
  have HB := hid B3
  clear b3 d3 B3 B2 c1 c2 b1 b2
  rw [hW3] at st
  have HW := hid hW3
  clear hW3
  refine wp_loop_rounds 1 ?_
  rw [rounds_succ]
  go_wp2
  go_ret
  refine ⟨rfl, W2.alloc (.cells #[.int .i64 x, .int .i64 y] 65), ?_, rfl⟩
  rw [← HW.out]
  exact HB.out
end Go.Proofs.YtegldmdcdnnegaaGreatDoor
namespace Go.Proofs.YtegldmdcdnnegaaGreatDoor
open Go.ChangeShapes Go.WideShapes Go.ChangeAt Go.RowKit

/-- The cells of a slice of ints that is read. -/
def IntsAt (w : World) (a : Option Addr) (xs : List Int) : Prop :=
  xs ≠ [] → ∃ b off, a = some ⟨b, off, none⟩ ∧ ∀ i, i < xs.length → w.cell? ⟨b, off + i, none⟩ = some (.int .i64 (xs.getD i 0))

/-- What is owned is read. -/
theorem owns_ints {w : World} {base : Nat} {e : TypeId} {v : Value} {n : Nat} {xs : List Int} (h : w.ownsRow base e 1 v n (xs.map (Value.int .i64))) :
    ∃ a cap, v = .slice a xs.length cap ∧ n = xs.length ∧ IntsAt w a xs := by
  have hl : xs.length = n := by simpa using h.1
  obtain ⟨a, cap, rfl⟩ := owns_slice h
  refine ⟨a, cap, by rw [hl], hl.symm, fun hne => ?_⟩
  obtain ⟨g, cap', hv, _⟩ := owns_shape h (by simpa using hne)
  simp only [Value.slice.injEq] at hv
  obtain ⟨rfl, _, rfl⟩ := hv
  refine ⟨g, 0, rfl, fun k hk => ?_⟩
  rw [Nat.zero_add, h.cellAt k (by omega)]
  simp [hk, List.getD]

theorem owns_at {w : World} {base : Nat} {e : TypeId} {a : Option Addr} {n m cap : Nat} {xs : List Int} (h : w.ownsRow base e 1 (.slice a m cap) n (xs.map (Value.int .i64))) : IntsAt w a xs := by
  obtain ⟨a', cap', hv, _, hi⟩ := owns_ints h
  simp only [Value.slice.injEq] at hv
  obtain ⟨rfl, _, _⟩ := hv
  exact hi
/-- A row that was marked: all that lies below its base is as it was. -/
theorem grown_base {w w' : World} {base : Nat} {e : TypeId} {size : Nat} {v : Value} {n : Nat} {xs : List Value} (h : w.grownBy w' v.ownBlock) (ho : w.ownsRow base e size v n xs) (hb : base ≤ w.heap.size) : Below base w w' :=
  (Below.refl _ _).grown h hb (fun k hk => (ho.lt k hk).1)
theorem IntsAt.drewN {w : World} {a : Option Addr} {xs : List Int} (h : IntsAt w a xs) (n : Nat) : IntsAt (w.drewN n) a xs := fun hne => h hne
theorem IntsAt.below {w w' : World} {a : Option Addr} {xs : List Int} (h : IntsAt w a xs) (hb : Below w.heap.size w w') : IntsAt w' a xs := fun hne => by
  obtain ⟨b, off, ha, hc⟩ := h hne
  refine ⟨b, off, ha, fun i hi => ?_⟩
  rw [hb.cell (p := ⟨b, off + i, none⟩) (block_lt_of_cell (hc i hi))]
  exact hc i hi

theorem take_eq {xs ys : List Int} {k : Nat} (h : xs.take k = ys.take k) (hk : k < xs.length) (hk2 : k < ys.length) (he : xs.getD k 0 = ys.getD k 0) : xs.take (k + 1) = ys.take (k + 1) := by
  rw [List.take_succ_eq_append_getElem hk, List.take_succ_eq_append_getElem hk2, h]
  have : xs[k] = ys[k] := by simpa [List.getD, hk, hk2] using he
  rw [this]
theorem take_ne {xs ys : List Int} {k : Nat} (he : xs.getD k 0 ≠ ys.getD k 0) : xs ≠ ys := by
  intro h; subst h; exact he rfl

theorem drewN_two (w : World) (n m : Nat) : ∃ k, (w.drewN n).drewN m = w.drewN k := ⟨n + m, by simp⟩

/-- A slice of integers that came in: nil, or a row of 'cap' cells, the first 'len' its elements. -/
def IsRow (k : IntKind) (w : World) (a : Option Addr) (len cap : Nat) (zs : List Int) : Prop :=
  (a = none ∧ len = 0 ∧ cap = 0 ∧ zs = []) ∨
  ∃ x, a = some x ∧ len ≤ cap ∧ cap ≤ maxLen ∧ zs.length = cap ∧ (∀ i, i < zs.length → w.cell? (x.add i) = some (.int k (zs.getD i 0))) ∧ ∀ n ∈ zs, (Lit.int k n).wf = true

theorem addr_add (b off i : Nat) : (⟨b, off, none⟩ : Addr).add i = ⟨b, off + i, none⟩ := by
  cases i with
  | zero => simp [Addr.add]
  | succ i => simp [Addr.add]
end Go.Proofs.YtegldmdcdnnegaaGreatDoor
namespace Go.Proofs.YtegldmdcdnnegaaGreatDoor
open Go.ChangeShapes Go.WideShapes Go.ChangeAt Go.RowKit

theorem isRow_len {k : IntKind} {w : World} {a : Option Addr} {len cap : Nat} {zs : List Int} (h : IsRow k w a len cap zs) : (zs.take len).length = len := by
  rcases h with ⟨_, rfl, _, rfl⟩ | ⟨x, _, h1, h2, h3, _⟩
  · rfl
  · rw [List.length_take]; omega

theorem isRow_ints {w : World} {a : Option Addr} {len cap : Nat} {zs : List Int} (h : IsRow .i64 w a len cap zs) : IntsAt w a (zs.take len) := by
  intro hne
  rcases h with ⟨_, rfl, _, rfl⟩ | ⟨x, rfl, h1, h2, h3, h4, _⟩
  · simp at hne
  · have hpos : 0 < len := by
      rcases Nat.eq_zero_or_pos len with h | h
      · subst h; simp at hne
      · exact h
    obtain ⟨b, off, spot⟩ := x
    have hc := h4 0 (by omega)
    have hspot : spot = none := by simpa [Addr.add] using World.cell?_spot hc
    subst hspot
    refine ⟨b, off, rfl, fun i hi => ?_⟩
    have hi' : i < len := by rw [List.length_take] at hi; omega
    have e : (zs.take len).getD i 0 = zs.getD i 0 := by simp [List.getD, hi']
    rw [e, ← addr_add]
    exact h4 i (by omega)

theorem getD_eq {xs : List Int} {k : Nat} (h : k < xs.length) : xs.getD k 0 = xs[k] := by simp [List.getD, h]
theorem copy_set (xs : List Int) (k : Nat) (h : k < xs.length) : (xs.take k ++ List.replicate (xs.length - k) (0 : Int)).set k (xs.getD k 0) = xs.take (k + 1) ++ List.replicate (xs.length - (k + 1)) 0 := by
  have hl : (xs.take k).length = k := by rw [List.length_take]; omega
  rw [List.set_append_right _ _ (by omega), hl, Nat.sub_self, List.take_succ_eq_append_getElem h, getD_eq h]
  obtain ⟨m, hm⟩ : ∃ m, xs.length - k = m + 1 := ⟨xs.length - k - 1, by omega⟩
  rw [hm, List.replicate_succ, List.set_cons_zero, show xs.length - (k + 1) = m by omega, List.append_assoc, List.singleton_append]
theorem made_ints (n : Nat) : (madeCells (Value.int .i64 0).cells (n * 1)).toList = (List.replicate n (0 : Int)).map (Value.int .i64) := by
  apply List.ext_getElem
  · simp [madeCells]
  · intro i h1 h2
    simp [madeCells, Value.cells, Nat.mod_one]
end Go.Proofs.YtegldmdcdnnegaaGreatDoor
namespace Go.Proofs.YtegldmdcdnnegaaGreatDoor
open Go.ChangeShapes Go.WideShapes Go.ChangeAt Go.RowKit

set_option maxRecDepth 100000 in
theorem l1In_yes (n lo hi : Int) (w : World) (h : lo ≤ n ∧ n ≤ hi) :
    Calls Tryz.prog 15 #[.int .i64 n, .int .i64 lo, .int .i64 hi] w fun e w' => e = .returned (.bool true) ∧ w' = w := by
  obtain ⟨h1, h2⟩ := h
  go_enter Tryz.func15, Tryz.ntmps15
  go_wp2
  go_ret
  exact ⟨rfl, rfl⟩

set_option maxRecDepth 100000 in
theorem l1In_no (n lo hi : Int) (w : World) (h : n < lo ∨ hi < n) :
    Calls Tryz.prog 15 #[.int .i64 n, .int .i64 lo, .int .i64 hi] w fun e w' => e = .returned (.bool false) ∧ w' = w := by
  by_cases h1 : n < lo
  · clear h
    go_enter Tryz.func15, Tryz.ntmps15
    go_wp2
    go_ret
    exact ⟨rfl, rfl⟩
  · have h2 : hi < n := by omega
    have h3 : lo ≤ n := by omega
    have h4 : decide (n ≤ hi) = false := by simp; omega
    clear h h1
    go_enter Tryz.func15, Tryz.ntmps15
    go_wp2
    go_ret
    exact ⟨rfl, rfl⟩
end Go.Proofs.YtegldmdcdnnegaaGreatDoor
namespace Go.Proofs.YtegldmdcdnnegaaGreatDoor
open Go.ChangeShapes Go.WideShapes Go.ChangeAt Go.RowKit

theorem or_pow (s n : Nat) (hs : s < 4294967296) (hn : n < 24) : bits .or .u32 (s : Int) (2 ^ n % 4294967296) = ((s ||| 2 ^ n : Nat) : Int) := by
  have h1 : 2 ^ n < 2 ^ 24 := Nat.pow_lt_pow_right (by omega) hn
  have h2 : ((2 : Int) ^ n % 4294967296) = ((2 ^ n : Nat) : Int) := by
    have : ((2 : Int) ^ n) = ((2 ^ n : Nat) : Int) := by simp
    rw [this]
    generalize 2 ^ n = P at h1
    omega
  rw [h2]
  exact u32_or_nat s (2 ^ n) hs (by omega)

set_option maxRecDepth 100000 in
theorem with_any (s n : Nat) (w : World) (hs : s < 4294967296) (hn : n < 24) :
    Calls Tryz.prog 80 #[.int .u32 s, .int .i64 n] w fun e w' => e = .returned (.int .u32 ((s ||| 2 ^ n : Nat) : Int)) ∧ w' = w := by
  go_enter Tryz.func80, Tryz.ntmps80
  go_wp2
  go_ret
  exact ⟨ret_int (or_pow s n hs hn), rfl⟩

/-- All above 'lo', ascending, below 'hi'. -/
def ascB (lo hi : Int) : List Int → Bool
  | [] => true
  | x :: r => decide (lo < x ∧ x < hi) && ascB x hi r
/-- What is a row of so many. -/
def rowOkB (xs : List Int) (count : Int) : Bool := decide (0 ≤ count ∧ count ≤ 24) && ascB (-1) count xs
/-- The number ahead of a place. -/
def prevI (xs : List Int) (k : Nat) : Int := if k = 0 then -1 else xs.getD (k - 1) 0
/-- The numbers as bits. -/
def setI (xs : List Int) : Nat := xs.foldl (fun s x => s ||| 2 ^ x.toNat) 0

/-- The bits of a row, nothing of what is none. -/
def rowBits (xs : List Int) (c : Int) : Nat := if ascB (-1) c xs then setI xs else 0
theorem rowBits_no {xs : List Int} {c : Int} (h : ascB (-1) c xs = false) : rowBits xs c = 0 := by simp [rowBits, h]
theorem rowBits_yes {xs : List Int} {c : Int} (h : ascB (-1) c xs = true) : rowBits xs c = setI xs := by simp [rowBits, h]
theorem prevI_succ (xs : List Int) (k : Nat) : prevI xs (k + 1) = xs.getD k 0 := by simp [prevI]
theorem asc_step (xs : List Int) (k : Nat) (hi : Int) (h : k < xs.length) :
    ascB (prevI xs k) hi (xs.drop k) = (decide (prevI xs k < xs.getD k 0 ∧ xs.getD k 0 < hi) && ascB (prevI xs (k + 1)) hi (xs.drop (k + 1))) := by
  rw [List.drop_eq_getElem_cons h, ascB, prevI_succ, getD_eq h]
theorem setI_snoc (xs : List Int) (k : Nat) (h : k < xs.length) : setI (xs.take (k + 1)) = setI (xs.take k) ||| 2 ^ (xs.getD k 0).toNat := by
  unfold setI
  rw [List.take_succ_eq_append_getElem h, List.foldl_append, getD_eq h]
  rfl
theorem setI_lt (s : Nat) (n : Nat) (hs : s < 16777216) (hn : n < 24) : s ||| 2 ^ n < 16777216 := by
  have h1 : 2 ^ n < 2 ^ 24 := Nat.pow_lt_pow_right (by omega) hn
  exact Nat.or_lt_two_pow (n := 24) (by omega) h1

set_option maxRecDepth 100000 in
theorem rowSetOf_out (a : Option Addr) (n cap : Nat) (c : Int) (w : World) (hc : c < 0 ∨ 24 < c) :
    Calls Tryz.prog 51 #[.slice a n cap, .int .i64 c] w fun e w' => e = .returned (.tuple #[.int .u32 0, .bool false]) ∧ w' = w := by
  rcases hc with h | h
  · go_enter Tryz.func51, Tryz.ntmps51
    go_wp2
    go_ret2
    exact ⟨rfl, rfl⟩
  · have h' : ¬ c < 0 := by omega
    go_enter Tryz.func51, Tryz.ntmps51
    go_wp2
    go_ret2
    exact ⟨rfl, rfl⟩

set_option maxRecDepth 100000 in
set_option maxHeartbeats 1000000 in
theorem rowSetOf_in (a : Option Addr) (cap : Nat) (xs : List Int) (c : Int) (w : World) (ha : IntsAt w a xs) (hx : xs.length ≤ 1152921504606846976) (c1 : 0 ≤ c) (c2 : c ≤ 24) :
    Calls Tryz.prog 51 #[.slice a xs.length cap, .int .i64 c] w fun e w' => e = .returned (.tuple #[.int .u32 (rowBits xs c : Nat), .bool (ascB (-1) c xs)]) ∧ w' = w := by
  have c2' : decide (24 < c) = false := by simp; omega
  go_enter Tryz.func51, Tryz.ntmps51
  go_wp2
  go_loop [6, 7, 18] (fun s l i => ∃ k : Nat, k ≤ xs.length ∧ i = .int .i64 k ∧ l = .int .i64 (prevI xs k) ∧ s = .int .u32 (setI (xs.take k) : Nat) ∧ setI (xs.take k) < 16777216 ∧ -1 ≤ prevI xs k ∧ ascB (-1) c xs = ascB (prevI xs k) c (xs.drop k)) (fun _ _ i => xs.length - (intOf i).toNat)
  case atStart => exact ⟨0, Nat.zero_le _, rfl, rfl, rfl, by simp [setI], by simp [prevI], rfl⟩
  case round =>
    obtain ⟨k, hk, rfl, rfl, rfl, hs, hp, he⟩ := hrel
    by_cases hlt : k < xs.length
    · obtain ⟨b, off, rfl, hc⟩ := ha (by intro h; simp [h] at hlt)
      have hck := hc k hlt
      have e1 := asc_step xs k c hlt
      have e2 := setI_snoc xs k hlt
      have e3 := prevI_succ xs k
      obtain ⟨X, hX⟩ : ∃ X, X = xs.getD k 0 := ⟨_, rfl⟩
      obtain ⟨L, hL⟩ : ∃ L, L = prevI xs k := ⟨_, rfl⟩
      obtain ⟨S, hS⟩ : ∃ S, S = setI (xs.take k) := ⟨_, rfl⟩
      rw [← hX] at hck e1 e2 e3
      rw [← hL] at e1 hp he ⊢
      rw [← hS] at e2 hs ⊢
      have H1 : Hid _ := e1
      have H2 : Hid _ := e2
      have H3 : Hid _ := e3
      have HE : Hid _ := he
      clear e1 e2 e3 he hX hL hS hc
      by_cases h1 : X ≤ L
      · go_wp2
        go_ret2
        have : ascB (-1) c xs = false := by rw [HE.out, H1.out]; simp; omega
        rw [rowBits_no this, this]
        exact ⟨rfl, rfl⟩
      · by_cases h2 : c ≤ X
        · have h1' : decide (X ≤ L) = false := by simp; omega
          go_wp2
          go_ret2
          have : ascB (-1) c xs = false := by rw [HE.out, H1.out]; simp; omega
          rw [rowBits_no this, this]
          exact ⟨rfl, rfl⟩
        · have h1' : decide (X ≤ L) = false := by simp; omega
          have h2' : decide (c ≤ X) = false := by simp; omega
          obtain ⟨x, rfl⟩ := Int.eq_ofNat_of_zero_le (show 0 ≤ X by omega)
          go_wp2_with (go_at_call 80; refine (with_any S x _ (by omega) (by omega)).mono ?_; rintro e w' ⟨rfl, rfl⟩)
          go_round
          case rel =>
            refine ⟨k + 1, by omega, by go_num, by rw [H3.out], by rw [H2.out]; simp, by rw [H2.out]; exact setI_lt S _ hs (by omega), by rw [H3.out]; omega, ?_⟩
            rw [HE.out, H1.out]
            simp; omega
          case measure => simp [intOf]; omega
    · obtain rfl : k = xs.length := by omega
      have h1 : ascB (-1) c xs = true := by rw [he, List.drop_length]; rfl
      have H1 : Hid _ := h1
      clear h1 he
      go_wp2
      go_ret2
      rw [rowBits_yes H1.out, H1.out]
      exact ⟨rfl, rfl⟩
end Go.Proofs.YtegldmdcdnnegaaGreatDoor
