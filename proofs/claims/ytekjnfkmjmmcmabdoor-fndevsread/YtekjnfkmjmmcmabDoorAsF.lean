/- What errors.As comes to at a target of type **noDevs: of no error false; of a *noDevs true, and only the target's variable is written. -/
import Derived.Test.YtekjnfkmjmmcmabDoorStB
import Derived.LaidEql
import Derived.Stop.Asserts
import Derived.RowKitTokens
namespace Go.Proofs.YtekjnfkmjmmcmabDoor.Wk
set_option linter.unusedVariables false
open Go.ChangeShapes Go.WideShapes Go.ChangeAt Go.RowKit Go.Extern.Stop Go.Stop Go.Extern

theorem asNil (t : Value) (w : World) :
    Calls Tryd.prog 38 #[.nilIface, t] w fun e w' => e = .returned (.bool false) ∧ w' = w := by
  go_enter Tryd.func38, Tryd.ntmps38
  go_wp2
  go_ret
  exact ⟨rfl, rfl⟩

/-- the handle of a type -/
abbrev hdl (t : Nat) : Value := .pointer (some ⟨7, t, none⟩)
/-- a reflected value at an address -/
abbrev rv (t : Nat) (a : Addr) (f : Int) : Value := .agg #[hdl t, .pointer (some a), .int .u64 f]
abbrev rt (t : Nat) : Value := .iface 101 (.agg #[hdl t])

theorem fValueOfPP (t : Addr) (w : World) : (ReflectliteValue.unpack (.iface 61 (.pointer (some t)))).run Tryd.prog w = .ok (rv 61 ⟨w.heap.size, 0, none⟩ 150) (w.alloc (.cells #[.pointer (some t)] 61)) := by kernel_rfl
theorem fValueOfP (t : Addr) (w : World) : (ReflectliteValue.unpack (.iface 59 (.pointer (some t)))).run Tryd.prog w = .ok (rv 59 ⟨w.heap.size, 0, none⟩ 150) (w.alloc (.cells #[.pointer (some t)] 59)) := by kernel_rfl
theorem fType (a : Addr) (w : World) : (ReflectliteValue.methodAny (ReflectliteValue.valueError "reflectlite.Value.Type" 0) (fun t _ _ _ => ReflectliteType.toType t) #[rv 61 a 150]).run Tryd.prog w = .ok (rt 61) w := by kernel_rfl
theorem fElemT (w : World) : (ReflectliteType.method ReflectliteType.elem #[.agg #[hdl 61]]).run Tryd.prog w = .ok (rt 59) w := by kernel_rfl
theorem fImpl (w : World) : (ReflectliteType.relation "Implements" ReflectliteType.implements_ #[.agg #[hdl 59], rt 56]).run Tryd.prog w = .ok (.bool true) w := by kernel_rfl
theorem fTypeOf (v : Value) (w : World) : (ReflectliteType.typeOf #[.iface 59 v]).run Tryd.prog w = .ok (rt 59) w := by kernel_rfl
theorem fAssign (w : World) : (ReflectliteType.relation "AssignableTo" ReflectliteType.assignableTo #[.agg #[hdl 59], rt 59]).run Tryd.prog w = .ok (.bool true) w := by kernel_rfl
theorem fPartsPP (a : Addr) (w : World) : (ReflectliteValue.parts (rv 61 a 150)).run Tryd.prog w = .ok (some (61, a, 150)) w := by kernel_rfl
theorem fPartsP (a : Addr) (w : World) : (ReflectliteValue.parts (rv 59 a 150)).run Tryd.prog w = .ok (some (59, a, 150)) w := by kernel_rfl
theorem fPartsA (a : Addr) (w : World) : (ReflectliteValue.parts (rv 59 a 406)).run Tryd.prog w = .ok (some (59, a, 406)) w := by kernel_rfl
theorem fElemOf (w : World) : (Rtype.elem? 61).run Tryd.prog w = .ok (some 59) w := by kernel_rfl
theorem fMk (p : Addr) (w : World) : (ReflectliteValue.mk 59 p ReflectliteValue.flagAddr).run Tryd.prog w = .ok (rv 59 p 406) w := by kernel_rfl
theorem fDirect (w : World) : (Rtype.directlyAssignable 59 59).run Tryd.prog w = .ok true w := by kernel_rfl

/-- a method of a reflected value whose parts are known -/
theorem methodStep {z : Sem Value} {f : TypeId → Addr → Nat → Nat → Sem Value} {v : Value} {t : TypeId} {a : Addr} {fl : Nat} {w : World} (h : (ReflectliteValue.parts v).run Tryd.prog w = .ok (some (t, a, fl)) w) :
    (ReflectliteValue.method z f #[v]).run Tryd.prog w = (f t a fl (fl % 32)).run Tryd.prog w := by
  have e : ReflectliteValue.method z f #[v] = (do match ← ReflectliteValue.parts v with | none => z | some (t, a, fl) => f t a fl (fl % 32)) := rfl
  rw [e, Sem.run_bind, h]
  rfl
set_option maxRecDepth 100000 in
theorem fIsNil (a p : Addr) (W : World) (ha : W.cell? a = some (.pointer (some p))) :
    (ReflectliteValue.method (ReflectliteValue.valueError "reflectlite.Value.IsNil" 0) ReflectliteValue.isNil #[rv 61 a 150]).run Tryd.prog W = .ok (.bool false) W := by
  rw [methodStep (fPartsPP a W)]
  simp [ReflectliteValue.isNil, loadVar, isAgg, underlying, Tryd.underlying61, ha, Result.andThen]
set_option maxRecDepth 100000 in
theorem fElemV (a p : Addr) (W : World) (ha : W.cell? a = some (.pointer (some p))) :
    (ReflectliteValue.method (ReflectliteValue.valueError "reflectlite.Value.Elem" 0) ReflectliteValue.elem #[rv 61 a 150]).run Tryd.prog W = .ok (rv 59 p 406) W := by
  rw [methodStep (fPartsPP a W)]
  simp [ReflectliteValue.elem, loadVar, isAgg, underlying, Tryd.underlying61, ha, Result.andThen, fElemOf, fMk]
set_option maxRecDepth 100000 in
theorem fSet (ta b e : Addr) (old : Value) (W : World) (hb : W.cell? b = some (.pointer (some e))) (ht : W.cell? ta = some old) (hf : W.frozen? ta = false) :
    (ReflectliteValue.set #[rv 59 ta 406, rv 59 b 150]).run Tryd.prog W = .ok (.tuple #[]) (W.setCell ta (.pointer (some e))) := by
  rw [show ReflectliteValue.set #[rv 59 ta 406, rv 59 b 150] = (ReflectliteValue.parts (rv 59 ta 406) >>= fun p => ReflectliteValue.parts (rv 59 b 150) >>= fun q => _) from rfl]
  simp only [Sem.run_bind, fPartsA, fPartsP, Result.andThen]
  simp [ReflectliteValue.flagAddr, loadVar, isAgg, underlying, Tryd.underlying59, hb, Result.andThen, fDirect, storeVar, Value.cells, storeCells, Addr.add]
  rw [run_store Tryd.prog W ta _ _ (by rfl)]
  simp [ht, hf]
theorem fKind (h : Value) (w : World) : (Go.method (169 + 100) 101 (.agg #[h]) "Kind").run Tryd.prog w = .ok (102, h) w := by kernel_rfl
end Go.Proofs.YtekjnfkmjmmcmabDoor.Wk
