/- What errors.As comes to at a target of type **noDevs: of no error false; of a *noDevs true, and only the target's variable is written. -/
import Derived.Test.YtekjnfkmjmmcmamDoorStB
import Derived.LaidEql
import Derived.Stop.Asserts
import Derived.RowKitTokens
namespace Go.Proofs.YtekjnfkmjmmcmamDoor.Wk
set_option linter.unusedVariables false
open Go.ChangeShapes Go.WideShapes Go.ChangeAt Go.RowKit Go.Extern.Stop Go.Stop Go.Extern

theorem asNil (t : Value) (w : World) :
    Calls Tryd.prog 24 #[.nilIface, t] w fun e w' => e = .returned (.bool false) ∧ w' = w := by
  go_enter Tryd.func24, Tryd.ntmps24
  go_wp2
  go_ret
  exact ⟨rfl, rfl⟩

/-- the handle of a type -/
abbrev hdl (t : Nat) : Value := .pointer (some ⟨7, t, none⟩)
/-- a reflected value at an address -/
abbrev rv (t : Nat) (a : Addr) (f : Int) : Value := .agg #[hdl t, .pointer (some a), .int .u64 f]
abbrev rt (t : Nat) : Value := .iface 85 (.agg #[hdl t])

theorem fValueOfPP (t : Addr) (w : World) : (ReflectliteValue.unpack (.iface 50 (.pointer (some t)))).run Tryd.prog w = .ok (rv 50 ⟨w.heap.size, 0, none⟩ 150) (w.alloc (.cells #[.pointer (some t)] 50)) := by kernel_rfl
theorem fValueOfP (t : Addr) (w : World) : (ReflectliteValue.unpack (.iface 48 (.pointer (some t)))).run Tryd.prog w = .ok (rv 48 ⟨w.heap.size, 0, none⟩ 150) (w.alloc (.cells #[.pointer (some t)] 48)) := by kernel_rfl
theorem fType (a : Addr) (w : World) : (ReflectliteValue.methodAny (ReflectliteValue.valueError "reflectlite.Value.Type" 0) (fun t _ _ _ => ReflectliteType.toType t) #[rv 50 a 150]).run Tryd.prog w = .ok (rt 50) w := by kernel_rfl
theorem fElemT (w : World) : (ReflectliteType.method ReflectliteType.elem #[.agg #[hdl 50]]).run Tryd.prog w = .ok (rt 48) w := by kernel_rfl
theorem fImpl (w : World) : (ReflectliteType.relation "Implements" ReflectliteType.implements_ #[.agg #[hdl 48], rt 45]).run Tryd.prog w = .ok (.bool true) w := by kernel_rfl
theorem fTypeOf (v : Value) (w : World) : (ReflectliteType.typeOf #[.iface 48 v]).run Tryd.prog w = .ok (rt 48) w := by kernel_rfl
theorem fAssign (w : World) : (ReflectliteType.relation "AssignableTo" ReflectliteType.assignableTo #[.agg #[hdl 48], rt 48]).run Tryd.prog w = .ok (.bool true) w := by kernel_rfl
theorem fPartsPP (a : Addr) (w : World) : (ReflectliteValue.parts (rv 50 a 150)).run Tryd.prog w = .ok (some (50, a, 150)) w := by kernel_rfl
theorem fPartsP (a : Addr) (w : World) : (ReflectliteValue.parts (rv 48 a 150)).run Tryd.prog w = .ok (some (48, a, 150)) w := by kernel_rfl
theorem fPartsA (a : Addr) (w : World) : (ReflectliteValue.parts (rv 48 a 406)).run Tryd.prog w = .ok (some (48, a, 406)) w := by kernel_rfl
theorem fElemOf (w : World) : (Rtype.elem? 50).run Tryd.prog w = .ok (some 48) w := by kernel_rfl
theorem fMk (p : Addr) (w : World) : (ReflectliteValue.mk 48 p ReflectliteValue.flagAddr).run Tryd.prog w = .ok (rv 48 p 406) w := by kernel_rfl
theorem fDirect (w : World) : (Rtype.directlyAssignable 48 48).run Tryd.prog w = .ok true w := by kernel_rfl

/-- a method of a reflected value whose parts are known -/
theorem methodStep {z : Sem Value} {f : TypeId → Addr → Nat → Nat → Sem Value} {v : Value} {t : TypeId} {a : Addr} {fl : Nat} {w : World} (h : (ReflectliteValue.parts v).run Tryd.prog w = .ok (some (t, a, fl)) w) :
    (ReflectliteValue.method z f #[v]).run Tryd.prog w = (f t a fl (fl % 32)).run Tryd.prog w := by
  have e : ReflectliteValue.method z f #[v] = (do match ← ReflectliteValue.parts v with | none => z | some (t, a, fl) => f t a fl (fl % 32)) := rfl
  rw [e, Sem.run_bind, h]
  rfl
set_option maxRecDepth 100000 in
theorem fIsNil (a p : Addr) (W : World) (ha : W.cell? a = some (.pointer (some p))) :
    (ReflectliteValue.method (ReflectliteValue.valueError "reflectlite.Value.IsNil" 0) ReflectliteValue.isNil #[rv 50 a 150]).run Tryd.prog W = .ok (.bool false) W := by
  rw [methodStep (fPartsPP a W)]
  simp [ReflectliteValue.isNil, loadVar, isAgg, underlying, Tryd.underlying50, ha, Result.andThen]
set_option maxRecDepth 100000 in
theorem fElemV (a p : Addr) (W : World) (ha : W.cell? a = some (.pointer (some p))) :
    (ReflectliteValue.method (ReflectliteValue.valueError "reflectlite.Value.Elem" 0) ReflectliteValue.elem #[rv 50 a 150]).run Tryd.prog W = .ok (rv 48 p 406) W := by
  rw [methodStep (fPartsPP a W)]
  simp [ReflectliteValue.elem, loadVar, isAgg, underlying, Tryd.underlying50, ha, Result.andThen, fElemOf, fMk]
set_option maxRecDepth 100000 in
theorem fSet (ta b e : Addr) (old : Value) (W : World) (hb : W.cell? b = some (.pointer (some e))) (ht : W.cell? ta = some old) (hf : W.frozen? ta = false) :
    (ReflectliteValue.set #[rv 48 ta 406, rv 48 b 150]).run Tryd.prog W = .ok (.tuple #[]) (W.setCell ta (.pointer (some e))) := by
  rw [show ReflectliteValue.set #[rv 48 ta 406, rv 48 b 150] = (ReflectliteValue.parts (rv 48 ta 406) >>= fun p => ReflectliteValue.parts (rv 48 b 150) >>= fun q => _) from rfl]
  simp only [Sem.run_bind, fPartsA, fPartsP, Result.andThen]
  simp [ReflectliteValue.flagAddr, loadVar, isAgg, underlying, Tryd.underlying48, hb, Result.andThen, fDirect, storeVar, Value.cells, storeCells, Addr.add]
  rw [run_store Tryd.prog W ta _ _ (by rfl)]
  simp [ht, hf]
theorem fKind (h : Value) (w : World) : (Go.method (155 + 100) 85 (.agg #[h]) "Kind").run Tryd.prog w = .ok (86, h) w := by kernel_rfl
end Go.Proofs.YtekjnfkmjmmcmamDoor.Wk
