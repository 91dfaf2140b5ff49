/- What errors.As comes to at a target of type **noDevs: of no error false; of a *noDevs true, and only the target's variable is written. -/
import Derived.Test.YtekjnfkmjmmcmabGreatDoorStB
import Derived.LaidEql
import Derived.Stop.Asserts
import Derived.RowKitTokens
namespace Go.Proofs.YtekjnfkmjmmcmabGreatDoor.Wk
set_option linter.unusedVariables false
open Go.ChangeShapes Go.WideShapes Go.ChangeAt Go.RowKit Go.Extern.Stop Go.Stop Go.Extern

theorem asNil (t : Value) (w : World) :
    Calls Tryz.prog 21 #[.nilIface, t] w fun e w' => e = .returned (.bool false) ∧ w' = w := by
  go_enter Tryz.func21, Tryz.ntmps21
  go_wp2
  go_ret
  exact ⟨rfl, rfl⟩

/-- the handle of a type -/
abbrev hdl (t : Nat) : Value := .pointer (some ⟨7, t, none⟩)
/-- a reflected value at an address -/
abbrev rv (t : Nat) (a : Addr) (f : Int) : Value := .agg #[hdl t, .pointer (some a), .int .u64 f]
abbrev rt (t : Nat) : Value := .iface 97 (.agg #[hdl t])

theorem fValueOfPP (t : Addr) (w : World) : (ReflectliteValue.unpack (.iface 52 (.pointer (some t)))).run Tryz.prog w = .ok (rv 52 ⟨w.heap.size, 0, none⟩ 150) (w.alloc (.cells #[.pointer (some t)] 52)) := by kernel_rfl
theorem fValueOfP (t : Addr) (w : World) : (ReflectliteValue.unpack (.iface 50 (.pointer (some t)))).run Tryz.prog w = .ok (rv 50 ⟨w.heap.size, 0, none⟩ 150) (w.alloc (.cells #[.pointer (some t)] 50)) := by kernel_rfl
theorem fType (a : Addr) (w : World) : (ReflectliteValue.methodAny (ReflectliteValue.valueError "reflectlite.Value.Type" 0) (fun t _ _ _ => ReflectliteType.toType t) #[rv 52 a 150]).run Tryz.prog w = .ok (rt 52) w := by kernel_rfl
theorem fElemT (w : World) : (ReflectliteType.method ReflectliteType.elem #[.agg #[hdl 52]]).run Tryz.prog w = .ok (rt 50) w := by kernel_rfl
theorem fImpl (w : World) : (ReflectliteType.relation "Implements" ReflectliteType.implements_ #[.agg #[hdl 50], rt 47]).run Tryz.prog w = .ok (.bool true) w := by kernel_rfl
theorem fTypeOf (v : Value) (w : World) : (ReflectliteType.typeOf #[.iface 50 v]).run Tryz.prog w = .ok (rt 50) w := by kernel_rfl
theorem fAssign (w : World) : (ReflectliteType.relation "AssignableTo" ReflectliteType.assignableTo #[.agg #[hdl 50], rt 50]).run Tryz.prog w = .ok (.bool true) w := by kernel_rfl
theorem fPartsPP (a : Addr) (w : World) : (ReflectliteValue.parts (rv 52 a 150)).run Tryz.prog w = .ok (some (52, a, 150)) w := by kernel_rfl
theorem fPartsP (a : Addr) (w : World) : (ReflectliteValue.parts (rv 50 a 150)).run Tryz.prog w = .ok (some (50, a, 150)) w := by kernel_rfl
theorem fPartsA (a : Addr) (w : World) : (ReflectliteValue.parts (rv 50 a 406)).run Tryz.prog w = .ok (some (50, a, 406)) w := by kernel_rfl
theorem fElemOf (w : World) : (Rtype.elem? 52).run Tryz.prog w = .ok (some 50) w := by kernel_rfl
theorem fMk (p : Addr) (w : World) : (ReflectliteValue.mk 50 p ReflectliteValue.flagAddr).run Tryz.prog w = .ok (rv 50 p 406) w := by kernel_rfl
theorem fDirect (w : World) : (Rtype.directlyAssignable 50 50).run Tryz.prog w = .ok true w := by kernel_rfl

/-- a method of a reflected value whose parts are known -/
theorem methodStep {z : Sem Value} {f : TypeId → Addr → Nat → Nat → Sem Value} {v : Value} {t : TypeId} {a : Addr} {fl : Nat} {w : World} (h : (ReflectliteValue.parts v).run Tryz.prog w = .ok (some (t, a, fl)) w) :
    (ReflectliteValue.method z f #[v]).run Tryz.prog w = (f t a fl (fl % 32)).run Tryz.prog w := by
  have e : ReflectliteValue.method z f #[v] = (do match ← ReflectliteValue.parts v with | none => z | some (t, a, fl) => f t a fl (fl % 32)) := rfl
  rw [e, Sem.run_bind, h]
  rfl
set_option maxRecDepth 100000 in
theorem fIsNil (a p : Addr) (W : World) (ha : W.cell? a = some (.pointer (some p))) :
    (ReflectliteValue.method (ReflectliteValue.valueError "reflectlite.Value.IsNil" 0) ReflectliteValue.isNil #[rv 52 a 150]).run Tryz.prog W = .ok (.bool false) W := by
  rw [methodStep (fPartsPP a W)]
  simp [ReflectliteValue.isNil, loadVar, isAgg, underlying, Tryz.underlying52, ha, Result.andThen]
set_option maxRecDepth 100000 in
theorem fElemV (a p : Addr) (W : World) (ha : W.cell? a = some (.pointer (some p))) :
    (ReflectliteValue.method (ReflectliteValue.valueError "reflectlite.Value.Elem" 0) ReflectliteValue.elem #[rv 52 a 150]).run Tryz.prog W = .ok (rv 50 p 406) W := by
  rw [methodStep (fPartsPP a W)]
  simp [ReflectliteValue.elem, loadVar, isAgg, underlying, Tryz.underlying52, ha, Result.andThen, fElemOf, fMk]
set_option maxRecDepth 100000 in
theorem fSet (ta b e : Addr) (old : Value) (W : World) (hb : W.cell? b = some (.pointer (some e))) (ht : W.cell? ta = some old) (hf : W.frozen? ta = false) :
    (ReflectliteValue.set #[rv 50 ta 406, rv 50 b 150]).run Tryz.prog W = .ok (.tuple #[]) (W.setCell ta (.pointer (some e))) := by
  rw [show ReflectliteValue.set #[rv 50 ta 406, rv 50 b 150] = (ReflectliteValue.parts (rv 50 ta 406) >>= fun p => ReflectliteValue.parts (rv 50 b 150) >>= fun q => _) from rfl]
  simp only [Sem.run_bind, fPartsA, fPartsP, Result.andThen]
  simp [ReflectliteValue.flagAddr, loadVar, isAgg, underlying, Tryz.underlying50, hb, Result.andThen, fDirect, storeVar, Value.cells, storeCells, Addr.add]
  rw [run_store Tryz.prog W ta _ _ (by rfl)]
  simp [ht, hf]
theorem fKind (h : Value) (w : World) : (Go.method (186 + 100) 97 (.agg #[h]) "Kind").run Tryz.prog w = .ok (111, h) w := by kernel_rfl
end Go.Proofs.YtekjnfkmjmmcmabGreatDoor.Wk
