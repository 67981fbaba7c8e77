/- What errors.Is finds at the four types of errors (closed facts). -/
import Derived.Test.YtkjgibhckcdneaaChecked
import Derived.WalkKit
import Derived.LaidEql
import Derived.Stop.Asserts
namespace Go.Proofs.Ytkjgibhckcdneaa.ErI
open Go.RowKit Go.Extern.Stop Go.Stop Go.Extern

theorem typeOfW (v : Value) (w : World) : (Extern.ReflectliteType.typeOf #[.iface 92 v]).run Try.prog w = .ok (.iface 105 (.agg #[.pointer (some ⟨0, 92, none⟩)])) w := by kernel_rfl
theorem comparableW (w : World) : ((Extern.ReflectliteType.method fun t => do Extern.Rtype.noPackHeld "Comparable" t; pure (.bool (← typeInfo t).comparable)) #[.agg #[.pointer (some ⟨0, 92, none⟩)]]).run Try.prog w = .ok (.bool true) w := by kernel_rfl
theorem compW : (Try.prog.info? 92).map (·.comparable) = some true := by kernel_rfl
theorem sizeW : (Try.prog.info? 94).map (fun j => decide (j.size ≠ 0)) = some true := by kernel_rfl
theorem isW (v : Value) (xT : TypeId) (w : World) : (Instr.typeAssert (.iface 92 v) xT 107 true).run Try.prog w = .ok (.tuple #[.nilIface, .bool false]) w := run_typeAssert_lacksB Try.underlying107 (by kernel_rfl) (by kernel_rfl) v xT w
theorem unW (v : Value) (xT : TypeId) (w : World) : (Instr.typeAssert (.iface 92 v) xT 110 true).run Try.prog w = .ok (.tuple #[.iface 92 v, .bool true]) w := run_typeAssert_hasB Try.underlying110 (by kernel_rfl) v xT w
theorem usW (v : Value) (xT : TypeId) (w : World) : (Instr.typeAssert (.iface 92 v) xT 112 true).run Try.prog w = .ok (.tuple #[.nilIface, .bool false]) w := run_typeAssert_lacksB Try.underlying112 (by kernel_rfl) (by kernel_rfl) v xT w
theorem typeOfJ (v : Value) (w : World) : (Extern.ReflectliteType.typeOf #[.iface 95 v]).run Try.prog w = .ok (.iface 105 (.agg #[.pointer (some ⟨0, 95, none⟩)])) w := by kernel_rfl
theorem comparableJ (w : World) : ((Extern.ReflectliteType.method fun t => do Extern.Rtype.noPackHeld "Comparable" t; pure (.bool (← typeInfo t).comparable)) #[.agg #[.pointer (some ⟨0, 95, none⟩)]]).run Try.prog w = .ok (.bool true) w := by kernel_rfl
theorem compJ : (Try.prog.info? 95).map (·.comparable) = some true := by kernel_rfl
theorem sizeJ : (Try.prog.info? 97).map (fun j => decide (j.size ≠ 0)) = some true := by kernel_rfl
theorem isJ (v : Value) (xT : TypeId) (w : World) : (Instr.typeAssert (.iface 95 v) xT 107 true).run Try.prog w = .ok (.tuple #[.nilIface, .bool false]) w := run_typeAssert_lacksB Try.underlying107 (by kernel_rfl) (by kernel_rfl) v xT w
theorem unJ (v : Value) (xT : TypeId) (w : World) : (Instr.typeAssert (.iface 95 v) xT 110 true).run Try.prog w = .ok (.tuple #[.nilIface, .bool false]) w := run_typeAssert_lacksB Try.underlying110 (by kernel_rfl) (by kernel_rfl) v xT w
theorem usJ (v : Value) (xT : TypeId) (w : World) : (Instr.typeAssert (.iface 95 v) xT 112 true).run Try.prog w = .ok (.tuple #[.iface 95 v, .bool true]) w := run_typeAssert_hasB Try.underlying112 (by kernel_rfl) v xT w
theorem typeOfL (v : Value) (w : World) : (Extern.ReflectliteType.typeOf #[.iface 99 v]).run Try.prog w = .ok (.iface 105 (.agg #[.pointer (some ⟨0, 99, none⟩)])) w := by kernel_rfl
theorem comparableL (w : World) : ((Extern.ReflectliteType.method fun t => do Extern.Rtype.noPackHeld "Comparable" t; pure (.bool (← typeInfo t).comparable)) #[.agg #[.pointer (some ⟨0, 99, none⟩)]]).run Try.prog w = .ok (.bool true) w := by kernel_rfl
theorem compL : (Try.prog.info? 99).map (·.comparable) = some true := by kernel_rfl
theorem sizeL : (Try.prog.info? 101).map (fun j => decide (j.size ≠ 0)) = some true := by kernel_rfl
theorem isL (v : Value) (xT : TypeId) (w : World) : (Instr.typeAssert (.iface 99 v) xT 107 true).run Try.prog w = .ok (.tuple #[.iface 99 v, .bool true]) w := run_typeAssert_hasB Try.underlying107 (by kernel_rfl) v xT w
theorem unL (v : Value) (xT : TypeId) (w : World) : (Instr.typeAssert (.iface 99 v) xT 110 true).run Try.prog w = .ok (.tuple #[.nilIface, .bool false]) w := run_typeAssert_lacksB Try.underlying110 (by kernel_rfl) (by kernel_rfl) v xT w
theorem usL (v : Value) (xT : TypeId) (w : World) : (Instr.typeAssert (.iface 99 v) xT 112 true).run Try.prog w = .ok (.tuple #[.nilIface, .bool false]) w := run_typeAssert_lacksB Try.underlying112 (by kernel_rfl) (by kernel_rfl) v xT w
theorem typeOfP (v : Value) (w : World) : (Extern.ReflectliteType.typeOf #[.iface 102 v]).run Try.prog w = .ok (.iface 105 (.agg #[.pointer (some ⟨0, 102, none⟩)])) w := by kernel_rfl
theorem comparableP (w : World) : ((Extern.ReflectliteType.method fun t => do Extern.Rtype.noPackHeld "Comparable" t; pure (.bool (← typeInfo t).comparable)) #[.agg #[.pointer (some ⟨0, 102, none⟩)]]).run Try.prog w = .ok (.bool true) w := by kernel_rfl
theorem compP : (Try.prog.info? 102).map (·.comparable) = some true := by kernel_rfl
theorem sizeP : (Try.prog.info? 103).map (fun j => decide (j.size ≠ 0)) = some true := by kernel_rfl
theorem isP (v : Value) (xT : TypeId) (w : World) : (Instr.typeAssert (.iface 102 v) xT 107 true).run Try.prog w = .ok (.tuple #[.nilIface, .bool false]) w := run_typeAssert_lacksB Try.underlying107 (by kernel_rfl) (by kernel_rfl) v xT w
theorem unP (v : Value) (xT : TypeId) (w : World) : (Instr.typeAssert (.iface 102 v) xT 110 true).run Try.prog w = .ok (.tuple #[.nilIface, .bool false]) w := run_typeAssert_lacksB Try.underlying110 (by kernel_rfl) (by kernel_rfl) v xT w
theorem usP (v : Value) (xT : TypeId) (w : World) : (Instr.typeAssert (.iface 102 v) xT 112 true).run Try.prog w = .ok (.tuple #[.nilIface, .bool false]) w := run_typeAssert_lacksB Try.underlying112 (by kernel_rfl) (by kernel_rfl) v xT w
theorem asW (v : Value) (xT : TypeId) (w : World) : (Instr.typeAssert (.iface 92 v) xT 102 true).run Try.prog w = .ok (.tuple #[.pointer none, .bool false]) w := by kernel_rfl
theorem asJ (v : Value) (xT : TypeId) (w : World) : (Instr.typeAssert (.iface 95 v) xT 102 true).run Try.prog w = .ok (.tuple #[.pointer none, .bool false]) w := by kernel_rfl
theorem asL (v : Value) (xT : TypeId) (w : World) : (Instr.typeAssert (.iface 99 v) xT 102 true).run Try.prog w = .ok (.tuple #[.pointer none, .bool false]) w := by kernel_rfl
theorem asP (v : Value) (xT : TypeId) (w : World) : (Instr.typeAssert (.iface 102 v) xT 102 true).run Try.prog w = .ok (.tuple #[v, .bool true]) w := by kernel_rfl
theorem rtComparable (v : Value) (w : World) : (Go.method 86 105 v "Comparable").run Try.prog w = .ok (109, v) w := by kernel_rfl
theorem mIs (v : Value) (w : World) : (Go.method 109 99 v "Is").run Try.prog w = .ok (104, v) w := by kernel_rfl
theorem mUn (v : Value) (w : World) : (Go.method 111 92 v "Unwrap").run Try.prog w = .ok (100, v) w := by kernel_rfl
theorem mUs (v : Value) (w : World) : (Go.method 113 95 v "Unwrap").run Try.prog w = .ok (102, v) w := by kernel_rfl
end Go.Proofs.Ytkjgibhckcdneaa.ErI
