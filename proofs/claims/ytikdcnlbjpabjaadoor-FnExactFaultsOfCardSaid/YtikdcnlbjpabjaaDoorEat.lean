/- errors.As in front of errors.as. -/
import Derived.Test.YtikdcnlbjpabjaaDoorEas
namespace Go.Proofs.YtikdcnlbjpabjaaDoor.ErA
set_option linter.unusedVariables false
set_option linter.unusedSimpArgs false
open Go.RowKit Go.Extern.Stop Go.Stop Go.Extern
open Mem EntL

theorem asNilL (t : Value) (w : World) : Calls Tryd.prog 31 #[.nilIface, t] w fun e w' => e = .returned (.bool false) ∧ w' = w := by
  go_enter Tryd.func31, Tryd.ntmps31
  go_wp2
  go_ret
  exact ⟨rfl, rfl⟩
set_option maxRecDepth 100000 in
set_option maxHeartbeats 4000000 in
/-- errors.As in front of errors.as. -/
theorem asTopL (X : TypeId) (g t : Addr) (Q : Bool → World → Prop) (w : World) (hg : w.cell? ⟨0, 0, none⟩ = some (.iface 91 (.agg #[.pointer (some ⟨1, 46, none⟩)])))
    (hin : ∀ W, Chg (fun _ => False) w W → w.heap.size < W.heap.size → W.cell? ⟨w.heap.size, 0, none⟩ = some (.pointer (some t)) →
      Calls Tryd.prog 49 #[.iface X (.pointer (some g)), .iface 48 (.pointer (some t)), .agg #[.pointer (some ⟨1, 48, none⟩), .pointer (some ⟨w.heap.size, 0, none⟩), .int .u64 150], .iface 91 (.agg #[.pointer (some ⟨1, 43, none⟩)])] W fun e W' => ∃ b, e = .returned (.bool b) ∧ Q b W') :
    Calls Tryd.prog 31 #[.iface X (.pointer (some g)), .iface 48 (.pointer (some t))] w fun e W' => ∃ b, e = .returned (.bool b) ∧ Q b W' := by
  have hx1 := @run_callFunc_extern Tryd.prog 46 _ (fun args => ReflectliteValue.unpack (args.getD 0 (.tuple #[]))) Tryd.func46 (by kernel_rfl) (by kernel_rfl) (by kernel_rfl) (by kernel_rfl)
  have hx2 := @run_callFunc_extern Tryd.prog 47 _ (ReflectliteValue.methodAny (ReflectliteValue.valueError "reflectlite.Value.Type" 0) (fun t _ _ _ => ReflectliteType.toType t)) Tryd.func47 (by kernel_rfl) (by kernel_rfl) (by kernel_rfl) (by kernel_rfl)
  have hx3 := @run_callFunc_extern Tryd.prog 48 _ (ReflectliteValue.method (ReflectliteValue.valueError "reflectlite.Value.IsNil" 0) ReflectliteValue.isNil) Tryd.func48 (by kernel_rfl) (by kernel_rfl) (by kernel_rfl) (by kernel_rfl)
  have hx4 := @run_callFunc_extern Tryd.prog 95 _ (ReflectliteType.abiMethod fun t => do pure (.int .u8 (← Rtype.kind t))) Tryd.func95 (by kernel_rfl) (by kernel_rfl) (by kernel_rfl) (by kernel_rfl)
  have hx5 := @run_callFunc_extern Tryd.prog 109 _ (ReflectliteType.method ReflectliteType.elem) Tryd.func109 (by kernel_rfl) (by kernel_rfl) (by kernel_rfl) (by kernel_rfl)
  have hx6 := @run_callFunc_extern Tryd.prog 110 _ (ReflectliteType.relation "Implements" ReflectliteType.implements_) Tryd.func110 (by kernel_rfl) (by kernel_rfl) (by kernel_rfl) (by kernel_rfl)
  have f1 := valueOfPL
  have f2 := typePL
  have mK := mKind
  have mE := mElem
  have mI := mImplements
  have k1 := kindPL
  have k2 := kindL
  have e1 := elemL
  have i1 := implL
  have hlt : 0 < w.heap.size := World.block_lt_of_cell? w ⟨0, 0, none⟩ hg
  obtain ⟨W1, hW1⟩ : ∃ W1, (w.alloc (.cells #[.pointer (some t)] 48)).alloc (.cells #[.pointer (some ⟨1, 48, none⟩), .pointer (some ⟨w.heap.size, 0, none⟩), .int .u64 150] 77) = W1 := ⟨_, rfl⟩
  have HW := Lib.hid hW1
  have c1 : Chg (fun _ => False) w W1 := by rw [← hW1]; exact ((Chg.refl _ _).new _).new _
  have s1 : w.heap.size < W1.heap.size := by rw [← hW1]; simp; omega
  have z1 : W1.cell? ⟨w.heap.size, 0, none⟩ = some (.pointer (some t)) := by rw [← hW1, World.cell?_alloc_lt _ _ ⟨w.heap.size, 0, none⟩ (by simp)]; simp
  have n8 := isNilL ⟨w.heap.size, 0, none⟩ t W1 z1
  have hg2 : W1.cell? ⟨0, 0, none⟩ = some (.iface 91 (.agg #[.pointer (some ⟨1, 46, none⟩)])) := (c1.cell (p := ⟨0, 0, none⟩) hlt (fun h => h)).trans hg
  have HIN := Lib.hid (hin W1 c1 s1 z1)
  have v2 : W1.cell? ⟨w.heap.size + 1, 0, none⟩ = some (.pointer (some ⟨1, 48, none⟩)) := by rw [← hW1]; rw [World.cell?_alloc_at _ _ _ _ (by simp)]; rfl
  have v3 : W1.cell? ⟨w.heap.size + 1, 1, none⟩ = some (.pointer (some ⟨w.heap.size, 0, none⟩)) := by rw [← hW1]; rw [World.cell?_alloc_at _ _ _ _ (by simp)]; rfl
  have v4 : W1.cell? ⟨w.heap.size + 1, 2, none⟩ = some (.int .u64 150) := by rw [← hW1]; rw [World.cell?_alloc_at _ _ _ _ (by simp)]; rfl
  clear hin hg
  go_enter Tryd.func31, Tryd.ntmps31
  go_wp2_with fail
  refine HIN.out.mono ?_
  rintro e w2 ⟨b, rfl, hq⟩
  have HQ := Lib.hid hq
  clear hq
  go_wp2_with fail
  go_ret
  exact ⟨b, rfl, HQ.out⟩

theorem asNilF (t : Value) (w : World) : Calls Tryd.prog 31 #[.nilIface, t] w fun e w' => e = .returned (.bool false) ∧ w' = w := by
  go_enter Tryd.func31, Tryd.ntmps31
  go_wp2
  go_ret
  exact ⟨rfl, rfl⟩
set_option maxRecDepth 100000 in
set_option maxHeartbeats 4000000 in
/-- errors.As in front of errors.as. -/
theorem asTopF (X : TypeId) (g t : Addr) (Q : Bool → World → Prop) (w : World) (hg : w.cell? ⟨0, 0, none⟩ = some (.iface 91 (.agg #[.pointer (some ⟨1, 46, none⟩)])))
    (hin : ∀ W, Chg (fun _ => False) w W → w.heap.size < W.heap.size → W.cell? ⟨w.heap.size, 0, none⟩ = some (.pointer (some t)) →
      Calls Tryd.prog 49 #[.iface X (.pointer (some g)), .iface 52 (.pointer (some t)), .agg #[.pointer (some ⟨1, 52, none⟩), .pointer (some ⟨w.heap.size, 0, none⟩), .int .u64 150], .iface 91 (.agg #[.pointer (some ⟨1, 51, none⟩)])] W fun e W' => ∃ b, e = .returned (.bool b) ∧ Q b W') :
    Calls Tryd.prog 31 #[.iface X (.pointer (some g)), .iface 52 (.pointer (some t))] w fun e W' => ∃ b, e = .returned (.bool b) ∧ Q b W' := by
  have hx1 := @run_callFunc_extern Tryd.prog 46 _ (fun args => ReflectliteValue.unpack (args.getD 0 (.tuple #[]))) Tryd.func46 (by kernel_rfl) (by kernel_rfl) (by kernel_rfl) (by kernel_rfl)
  have hx2 := @run_callFunc_extern Tryd.prog 47 _ (ReflectliteValue.methodAny (ReflectliteValue.valueError "reflectlite.Value.Type" 0) (fun t _ _ _ => ReflectliteType.toType t)) Tryd.func47 (by kernel_rfl) (by kernel_rfl) (by kernel_rfl) (by kernel_rfl)
  have hx3 := @run_callFunc_extern Tryd.prog 48 _ (ReflectliteValue.method (ReflectliteValue.valueError "reflectlite.Value.IsNil" 0) ReflectliteValue.isNil) Tryd.func48 (by kernel_rfl) (by kernel_rfl) (by kernel_rfl) (by kernel_rfl)
  have hx4 := @run_callFunc_extern Tryd.prog 95 _ (ReflectliteType.abiMethod fun t => do pure (.int .u8 (← Rtype.kind t))) Tryd.func95 (by kernel_rfl) (by kernel_rfl) (by kernel_rfl) (by kernel_rfl)
  have hx5 := @run_callFunc_extern Tryd.prog 109 _ (ReflectliteType.method ReflectliteType.elem) Tryd.func109 (by kernel_rfl) (by kernel_rfl) (by kernel_rfl) (by kernel_rfl)
  have hx6 := @run_callFunc_extern Tryd.prog 110 _ (ReflectliteType.relation "Implements" ReflectliteType.implements_) Tryd.func110 (by kernel_rfl) (by kernel_rfl) (by kernel_rfl) (by kernel_rfl)
  have f1 := valueOfPF
  have f2 := typePF
  have mK := mKind
  have mE := mElem
  have mI := mImplements
  have k1 := kindPF
  have k2 := kindF
  have e1 := elemF
  have i1 := implF
  have hlt : 0 < w.heap.size := World.block_lt_of_cell? w ⟨0, 0, none⟩ hg
  obtain ⟨W1, hW1⟩ : ∃ W1, (w.alloc (.cells #[.pointer (some t)] 52)).alloc (.cells #[.pointer (some ⟨1, 52, none⟩), .pointer (some ⟨w.heap.size, 0, none⟩), .int .u64 150] 77) = W1 := ⟨_, rfl⟩
  have HW := Lib.hid hW1
  have c1 : Chg (fun _ => False) w W1 := by rw [← hW1]; exact ((Chg.refl _ _).new _).new _
  have s1 : w.heap.size < W1.heap.size := by rw [← hW1]; simp; omega
  have z1 : W1.cell? ⟨w.heap.size, 0, none⟩ = some (.pointer (some t)) := by rw [← hW1, World.cell?_alloc_lt _ _ ⟨w.heap.size, 0, none⟩ (by simp)]; simp
  have n8 := isNilF ⟨w.heap.size, 0, none⟩ t W1 z1
  have hg2 : W1.cell? ⟨0, 0, none⟩ = some (.iface 91 (.agg #[.pointer (some ⟨1, 46, none⟩)])) := (c1.cell (p := ⟨0, 0, none⟩) hlt (fun h => h)).trans hg
  have HIN := Lib.hid (hin W1 c1 s1 z1)
  have v2 : W1.cell? ⟨w.heap.size + 1, 0, none⟩ = some (.pointer (some ⟨1, 52, none⟩)) := by rw [← hW1]; rw [World.cell?_alloc_at _ _ _ _ (by simp)]; rfl
  have v3 : W1.cell? ⟨w.heap.size + 1, 1, none⟩ = some (.pointer (some ⟨w.heap.size, 0, none⟩)) := by rw [← hW1]; rw [World.cell?_alloc_at _ _ _ _ (by simp)]; rfl
  have v4 : W1.cell? ⟨w.heap.size + 1, 2, none⟩ = some (.int .u64 150) := by rw [← hW1]; rw [World.cell?_alloc_at _ _ _ _ (by simp)]; rfl
  clear hin hg
  go_enter Tryd.func31, Tryd.ntmps31
  go_wp2_with fail
  refine HIN.out.mono ?_
  rintro e w2 ⟨b, rfl, hq⟩
  have HQ := Lib.hid hq
  clear hq
  go_wp2_with fail
  go_ret
  exact ⟨b, rfl, HQ.out⟩
end Go.Proofs.YtikdcnlbjpabjaaDoor.ErA
