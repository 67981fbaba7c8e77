/- errors.as at this chapter's two targets. -/
import Derived.Test.YtikdcnlbjpabjaaDoorEas
namespace Go.Proofs.YtikdcnlbjpabjaaDoor.ErA
set_option linter.unusedVariables false
set_option linter.unusedSimpArgs false
open Go.RowKit Go.Extern.Stop Go.Stop Go.Extern
open Mem EntL

theorem unwrapL (g : Nat) (vb : Value) (w : World) (h : w.cell? ⟨g, 1, none⟩ = some vb) : Calls Tryd.prog 99 #[.pointer (some ⟨g, 0, none⟩)] w fun e w' => e = .returned vb ∧ w' = w := by
  go_enter Tryd.func99, Tryd.ntmps99
  go_wp2_with fail
  go_ret
  exact ⟨rfl, rfl⟩
set_option maxRecDepth 100000 in
set_option maxHeartbeats 4000000 in
theorem asHitL (e t b : Addr) (old : Value) (w : World) (hb : w.cell? b = some (.pointer (some t))) (ht : w.cell? t = some old) (hf : w.frozen? t = false) :
    Calls Tryd.prog 49 #[.iface 43 (.pointer (some e)), .iface 48 (.pointer (some t)), .agg #[.pointer (some ⟨1, 48, none⟩), .pointer (some b), .int .u64 150], .iface 91 (.agg #[.pointer (some ⟨1, 43, none⟩)])] w
      fun ev w' => ev = .returned (.bool true) ∧ Chg (fun k => k = t.block) w w' ∧ w'.cell? t = some (.pointer (some e)) := by
  have hy1 := @run_callFunc_extern Tryd.prog 46 _ (fun args => ReflectliteValue.unpack (args.getD 0 (.tuple #[]))) Tryd.func46 (by kernel_rfl) (by kernel_rfl) (by kernel_rfl) (by kernel_rfl)
  have hy2 := @run_callFunc_extern Tryd.prog 57 _ ReflectliteType.typeOf Tryd.func57 (by kernel_rfl) (by kernel_rfl) (by kernel_rfl) (by kernel_rfl)
  have hy3 := @run_callFunc_extern Tryd.prog 107 _ (ReflectliteType.relation "AssignableTo" ReflectliteType.assignableTo) Tryd.func107 (by kernel_rfl) (by kernel_rfl) (by kernel_rfl) (by kernel_rfl)
  have hy4 := @run_callFunc_extern Tryd.prog 58 _ (ReflectliteValue.method (ReflectliteValue.valueError "reflectlite.Value.Elem" 0) ReflectliteValue.elem) Tryd.func58 (by kernel_rfl) (by kernel_rfl) (by kernel_rfl) (by kernel_rfl)
  have hy5 := @run_callFunc_extern Tryd.prog 59 _ ReflectliteValue.set Tryd.func59 (by kernel_rfl) (by kernel_rfl) (by kernel_rfl) (by kernel_rfl)
  have f1 := valueOfL
  have f2 := typeOfL
  have mA := mAssignableTo
  have a1 := asgL
  have hbl := World.block_lt_of_cell? w b hb
  have htl := World.block_lt_of_cell? w t ht
  have el := elemVL b t (w.alloc (.cells #[.pointer (some ⟨1, 48, none⟩), .pointer (some b), .int .u64 150] 77)) (by rw [World.cell?_alloc_lt _ _ b hbl]; exact hb)
  have ht2 : ((w.alloc (.cells #[.pointer (some ⟨1, 48, none⟩), .pointer (some b), .int .u64 150] 77)).alloc (.cells #[.pointer (some e)] 43)).cell? t = some old := by rw [World.cell?_alloc_lt _ _ t (by simp; omega), World.cell?_alloc_lt _ _ t htl]; exact ht
  have st := setL t ⟨w.heap.size + 1, 0, none⟩ e old ((w.alloc (.cells #[.pointer (some ⟨1, 48, none⟩), .pointer (some b), .int .u64 150] 77)).alloc (.cells #[.pointer (some e)] 43))
    (by rw [World.cell?_alloc_at _ _ _ _ (by simp)]; rfl)
    ht2
    (by rw [World.frozen?_alloc_old _ _ t (by simp; omega), World.frozen?_alloc_old _ _ t (Nat.ne_of_lt htl)]; exact hf)
  go_enter Tryd.func49, Tryd.ntmps49
  go_wp2
  refine wp_loop_rounds 1 ?_
  rw [rounds_succ]
  go_wp2
  go_ret
  refine ⟨rfl, (((Chg.refl _ _).new _).new _).trans (Chg.set _ _ _) (fun _ _ h => h), ?_⟩
  exact World.cell?_setCell_same _ _ _ ht2

theorem unwrapF (g : Nat) (vb : Value) (w : World) (h : w.cell? ⟨g, 1, none⟩ = some vb) : Calls Tryd.prog 101 #[.pointer (some ⟨g, 0, none⟩)] w fun e w' => e = .returned vb ∧ w' = w := by
  go_enter Tryd.func101, Tryd.ntmps101
  go_wp2_with fail
  go_ret
  exact ⟨rfl, rfl⟩
set_option maxRecDepth 100000 in
set_option maxHeartbeats 4000000 in
theorem asHitF (e t b : Addr) (old : Value) (w : World) (hb : w.cell? b = some (.pointer (some t))) (ht : w.cell? t = some old) (hf : w.frozen? t = false) :
    Calls Tryd.prog 49 #[.iface 51 (.pointer (some e)), .iface 52 (.pointer (some t)), .agg #[.pointer (some ⟨1, 52, none⟩), .pointer (some b), .int .u64 150], .iface 91 (.agg #[.pointer (some ⟨1, 51, none⟩)])] w
      fun ev w' => ev = .returned (.bool true) ∧ Chg (fun k => k = t.block) w w' ∧ w'.cell? t = some (.pointer (some e)) := by
  have hy1 := @run_callFunc_extern Tryd.prog 46 _ (fun args => ReflectliteValue.unpack (args.getD 0 (.tuple #[]))) Tryd.func46 (by kernel_rfl) (by kernel_rfl) (by kernel_rfl) (by kernel_rfl)
  have hy2 := @run_callFunc_extern Tryd.prog 57 _ ReflectliteType.typeOf Tryd.func57 (by kernel_rfl) (by kernel_rfl) (by kernel_rfl) (by kernel_rfl)
  have hy3 := @run_callFunc_extern Tryd.prog 107 _ (ReflectliteType.relation "AssignableTo" ReflectliteType.assignableTo) Tryd.func107 (by kernel_rfl) (by kernel_rfl) (by kernel_rfl) (by kernel_rfl)
  have hy4 := @run_callFunc_extern Tryd.prog 58 _ (ReflectliteValue.method (ReflectliteValue.valueError "reflectlite.Value.Elem" 0) ReflectliteValue.elem) Tryd.func58 (by kernel_rfl) (by kernel_rfl) (by kernel_rfl) (by kernel_rfl)
  have hy5 := @run_callFunc_extern Tryd.prog 59 _ ReflectliteValue.set Tryd.func59 (by kernel_rfl) (by kernel_rfl) (by kernel_rfl) (by kernel_rfl)
  have f1 := valueOfF
  have f2 := typeOfF
  have mA := mAssignableTo
  have a1 := asgF
  have hbl := World.block_lt_of_cell? w b hb
  have htl := World.block_lt_of_cell? w t ht
  have el := elemVF b t (w.alloc (.cells #[.pointer (some ⟨1, 52, none⟩), .pointer (some b), .int .u64 150] 77)) (by rw [World.cell?_alloc_lt _ _ b hbl]; exact hb)
  have ht2 : ((w.alloc (.cells #[.pointer (some ⟨1, 52, none⟩), .pointer (some b), .int .u64 150] 77)).alloc (.cells #[.pointer (some e)] 51)).cell? t = some old := by rw [World.cell?_alloc_lt _ _ t (by simp; omega), World.cell?_alloc_lt _ _ t htl]; exact ht
  have st := setF t ⟨w.heap.size + 1, 0, none⟩ e old ((w.alloc (.cells #[.pointer (some ⟨1, 52, none⟩), .pointer (some b), .int .u64 150] 77)).alloc (.cells #[.pointer (some e)] 51))
    (by rw [World.cell?_alloc_at _ _ _ _ (by simp)]; rfl)
    ht2
    (by rw [World.frozen?_alloc_old _ _ t (by simp; omega), World.frozen?_alloc_old _ _ t (Nat.ne_of_lt htl)]; exact hf)
  go_enter Tryd.func49, Tryd.ntmps49
  go_wp2
  refine wp_loop_rounds 1 ?_
  rw [rounds_succ]
  go_wp2
  go_ret
  refine ⟨rfl, (((Chg.refl _ _).new _).new _).trans (Chg.set _ _ _) (fun _ _ h => h), ?_⟩
  exact World.cell?_setCell_same _ _ _ ht2

set_option maxRecDepth 100000 in
set_option maxHeartbeats 4000000 in
theorem asFaults (v : Value) (t b : Addr) (lo : Nat) (ps : List Int) (hps : ps ≠ []) (w : World) (hc : Ch w lo ps v) :
    Calls Tryd.prog 49 #[v, .iface 48 (.pointer (some t)), .agg #[.pointer (some ⟨1, 48, none⟩), .pointer (some b), .int .u64 150], .iface 91 (.agg #[.pointer (some ⟨1, 43, none⟩)])] w
      fun ev w' => ev = .returned (.bool false) ∧ Chg (fun _ => False) w w' := by
  have hy1 := @run_callFunc_extern Tryd.prog 46 _ (fun args => ReflectliteValue.unpack (args.getD 0 (.tuple #[]))) Tryd.func46 (by kernel_rfl) (by kernel_rfl) (by kernel_rfl) (by kernel_rfl)
  have hy2 := @run_callFunc_extern Tryd.prog 57 _ ReflectliteType.typeOf Tryd.func57 (by kernel_rfl) (by kernel_rfl) (by kernel_rfl) (by kernel_rfl)
  have hy3 := @run_callFunc_extern Tryd.prog 107 _ (ReflectliteType.relation "AssignableTo" ReflectliteType.assignableTo) Tryd.func107 (by kernel_rfl) (by kernel_rfl) (by kernel_rfl) (by kernel_rfl)
  have hy4 := @run_callFunc_extern Tryd.prog 58 _ (ReflectliteValue.method (ReflectliteValue.valueError "reflectlite.Value.Elem" 0) ReflectliteValue.elem) Tryd.func58 (by kernel_rfl) (by kernel_rfl) (by kernel_rfl) (by kernel_rfl)
  have hy5 := @run_callFunc_extern Tryd.prog 59 _ ReflectliteValue.set Tryd.func59 (by kernel_rfl) (by kernel_rfl) (by kernel_rfl) (by kernel_rfl)
  have f2 := typeOfF
  have mA := mAssignableTo
  have a1 := asgNoL
  have n1 := noAsF
  have n2 := hasUnF
  have mU := mUnF
  have HC := Lib.hid hc
  have HP := Lib.hid hps
  clear hc hps
  go_enter Tryd.func49, Tryd.ntmps49
  go_wp2_with fail
  go_loopg [0] (ps.length + 1) (fun k v wr => ∃ qs : List Int, qs ≠ [] ∧ qs.length < k ∧ Ch wr lo qs v ∧ Chg (fun _ => False) w wr)
  case atStart => exact ⟨ps, HP.out, Nat.lt_succ_self _, HC.out.chg (Chg.alloc (fun _ => False) _ _) (fun _ _ h => h), Chg.alloc _ _ _⟩
  case round =>
    obtain ⟨qs, hq, hk, hch, hcg⟩ := hrel
    obtain ⟨k, rfl⟩ : ∃ k, gk = k + 1 := ⟨gk - 1, by omega⟩
    have HG := Lib.hid hcg
    clear hcg
    cases qs with
    | nil => exact absurd rfl hq
    | cons q ps2 =>
      obtain ⟨g, vb, rfl, hlo, hbk, hch⟩ := hch
      have HU := Lib.hid (unwrapF g vb wr (hbk.cells 1))
      have HCh := Lib.hid hch
      clear hbk hq
      cases ps2 with
      | nil =>
        obtain rfl : vb = .nilIface := hch
        clear HCh
        go_wp2_with fail
        refine HU.out.mono ?_
        rintro e w3 ⟨rfl, rfl⟩
        go_wp2_with fail
        go_ret
        exact ⟨rfl, HG.out⟩
      | cons p2 ps3 =>
        obtain ⟨g2, vb2, rfl, _, _, _⟩ := hch
        go_wp2_with fail
        refine HU.out.mono ?_
        rintro e w3 ⟨rfl, rfl⟩
        go_wp2_with fail
        go_roundg k
        case measure => simp at hk; omega
        case rel => exact ⟨p2 :: ps3, by simp, by simp at hk ⊢; omega, HCh.out, HG.out⟩
end Go.Proofs.YtikdcnlbjpabjaaDoor.ErA
