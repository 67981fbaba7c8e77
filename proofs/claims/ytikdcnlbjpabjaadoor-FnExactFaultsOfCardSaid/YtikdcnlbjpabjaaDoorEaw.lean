/- errors.As at the target **fault: the chain may begin with what is left open. -/
import Derived.Test.YtikdcnlbjpabjaaDoorEat
import Derived.Test.YtikdcnlbjpabjaaDoorEau
namespace Go.Proofs.YtikdcnlbjpabjaaDoor.ErA
set_option linter.unusedVariables false
set_option linter.unusedSimpArgs false
open Go.RowKit Go.Extern.Stop Go.Stop Go.Extern
open Mem EntL

set_option maxRecDepth 100000 in
set_option maxHeartbeats 4000000 in
theorem asHitZ (e t b : Addr) (old : Value) (w : World) (hb : w.cell? b = some (.pointer (some t))) (ht : w.cell? t = some old) (hf : w.frozen? t = false) :
    Calls Tryd.prog 49 #[.iface 51 (.pointer (some e)), .iface 52 (.pointer (some t)), .agg #[.pointer (some ⟨1, 52, none⟩), .pointer (some b), .int .u64 150], .iface 91 (.agg #[.pointer (some ⟨1, 51, none⟩)])] w
      fun ev w' => ev = .returned (.bool true) ∧ Chg (fun k => k = t.block) w w' ∧ w'.cell? t = some (.pointer (some e)) ∧ w'.frozen? t = false := by
  have hy1 := @run_callFunc_extern Tryd.prog 46 _ (fun args => ReflectliteValue.unpack (args.getD 0 (.tuple #[]))) Tryd.func46 (by kernel_rfl) (by kernel_rfl) (by kernel_rfl) (by kernel_rfl)
  have hy2 := @run_callFunc_extern Tryd.prog 57 _ ReflectliteType.typeOf Tryd.func57 (by kernel_rfl) (by kernel_rfl) (by kernel_rfl) (by kernel_rfl)
  have hy3 := @run_callFunc_extern Tryd.prog 107 _ (ReflectliteType.relation "AssignableTo" ReflectliteType.assignableTo) Tryd.func107 (by kernel_rfl) (by kernel_rfl) (by kernel_rfl) (by kernel_rfl)
  have hy4 := @run_callFunc_extern Tryd.prog 58 _ (ReflectliteValue.method (ReflectliteValue.valueError "reflectlite.Value.Elem" 0) ReflectliteValue.elem) Tryd.func58 (by kernel_rfl) (by kernel_rfl) (by kernel_rfl) (by kernel_rfl)
  have hy5 := @run_callFunc_extern Tryd.prog 59 _ ReflectliteValue.set Tryd.func59 (by kernel_rfl) (by kernel_rfl) (by kernel_rfl) (by kernel_rfl)
  have f1 := valueOfF
  have f2 := typeOfF
  have mA := mAssignableTo
  have a1 := asgF
  have hbl := World.block_lt_of_cell? w b hb
  have htl := World.block_lt_of_cell? w t ht
  have el := elemVF b t (w.alloc (.cells #[.pointer (some ⟨1, 52, none⟩), .pointer (some b), .int .u64 150] 77)) (by rw [World.cell?_alloc_lt _ _ b hbl]; exact hb)
  have ht2 : ((w.alloc (.cells #[.pointer (some ⟨1, 52, none⟩), .pointer (some b), .int .u64 150] 77)).alloc (.cells #[.pointer (some e)] 51)).cell? t = some old := by rw [World.cell?_alloc_lt _ _ t (by simp; omega), World.cell?_alloc_lt _ _ t htl]; exact ht
  have hf2 : ((w.alloc (.cells #[.pointer (some ⟨1, 52, none⟩), .pointer (some b), .int .u64 150] 77)).alloc (.cells #[.pointer (some e)] 51)).frozen? t = false := by rw [World.frozen?_alloc_old _ _ t (by simp; omega), World.frozen?_alloc_old _ _ t (Nat.ne_of_lt htl)]; exact hf
  have st := setF t ⟨w.heap.size + 1, 0, none⟩ e old ((w.alloc (.cells #[.pointer (some ⟨1, 52, none⟩), .pointer (some b), .int .u64 150] 77)).alloc (.cells #[.pointer (some e)] 51))
    (by rw [World.cell?_alloc_at _ _ _ _ (by simp)]; rfl) ht2 hf2
  have HF2 := Lib.hid hf2
  have HT2 := Lib.hid ht2
  clear hf2 ht2
  go_enter Tryd.func49, Tryd.ntmps49
  go_wp2
  refine wp_loop_rounds 1 ?_
  rw [rounds_succ]
  go_wp2
  go_ret
  exact ⟨rfl, (((Chg.refl _ _).new _).new _).trans (Chg.set _ _ _) (fun _ _ h => h), World.cell?_setCell_same _ _ _ HT2.out, (World.frozen?_setCell _ _ _ _).trans HF2.out⟩
set_option maxRecDepth 100000 in
set_option maxHeartbeats 4000000 in
theorem asOpenNil (g : Nat) (t b : Addr) (w : World) (hu : w.cell? ⟨g, 1, none⟩ = some .nilIface) :
    Calls Tryd.prog 49 #[.iface 43 (.pointer (some ⟨g, 0, none⟩)), .iface 52 (.pointer (some t)), .agg #[.pointer (some ⟨1, 52, none⟩), .pointer (some b), .int .u64 150], .iface 91 (.agg #[.pointer (some ⟨1, 51, none⟩)])] w
      fun ev w' => ev = .returned (.bool false) ∧ Chg (fun _ => False) w w' := by
  have hy1 := @run_callFunc_extern Tryd.prog 46 _ (fun args => ReflectliteValue.unpack (args.getD 0 (.tuple #[]))) Tryd.func46 (by kernel_rfl) (by kernel_rfl) (by kernel_rfl) (by kernel_rfl)
  have hy2 := @run_callFunc_extern Tryd.prog 57 _ ReflectliteType.typeOf Tryd.func57 (by kernel_rfl) (by kernel_rfl) (by kernel_rfl) (by kernel_rfl)
  have hy3 := @run_callFunc_extern Tryd.prog 107 _ (ReflectliteType.relation "AssignableTo" ReflectliteType.assignableTo) Tryd.func107 (by kernel_rfl) (by kernel_rfl) (by kernel_rfl) (by kernel_rfl)
  have hy4 := @run_callFunc_extern Tryd.prog 58 _ (ReflectliteValue.method (ReflectliteValue.valueError "reflectlite.Value.Elem" 0) ReflectliteValue.elem) Tryd.func58 (by kernel_rfl) (by kernel_rfl) (by kernel_rfl) (by kernel_rfl)
  have hy5 := @run_callFunc_extern Tryd.prog 59 _ ReflectliteValue.set Tryd.func59 (by kernel_rfl) (by kernel_rfl) (by kernel_rfl) (by kernel_rfl)
  have f2 := typeOfL
  have mA := mAssignableTo
  have a1 := asgNoF
  have n1 := noAsL
  have n2 := hasUnL
  have mU := mUnL
  have gl := World.block_lt_of_cell? w ⟨g, 1, none⟩ hu
  have HU := Lib.hid (unwrapL g .nilIface (w.alloc (.cells #[.pointer (some ⟨1, 52, none⟩), .pointer (some b), .int .u64 150] 77)) (by rw [World.cell?_alloc_lt _ _ ⟨g, 1, none⟩ gl]; exact hu))
  clear hu gl
  go_enter Tryd.func49, Tryd.ntmps49
  go_wp2_with fail
  refine wp_loop_rounds 1 ?_
  rw [rounds_succ]
  go_wp2_with fail
  refine HU.out.mono ?_
  rintro e w3 ⟨rfl, rfl⟩
  go_wp2_with fail
  go_ret
  exact ⟨rfl, Chg.alloc _ _ _⟩
set_option maxRecDepth 100000 in
set_option maxHeartbeats 4000000 in
theorem asOpenHit (g : Nat) (e t b : Addr) (old : Value) (w : World) (hu : w.cell? ⟨g, 1, none⟩ = some (.iface 51 (.pointer (some e)))) (hb : w.cell? b = some (.pointer (some t))) (ht : w.cell? t = some old) (hf : w.frozen? t = false) :
    Calls Tryd.prog 49 #[.iface 43 (.pointer (some ⟨g, 0, none⟩)), .iface 52 (.pointer (some t)), .agg #[.pointer (some ⟨1, 52, none⟩), .pointer (some b), .int .u64 150], .iface 91 (.agg #[.pointer (some ⟨1, 51, none⟩)])] w
      fun ev w' => ev = .returned (.bool true) ∧ Chg (fun k => k = t.block) w w' ∧ w'.cell? t = some (.pointer (some e)) ∧ w'.frozen? t = false := by
  have hy1 := @run_callFunc_extern Tryd.prog 46 _ (fun args => ReflectliteValue.unpack (args.getD 0 (.tuple #[]))) Tryd.func46 (by kernel_rfl) (by kernel_rfl) (by kernel_rfl) (by kernel_rfl)
  have hy2 := @run_callFunc_extern Tryd.prog 57 _ ReflectliteType.typeOf Tryd.func57 (by kernel_rfl) (by kernel_rfl) (by kernel_rfl) (by kernel_rfl)
  have hy3 := @run_callFunc_extern Tryd.prog 107 _ (ReflectliteType.relation "AssignableTo" ReflectliteType.assignableTo) Tryd.func107 (by kernel_rfl) (by kernel_rfl) (by kernel_rfl) (by kernel_rfl)
  have hy4 := @run_callFunc_extern Tryd.prog 58 _ (ReflectliteValue.method (ReflectliteValue.valueError "reflectlite.Value.Elem" 0) ReflectliteValue.elem) Tryd.func58 (by kernel_rfl) (by kernel_rfl) (by kernel_rfl) (by kernel_rfl)
  have hy5 := @run_callFunc_extern Tryd.prog 59 _ ReflectliteValue.set Tryd.func59 (by kernel_rfl) (by kernel_rfl) (by kernel_rfl) (by kernel_rfl)
  have f0 := typeOfL
  have a0 := asgNoF
  have n1 := noAsL
  have n2 := hasUnL
  have mU := mUnL
  have f1 := valueOfF
  have f2 := typeOfF
  have mA := mAssignableTo
  have a1 := asgF
  have gl := World.block_lt_of_cell? w ⟨g, 1, none⟩ hu
  have HU := Lib.hid (unwrapL g (.iface 51 (.pointer (some e))) (w.alloc (.cells #[.pointer (some ⟨1, 52, none⟩), .pointer (some b), .int .u64 150] 77)) (by rw [World.cell?_alloc_lt _ _ ⟨g, 1, none⟩ gl]; exact hu))
  have hbl := World.block_lt_of_cell? w b hb
  have htl := World.block_lt_of_cell? w t ht
  have el := elemVF b t (w.alloc (.cells #[.pointer (some ⟨1, 52, none⟩), .pointer (some b), .int .u64 150] 77)) (by rw [World.cell?_alloc_lt _ _ b hbl]; exact hb)
  have ht2 : ((w.alloc (.cells #[.pointer (some ⟨1, 52, none⟩), .pointer (some b), .int .u64 150] 77)).alloc (.cells #[.pointer (some e)] 51)).cell? t = some old := by rw [World.cell?_alloc_lt _ _ t (by simp; omega), World.cell?_alloc_lt _ _ t htl]; exact ht
  have st := setF t ⟨w.heap.size + 1, 0, none⟩ e old ((w.alloc (.cells #[.pointer (some ⟨1, 52, none⟩), .pointer (some b), .int .u64 150] 77)).alloc (.cells #[.pointer (some e)] 51))
    (by rw [World.cell?_alloc_at _ _ _ _ (by simp)]; rfl) ht2
    (by rw [World.frozen?_alloc_old _ _ t (by simp; omega), World.frozen?_alloc_old _ _ t (Nat.ne_of_lt htl)]; exact hf)
  have HF2 := Lib.hid (show ((w.alloc (.cells #[.pointer (some ⟨1, 52, none⟩), .pointer (some b), .int .u64 150] 77)).alloc (.cells #[.pointer (some e)] 51)).frozen? t = false by rw [World.frozen?_alloc_old _ _ t (by simp; omega), World.frozen?_alloc_old _ _ t (Nat.ne_of_lt htl)]; exact hf)
  have HT2 := Lib.hid ht2
  clear hu gl ht2
  go_enter Tryd.func49, Tryd.ntmps49
  go_wp2_with fail
  refine wp_loop_rounds 2 ?_
  rw [rounds_succ]
  go_wp2_with fail
  refine HU.out.mono ?_
  rintro ev w3 ⟨rfl, rfl⟩
  go_wp2_with fail
  rw [rounds_succ]
  go_wp2
  go_ret
  exact ⟨rfl, (((Chg.refl _ _).new _).new _).trans (Chg.set _ _ _) (fun _ _ h => h), World.cell?_setCell_same _ _ _ HT2.out, (World.frozen?_setCell _ _ _ _).trans HF2.out⟩

/-- An error whose chain of faults is qs; what is left open may come first. -/
def ErrOf (w : World) (lo : Nat) (qs : List Int) (v : Value) : Prop :=
  Ch w lo qs v ∨ ∃ g x vb, v = .iface 43 (.pointer (some ⟨g, 0, none⟩)) ∧ lo ≤ g ∧ Blk w g 50 #[x, vb] ∧ Ch w lo qs vb
theorem ErrOf.chg {C : Nat → Prop} {w w' : World} {lo : Nat} (hc : Chg C w w') (hC : ∀ g, lo ≤ g → ¬ C g) {qs : List Int} {v : Value} (h : ErrOf w lo qs v) : ErrOf w' lo qs v := by
  rcases h with h | ⟨g, x, vb, rfl, hg, hb, h⟩
  · exact .inl (h.chg hc hC)
  · exact .inr ⟨g, x, vb, rfl, hg, hb.chg hc (hC g hg), h.chg hc hC⟩
theorem asF_no (t : Addr) (lo : Nat) (v : Value) (w : World) (hg : w.cell? ⟨0, 0, none⟩ = some (.iface 91 (.agg #[.pointer (some ⟨1, 46, none⟩)]))) (h : ErrOf w lo [] v) :
    Calls Tryd.prog 31 #[v, .iface 52 (.pointer (some t))] w fun e W' => e = .returned (.bool false) ∧ Chg (fun _ => False) w W' := by
  rcases h with h | ⟨g, x, vb, rfl, hlo, hb, h⟩
  · obtain rfl : v = .nilIface := h
    exact (asNilF _ _).mono fun e W' ⟨h1, h2⟩ => ⟨h1, h2 ▸ Chg.refl _ _⟩
  · obtain rfl : vb = .nilIface := h
    exact (asTopF 43 ⟨g, 0, none⟩ t (fun b W' => b = false ∧ Chg (fun _ => False) w W') w hg
      (fun W h1 h2 h3 => (asOpenNil g t ⟨w.heap.size, 0, none⟩ W ((hb.chg h1 (fun h => h)).cells 1)).mono fun e W' ⟨he, h4⟩ => ⟨false, he, rfl, h1.trans h4 (fun _ _ h => h)⟩)).mono
      fun e W' ⟨b, he, hb, hw⟩ => ⟨by rw [he, hb], hw⟩
theorem asF_yes (t : Addr) (old : Value) (lo : Nat) (p : Int) (ps : List Int) (v : Value) (w : World) (hg : w.cell? ⟨0, 0, none⟩ = some (.iface 91 (.agg #[.pointer (some ⟨1, 46, none⟩)]))) (ht : w.cell? t = some old) (hf : w.frozen? t = false) (h : ErrOf w lo (p :: ps) v) :
    ∃ g vb, lo ≤ g ∧ Blk w g 54 #[.int .i64 p, vb] ∧ Ch w lo ps vb ∧
    Calls Tryd.prog 31 #[v, .iface 52 (.pointer (some t))] w fun ev W' => ev = .returned (.bool true) ∧ Chg (fun k => k = t.block) w W' ∧ W'.cell? t = some (.pointer (some ⟨g, 0, none⟩)) ∧ W'.frozen? t = false := by
  have htl := World.block_lt_of_cell? w t ht
  rcases h with ⟨g, vb, rfl, hlo, hb, h⟩ | ⟨g0, x, v0, rfl, hlo0, hb0, g, vb, rfl, hlo, hb, h⟩
  · refine ⟨g, vb, hlo, hb, h, ?_⟩
    exact (asTopF 51 ⟨g, 0, none⟩ t (fun b W' => b = true ∧ Chg (fun k => k = t.block) w W' ∧ W'.cell? t = some (.pointer (some ⟨g, 0, none⟩)) ∧ W'.frozen? t = false) w hg
      (fun W h1 h2 h3 => (asHitZ ⟨g, 0, none⟩ t ⟨w.heap.size, 0, none⟩ old W h3 ((h1.cell htl (fun h => h)).trans ht)
        ((World.frozen?_of_block (h1.block t.block htl (fun h => h))).trans hf)).mono fun ev W' ⟨he, h4, h5⟩ => ⟨true, he, rfl, (h1.mono (D := fun k => k = t.block) (fun _ _ h => h.elim)).trans h4 (fun _ _ h => h), h5⟩)).mono
      fun ev W' ⟨b, he, hb, hw⟩ => ⟨by rw [he, hb], hw⟩
  · refine ⟨g, vb, hlo, hb, h, ?_⟩
    exact (asTopF 43 ⟨g0, 0, none⟩ t (fun b W' => b = true ∧ Chg (fun k => k = t.block) w W' ∧ W'.cell? t = some (.pointer (some ⟨g, 0, none⟩)) ∧ W'.frozen? t = false) w hg
      (fun W h1 h2 h3 => (asOpenHit g0 ⟨g, 0, none⟩ t ⟨w.heap.size, 0, none⟩ old W ((hb0.chg h1 (fun h => h)).cells 1) h3 ((h1.cell htl (fun h => h)).trans ht)
        ((World.frozen?_of_block (h1.block t.block htl (fun h => h))).trans hf)).mono fun ev W' ⟨he, h4, h5⟩ => ⟨true, he, rfl, (h1.mono (D := fun k => k = t.block) (fun _ _ h => h.elim)).trans h4 (fun _ _ h => h), h5⟩)).mono
      fun ev W' ⟨b, he, hb, hw⟩ => ⟨by rw [he, hb], hw⟩
end Go.Proofs.YtikdcnlbjpabjaaDoor.ErA
