/- errors.Is over the errors of Go that stand for those of valid Errors. -/
import Derived.Test.YtkjgibhckcdneaaEin
namespace Go.Proofs.Ytkjgibhckcdneaa.ErI
set_option linter.unusedVariables false
set_option linter.unusedSimpArgs false
open Go.RowKit Go.Extern.Stop Go.Stop Go.Extern
open Go.ChangeShapes Go.WideShapes Go.ChangeAt
open Mem IntsP ErP ErM ErT ErA ErU ErD ErW ErL ErF ErQ

theorem typeOf_val (e : Er) (bs : Nat → Nat) (t : Nat) : ∃ v, (∀ w, (Extern.ReflectliteType.typeOf #[valE e bs t]).run Try.prog w = .ok (.iface 105 v) w) ∧ ∀ w, ((Extern.ReflectliteType.method fun t => do Extern.Rtype.noPackHeld "Comparable" t; pure (.bool (← typeInfo t).comparable)) #[v]).run Try.prog w = .ok (.bool true) w := by
  unfold valE
  rcases tyE_cases (nodeE e t).1 with ⟨_, h⟩ | ⟨_, h⟩ | ⟨_, h⟩ | ⟨_, _, _, h⟩ <;> rw [h]
  · exact ⟨_, typeOfW _, comparableW⟩
  · exact ⟨_, typeOfJ _, comparableJ⟩
  · exact ⟨_, typeOfL _, comparableL⟩
  · exact ⟨_, typeOfP _, comparableP⟩
set_option maxRecDepth 100000 in
set_option maxHeartbeats 4000000 in
theorem isTop_any (p : Er) (hok : okErr p = true) (bs : Nat → Nat) (t x : Nat) (ht : t < p.length) (hx : x < p.length) (w : World) (hv : Vals w p bs 0) :
    Calls Try.prog 70 #[valE p bs x, valE p bs t] w (SameR (.bool (hitN p t x)) w) := by
  have HI := Lib.hid (is_any p hok bs t ht (p.length + 1) x hx (by omega) w hv)
  obtain ⟨v, tT, cT⟩ := typeOf_val p bs t
  have h8 := @run_callFunc_extern Try.prog 78 _ Extern.ReflectliteType.typeOf Try.func78 (by kernel_rfl) (by kernel_rfl) (by kernel_rfl) (by kernel_rfl)
  have h32 : ∀ W, (callFunc 109 #[v]).run Try.prog W = .ok (.value (.bool true)) W := fun W => by
    rw [@run_callFunc_extern Try.prog 109 _ (Extern.ReflectliteType.method fun t => do Extern.Rtype.noPackHeld "Comparable" t; pure (.bool (← typeInfo t).comparable)) Try.func109 (by kernel_rfl) (by kernel_rfl) (by kernel_rfl) (by kernel_rfl) #[v] W, cT W]
    rfl
  clear cT
  have mR : ∀ (k : Nat) (v : Value) (w : World), (Go.method (k + 1) 105 v "Comparable").run Try.prog w = .ok (109, v) w := fun k v w => by kernel_rfl
  have mR := mR 248
  have hn1 : ∀ W, (binOp .eql 76 (valE p bs x) .nilIface).run Try.prog W = .ok (.bool false) W := fun W => by unfold valE; exact eql_nil _ _ W
  have hn2 : ∀ W, (binOp .eql 76 (valE p bs t) .nilIface).run Try.prog W = .ok (.bool false) W := fun W => by unfold valE; exact eql_nil _ _ W
  have hg1 : ∀ W a b, (eqGuard .eql 76 a b (valE p bs x) .nilIface).run Try.prog W = .ok () W := fun W a b => by unfold valE; first | rfl | simp [eqGuard]
  have hg2 : ∀ W a b, (eqGuard .eql 76 a b (valE p bs t) .nilIface).run Try.prog W = .ok () W := fun W a b => by unfold valE; first | rfl | simp [eqGuard]
  clear hok hv
  generalize valE p bs x = vx at *
  generalize valE p bs t = vt at *
  go_enter Try.func70, Try.ntmps70
  go_wp2_with fail
  refine HI.out.mono ?_
  rintro e w3 ⟨rfl, c3⟩
  have HC3 := Lib.hid c3
  go_wp2_with fail
  go_ret
  exact ⟨rfl, HC3.out⟩
end Go.Proofs.Ytkjgibhckcdneaa.ErI
