/- FnExactIsNested returns true for every list of integers, and leaves it as it was; no condition. -/
import Derived.Test.YtikdcnlbjpabjaaRows
import Derived.Test.YtikdcnlbjpabjaaLi
import Derived.Test.YtikdcnlbjpabjaaEns
import Derived.Test.YtikdcnlbjpabjaaEni
namespace Go.Proofs.Ytikdcnlbjpabjaa.fnExactIsNested
set_option linter.unusedVariables false
set_option linter.unusedSimpArgs false
open Go.ChangeShapes Go.WideShapes Go.ChangeAt Go.RowKit
open Mem IntsP LiP EntN

theorem own : ownKnob Try.prog.godebug = none := by kernel_rfl
set_option maxHeartbeats 4000000 in
set_option maxRecDepth 100000 in
theorem walk (A : Option Addr) (c : Nat) (xs : List Int) (hx : FitL xs) (hlx : xs.length ≤ maxLen) (w : World) (hr : RdI w w.heap.size A xs) :
    Calls Try.prog 4 #[.slice A xs.length c] w fun e w' => e = .returned (.bool true) ∧ Below w.heap.size w w' := by
  unfold maxLen at hlx
  have hR := Lib.hid hr
  obtain ⟨n, hL⟩ : ∃ n, xs.length = n := ⟨_, rfl⟩
  rw [hL] at hlx ⊢
  by_cases hbig : 1048576 < n
  · clear hr hL hx
    go_enter Try.func4, Try.ntmps4
    go_wp2_with fail
    go_ret
    exact ⟨rfl, Below.refl _ _⟩
  have hT := Lib.hid (fun W h hB => toIntS_any w.heap.size A n c xs (by omega) hL W h hB)
  have hE := Lib.hid (fun B A' A'' c' c'' W h h' hB => eqIntS_same B A' A'' n c' c'' xs (by omega) hL W h h' hB)
  have hS := fun ad W h => nestS_any n ad xs hx hL (by omega) W h
  have hI := fun ad W h => nestI_any n ad xs hx hL (by omega) W h
  generalize nestR xs = r at hS hI
  obtain ⟨z0, k0⟩ := r
  have hS' : ∀ ad W, RdI W W.heap.size (some ad) xs → Calls Try.prog 12 #[.slice (some ad) n n] W fun e w' => e = .returned (.tuple #[.bool z0, .bool k0]) ∧ Below W.heap.size W w' := hS
  have hI' : ∀ ad W, RdI W W.heap.size (some ad) xs → Calls Try.prog 13 #[.slice (some ad) n n] W fun e w' => e = .returned (.tuple #[.bool z0, .bool k0]) ∧ Below W.heap.size W w' := hI
  have HS := Lib.hid hS'
  have HI := Lib.hid hI'
  have HL := Lib.hid hL
  have hbb : (k0 != k0) = false := by simp
  have hzz : (z0 != z0) = false := by simp
  clear hr hL hx hS hI hS' hI'
  go_enter Try.func4, Try.ntmps4
  go_wp2_with fail
  refine (hT.out _ hR.out (Nat.le_refl _)).mono ?_
  rintro e w1 ⟨rfl, o1, b1⟩
  have O1 := Lib.hid (rdI_own o1)
  have s1 := b1.size
  clear o1
  go_wp2_with fail
  refine (HS.out _ _ O1.out).mono ?_
  rintro e w2 ⟨rfl, b2⟩
  have bb2 := b1.trans (b2.mono s1)
  have s2 := b2.size
  clear b1 b2 O1
  go_wp2_with fail
  refine (hT.out _ (hR.out.below bb2) bb2.size).mono ?_
  rintro e w3 ⟨rfl, o3, b3⟩
  have s3 := b3.size
  have OX := Lib.hid (OwnIH.of (xs := xs) (by unfold OwnI; rw [HL.out]; exact o3))
  have bb3 := bb2.trans (b3.mono bb2.size)
  clear o3 b3 bb2
  go_wp2_with fail
  refine (HI.out _ _ (OX.out.1.rd HL.out)).mono ?_
  rintro e w4 ⟨rfl, b4⟩
  have bb4 := bb3.trans (b4.mono bb3.size)
  have OX4 := Lib.hid (OX.out.below b4)
  have s4 := b4.size
  clear b4 bb3 OX
  go_wp2_with fail
  refine (hT.out _ (hR.out.below bb4) bb4.size).mono ?_
  rintro e w6 ⟨rfl, o6, b6⟩
  have bb6 := bb4.trans (b6.mono bb4.size)
  have OX6 := Lib.hid (OX4.out.below (b6.mono s4))
  have R6 := Lib.hid (rdI_own o6)
  clear b6 o6 bb4 OX4
  go_wp2_with fail
  refine (hE.out w6.heap.size _ _ n n w6 (OX6.out.1.rd HL.out) R6.out (Nat.le_refl _)).mono ?_
  rintro e w7 ⟨rfl, b7⟩
  have bb7 := bb6.trans (b7.mono bb6.size)
  clear bb6 b7 R6
  go_wp2_with fail
  go_ret
  exact ⟨rfl, bb7⟩
/-! ### The row's step. -/
set_option maxRecDepth 100000 in
theorem lifted (os : Os) (started : os.Started) (H : Type) (enc : TypeId × Value → H) :
    ReturnsInHanded {} Try.checked os 4 .any (Rows.fnExactIsNestedSpec.pre6 enc Try.prog Try.f4 Rows.fnExactIsNestedRow.domain false) (Rows.fnExactIsNestedSpec.post enc Try.prog Try.f4 false true false false) := by
  refine returnsInHanded_of_change (C := Try.checked) own started (by kernel_rfl) Try.func4
    (ChangeSpec.witness6 (enc := enc) (C := Try.checked) false ⟨#[], #[.slice none 0 0], []⟩ 8 (by kernel_rfl) (by kernel_rfl) (by kernel_rfl) (by kernel_rfl)) ?_
  intro W base args ds gs before hval0 hW hcnd _
  have hval : ∀ (j : Nat) t v, Try.f4.params[j]? = some t → args[j]? = some v → Value.okWide Try.prog W .any base t v := hval0
  have hW' := hW
  obtain ⟨p, q, hA0, hV, rfl, hfz, hnd⟩ := hW
  have hA : DataW.TrodAll enc Try.prog W 0 (fun _ => true) true Try.f4.params.toList args.toList ds p := hA0
  rw [Try.params4] at hA hval
  obtain ⟨v0, vs0, d0, ds0, p0, q0, hargs, rfl, rfl, h0, rest0⟩ := trodAll_cons hA
  obtain ⟨rfl, rfl, rfl⟩ := trodAll_nil rest0
  obtain rfl : args = #[v0] := by cases args; simp_all
  obtain ⟨rfl, rfl⟩ := trodVars_none hV
  obtain ⟨A0, c0, P0, rfl, n0, r0, f0⟩ := open_ints (hval 0 22 v0 rfl rfl) h0
  have lt0 : ∀ x ∈ p0, x.block < W.heap.size := by obtain ⟨m, hm⟩ := h0; exact DataW.trod_lt m _ _ _ hm
  clear hA0 hval0
  refine (walk A0 c0 P0 f0 n0 W r0).mono fun e W' ⟨he, hg⟩ => ?_
  subst he
  exact ⟨_, rfl, _, _, _, [], _, [], hW', trodAll_mk1 (shut_bool Try.underlying4 _), (trodAll_cons_mk (Below.trod laidOut (by kernel_rfl) (of_decide_eq_true (by kernel_rfl)) h0 hg lt0) trodAll_mk0), rfl, hg.frame _, fun h => by cases h⟩

theorem over : Rows.fnExactIsNestedRow.holds Try.pinned (OpenSpec.ofChange Rows.fnExactIsNestedSpec) :=
  OpenClaim.holds_of_wide 4 Try.f4 rfl rfl rfl rfl rfl rfl rfl ⟨rfl, rfl, rfl, rfl, rfl⟩ rfl rfl rfl rfl rfl (by kernel_rfl) Try.func4 (by kernel_rfl)
    (of_decide_eq_true (by kernel_rfl)) (by unfold Func.isWrapper; first | (rw [if_pos (by decide +kernel)]; kernel_rfl) | (rw [if_neg (by decide +kernel)]; exact ⟨rfl, rfl⟩))
    (fun os started H enc _ => lifted os started H enc)

/-- The statement. -/
theorem proved : Rows.FnExactIsNestedSaid :=
  over
#print axioms proved
end Go.Proofs.Ytikdcnlbjpabjaa.fnExactIsNested
