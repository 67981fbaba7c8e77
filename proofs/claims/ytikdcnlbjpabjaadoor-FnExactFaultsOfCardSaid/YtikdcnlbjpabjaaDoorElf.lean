/- FnExactFaultsOf returns true for every list of integers, and leaves it as it was; no condition. -/
import Derived.Test.YtikdcnlbjpabjaaDoorLaidD
import Derived.Test.YtikdcnlbjpabjaaDoorTie
import Derived.Test.YtikdcnlbjpabjaaDoorCards
import Derived.SevenTiedAt
import Derived.OpenShut
import Derived.Test.YtikdcnlbjpabjaaDoorLi
import Derived.Test.YtikdcnlbjpabjaaDoorEof
namespace Go.Proofs.YtikdcnlbjpabjaaDoor.fnExactFaultsOf
set_option linter.unusedVariables false
set_option linter.unusedSimpArgs false
open Go.ChangeShapes Go.WideShapes Go.ChangeAt Go.RowKit
open LaidD Mem IntsP LiP EntF

set_option maxHeartbeats 4000000 in
set_option maxRecDepth 100000 in
theorem walk (A : Option Addr) (c : Nat) (xs : List Int) (hx : FitL xs) (hlx : xs.length ≤ maxLen) (w : World) (hg : w.cell? ⟨0, 0, none⟩ = some (.iface 91 (.agg #[.pointer (some ⟨1, 46, none⟩)]))) (hr : RdI w w.heap.size A xs) :
    Calls Tryd.prog 4 #[.slice A xs.length c] w fun e w' => e = .returned (.bool true) ∧ Below w.heap.size w w' := by
  unfold maxLen at hlx
  have hR := Lib.hid hr
  obtain ⟨n, hL⟩ : ∃ n, xs.length = n := ⟨_, rfl⟩
  rw [hL] at hlx ⊢
  by_cases hbig : 1048576 < n
  · clear hr hL hx hg
    go_enter Tryd.func4, Tryd.ntmps4
    go_wp2_with fail
    go_ret
    exact ⟨rfl, Below.refl _ _⟩
  have hT := Lib.hid (fun W h hB => toIntS_any w.heap.size A n c xs (by omega) hL W h hB)
  have hE := Lib.hid (fun B A' A'' c' c'' W h h' hB => eqIntS_same B A' A'' n c' c'' xs (by omega) hL W h h' hB)
  have hS := fun ad W h => faultS_any n ad xs hx hL (by omega) W h
  have hlt0 := World.block_lt_of_cell? w ⟨0, 0, none⟩ hg
  have hI := fun ad W (hb : Below w.heap.size w W) h => faultI_any n ad xs hx hL (by omega) W ((hb.cell (p := ⟨0, 0, none⟩) hlt0).trans hg) h
  have hM := Lib.hid (fun B c' A' W h => markIntS_any B n c' A' xs 1 (by omega) hL (by omega) (by omega) W h)
  have hft := faultR_fits xs
  generalize faultR xs = r at hS hI hft
  obtain ⟨q, k0⟩ := r
  dsimp only at hft
  obtain ⟨m, hm⟩ : ∃ m, q.length = m := ⟨_, rfl⟩
  have hEq := Lib.hid (fun B A' A'' c' c'' W h h' hB => eqIntS_same B A' A'' m c' c'' q (by omega) hm W h h' hB)
  have hMq := Lib.hid (fun B c' A' W h => markIntS_any B m c' A' q 1 (by omega) hm (by omega) (by omega) W h)
  have hHq := Lib.hid (fun B c' A' W h => heldIntS_any B m c' A' 1 (by omega) (by omega) (by omega) W h)
  have hS' : ∀ ad W, RdI W W.heap.size (some ad) xs → Calls Tryd.prog 12 #[.slice (some ad) n n] W fun e w' => ∃ Aw cw, e = .returned (.tuple #[.slice Aw m cw, .bool k0]) ∧ OwnI w' W.heap.size (.slice Aw m cw) q ∧ Below W.heap.size W w' :=
    fun ad W h => (hS ad W h).mono fun e w' h' => by obtain ⟨x, y, h1, h2, h3⟩ := h'; simp only [hm] at h1 h2; exact ⟨x, y, h1, h2, h3⟩
  have hI' : ∀ ad W, Below w.heap.size w W → RdI W W.heap.size (some ad) xs → Calls Tryd.prog 13 #[.slice (some ad) n n] W fun e w' => ∃ Aw cw, e = .returned (.tuple #[.slice Aw m cw, .bool k0]) ∧ OwnI w' W.heap.size (.slice Aw m cw) q ∧ Below W.heap.size W w' :=
    fun ad W hb h => (hI ad W hb h).mono fun e w' h' => by obtain ⟨x, y, h1, h2, h3⟩ := h'; simp only [hm] at h1 h2; exact ⟨x, y, h1, h2, h3⟩
  have HS := Lib.hid hS'
  have HI := Lib.hid hI'
  have HM := Lib.hid hm
  have HL := Lib.hid hL
  unfold MarkedI at hM hMq
  have hkp : ¬ (1 + (n : Int)) < 0 := by omega
  have hkq : ¬ (1 + (m : Int)) < 0 := by omega
  generalize 1 + (n : Int) = kp at *
  generalize 1 + (m : Int) = kq at *
  have hbb : (k0 != k0) = false := by simp
  clear hr hL hx hg hlt0 hS hI hft hm hS' hI'
  go_enter Tryd.func4, Tryd.ntmps4
  go_wp2_with fail
  refine (hT.out _ hR.out (Nat.le_refl _)).mono ?_
  rintro e w1 ⟨rfl, o1, b1⟩
  have O1 := Lib.hid (rdI_own o1)
  have s1 := b1.size
  clear o1
  go_wp2_with fail
  refine (HS.out _ _ O1.out).mono ?_
  rintro e w2 ⟨Aw, cw, rfl, o2, b2⟩
  have OW := Lib.hid (OwnIH.of o2)
  have bb2 := b1.trans (b2.mono s1)
  have s2 := b2.size
  clear o2 b1 b2 O1
  go_wp2_with fail
  refine (hT.out _ (hR.out.below bb2) bb2.size).mono ?_
  rintro e w3 ⟨rfl, o3, b3⟩
  have s3 := b3.size
  have OX := Lib.hid (OwnIH.of (xs := xs) (by unfold OwnI; rw [HL.out]; exact o3))
  have bb3 := bb2.trans (b3.mono bb2.size)
  have OW3 := Lib.hid (OW.out.below b3)
  clear o3 b3 bb2 OW
  go_wp2_with fail
  refine (HI.out _ _ bb3 (OX.out.1.rd HL.out)).mono ?_
  rintro e w4 ⟨Ag, cg, rfl, o4, b4⟩
  have s4 := b4.size
  have X4 : Hid (StL w (.slice Aw m cw) (.slice (some ⟨w2.heap.size, 0, none⟩) n n) (.slice Ag m cg) w1.heap.size w2.heap.size w2.heap.size w3.heap.size w3.heap.size w4.heap.size q xs q w4) :=
    Lib.hid ⟨bb3.trans (b4.mono bb3.size), OW3.out.below (b4.mono (by omega)), OX.out.below b4, OwnIH.of o4, by omega⟩
  clear o4 b4 bb3 OX OW3 s1 s2 s3 s4
  generalize w1.heap.size = Lw, w2.heap.size = Hw, w3.heap.size = Hx, w4.heap.size = Hg at X4 ⊢
  go_wp2_with fail
  refine (hEq.out w4.heap.size Ag Aw cg cw w4 (X4.out.og.1.rd HM.out) (X4.out.ow.1.rd HM.out) (Nat.le_refl _)).mono ?_
  rintro e w5 ⟨rfl, b5⟩
  have X5 := Lib.hid (X4.out.next b5)
  clear X4 b5
  go_wp2_with fail
  refine (hT.out _ (hR.out.below X5.out.below) X5.out.below.size).mono ?_
  rintro e w6 ⟨rfl, o6, b6⟩
  have X6 := Lib.hid (X5.out.next b6)
  have R6 := Lib.hid (rdI_own o6)
  clear X5 b6 o6
  go_wp2_with fail
  refine (hE.out w6.heap.size _ _ n n w6 (X6.out.ox.1.rd HL.out) R6.out (Nat.le_refl _)).mono ?_
  rintro e w7 ⟨rfl, b7⟩
  have X7 := Lib.hid (X6.out.next b7)
  clear X6 b7 R6
  go_wp2_with fail
  refine (hM.out Hw n (some ⟨Hw, 0, none⟩) w7 (by have := X7.out.ox.1; unfold OwnI at this; rw [HL.out] at this; exact this)).mono ?_
  rintro e w8 ⟨rfl, o8, c8⟩
  have X8 := Lib.hid (X7.out.markX c8 (by unfold OwnI; rw [marksI_length]; exact o8))
  clear X7 o8 c8
  go_wp2_with fail
  refine (hEq.out w8.heap.size Ag Aw cg cw w8 (X8.out.og.1.rd HM.out) (X8.out.ow.1.rd HM.out) (Nat.le_refl _)).mono ?_
  rintro e w9 ⟨rfl, b9⟩
  have X9 := Lib.hid (X8.out.next b9)
  clear X8 b9
  go_wp2_with fail
  refine (hMq.out Hx cg Ag w9 (by have := X9.out.og.1; unfold OwnI at this; rw [HM.out] at this; exact this)).mono ?_
  rintro e w10 ⟨rfl, o10, c10⟩
  have X10 := Lib.hid (X9.out.markG c10 (by unfold OwnI; rw [marksI_length]; exact o10))
  clear X9 o10 c10
  go_wp2_with fail
  refine (hHq.out w10.heap.size cg Ag w10 (X10.out.og.1.rd (marksI_length _ _))).mono ?_
  rintro e w11 ⟨rfl, rfl⟩
  go_wp2_with fail
  refine (hT.out _ (hR.out.below X10.out.below) X10.out.below.size).mono ?_
  rintro e w12 ⟨rfl, o12, b12⟩
  have X12 := Lib.hid (X10.out.next b12)
  have R12 := Lib.hid (rdI_own o12)
  clear X10 b12 o12
  go_wp2_with fail
  refine (HI.out _ _ X12.out.below R12.out).mono ?_
  rintro e w13 ⟨Ah, ch, rfl, o13, b13⟩
  have X13 := Lib.hid (X12.out.next b13)
  have O13 := Lib.hid o13
  clear X12 b13 o13 R12
  go_wp2_with fail
  refine (hEq.out w13.heap.size Ah Aw ch cw w13 (O13.out.rd HM.out) (X13.out.ow.1.rd HM.out) (Nat.le_refl _)).mono ?_
  rintro e w14 ⟨rfl, b14⟩
  have X14 := Lib.hid (X13.out.next b14)
  clear X13 b14 O13
  go_wp2_with fail
  refine (hHq.out w14.heap.size cg Ag w14 (X14.out.og.1.rd (marksI_length _ _))).mono ?_
  rintro e w15 ⟨rfl, rfl⟩
  go_wp2_with fail
  go_ret
  exact ⟨rfl, X14.out.below⟩
/-! ### The row's step. -/
set_option maxRecDepth 100000 in
theorem lifted (os : Os) (started : os.Started) (H : Type) (enc : TypeId × Value → H) :
    ReturnsInHanded {} Tryd.checked os 4 .any (fun w args => (Rows.fnExactFaultsOfSpec.pre enc Tryd.prog Tryd.f4 [] false w args ∧ laidMetH Tryd.prog laid w) ∧ sizedMet enc Tryd.prog Tryd.f4 (OpenSpec.ofChange Rows.fnExactFaultsOfSpec) false w args)
      (Rows.fnExactFaultsOfSpec.post enc Tryd.prog Tryd.f4 false true false false) := by
  refine returnsInHanded_of_change_and (C := Tryd.checked) (X := fun w _ => laidMetH Tryd.prog laid w) (fun _ _ _ hh h => h.of_heap hh) own started (by kernel_rfl) Tryd.func4
    (ChangeSpec.witness_shaped (enc := enc) (C := Tryd.checked) (os := os) (X := fun w _ => laidMetH Tryd.prog laid w) false (World.doorLaid Tryd.prog 400 os) #[.slice none 0 0] 8 rfl (World.shaped_of_RefB (by kernel_rfl) (by kernel_rfl)) (by kernel_rfl) (by kernel_rfl) (by kernel_rfl) (met os _)) ?_
  intro W base args ds gs before hval0 hW _ _ hL _
  have hval : ∀ (j : Nat) t v, Tryd.f4.params[j]? = some t → args[j]? = some v → Value.okWide Tryd.prog W .any base t v := hval0
  have hW' := hW
  obtain ⟨p, q, hA0, hV, rfl, hfz, hnd⟩ := hW
  have hA : DataW.TrodAll enc Tryd.prog W 0 (fun _ => true) true Tryd.f4.params.toList args.toList ds p := hA0
  rw [Tryd.params4] at hA hval
  obtain ⟨v0, vs0, d0, ds0, p0, q0, hargs, rfl, rfl, h0, rest0⟩ := trodAll_cons hA
  obtain ⟨rfl, rfl, rfl⟩ := trodAll_nil rest0
  obtain rfl : args = #[v0] := by cases args; simp_all
  obtain ⟨rfl, rfl⟩ := trodVars_none hV
  obtain ⟨A0, c0, P0, rfl, n0, r0, f0⟩ := open_ints (hval 0 22 v0 rfl rfl) h0
  have lt0 : ∀ x ∈ p0, x.block < W.heap.size := by obtain ⟨m, hm⟩ := h0; exact DataW.trod_lt m _ _ _ hm
  clear hA0 hval0
  refine (walk A0 c0 P0 f0 n0 W (handle_of_laid hL) r0).mono fun e W' ⟨he, hg⟩ => ?_
  subst he
  exact ⟨_, rfl, _, _, _, [], _, [], hW', trodAll_mk1 (shut_bool Tryd.underlying4 _), (trodAll_cons_mk (Below.trod laidOut (by kernel_rfl) (of_decide_eq_true (by kernel_rfl)) h0 hg lt0) trodAll_mk0), rfl, hg.frame _, fun h => by cases h⟩

theorem over : Rows.fnExactFaultsOfRow.holds Tryd.pinned (OpenSpec.ofChange Rows.fnExactFaultsOfSpec) :=
  OpenClaim.holds_of_wide 4 Tryd.f4 rfl rfl rfl rfl rfl rfl rfl ⟨rfl, rfl, rfl, rfl, rfl⟩ rfl rfl rfl rfl rfl (by kernel_rfl) Tryd.func4 (by kernel_rfl)
    (of_decide_eq_true (by kernel_rfl)) (by unfold Func.isWrapper; first | (rw [if_pos (by decide +kernel)]; kernel_rfl) | (rw [if_neg (by decide +kernel)]; exact ⟨rfl, rfl⟩))
    (fun os started H enc _ => lifted os started H enc)

/-- The statement. -/
theorem proved : Rows.FnExactFaultsOfCardSaid :=
  Claim7.holds_tied_plain_at .later [] [.handle] true (true, "56a2c00f95c16612812715df91793d1179ea5b1f8aeaf89560748d86eafeeb98") true
    over (fun _ h => by cases h) (by kernel_rfl) (fun _ h => by cases h) fnExactFaultsOf_row_tie rfl ⟨rfl, rfl⟩ (by kernel_rfl) rfl
    (fun f fn hf hfn => by
      obtain rfl : f = 4 := Option.some.inj ((show Tryd.prog.funcNamed "loop.example/g01183/laws.FnExactFaultsOf" = some 4 by kernel_rfl).symm.trans hf) |>.symm
      obtain rfl : fn = Tryd.f4 := (Option.some.inj (Tryd.func4.symm.trans hfn)).symm
      exact ⟨by kernel_rfl, fun j t ht => by
        rw [Tryd.params4] at ht
        have hm : t ∈ [22] := by simpa using Array.mem_of_getElem? ht
        have hall : ([22].all fun u => !Tryd.prog.wantsStandIn u) = true := by kernel_rfl
        exact (show Tryd.prog.wantsStandIn t = false by simpa using List.all_eq_true.1 hall t hm)⟩)
    (by kernel_rfl)
#print axioms proved
end Go.Proofs.YtikdcnlbjpabjaaDoor.fnExactFaultsOf
