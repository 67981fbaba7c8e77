/- FnSplitJoin returns true for every slice of bytes and leaves it as it was; no condition. -/
import Derived.Test.YtlcgfohljkcngaaRows
import Derived.Test.YtlcgfohljkcngaaDraw
import Derived.Test.YtlcgfohljkcngaaJoinSplit
import Derived.Test.YtlcgfohljkcngaaJoin2
import Derived.Test.YtlcgfohljkcngaaSplitIm
import Derived.WalkLawsBesides
import Derived.OpenShut
import Derived.ChangeOld
import Derived.Below
namespace Go.Proofs.Ytlcgfohljkcngaa.fnSplitJoin
open Go.ChangeShapes Go.WideShapes Go.ChangeAt Go.RowKit
open JoinPlain JoinWalk Join2 Marks SplitIm SplitPlain JoinSplit Draw Cur
set_option linter.unusedVariables false
theorem own : ownKnob Try.prog.godebug = none := by kernel_rfl
theorem laidOut : laidOutB Try.prog = true := by kernel_rfl
def lessB (a b : ByteArray) : Bool := Op.bytesLess a.toList b.toList
theorem bytes_asymm : ∀ a b : List UInt8, Op.bytesLess a b = true → Op.bytesLess b a = false
  | [], [], h => by simp [Op.bytesLess] at h
  | [], b :: y, _ => by simp [Op.bytesLess]
  | a :: x, [], h => by simp [Op.bytesLess] at h
  | a :: x, b :: y, h => by
    simp only [Op.bytesLess, Bool.or_eq_true, Bool.and_eq_true, decide_eq_true_eq, beq_iff_eq] at h
    have ih := bytes_asymm x y
    rw [Op.bytesLess, Bool.or_eq_false_iff, Bool.and_eq_false_iff]
    simp only [decide_eq_false_iff_not, beq_eq_false_iff_ne, UInt8.lt_iff_toNat_lt] at h ⊢
    rcases h with h | ⟨rfl, h⟩
    · refine ⟨by omega, .inl (fun e => ?_)⟩
      rw [e] at h; omega
    · exact ⟨by omega, .inr (ih h)⟩
theorem lessI (a b : ByteArray) (w : World) :
    Calls Try.prog 15 #[.string a, .string b] w fun e w' => e = .returned (.bool (lessB a b)) ∧ w = w' := by
  go_enter Try.func15, Try.ntmps15
  go_wp2
  go_ret
  exact ⟨rfl, rfl⟩
theorem lessS (a b : ByteArray) (w : World) :
    Calls Try.prog 16 #[.string a, .string b] w fun e w' => e = .returned (.bool (lessB a b)) ∧ w = w' := by
  go_enter Try.func16, Try.ntmps16
  go_wp2
  go_ret
  exact ⟨rfl, rfl⟩
theorem code_below {w w' : World} {ca : Option Addr} {n : Nat} (h : CodeIn w w.heap.size ca n) (hb : Below w.heap.size w w') : CodeIn w' w'.heap.size ca n := by
  refine ⟨h.1, ?_⟩
  rcases h.2 with h0 | ⟨b, off, e, hbb, hc⟩
  · exact .inl h0
  · refine .inr ⟨b, off, e, Nat.lt_of_lt_of_le hbb hb.size, fun j hj => ?_⟩
    obtain ⟨z, z0, z1, hz⟩ := hc j hj
    exact ⟨z, z0, z1, (hb.cell (p := ⟨b, off + j, none⟩) hbb).trans hz⟩
/-- A slice of strings that the law made. -/
def Held (w : World) (v : Value) (xs : List ByteArray) : Prop := ∃ B, w.ownsRow B 9 1 v xs.length (xs.map Value.string)
theorem held_below {w w' : World} {v : Value} {xs : List ByteArray} (h : Held w v xs) (hb : Below w.heap.size w w') : Held w' v xs := by
  obtain ⟨B, h⟩ := h
  exact ⟨B, own_below h hb⟩
theorem cells_held {w : World} {B N g cap : Nat} {xs : List ByteArray} (h : w.ownsRow B 9 1 (.slice (some ⟨g, 0, none⟩) N cap) N (xs.map Value.string)) : Cells w g 0 xs := by
  refine ⟨(h.lt g rfl).2, fun j x hx => ?_⟩
  have hl : xs.length = N := by have := h.1; simpa using this
  have hj : j < xs.length := (List.getElem?_eq_some_iff.1 hx).1
  rw [Nat.zero_add, h.cellAt j (by omega), List.getElem?_map, hx]
  rfl
/-- What joining comes to, whatever the separator. -/
def outS (s : ByteArray) (xs : List ByteArray) : Option ByteArray := if h : (0 < s.size ∧ s.size ≤ 1) ∧ 1 ≤ xs.length then jn s (s[0]'h.1.1) xs else none
theorem join_spec (w : World) (v : Value) (xs : List ByteArray) (s : ByteArray) (hs : s.size ≤ 1048576) (h : Held w v xs) (hl : xs.length ≤ 5000) (ht : tot xs ≤ 10000) : Calls Try.prog 13 #[v, .string s] w (ResJ (outS s xs) w) := by
  obtain ⟨B, h⟩ := h
  unfold outS
  by_cases hh : (0 < s.size ∧ s.size ≤ 1) ∧ 1 ≤ xs.length
  · rw [dif_pos hh]
    rcases form h with ⟨h0, _⟩ | ⟨_, g, cap, rfl, _⟩
    · omega
    · exact spec_good w g 0 xs.length cap xs rfl hh.2 (by omega) (by omega) (cells_held h) s hh.1.1 hh.1.2 _ rfl
  · rw [dif_neg hh]
    rcases form h with ⟨h0, a, cap, rfl⟩ | ⟨hp, g, cap, rfl, _⟩
    · exact (spec_bad w a 0 cap (by omega) s (.inl rfl)).mono fun e w' ⟨he, hw⟩ => ⟨he, 0, hw.symm⟩
    · exact (spec_bad w _ xs.length cap (by omega) s (.inr (by omega))).mono fun e w' ⟨he, hw⟩ => ⟨he, 0, hw.symm⟩
theorem join_impl (w : World) (v : Value) (xs : List ByteArray) (s : ByteArray) (hs : s.size ≤ 1048576) (h : Held w v xs) (hl : xs.length ≤ 5000) (ht : tot xs ≤ 10000) : Calls Try.prog 12 #[v, .string s] w (ResB (outS s xs) w) := by
  obtain ⟨B, h⟩ := h
  unfold outS
  by_cases hh : (0 < s.size ∧ s.size ≤ 1) ∧ 1 ≤ xs.length
  · rw [dif_pos hh]
    rcases h.2 with ⟨_, h0⟩ | ⟨g, cap, cur, rfl, _, _, hcap, _⟩
    · omega
    · exact impl_good w g 0 cap xs hh.2 (by omega) hcap (by omega) (cells_held h) s hh.1.1 hh.1.2 _ rfl
  · rw [dif_neg hh]
    rcases form h with ⟨h0, a, cap, rfl⟩ | ⟨hp, g, cap, rfl, _⟩
    · exact (impl_bad w a 0 cap (by omega) s (.inl rfl)).mono fun e w' ⟨he, hw⟩ => ⟨he, hw ▸ Below.refl _ _⟩
    · exact (impl_bad w _ xs.length cap (by omega) s (.inr (by omega))).mono fun e w' ⟨he, hw⟩ => ⟨he, hw ▸ Below.refl _ _⟩
theorem below_redrew {w w' : World} {B q : Nat} (h : Below B w w') : Below B w (w'.drewN q) := ⟨h.os, h.tape, h.output, h.size, h.block⟩
theorem below_drew (w : World) (q : Nat) : Below w.heap.size w (w.drewN q) := ⟨rfl, rfl, rfl, Nat.le_refl _, fun _ _ => rfl⟩
theorem outS_back (s sep : ByteArray) (hs : s.size ≤ 4000) (h0 : 0 < sep.size) (h1 : sep.size ≤ 1) : outS sep (parts s sep[0]) = some s := by
  unfold outS
  rw [dif_pos ⟨⟨h0, h1⟩, parts_pos s _⟩]
  exact parts_jn s sep h0 h1 hs
theorem big (a : Option Addr) (len cap : Nat) (hl : len ≤ maxLen) (h : 65536 < len) (w : World) :
    Calls Try.prog 3 #[.slice a len cap] w fun e w' => e = .returned (.bool true) ∧ Below w.heap.size w w' := by
  unfold maxLen at hl
  have hd : decide ((65536 : Int) < (len : Int)) = true := by simp; omega
  go_enter Try.func3, Try.ntmps3
  go_wp2
  go_ret
  exact ⟨rfl, Below.refl _ _⟩
theorem vbig (a : Option Addr) (len cap : Nat) (hl : len ≤ 65536) (w : World) :
    Calls Try.prog 8 #[.slice a len cap] w fun e w' => e = .returned (.bool false) ∧ w = w' := by
  have hd : decide ((65536 : Int) < (len : Int)) = false := by simp; omega
  go_enter Try.func8, Try.ntmps8
  go_wp2
  go_ret
  exact ⟨rfl, rfl⟩
set_option maxHeartbeats 2000000 in
theorem small (a : Option Addr) (len cap : Nat) (w : World) (hC : CodeIn w w.heap.size a len) :
    Calls Try.prog 3 #[.slice a len cap] w fun e w' => e = .returned (.bool true) ∧ Below w.heap.size w w' := by
  have hv := Lib.hid (vbig a len cap hC.1 w)
  have hS := Lib.hid (split_draw w a len cap hC)
  have hJ := Lib.hid (fun w' (hb : Below w.heap.size w w') => join_draw w' a len cap (code_below hC hb))
  have hD := Lib.hid (fun w' (hb : Below w.heap.size w w') => less_draw w' a len cap (code_below hC hb))
  have hI := Lib.hid join_impl
  have hP := Lib.hid join_spec
  have hA := Lib.hid bytes_asymm
  clear hC
  go_enter Try.func3, Try.ntmps3
  go_wp2_with fail
  refine hv.out.mono ?_
  rintro e w1 ⟨rfl, rfl⟩
  go_wp2_with fail
  refine hS.out.mono ?_
  rintro e w1 ⟨⟨s, sep, hs, hsep, rfl⟩, b1⟩
  go_wp2_with fail
  by_cases hg : 0 < sep.size ∧ sep.size ≤ 1
  · obtain ⟨g0, g1⟩ := hg
    have hback := Lib.hid (outS_back s sep (by omega) g0 g1)
    have hn := Lib.hid (parts_tot s sep[0])
    have hse : ((sep.size : Int) != 1) = false := by
      have : sep.size = 1 := by omega
      rw [this]; rfl
    refine (implGood s sep (by omega) g0 g1 _ rfl w1).mono ?_
    rintro e w2 ⟨l, rfl, ol, b2⟩
    generalize parts s sep[0] = ps at *
    have HL : Hid (Held w2 l ps) := Lib.hid ⟨_, ol⟩
    have c2 := Lib.hid (b1.trans (b2.mono b1.size))
    clear ol
    go_wp2_with fail
    refine (hJ.out _ c2.out).mono ?_
    rintro e w3 ⟨⟨k, xs, mk, hmk, rfl, ok, hk4, hkt⟩, b3⟩
    have HK : Hid (Held w3 k xs) := Lib.hid ⟨_, ok⟩
    have HL3 := Lib.hid (held_below HL.out b3)
    have c3 := Lib.hid (c2.out.trans (b3.mono c2.out.size))
    clear ok
    go_wp2_with fail
    refine (hI.out w3 k xs mk (by omega) HK.out (by omega) (by omega)).mono ?_
    rintro e w4 ⟨rfl, b4⟩
    have HK4 := Lib.hid (held_below HK.out b4)
    have HL4 := Lib.hid (held_below HL3.out b4)
    have c4 := Lib.hid (c3.out.trans (b4.mono c3.out.size))
    go_wp2_with fail
    refine (hP.out w4 k xs mk (by omega) HK4.out (by omega) (by omega)).mono ?_
    rintro e w5 ⟨rfl, q, rfl⟩
    have HL5 := Lib.hid (held_below HL4.out (below_drew w4 q))
    have c5 := Lib.hid (below_redrew (q := q) c4.out)
    generalize outS mk xs = o at *
    go_wp2_with fail
    refine (hD.out _ c5.out).mono ?_
    rintro e w6 ⟨⟨x, y, hx, hy, rfl⟩, b6⟩
    have HL6 := Lib.hid (held_below HL5.out b6)
    have c6 := Lib.hid (c5.out.trans (b6.mono c5.out.size))
    have hlp : ps.length ≤ 5000 := by have := hn.out; omega
    have htp : tot ps ≤ 10000 := by have := hn.out; omega
    have hB := Lib.hid (hI.out w6 l ps sep (by omega) HL6.out hlp htp)
    rw [hback.out] at hB
    cases hxy : lessB x y with
    | true =>
      have hyx : lessB y x = false := hA.out _ _ hxy
      go_wp2_with (first | (go_at_call 15; refine (lessI _ _ _).mono ?_; rintro e w7 ⟨rfl, rfl⟩) | (go_at_call 16; refine (lessS _ _ _).mono ?_; rintro e w7 ⟨rfl, rfl⟩) | (go_at_call 12; refine hB.out.mono ?_; rintro e w7 ⟨rfl, b7⟩))
      go_ret
      exact ⟨by simp [outJ], c6.out.trans (b7.mono c6.out.size)⟩
    | false =>
      go_wp2_with (first | (go_at_call 15; refine (lessI _ _ _).mono ?_; rintro e w7 ⟨rfl, rfl⟩) | (go_at_call 16; refine (lessS _ _ _).mono ?_; rintro e w7 ⟨rfl, rfl⟩) | (go_at_call 12; refine hB.out.mono ?_; rintro e w7 ⟨rfl, b7⟩))
      go_ret
      exact ⟨by simp [outJ], c6.out.trans (b7.mono c6.out.size)⟩
  · have hse : ((sep.size : Int) != 1) = true := by rw [bne_iff_ne]; omega
    refine (implBad s sep (by omega) (.inr (by omega)) w1).mono ?_
    rintro e w2 ⟨rfl, b2⟩
    have c2 := Lib.hid (b1.trans (b2.mono b1.size))
    clear hg
    go_wp2_with fail
    refine (hJ.out _ c2.out).mono ?_
    rintro e w3 ⟨⟨k, xs, mk, hmk, rfl, ok, hk4, hkt⟩, b3⟩
    have HK : Hid (Held w3 k xs) := Lib.hid ⟨_, ok⟩
    have c3 := Lib.hid (c2.out.trans (b3.mono c2.out.size))
    clear ok
    go_wp2_with fail
    refine (hI.out w3 k xs mk (by omega) HK.out (by omega) (by omega)).mono ?_
    rintro e w4 ⟨rfl, b4⟩
    have HK4 := Lib.hid (held_below HK.out b4)
    have c4 := Lib.hid (c3.out.trans (b4.mono c3.out.size))
    go_wp2_with fail
    refine (hP.out w4 k xs mk (by omega) HK4.out (by omega) (by omega)).mono ?_
    rintro e w5 ⟨rfl, q, rfl⟩
    have c5 := Lib.hid (below_redrew (q := q) c4.out)
    generalize outS mk xs = o at *
    go_wp2_with fail
    refine (hD.out _ c5.out).mono ?_
    rintro e w6 ⟨⟨x, y, hx, hy, rfl⟩, b6⟩
    have c6 := Lib.hid (c5.out.trans (b6.mono c5.out.size))
    cases hxy : lessB x y with
    | true =>
      have hyx : lessB y x = false := hA.out _ _ hxy
      go_wp2_with (first | (go_at_call 15; refine (lessI _ _ _).mono ?_; rintro e w7 ⟨rfl, rfl⟩) | (go_at_call 16; refine (lessS _ _ _).mono ?_; rintro e w7 ⟨rfl, rfl⟩))
      go_ret
      exact ⟨rfl, c6.out⟩
    | false =>
      go_wp2_with (first | (go_at_call 15; refine (lessI _ _ _).mono ?_; rintro e w7 ⟨rfl, rfl⟩) | (go_at_call 16; refine (lessS _ _ _).mono ?_; rintro e w7 ⟨rfl, rfl⟩))
      go_ret
      exact ⟨rfl, c6.out⟩
/-- What the walk is told of a slice of bytes that came in. -/
def IsBytes (w : World) (a : Option Addr) (len : Nat) : Prop :=
  len ≤ maxLen ∧ (len = 0 ∨ ∃ b off, a = some ⟨b, off, none⟩ ∧ b < w.heap.size ∧ ∀ j, j < len → ∃ z : Int, 0 ≤ z ∧ z ≤ 255 ∧ w.cell? ⟨b, off + j, none⟩ = some (.int .u8 z))
theorem walk (a : Option Addr) (len cap : Nat) (w : World) (h : IsBytes w a len) :
    Calls Try.prog 3 #[.slice a len cap] w fun e w' => e = .returned (.bool true) ∧ Below w.heap.size w w' := by
  by_cases hb : 65536 < len
  · exact big a len cap h.1 hb w
  · exact small a len cap w ⟨by omega, h.2⟩
set_option maxRecDepth 100000 in
theorem lifted (os : Os) (started : os.Started) (H : Type) (enc : TypeId × Value → H) :
    ReturnsInHanded {} Try.checked os 3 .any (Rows.fnSplitJoinSpec.pre6 enc Try.prog Try.f3 Rows.fnSplitJoinRow.domain false) (Rows.fnSplitJoinSpec.post enc Try.prog Try.f3 false true false false) := by
  refine returnsInHanded_of_change (C := Try.checked) own started (by kernel_rfl) Try.func3
    (ChangeSpec.witness6 (enc := enc) (C := Try.checked) false ⟨#[], #[.slice none 0 0], []⟩ 8 (by kernel_rfl) (by kernel_rfl) (by kernel_rfl) (by kernel_rfl)) ?_
  intro W base args ds gs before hval0 hW hcnd _
  have hval : ∀ (j : Nat) t v, Try.f3.params[j]? = some t → args[j]? = some v → Value.okWide Try.prog W .any base t v := hval0
  have hW' := hW
  obtain ⟨p, q, hA0, hV, rfl, hfz, hnd⟩ := hW
  have hA : DataW.TrodAll enc Try.prog W 0 (fun _ => true) true Try.f3.params.toList args.toList ds p := hA0
  rw [Try.params3] at hA hval
  obtain ⟨v0, vs0, d0, ds0, p0, q0, hargs, rfl, rfl, h0, r0⟩ := trodAll_cons hA
  obtain ⟨rfl, rfl, rfl⟩ := trodAll_nil r0
  obtain rfl : args = #[v0] := by cases args; simp_all
  obtain ⟨rfl, rfl⟩ := trodVars_none hV
  obtain ⟨a0, len0, cap0, rfl⟩ := okWide_slice Try.underlying22 (hval 0 22 v0 rfl rfl)
  have k0 := h0
  have lt0 : ∀ x ∈ p0, x.block < W.heap.size := by obtain ⟨m, hm⟩ := k0; exact DataW.trod_lt m _ _ _ hm
  have w0 : IsBytes W a0 len0 := by
    obtain ⟨fuel, hf⟩ := h0
    rcases open_ints Try.underlying22 Try.underlying5 (by kernel_rfl) hf with ⟨hcs, _⟩ | ⟨x, l, c, zs, hcs, _, hl, hm, hz, _, hcell, hwz⟩
    · simp [Value.cells] at hcs
      obtain ⟨rfl, rfl, rfl⟩ := hcs
      exact ⟨Nat.zero_le _, .inl rfl⟩
    · simp [Value.cells] at hcs
      obtain ⟨rfl, rfl, rfl⟩ := hcs
      have hz' : zs.length = cap0 := by simpa using hz
      refine ⟨Nat.le_trans hl hm, ?_⟩
      rcases Nat.eq_zero_or_pos len0 with h00 | h00
      · exact .inl h00
      · right
        obtain ⟨b, off, spot⟩ := x
        have hspot : spot = none := by simpa [Addr.add] using World.cell?_spot (hcell 0 (by omega))
        subst hspot
        refine ⟨b, off, rfl, World.block_lt_of_cell? W _ (hcell 0 (by omega)), fun j hj => ?_⟩
        have hc := hcell j (by omega)
        have ha : (⟨b, off, none⟩ : Addr).add j = ⟨b, off + j, none⟩ := by unfold Addr.add; split <;> simp_all
        rw [ha] at hc
        have hw := hwz (zs.getD j 0) (by
          rw [List.getD_eq_getElem?_getD, List.getElem?_eq_getElem (show j < zs.length by omega)]
          exact List.getElem_mem _)
        simp [Lit.wf, IntKind.min, IntKind.max, IntKind.signed, IntKind.bits] at hw
        exact ⟨zs.getD j 0, by simpa using hw.1, by have := hw.2; simp; omega, hc⟩
  clear hA0 hval0
  refine (walk a0 len0 cap0 W w0).mono fun e W' ⟨he, bel⟩ => ?_
  subst he
  exact ⟨_, rfl, _, _, _, [], _, [], hW', trodAll_mk1 (shut_bool Try.underlying4 _), (trodAll_cons_mk (Below.trod laidOut (by kernel_rfl) (of_decide_eq_true (by kernel_rfl)) k0 bel lt0) trodAll_mk0), rfl, bel.frame _, fun h => by cases h⟩

theorem over : Rows.fnSplitJoinRow.holds Try.pinned (OpenSpec.ofChange Rows.fnSplitJoinSpec) :=
  OpenClaim.holds_of_wide 3 Try.f3 rfl rfl rfl rfl rfl rfl rfl ⟨rfl, rfl, rfl, rfl, rfl⟩ rfl rfl rfl rfl rfl (by kernel_rfl) Try.func3 (by kernel_rfl)
    (of_decide_eq_true (by kernel_rfl)) (by unfold Func.isWrapper; first | (rw [if_pos (by decide +kernel)]; kernel_rfl) | (rw [if_neg (by decide +kernel)]; exact ⟨rfl, rfl⟩))
    (fun os started H enc _ => lifted os started H enc)

/-- The statement. -/
theorem proved : Rows.FnSplitJoinSaid := over
#print axioms proved
end Go.Proofs.Ytlcgfohljkcngaa.fnSplitJoin
