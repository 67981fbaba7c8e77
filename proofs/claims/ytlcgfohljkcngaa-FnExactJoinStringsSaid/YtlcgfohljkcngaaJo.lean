/- FnExactJoinStrings returns true for every slice of strings and every string and leaves both as they were; no condition. -/
import Derived.Test.YtlcgfohljkcngaaRows
import Derived.Test.YtlcgfohljkcngaaJoin2
import Derived.WalkKit
import Derived.ProofKit
import Derived.OpenShut
import Derived.ShutString
import Derived.SliceStrings
import Derived.ChangeOld
import Derived.Below
namespace Go.Proofs.Ytlcgfohljkcngaa.fnExactJoinStrings
open Go.ChangeShapes Go.WideShapes Go.ChangeAt Go.RowKit
open Go.ChangeMaps (open_string shut_string)
open JoinPlain JoinWalk Join2 Marks
set_option linter.unusedVariables false
theorem own : ownKnob Try.prog.godebug = none := by kernel_rfl
theorem laidOut : laidOutB Try.prog = true := by kernel_rfl
/-- What the walk is told of a slice of strings that came in. -/
def IsStrs (w : World) (a : Option Addr) (len : Nat) (xs : List ByteArray) : Prop :=
  xs.length = len ∧ len ≤ maxLen ∧ (∀ x ∈ xs, x.size ≤ maxLen) ∧ (len = 0 ∨ ∃ b off, a = some ⟨b, off, none⟩ ∧ Cells w b off xs)
theorem cells_of {w : World} {B N g cap : Nat} {xs : List ByteArray} (h : w.ownsRow B 9 1 (.slice (some ⟨g, 0, none⟩) N cap) N (xs.map Value.string)) : ∀ j x, xs[j]? = some x → w.cell? ⟨g, j, none⟩ = some (.string x) := by
  intro j x hx
  have hl : xs.length = N := by have := h.1; simpa using this
  have hj : j < xs.length := (List.getElem?_eq_some_iff.1 hx).1
  rw [h.cellAt j (by omega), List.getElem?_map, hx]
  rfl
theorem cells2 {w : World} {B N g cap : Nat} {xs : List ByteArray} (h : w.ownsRow B 9 1 (.slice (some ⟨g, 0, none⟩) N cap) N (xs.map Value.string)) : Cells w g 0 xs :=
  ⟨(h.lt g rfl).2, fun j x hx => by rw [Nat.zero_add]; exact cells_of h j x hx⟩
theorem below_undrew {w w' : World} {B q : Nat} (h : Below B (w.drewN q) w') : Below B w w' := ⟨h.os, h.tape, h.output, h.size, h.block⟩
theorem below_redrew {w w' : World} {B q : Nat} (h : Below B w w') : Below B w (w'.drewN q) := ⟨h.os, h.tape, h.output, h.size, h.block⟩
theorem cells_drew {w : World} {b off q : Nat} {xs : List ByteArray} (h : Cells w b off xs) : Cells (w.drewN q) b off xs := ⟨h.lt, h.at_⟩
set_option maxHeartbeats 1000000 in
theorem walk_none (a : Option Addr) (cap : Nat) (s : ByteArray) (hs : s.size ≤ 1048576) (w : World) :
    Calls Try.prog 5 #[.slice a 0 cap, .string s] w fun e w' => e = .returned (.bool true) ∧ Below w.heap.size w w' := by
  have hL := Lib.hid left_none
  have hC := Lib.hid copy_none
  have hS := Lib.hid (fun w a cap => spec_bad w a 0 cap (by omega) s (Or.inl rfl))
  have hI := Lib.hid (fun w a cap => impl_bad w a 0 cap (by omega) s (Or.inl rfl))
  have hE := Lib.hid eqS_none
  go_enter Try.func5, Try.ntmps5
  go_wp2_with fail
  refine (hL.out _ _ _).mono ?_
  rintro e w1 ⟨rfl, rfl⟩
  go_wp2_with fail
  refine (hC.out _ _ _).mono ?_
  rintro e w1 ⟨rfl, b1⟩
  go_wp2_with fail
  refine (hS.out _ _ _).mono ?_
  rintro e w2 ⟨rfl, rfl⟩
  go_wp2_with fail
  refine (hC.out _ _ _).mono ?_
  rintro e w3 ⟨rfl, b3⟩
  go_wp2_with fail
  refine (hI.out _ _ _).mono ?_
  rintro e w4 ⟨rfl, rfl⟩
  go_wp2_with fail
  refine (hC.out _ _ _).mono ?_
  rintro e w5 ⟨rfl, b5⟩
  go_wp2_with fail
  refine (hE.out _ _ _ _ _).mono ?_
  rintro e w6 ⟨rfl, rfl⟩
  go_wp2_with fail
  go_ret
  exact ⟨rfl, (b1.trans (b3.mono b1.size)).trans (b5.mono (Nat.le_trans b1.size b3.size))⟩
set_option maxHeartbeats 2000000 in
theorem walk_some (b off n cap : Nat) (xs : List ByteArray) (hl : xs.length = n) (hn0 : 1 ≤ n) (hn : n ≤ maxLen) (hm : ∀ x ∈ xs, x.size ≤ maxLen) (s : ByteArray) (hs : s.size ≤ 1048576) (w : World) (hc : Cells w b off xs) :
    Calls Try.prog 5 #[.slice (some ⟨b, off, none⟩) n cap, .string s] w fun e w' => e = .returned (.bool true) ∧ Below w.heap.size w w' := by
  have hm1 : n ≤ 9223372036854775807 := by unfold maxLen at hn; omega
  have hL := Lib.hid (left_some w b off n cap xs hl hm1 hm hc)
  by_cases hbig : 1048576 < n + tot xs
  · have hv : Hid (left xs = -1) := Lib.hid (by unfold left; rw [if_neg (by omega)])
    rw [hv.out] at hL
    clear hbig hl hm hn hc
    go_enter Try.func5, Try.ntmps5
    go_wp2_with fail
    refine hL.out.mono ?_
    rintro e w1 ⟨rfl, rfl⟩
    go_wp2_with fail
    go_ret
    exact ⟨rfl, Below.refl _ _⟩
  · have hv : 0 ≤ left xs := by unfold left; rw [if_pos (by omega)]; omega
    have hn1 : n ≤ 1048576 := by omega
    have ht : tot xs ≤ 1048576 := by omega
    generalize left xs = L at *
    have hX := Lib.hid hl
    have hC := Lib.hid (fun w' (hb : Below w.heap.size w w') => copy_some w' b off n cap xs hX.out hn0 hn1 (hc.below hb))
    have hlt := hc.lt
    obtain ⟨o, ho⟩ : ∃ o, (o : Option ByteArray) = if h : 0 < s.size ∧ s.size ≤ 1 then jn s (s[0]'h.1) xs else none := ⟨_, rfl⟩
    have hS : Hid (∀ w g, Cells w g 0 xs → Calls Try.prog 13 #[.slice (some ⟨g, 0, none⟩) n n, .string s] w (ResJ o w)) := Lib.hid (by
      intro w g hcg
      by_cases h : 0 < s.size ∧ s.size ≤ 1
      · rw [ho, dif_pos h]; exact spec_good w g 0 n n xs hX.out hn0 hn1 ht hcg s h.1 h.2 _ rfl
      · rw [ho, dif_neg h]; exact (spec_bad w _ n n hn1 s (Or.inr (by omega))).mono fun e w' ⟨he, hw⟩ => ⟨he, 0, hw.symm⟩)
    have hI : Hid (∀ w g, Cells w g 0 xs → Calls Try.prog 12 #[.slice (some ⟨g, 0, none⟩) n n, .string s] w (ResB o w)) := Lib.hid (by
      intro w g hcg
      by_cases h : 0 < s.size ∧ s.size ≤ 1
      · rw [ho, dif_pos h, ← hX.out]; exact impl_good w g 0 xs.length xs (by rw [hX.out]; exact hn0) (by rw [hX.out]; exact hn1) (Nat.le_refl _) ht hcg s h.1 h.2 _ rfl
      · rw [ho, dif_neg h]; exact (impl_bad w _ n n hn1 s (Or.inr (by omega))).mono fun e w' ⟨he, hw⟩ => ⟨he, hw ▸ Below.refl _ _⟩)
    clear hbig hl hm hc ho hn
    go_enter Try.func5, Try.ntmps5
    go_wp2_with fail
    refine hL.out.mono ?_
    rintro e w1 ⟨rfl, rfl⟩
    go_wp2_with fail
    refine (hC.out _ (Below.refl _ _)).mono ?_
    rintro e w1 ⟨rfl, o1, b1⟩
    have D1 := Lib.hid (cells2 o1)
    clear o1
    go_wp2_with fail
    refine (hS.out _ _ D1.out).mono ?_
    rintro e w2 ⟨rfl, q, rfl⟩
    have b2 := Lib.hid (below_redrew (q := q) b1)
    go_wp2_with fail
    refine (hC.out _ b2.out).mono ?_
    rintro e w3 ⟨rfl, o3, b3⟩
    have D3 := Lib.hid (cells2 o3)
    have E3 := Lib.hid (cells_of o3)
    have l3 := (o3.lt _ rfl).2
    clear o3
    have c3 := Lib.hid (b2.out.trans (b3.mono b2.out.size))
    go_wp2_with fail
    refine (hI.out _ _ D3.out).mono ?_
    rintro e w4 ⟨rfl, b4⟩
    have c4 := Lib.hid (c3.out.trans (b4.mono c3.out.size))
    have E4 : Hid (∀ j x, xs[j]? = some x → w4.cell? ⟨w1.heap.size, j, none⟩ = some (.string x)) := Lib.hid (fun j x h => (b4.cell (p := ⟨w1.heap.size, j, none⟩) l3).trans (E3.out j x h))
    go_wp2_with fail
    refine (hC.out _ c4.out).mono ?_
    rintro e w5 ⟨rfl, o5, b5⟩
    have E5 := Lib.hid (cells_of o5)
    have s4 : w3.heap.size ≤ w4.heap.size := b4.size
    have F5 : Hid (∀ j x, xs[j]? = some x → w5.cell? ⟨w1.heap.size, j, none⟩ = some (.string x)) := Lib.hid (fun j x h => (b5.cell (p := ⟨w1.heap.size, j, none⟩) (by show w1.heap.size < w4.heap.size; have : w1.heap.size < w3.heap.size := l3; omega)).trans (E4.out j x h))
    have c5 := Lib.hid (c4.out.trans (b5.mono c4.out.size))
    clear o5
    go_wp2_with fail
    refine (eqS_some w1.heap.size _ n n n xs (by omega) hX.out _ F5.out E5.out).mono ?_
    rintro e w6 ⟨rfl, q2, rfl⟩
    go_wp2_with fail
    go_ret
    exact ⟨rfl, below_redrew c5.out⟩
theorem walk (a : Option Addr) (len cap : Nat) (xs : List ByteArray) (s : ByteArray) (hs : s.size ≤ maxLen) (w : World) (h : IsStrs w a len xs) :
    Calls Try.prog 5 #[.slice a len cap, .string s] w fun e w' => e = .returned (.bool true) ∧ Below w.heap.size w w' := by
  by_cases hb : 1048576 < s.size
  · unfold maxLen at hs
    clear h
    go_enter Try.func5, Try.ntmps5
    go_wp2
    go_ret
    exact ⟨rfl, Below.refl _ _⟩
  · obtain ⟨h1, h2, h3, h4⟩ := h
    by_cases h0 : len = 0
    · subst h0; exact walk_none a cap s (by omega) w
    · rcases h4 with h4 | ⟨b, off, rfl, hc⟩
      · exact absurd h4 h0
      · exact walk_some b off len cap xs h1 (by omega) h2 h3 s (by omega) w hc
set_option maxRecDepth 100000 in
theorem lifted (os : Os) (started : os.Started) (H : Type) (enc : TypeId × Value → H) :
    ReturnsInHanded {} Try.checked os 5 .any (Rows.fnExactJoinStringsSpec.pre6 enc Try.prog Try.f5 Rows.fnExactJoinStringsRow.domain false) (Rows.fnExactJoinStringsSpec.post enc Try.prog Try.f5 false true false false) := by
  refine returnsInHanded_of_change (C := Try.checked) own started (by kernel_rfl) Try.func5
    (ChangeSpec.witness6 (enc := enc) (C := Try.checked) false ⟨#[], #[.slice none 0 0, .string ByteArray.empty], []⟩ 8 (by kernel_rfl) (by kernel_rfl) (by kernel_rfl) (by kernel_rfl)) ?_
  intro W base args ds gs before hval0 hW hcnd _
  have hval : ∀ (j : Nat) t v, Try.f5.params[j]? = some t → args[j]? = some v → Value.okWide Try.prog W .any base t v := hval0
  have hW' := hW
  obtain ⟨p, q, hA0, hV, rfl, hfz, hnd⟩ := hW
  have hA : DataW.TrodAll enc Try.prog W 0 (fun _ => true) true Try.f5.params.toList args.toList ds p := hA0
  rw [Try.params5] at hA hval
  obtain ⟨v0, vs0, d0, ds0, p0, q0, hargs, rfl, rfl, h0, r0⟩ := trodAll_cons hA
  obtain ⟨v1, vs1, d1, ds1, p1, q1, rfl, rfl, rfl, h1, r1⟩ := trodAll_cons r0
  obtain ⟨rfl, rfl, rfl⟩ := trodAll_nil r1
  obtain rfl : args = #[v0, v1] := by cases args; simp_all
  obtain ⟨rfl, rfl⟩ := trodVars_none hV
  obtain ⟨a0, len0, cap0, rfl⟩ := okWide_slice Try.underlying26 (hval 0 26 v0 rfl rfl)
  have k0 := h0
  have lt0 : ∀ x ∈ p0, x.block < W.heap.size := by obtain ⟨m, hm⟩ := k0; exact DataW.trod_lt m _ _ _ hm
  obtain ⟨z0, w0⟩ : ∃ xs, IsStrs W a0 len0 xs := by
    obtain ⟨fuel, hf⟩ := h0
    rcases open_strings Try.underlying26 Try.underlying9 (by kernel_rfl) hf with ⟨hcs, _⟩ | ⟨x, l, c, ss, hcs, _, hl, hm, hz, _, hcell, hws⟩
    · simp [Value.cells] at hcs
      obtain ⟨rfl, rfl, rfl⟩ := hcs
      exact ⟨[], rfl, Nat.zero_le _, by simp, .inl rfl⟩
    · simp [Value.cells] at hcs
      obtain ⟨rfl, rfl, rfl⟩ := hcs
      simp only [if_true] at hz
      refine ⟨ss.take len0, by rw [List.length_take]; omega, Nat.le_trans hl hm, fun x hx => hws x (List.mem_of_mem_take hx), ?_⟩
      rcases Nat.eq_zero_or_pos len0 with h00 | h00
      · exact .inl h00
      · right
        obtain ⟨b, off, spot⟩ := x
        have hspot : spot = none := by simpa [Addr.add] using World.cell?_spot (hcell 0 (by omega))
        subst hspot
        refine ⟨b, off, rfl, World.block_lt_of_cell? W _ (hcell 0 (by omega)), fun j y hy => ?_⟩
        rw [List.getElem?_take] at hy
        split at hy
        · rename_i hj
          have := hcell j (by omega)
          have ha : (⟨b, off, none⟩ : Addr).add j = ⟨b, off + j, none⟩ := by unfold Addr.add; split <;> simp_all
          rw [List.getD_eq_getElem?_getD, hy, ha] at this
          exact this
        · cases hy
  obtain ⟨a1, rfl, rfl, rfl, w1⟩ := open_string Try.underlying9 (hval 1 9 v1 rfl rfl) h1
  clear hA0 hval0
  refine (walk a0 len0 cap0 z0 a1 w1 W w0).mono fun e W' ⟨he, bel⟩ => ?_
  subst he
  exact ⟨_, rfl, _, _, _, [], _, [], hW', trodAll_mk1 (shut_bool Try.underlying4 _), (trodAll_cons_mk (Below.trod laidOut (by kernel_rfl) (of_decide_eq_true (by kernel_rfl)) k0 bel lt0) (trodAll_cons_mk (shut_string Try.underlying9 w1) trodAll_mk0)), rfl, bel.frame _, fun h => by cases h⟩

theorem over : Rows.fnExactJoinStringsRow.holds Try.pinned (OpenSpec.ofChange Rows.fnExactJoinStringsSpec) :=
  OpenClaim.holds_of_wide 5 Try.f5 rfl rfl rfl rfl rfl rfl rfl ⟨rfl, rfl, rfl, rfl, rfl⟩ rfl rfl rfl rfl rfl (by kernel_rfl) Try.func5 (by kernel_rfl)
    (of_decide_eq_true (by kernel_rfl)) (by unfold Func.isWrapper; first | (rw [if_pos (by decide +kernel)]; kernel_rfl) | (rw [if_neg (by decide +kernel)]; exact ⟨rfl, rfl⟩))
    (fun os started H enc _ => lifted os started H enc)

/-- The statement. -/
theorem proved : Rows.FnExactJoinStringsSaid := over
#print axioms proved
end Go.Proofs.Ytlcgfohljkcngaa.fnExactJoinStrings
