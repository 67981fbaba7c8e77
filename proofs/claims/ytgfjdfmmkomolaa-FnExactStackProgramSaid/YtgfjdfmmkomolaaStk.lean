/- FnExactStackProgram returns true; there is no input. -/
import Derived.Test.YtgfjdfmmkomolaaRows
import Derived.Test.YtgfjdfmmkomolaaLawP
namespace Go.Proofs.Ytgfjdfmmkomolaa.fnExactStackProgram
set_option linter.unusedVariables false
set_option linter.unusedSimpArgs false
open Go.ChangeShapes Go.WideShapes Go.ChangeAt Go.RowKit
open PL Mem To EqP OpenP MarkP Res DeferP LawP

theorem own : ownKnob Try.prog.godebug = none := by kernel_rfl
def row1 : Array Value := #[.int .i64 1, .int .i64 3, .int .i64 (-1), .int .i64 5, .int .i64 1, .int .i64 0, .int .i64 2, .int .i64 0, .int .i64 3, .int .i64 11, .int .i64 1, .int .i64 0]
def row2 : Array Value := #[.int .i64 3, .int .i64 0, .int .i64 0]
theorem stack_own {W : World} {lo a b g : Nat} (ha : lo ≤ a) (hb : lo ≤ b) (hg : lo ≤ g) (hab : a ≠ b) (h1 : W.heap[a]? = some (.cells row1 34)) (h2 : W.heap[b]? = some (.cells row2 34))
    (h3 : W.heap[g]? = some (.cells #[.slice (some ⟨a, 0, none⟩) 4 4, .slice (some ⟨b, 0, none⟩) 1 1] 66)) : OwnP W lo (.slice (some ⟨g, 0, none⟩) 2 2) stackP := by
  refine ⟨[.slice (some ⟨a, 0, none⟩) 4 4, .slice (some ⟨b, 0, none⟩) 1 1], rfl, ⟨rfl, .inr ⟨g, 2, _, rfl, hg, h3, by decide, by decide, rfl, rfl⟩⟩, ?_, ?_⟩
  · intro i xs hx
    match i, hx with
    | 0, hx =>
      obtain rfl : [(1, 3, -1), (5, 1, 0), (2, 0, 3), (11, 1, 0)] = xs := by simpa [stackP] using hx
      exact ⟨_, rfl, ⟨rfl, .inr ⟨a, 4, _, rfl, ha, h1, by decide, by decide, rfl, rfl⟩⟩⟩
    | 1, hx =>
      obtain rfl : [(3, 0, 0)] = xs := by simpa [stackP] using hx
      exact ⟨_, rfl, ⟨rfl, .inr ⟨b, 1, _, rfl, hb, h2, by decide, by decide, rfl, rfl⟩⟩⟩
    | i + 2, hx => simp [stackP] at hx
  · intro i j u u' k hi hj hu hu'
    have hi2 : i < 2 := (List.getElem?_eq_some_iff.1 hi).1
    have hj2 : j < 2 := (List.getElem?_eq_some_iff.1 hj).1
    match i, j, hi2, hj2, hi, hj with
    | 0, 0, _, _, _, _ => rfl
    | 1, 1, _, _, _, _ => rfl
    | 0, 1, _, _, hi, hj =>
      obtain rfl := Option.some.inj hi
      obtain rfl := Option.some.inj hj
      exact absurd ((Option.some.inj hu).trans (Option.some.inj hu').symm) hab
    | 1, 0, _, _, hi, hj =>
      obtain rfl := Option.some.inj hi
      obtain rfl := Option.some.inj hj
      exact absurd ((Option.some.inj hu').trans (Option.some.inj hu).symm) hab
def StkR (w : World) (e : Ending) (w' : World) : Prop := ∃ g, e = .returned (.agg #[.slice (some ⟨g, 0, none⟩) 2 2]) ∧ OwnP w' w.heap.size (.slice (some ⟨g, 0, none⟩) 2 2) stackP ∧ Below w.heap.size w w'
theorem implStack (w : World) : Calls Try.prog 36 #[] w (StkR w) := by
  go_enter Try.func36, Try.ntmps36
  go_wp2
  exact bodyPost_ret (v := .agg #[.slice (some ⟨w.heap.size + 1 + 1 + 1, 0, none⟩) 2 2]) (by simp [results, Try.results36, go_sem]) rfl
    ⟨_, rfl, stack_own (a := w.heap.size + 1) (b := w.heap.size + 1 + 1) (by omega) (by omega) (by omega) (by omega) (heap4_1 _ _ _ _ _) (heap4_2 _ _ _ _ _) (heap4_3 _ _ _ _ _),
      ((((Below.refl _ _).alloc (Nat.le_refl _) _).alloc (by simp) _).alloc (by simp; omega) _).alloc (by simp; omega) _⟩
theorem specStack (w : World) : Calls Try.prog 35 #[] w (StkR w) := by
  go_enter Try.func35, Try.ntmps35
  go_wp2
  exact bodyPost_ret (v := .agg #[.slice (some ⟨w.heap.size + 1 + 1 + 1, 0, none⟩) 2 2]) (by simp [results, Try.results35, go_sem]) rfl
    ⟨_, rfl, stack_own (a := w.heap.size + 1) (b := w.heap.size + 1 + 1) (by omega) (by omega) (by omega) (by omega) (heap4_1 _ _ _ _ _) (heap4_2 _ _ _ _ _) (heap4_3 _ _ _ _ _),
      ((((Below.refl _ _).alloc (Nat.le_refl _) _).alloc (by simp) _).alloc (by simp; omega) _).alloc (by simp; omega) _⟩

structure St2 (w : World) (bw bg : Nat) (vw vg : Value) (Lw Hw Lg Hg : Nat) (qw qg : Pg) (W : World) : Prop where
  below : Below w.heap.size w W
  w0 : Blk W bw 30 #[vw]
  g0 : Blk W bg 30 #[vg]
  ow : OwnH W Lw Hw vw qw
  og : OwnH W Lg Hg vg qg
  ord : w.heap.size ≤ Lw ∧ Lw ≤ Hw ∧ Hw ≤ bw ∧ bw < Lg ∧ Lg ≤ Hg ∧ Hg ≤ bg ∧ bg < W.heap.size
section
variable {w : World} {bw bg : Nat} {vw vg : Value} {Lw Hw Lg Hg : Nat} {qw qg : Pg} {W W' : World}
theorem St2.next (h : St2 w bw bg vw vg Lw Hw Lg Hg qw qg W) (b : Below W.heap.size W W') : St2 w bw bg vw vg Lw Hw Lg Hg qw qg W' := by
  have o := h.ord
  have s := b.size
  exact ⟨h.below.trans (b.mono h.below.size), h.w0.below b h.w0.lt, h.g0.below b h.g0.lt, h.ow.below (b.mono (by omega)), h.og.below (b.mono (by omega)), by omega⟩
theorem St2.cells (h : St2 w bw bg vw vg Lw Hw Lg Hg qw qg W) : W.cell? ⟨bw, 0, none⟩ = some vw ∧ W.cell? ⟨bg, 0, none⟩ = some vg := ⟨h.w0.cells 0, h.g0.cells 0⟩
theorem St2.markG {qg' : Pg} (h : St2 w bw bg vw vg Lw Hw Lg Hg qw qg W) (b : Chg (fun k => Lg ≤ k ∧ k < Hg) W W') (o' : OwnH W' Lg Hg vg qg') : St2 w bw bg vw vg Lw Hw Lg Hg qw qg' W' := by
  have o := h.ord
  have s := b.size
  have s0 := h.below.size
  exact ⟨h.below.trans (b.below (by omega) (fun x hx hc => by omega)), h.w0.chg b (fun hc => by omega), h.g0.chg b (fun hc => by omega), h.ow.chg b (by omega) (fun k h1 h2 hc => by omega), o', by omega⟩
end
set_option maxHeartbeats 4000000 in
theorem walk (w : World) : Calls Try.prog 9 #[] w fun e w' => e = .returned (.bool true) ∧ Below w.heap.size w w' := by
  have hq9 : Small stackP 9 := (fits_cnt stack_fits).2.1
  have hlen : stackP.length = 2 := rfl
  have hcnt : cnt stackP = 5 := rfl
  have hEq := Lib.hid (fun B A' A'' c' c'' W h h' hB => eqProgram_same B A' A'' 2 c' c'' stackP (by omega) hlen (hq9.mono (by omega)) W h h' hB)
  have hMq := Lib.hid (fun lo hi c' A' W h h' => markProgram_any lo hi 2 c' A' stackP 1 (by omega) hlen (hq9.mono (by omega)) (by omega) (by omega) W h h')
  have hHq := Lib.hid (fun c' A' W h => heldProgram_any 2 c' A' stackP 1 (by omega) hlen (hq9.mono (by omega)) (by omega) (by omega) W h)
  unfold MarkedP at hMq
  have hkq : ¬ (1 + 3 * (cnt stackP : Int)) < 0 := by omega
  generalize 1 + 3 * (cnt stackP : Int) = kq at *
  generalize hqq : stackP = q at *
  have hS := Lib.hid (fun W => by have := specStack W; unfold StkR at this; rw [hqq] at this; exact this)
  have hI := Lib.hid (fun W => by have := implStack W; unfold StkR at this; rw [hqq] at this; exact this)
  clear hq9 hlen hcnt hqq
  go_enter Try.func9, Try.ntmps9
  go_wp2_with fail
  refine (hS.out w).mono ?_
  rintro e w1 ⟨gw, rfl, o1, b1⟩
  go_wp2_with fail
  obtain ⟨w2, hw2⟩ : ∃ w2, w1.alloc (.cells #[.slice (some ⟨gw, 0, none⟩) 2 2] 30) = w2 := ⟨_, rfl⟩
  have b2 : Below w1.heap.size w1 w2 := by rw [← hw2]; exact (Below.refl _ _).alloc (Nat.le_refl _) _
  have B2 : Blk w2 w1.heap.size 30 #[.slice (some ⟨gw, 0, none⟩) 2 2] := by rw [← hw2]; exact heap1_0 _ _
  have l0 := b1.size
  have l1 := B2.lt
  have bb2 := b1.trans (b2.mono b1.size)
  have OW2 := Lib.hid ((OwnH.of o1).below b2)
  rw [hw2]
  clear hw2 o1 b1 b2
  refine (hI.out w2).mono ?_
  rintro e w3 ⟨gg, rfl, o3, b3⟩
  have B3 := B2.below b3 B2.lt
  have zw3 : ∀ o, (w3.alloc o).cell? ⟨w1.heap.size, 0, none⟩ = some (.slice (some ⟨gw, 0, none⟩) 2 2) := fun o => (B3.alloc o).cells 0
  go_wp2_with fail
  obtain ⟨w4, hw4⟩ : ∃ w4, w3.alloc (.cells #[.slice (some ⟨gg, 0, none⟩) 2 2] 30) = w4 := ⟨_, rfl⟩
  have b4 : Below w3.heap.size w3 w4 := by rw [← hw4]; exact (Below.refl _ _).alloc (Nat.le_refl _) _
  have G4 : Blk w4 w3.heap.size 30 #[.slice (some ⟨gg, 0, none⟩) 2 2] := by rw [← hw4]; exact heap1_0 _ _
  have l2 := b3.size
  have l3 := G4.lt
  have X4 : Hid (St2 w w1.heap.size w3.heap.size (.slice (some ⟨gw, 0, none⟩) 2 2) (.slice (some ⟨gg, 0, none⟩) 2 2) w.heap.size w1.heap.size w2.heap.size w3.heap.size q q w4) :=
    Lib.hid ⟨(bb2.trans (b3.mono bb2.size)).trans (b4.mono (Nat.le_trans bb2.size b3.size)), B3.below b4 B3.lt, G4, (OW2.out.below (b3.mono (by omega))).below (b4.mono (by omega)), (OwnH.of o3).below b4, by omega⟩
  rw [hw4]
  clear hw4 zw3 B3 B2 bb2 OW2 o3 b3 b4 G4 l0 l1 l2 l3
  generalize w2.heap.size = Lg, w1.heap.size = Hw, w3.heap.size = Hg at *
  refine (hEq.out w4.heap.size (some ⟨gg, 0, none⟩) (some ⟨gw, 0, none⟩) 2 2 w4 X4.out.og.own.rd X4.out.ow.own.rd (Nat.le_refl _)).mono ?_
  rintro e w5 ⟨rfl, b5⟩
  have X5 := Lib.hid (X4.out.next b5)
  clear X4 b5
  obtain ⟨zw, zg⟩ := X5.out.cells
  go_wp2_with fail
  clear zw zg
  refine (hMq.out Lg Hg 2 (some ⟨gg, 0, none⟩) w5 (by have := X5.out.ord; omega) X5.out.og).mono ?_
  rintro e w6 ⟨rfl, o6, c6⟩
  have X6 := Lib.hid (X5.out.markG c6 o6)
  clear X5 o6 c6
  obtain ⟨zw, zg⟩ := X6.out.cells
  go_wp2_with fail
  clear zw zg
  refine (hHq.out 2 (some ⟨gg, 0, none⟩) w6 X6.out.og.own.rd).mono ?_
  rintro e w7 ⟨rfl, b7⟩
  have X7 := Lib.hid (X6.out.next b7)
  clear X6 b7
  go_wp2_with fail
  refine (hI.out w7).mono ?_
  rintro e w8 ⟨gh, rfl, o8, b8⟩
  have X8 := Lib.hid (X7.out.next b8)
  have O8 := Lib.hid o8
  clear X7 b8 o8
  have zwh : ∀ o, (w8.alloc o).cell? ⟨Hw, 0, none⟩ = some (.slice (some ⟨gw, 0, none⟩) 2 2) := fun o => (X8.out.w0.alloc o).cells 0
  go_wp2_with fail
  obtain ⟨w9, hw9⟩ : ∃ w9, w8.alloc (.cells #[.slice (some ⟨gh, 0, none⟩) 2 2] 30) = w9 := ⟨_, rfl⟩
  have b9 : Below w8.heap.size w8 w9 := by rw [← hw9]; exact (Below.refl _ _).alloc (Nat.le_refl _) _
  have X9 := Lib.hid (X8.out.next b9)
  have O9 := Lib.hid (O8.out.below b9)
  rw [hw9]
  clear hw9 zwh X8 O8 b9
  refine (hEq.out w9.heap.size (some ⟨gh, 0, none⟩) (some ⟨gw, 0, none⟩) 2 2 w9 O9.out.rd X9.out.ow.own.rd (Nat.le_refl _)).mono ?_
  rintro e w10 ⟨rfl, b10⟩
  have X10 := Lib.hid (X9.out.next b10)
  clear X9 b10 O9
  obtain ⟨zw, zg⟩ := X10.out.cells
  go_wp2_with fail
  clear zw zg
  refine (hHq.out 2 (some ⟨gg, 0, none⟩) w10 X10.out.og.own.rd).mono ?_
  rintro e w11 ⟨rfl, b11⟩
  have X11 := Lib.hid (X10.out.next b11)
  clear X10 b11
  go_wp2_with fail
  go_ret
  exact ⟨rfl, X11.out.below⟩
/-! ### The row's step. -/
set_option maxRecDepth 100000 in
theorem lifted (os : Os) (started : os.Started) (H : Type) (enc : TypeId × Value → H) :
    ReturnsInHanded {} Try.checked os 9 .any (Rows.fnExactStackProgramSpec.pre6 enc Try.prog Try.f9 Rows.fnExactStackProgramRow.domain false) (Rows.fnExactStackProgramSpec.post enc Try.prog Try.f9 false true false false) := by
  refine returnsInHanded_of_change (C := Try.checked) own started (by kernel_rfl) Try.func9
    (ChangeSpec.witness6 (enc := enc) (C := Try.checked) false ⟨#[], #[], []⟩ 8 (by kernel_rfl) (by kernel_rfl) (by kernel_rfl) (by kernel_rfl)) ?_
  intro W base args ds gs before hval0 hW hcnd _
  have hval : ∀ (j : Nat) t v, Try.f9.params[j]? = some t → args[j]? = some v → Value.okWide Try.prog W .any base t v := hval0
  have hW' := hW
  obtain ⟨p, q, hA0, hV, rfl, hfz, hnd⟩ := hW
  have hA : DataW.TrodAll enc Try.prog W 0 (fun _ => true) true Try.f9.params.toList args.toList ds p := hA0
  rw [Try.params9] at hA hval
  obtain ⟨hargs, rfl, rfl⟩ := trodAll_nil hA
  obtain rfl : args = #[] := by cases args; simp_all
  obtain ⟨rfl, rfl⟩ := trodVars_none hV
  clear hA0 hval0
  refine (walk W).mono fun e W' ⟨he, hg⟩ => ?_
  subst he
  exact ⟨_, rfl, _, _, _, [], _, [], hW', trodAll_mk1 (shut_bool Try.underlying4 _), trodAll_mk0, rfl, hg.frame _, fun h => by cases h⟩

theorem over : Rows.fnExactStackProgramRow.holds Try.pinned (OpenSpec.ofChange Rows.fnExactStackProgramSpec) :=
  OpenClaim.holds_of_wide 9 Try.f9 rfl rfl rfl rfl rfl rfl rfl ⟨rfl, rfl, rfl, rfl, rfl⟩ rfl rfl rfl rfl rfl (by kernel_rfl) Try.func9 (by kernel_rfl)
    (of_decide_eq_true (by kernel_rfl)) (by unfold Func.isWrapper; first | (rw [if_pos (by decide +kernel)]; kernel_rfl) | (rw [if_neg (by decide +kernel)]; exact ⟨rfl, rfl⟩))
    (fun os started H enc _ => lifted os started H enc)

/-- The statement. -/
theorem proved : Rows.FnExactStackProgramSaid :=
  over
#print axioms proved
end Go.Proofs.Ytgfjdfmmkomolaa.fnExactStackProgram
