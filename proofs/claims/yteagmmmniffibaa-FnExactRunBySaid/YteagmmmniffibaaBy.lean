/- DeferredBy and RunBy: spec and impl. (Written by wip/tools/genby.py.) -/
import Derived.Test.YteagmmmniffibaaPairs
import Derived.Test.YteagmmmniffibaaTree
import Derived.Test.YteagmmmniffibaaLawA
import Derived.BigRegion
namespace Go.Proofs.Yteagmmmniffibaa.ByP
set_option linter.unusedVariables false
set_option linter.unusedSimpArgs false
open Go.ChangeShapes Go.WideShapes Go.ChangeAt Go.RowKit
open PL Mem Srun Sst To OwnS AskP StpS Res Swhole Sout Irp RunF IntsP RowC RowA AccP AcctP Read3 PairsP TreeP LawA

section
variable {g : Nat} {k v s : Int} {tv cv ov : Value} {cs : List CI} {os : List Int} {cur : Int} {W : World}
theorem hasCall_any (h : Acc g k v s tv cv ov cs os cur W) (call : Int) (q : Bool) (hq : decide (0 ≤ call ∧ call < (cs.length : Int)) = q) :
    Calls Try.prog 71 #[.pointer (some ⟨g, 0, none⟩), .int .i64 call] W fun e W' => e = .returned (.bool q) ∧ W = W' := by
  obtain ⟨Ac, cc, rfl⟩ := own_slice h.calls
  have z4 : W.cell? ⟨g, 4, none⟩ = some (.slice Ac cs.length cc) := h.blk.cells 4
  clear h
  by_cases h1 : 0 ≤ call
  · by_cases h2 : call < (cs.length : Int)
    · obtain rfl : true = q := by rw [← hq]; simp; omega
      clear hq
      go_enter Try.func71, Try.ntmps71
      go_wp2_with fail
      go_ret
      exact ⟨rfl, rfl⟩
    · obtain rfl : false = q := by rw [← hq]; simp; omega
      clear hq
      go_enter Try.func71, Try.ntmps71
      go_wp2_with fail
      go_ret
      exact ⟨rfl, rfl⟩
  · obtain rfl : false = q := by rw [← hq]; simp; omega
    clear hq
    go_enter Try.func71, Try.ntmps71
    go_wp2_with fail
    go_ret
    exact ⟨rfl, rfl⟩
theorem cloD_any (b : Nat) (call o : Int) (W : World) (hc : W.cell? ⟨b, 0, none⟩ = some (.int .i64 call)) :
    Calls Try.prog 73 #[.int .i64 o, .pointer (some ⟨b, 0, none⟩)] W fun e W' => e = .returned (.bool (o == call)) ∧ Below W.heap.size W W' := by
  go_enter Try.func73, Try.ntmps73
  go_wp2_with fail
  go_ret
  exact ⟨rfl, Below.refl _ _⟩
theorem cloR_any (ba bc : Nat) (call : Int) (no : Nat) (x : CI) (h : Acc g k v s tv cv ov cs os cur W) (hx : cs[no]? = some x) (ha : W.cell? ⟨ba, 0, none⟩ = some (.pointer (some ⟨g, 0, none⟩))) (hc : W.cell? ⟨bc, 0, none⟩ = some (.int .i64 call)) :
    Calls Try.prog 76 #[.int .i64 no, .pointer (some ⟨ba, 0, none⟩), .pointer (some ⟨bc, 0, none⟩)] W fun e W' => e = .returned (.bool (x.par == call)) ∧ Below W.heap.size W W' := by
  have hlt : no < cs.length := (List.getElem?_eq_some_iff.1 hx).1
  obtain ⟨Ac, cc, rfl⟩ := own_slice h.calls
  have z4 : W.cell? ⟨g, 4, none⟩ = some (.slice Ac cs.length cc) := h.blk.cells 4
  obtain ⟨ac, rfl, hac, q0, q1, q2, q3, q4⟩ := (h.calls.rd rfl) no _ hx
  have hb : Below W.heap.size W W.drew := (Below.refl _ _).drew
  clear h hx q0 q2 q3 q4
  go_enter Try.func76, Try.ntmps76
  go_wp2_with fail
  go_region
  all_goals
    go_wp2_with fail
    go_ret
    exact ⟨rfl, hb⟩
end

set_option maxRecDepth 100000 in
set_option maxHeartbeats 8000000 in
theorem pairsD_any {g N ct : Nat} {k v s : Int} {At : Option Addr} {cv ov : Value} {cur : Int} {t : List Tr} {T : PL.Told} {W : World} (b1 : Nat) (own : Int → Bool) (h : Acc g k v s (.slice At N ct) cv ov T.calls T.owners cur W) (hr : Rd3 W g At t) (hN : t.length = N) (hlen : N ≤ 100000)
    (hol : T.owners.length = N) (hF : ∀ V, Below W.heap.size W V → ∀ (j : Nat) (o : Int), T.owners[j]? = some o → Calls Try.prog 73 #[.int .i64 o, .pointer (some ⟨b1, 0, none⟩)] V fun e V' => e = .returned (.bool (own o)) ∧ Below V.heap.size V V') :
    Calls Try.prog 72 #[.pointer (some ⟨g, 0, none⟩), .int .i64 2, .func (.func 73) #[] #[.pointer (some ⟨b1, 0, none⟩)]] W (PairsR (picks (selK 2 T own) t N) W) := by
  obtain ⟨i0, hi, hz0, hz1, hz2⟩ := info_parts infoP2
  obtain ⟨Ao, co, rfl⟩ := own_slice h.owners
  have z2 : W.cell? ⟨g, 2, none⟩ = some (.slice At N ct) := h.blk.cells 2
  have hgl := h.lt
  have H := Lib.hid h
  have HR := Lib.hid (fun V (b : Below W.heap.size W V) => hr.below (b.mono (Nat.le_of_lt hgl)))
  have HN := Lib.hid hN
  have HOL := Lib.hid hol
  have HF := Lib.hid hF
  have HLE := Lib.hid (fun j => picks_len (selK 2 T own) t j)
  have HYES := Lib.hid (fun (j : Nat) (e : Tr) (h : t[j]? = some e) (hs : selK 2 T own j e = true) => picks_yes h hs)
  have HNO := Lib.hid (fun (j : Nat) (e : Tr) (h : t[j]? = some e) (hs : selK 2 T own j e = false) => picks_no h hs)
  clear h hr hN hol hF
  go_enter Try.func72, Try.ntmps72
  go_wp2_with fail
  go_loopw [7, 17] (fun v i wr => ∃ (j : Nat) (A' : Option Addr) (c' : Nat), j ≤ N ∧ i = .int .i64 j ∧ v = .slice A' (picks (selK 2 T own) t j).length c' ∧ OwnA wr W.heap.size (.slice A' (picks (selK 2 T own) t j).length c') (picks (selK 2 T own) t j) ∧ Below W.heap.size W wr) (fun _ i _ => N - (intOf i).toNat)
  case atStart => exact ⟨0, _, _, Nat.zero_le _, rfl, rfl, App.empty_own (heap1_0 W _) (Nat.le_refl _), (Below.refl _ _).alloc (Nat.le_refl _) _⟩
  case round =>
    obtain ⟨j, A', c', hj, rfl, rfl, hown, hb⟩ := hrel
    clear z2
    have hsz := hb.size
    by_cases hlt : j < N
    · obtain ⟨⟨e0, e1, e2⟩, hs⟩ : ∃ s, t[j]? = some s := ⟨_, List.getElem?_eq_getElem (by rw [HN.out]; exact hlt)⟩
      obtain ⟨ad, rfl, hab, h0', h1', h2'⟩ := (HR.out wr hb) j _ hs
      obtain ⟨o, hos⟩ : ∃ o, T.owners[j]? = some o := ⟨_, List.getElem?_eq_getElem (by rw [HOL.out]; exact hlt)⟩
      have hl := HLE.out j
      have HB := Lib.hid hb
      have O := Lib.hid hown
      have HS := Lib.hid hs
      have HOS := Lib.hid hos
      dsimp only at h0' h1' h2'
      clear hs hb hown hos
      go_upto_region 5 with fail
      change (fun V => Code.wp _ _ _ _ V) _
      refine gen_world (X := fun V => Blk V wr.heap.size 82 #[.int .i64 e0, .int .i64 e1, .int .i64 e2] ∧ Below W.heap.size W V ∧ OwnA V W.heap.size (.slice A' (picks (selK 2 T own) t j).length c') (picks (selK 2 T own) t j)) ⟨heap1_0 wr _, HB.out.alloc hsz _, own_below (B' := wr.heap.size) O.out ((Below.refl _ _).alloc (Nat.le_refl _) _) (Nat.le_refl _)⟩ ?_
      clear HB O h0' h1' h2'
      generalize wr.heap.size = bx
      rintro X ⟨eX, bX, oX⟩
      have hacc := H.out.below bX
      obtain ⟨ao, rfl, hao, ho0⟩ := (hacc.owners.rd rfl) j _ HOS.out
      have hjo : j < T.owners.length := (List.getElem?_eq_some_iff.1 HOS.out).1
      have z5 : X.cell? ⟨g, 5, none⟩ = some (.slice (some ao) T.owners.length co) := hacc.blk.cells 5
      have y0 : X.cell? ⟨bx, 0, none⟩ = some (.int .i64 e0) := eX.cells 0
      have hszX := bX.size
      have EX := Lib.hid eX
      have BX := Lib.hid bX
      have O := Lib.hid oX
      clear hacc eX bX oX
      by_cases k0 : e0 = 2
      · subst k0
        have HSEL := Lib.hid (show selK 2 T own j (2, e1, e2) = own o from selK_own rfl HOS.out)
        have HC := Lib.hid (HF.out X BX.out j o HOS.out)
        cases hob : own o with
        | true =>
          have HX := Lib.hid (HYES.out j _ HS.out (HSEL.out.trans hob))
          have HC' : Hid (Calls Try.prog 73 #[.int .i64 o, .pointer (some ⟨b1, 0, none⟩)] X fun e V' => e = .returned (.bool true) ∧ Below X.heap.size X V') := Lib.hid (by have := HC.out; rwa [hob] at this)
          clear hob HC
          generalize picks (selK 2 T own) t j = q at *
          go_wp2_with fail
          refine HC'.out.mono ?_
          rintro e V ⟨rfl, bV⟩
          have y1 : V.cell? ⟨bx, 1, none⟩ = some (.int .i64 e1) := (EX.out.below bV EX.out.lt).cells 1
          have y2 : V.cell? ⟨bx, 2, none⟩ = some (.int .i64 e2) := (EX.out.below bV EX.out.lt).cells 2
          have OV := Lib.hid (show OwnA V W.heap.size (.slice A' q.length c') q from own_below (B' := X.heap.size) O.out bV (Nat.le_refl _))
          have BV := Lib.hid (BX.out.trans (bV.mono hszX))
          have hszV := Nat.le_trans hszX bV.size
          clear bV EX O BX HC' z5 y0 ho0
          go_wp2_with (at_builtin; refine wpList_append_lies _ rfl _ _ 54 rfl W.heap.size 105 i0 _ 2 16 Try.underlying54 hi hz0 hz1 hz2 rfl (by decide) _ _ _ rfl (World.ownsRow.alloc OV.out _) ⟨V.heap.size, 0, none⟩ 1 1 [.int .i64 e1, .int .i64 e2] rfl rfl ?cn_1 ?co_1 (by decide) ?c63_1 ?cb_1 ?cl_1 (V.heap.size + 1) ?cH_1 ?next_1)
          (try (case cn_1 => exact World.news_of_block (cs := #[.int .i64 e1, .int .i64 e2]) (t := 105) (fr := (0, 0)) (heap_alloc_new _ _)))
          case co_1 => first | (intro u hu; simp at hu; rcases hu with rfl | rfl <;> rfl) | simp [Value.oneCell']
          case c63_1 => first | (unfold maxLen; omega) | omega
          case cb_1 => omega
          case cl_1 => first | (simp; omega) | omega
          (try (case cH_1 => simp))
          case next_1 =>
            intro g2 cap2 w2 hown2 hgrow2 hat2 hlt2
            have c2 : Chg (fun y => (Value.slice A' q.length c').ownBlock = some y) V w2 := (Chg.alloc _ V _).trans (Chg.of_grown hgrow2) (fun x _ hx => hx.symm)
            have b2 := Lib.hid (BV.out.trans (c2.below hszV (fun x hx e => by have := (World.ownsRow.lt OV.out x e).1; omega)))
            have O2 := Lib.hid hown2
            clear hown2 hgrow2 hat2 c2 OV
            go_wp2_with fail
            go_roundw
            case rel =>
              refine ⟨j + 1, some ⟨g2, 0, none⟩, cap2, by omega, by go_num, ?_, ?_, b2.out⟩
              · rw [HX.out, List.length_append, List.length_singleton]
              · rw [HX.out]
                unfold OwnA
                rw [List.length_append, List.length_singleton, cells2_append]
                exact O2.out
            case measure => simp [intOf]; omega
        | false =>
          have HX := Lib.hid (HNO.out j _ HS.out (HSEL.out.trans hob))
          have HC' : Hid (Calls Try.prog 73 #[.int .i64 o, .pointer (some ⟨b1, 0, none⟩)] X fun e V' => e = .returned (.bool false) ∧ Below X.heap.size X V') := Lib.hid (by have := HC.out; rwa [hob] at this)
          clear hob HC
          generalize picks (selK 2 T own) t j = q at *
          go_wp2_with fail
          refine HC'.out.mono ?_
          rintro e V ⟨rfl, bV⟩
          have OV := Lib.hid (show OwnA V W.heap.size (.slice A' q.length c') q from own_below (B' := X.heap.size) O.out bV (Nat.le_refl _))
          have BV := Lib.hid (BX.out.trans (bV.mono hszX))
          clear bV EX O BX HC' z5 y0 ho0
          go_wp2_with fail
          go_roundw
          case rel => exact ⟨j + 1, A', c', by omega, by go_num, by rw [HX.out], by rw [HX.out]; exact OV.out, BV.out⟩
          case measure => simp [intOf]; omega
      · have hcb : (e0 == 2) = false := by simpa using k0
        have HX := Lib.hid (HNO.out j _ HS.out (selK_kind k0))
        clear k0
        generalize picks (selK 2 T own) t j = q at *
        go_wp2_with fail
        go_roundw
        case rel => exact ⟨j + 1, A', c', by omega, by go_num, by rw [HX.out], by rw [HX.out]; exact O.out, BX.out⟩
        case measure => simp [intOf]; omega
    · obtain rfl : j = N := by omega
      have HB := Lib.hid hb
      have O := Lib.hid hown
      clear hb hown
      go_wp2_with fail
      go_ret
      exact ⟨A', c', rfl, O.out, HB.out⟩

set_option maxRecDepth 100000 in
set_option maxHeartbeats 8000000 in
theorem pairsR_any {g N ct : Nat} {k v s : Int} {At : Option Addr} {cv ov : Value} {cur : Int} {t : List Tr} {T : PL.Told} {W : World} (b1 b2 : Nat) (own : Int → Bool) (h : Acc g k v s (.slice At N ct) cv ov T.calls T.owners cur W) (hr : Rd3 W g At t) (hN : t.length = N) (hlen : N ≤ 100000)
    (hol : T.owners.length = N) (hF : ∀ V, Below W.heap.size W V → ∀ (j : Nat) (o : Int), T.owners[j]? = some o → Calls Try.prog 76 #[.int .i64 o, .pointer (some ⟨b1, 0, none⟩), .pointer (some ⟨b2, 0, none⟩)] V fun e V' => e = .returned (.bool (own o)) ∧ Below V.heap.size V V') :
    Calls Try.prog 72 #[.pointer (some ⟨g, 0, none⟩), .int .i64 3, .func (.func 76) #[] #[.pointer (some ⟨b1, 0, none⟩), .pointer (some ⟨b2, 0, none⟩)]] W (PairsR (picks (selK 3 T own) t N) W) := by
  obtain ⟨i0, hi, hz0, hz1, hz2⟩ := info_parts infoP2
  obtain ⟨Ao, co, rfl⟩ := own_slice h.owners
  have z2 : W.cell? ⟨g, 2, none⟩ = some (.slice At N ct) := h.blk.cells 2
  have hgl := h.lt
  have H := Lib.hid h
  have HR := Lib.hid (fun V (b : Below W.heap.size W V) => hr.below (b.mono (Nat.le_of_lt hgl)))
  have HN := Lib.hid hN
  have HOL := Lib.hid hol
  have HF := Lib.hid hF
  have HLE := Lib.hid (fun j => picks_len (selK 3 T own) t j)
  have HYES := Lib.hid (fun (j : Nat) (e : Tr) (h : t[j]? = some e) (hs : selK 3 T own j e = true) => picks_yes h hs)
  have HNO := Lib.hid (fun (j : Nat) (e : Tr) (h : t[j]? = some e) (hs : selK 3 T own j e = false) => picks_no h hs)
  clear h hr hN hol hF
  go_enter Try.func72, Try.ntmps72
  go_wp2_with fail
  go_loopw [7, 17] (fun v i wr => ∃ (j : Nat) (A' : Option Addr) (c' : Nat), j ≤ N ∧ i = .int .i64 j ∧ v = .slice A' (picks (selK 3 T own) t j).length c' ∧ OwnA wr W.heap.size (.slice A' (picks (selK 3 T own) t j).length c') (picks (selK 3 T own) t j) ∧ Below W.heap.size W wr) (fun _ i _ => N - (intOf i).toNat)
  case atStart => exact ⟨0, _, _, Nat.zero_le _, rfl, rfl, App.empty_own (heap1_0 W _) (Nat.le_refl _), (Below.refl _ _).alloc (Nat.le_refl _) _⟩
  case round =>
    obtain ⟨j, A', c', hj, rfl, rfl, hown, hb⟩ := hrel
    clear z2
    have hsz := hb.size
    by_cases hlt : j < N
    · obtain ⟨⟨e0, e1, e2⟩, hs⟩ : ∃ s, t[j]? = some s := ⟨_, List.getElem?_eq_getElem (by rw [HN.out]; exact hlt)⟩
      obtain ⟨ad, rfl, hab, h0', h1', h2'⟩ := (HR.out wr hb) j _ hs
      obtain ⟨o, hos⟩ : ∃ o, T.owners[j]? = some o := ⟨_, List.getElem?_eq_getElem (by rw [HOL.out]; exact hlt)⟩
      have hl := HLE.out j
      have HB := Lib.hid hb
      have O := Lib.hid hown
      have HS := Lib.hid hs
      have HOS := Lib.hid hos
      dsimp only at h0' h1' h2'
      clear hs hb hown hos
      go_upto_region 5 with fail
      change (fun V => Code.wp _ _ _ _ V) _
      refine gen_world (X := fun V => Blk V wr.heap.size 82 #[.int .i64 e0, .int .i64 e1, .int .i64 e2] ∧ Below W.heap.size W V ∧ OwnA V W.heap.size (.slice A' (picks (selK 3 T own) t j).length c') (picks (selK 3 T own) t j)) ⟨heap1_0 wr _, HB.out.alloc hsz _, own_below (B' := wr.heap.size) O.out ((Below.refl _ _).alloc (Nat.le_refl _) _) (Nat.le_refl _)⟩ ?_
      clear HB O h0' h1' h2'
      generalize wr.heap.size = bx
      rintro X ⟨eX, bX, oX⟩
      have hacc := H.out.below bX
      obtain ⟨ao, rfl, hao, ho0⟩ := (hacc.owners.rd rfl) j _ HOS.out
      have hjo : j < T.owners.length := (List.getElem?_eq_some_iff.1 HOS.out).1
      have z5 : X.cell? ⟨g, 5, none⟩ = some (.slice (some ao) T.owners.length co) := hacc.blk.cells 5
      have y0 : X.cell? ⟨bx, 0, none⟩ = some (.int .i64 e0) := eX.cells 0
      have hszX := bX.size
      have EX := Lib.hid eX
      have BX := Lib.hid bX
      have O := Lib.hid oX
      clear hacc eX bX oX
      by_cases k0 : e0 = 3
      · subst k0
        have HSEL := Lib.hid (show selK 3 T own j (3, e1, e2) = own o from selK_own rfl HOS.out)
        have HC := Lib.hid (HF.out X BX.out j o HOS.out)
        cases hob : own o with
        | true =>
          have HX := Lib.hid (HYES.out j _ HS.out (HSEL.out.trans hob))
          have HC' : Hid (Calls Try.prog 76 #[.int .i64 o, .pointer (some ⟨b1, 0, none⟩), .pointer (some ⟨b2, 0, none⟩)] X fun e V' => e = .returned (.bool true) ∧ Below X.heap.size X V') := Lib.hid (by have := HC.out; rwa [hob] at this)
          clear hob HC
          generalize picks (selK 3 T own) t j = q at *
          go_wp2_with fail
          refine HC'.out.mono ?_
          rintro e V ⟨rfl, bV⟩
          have y1 : V.cell? ⟨bx, 1, none⟩ = some (.int .i64 e1) := (EX.out.below bV EX.out.lt).cells 1
          have y2 : V.cell? ⟨bx, 2, none⟩ = some (.int .i64 e2) := (EX.out.below bV EX.out.lt).cells 2
          have OV := Lib.hid (show OwnA V W.heap.size (.slice A' q.length c') q from own_below (B' := X.heap.size) O.out bV (Nat.le_refl _))
          have BV := Lib.hid (BX.out.trans (bV.mono hszX))
          have hszV := Nat.le_trans hszX bV.size
          clear bV EX O BX HC' z5 y0 ho0
          go_wp2_with (at_builtin; refine wpList_append_lies _ rfl _ _ 54 rfl W.heap.size 105 i0 _ 2 16 Try.underlying54 hi hz0 hz1 hz2 rfl (by decide) _ _ _ rfl (World.ownsRow.alloc OV.out _) ⟨V.heap.size, 0, none⟩ 1 1 [.int .i64 e1, .int .i64 e2] rfl rfl ?cn_2 ?co_2 (by decide) ?c63_2 ?cb_2 ?cl_2 (V.heap.size + 1) ?cH_2 ?next_2)
          (try (case cn_2 => exact World.news_of_block (cs := #[.int .i64 e1, .int .i64 e2]) (t := 105) (fr := (0, 0)) (heap_alloc_new _ _)))
          case co_2 => first | (intro u hu; simp at hu; rcases hu with rfl | rfl <;> rfl) | simp [Value.oneCell']
          case c63_2 => first | (unfold maxLen; omega) | omega
          case cb_2 => omega
          case cl_2 => first | (simp; omega) | omega
          (try (case cH_2 => simp))
          case next_2 =>
            intro g2 cap2 w2 hown2 hgrow2 hat2 hlt2
            have c2 : Chg (fun y => (Value.slice A' q.length c').ownBlock = some y) V w2 := (Chg.alloc _ V _).trans (Chg.of_grown hgrow2) (fun x _ hx => hx.symm)
            have b2 := Lib.hid (BV.out.trans (c2.below hszV (fun x hx e => by have := (World.ownsRow.lt OV.out x e).1; omega)))
            have O2 := Lib.hid hown2
            clear hown2 hgrow2 hat2 c2 OV
            go_wp2_with fail
            go_roundw
            case rel =>
              refine ⟨j + 1, some ⟨g2, 0, none⟩, cap2, by omega, by go_num, ?_, ?_, b2.out⟩
              · rw [HX.out, List.length_append, List.length_singleton]
              · rw [HX.out]
                unfold OwnA
                rw [List.length_append, List.length_singleton, cells2_append]
                exact O2.out
            case measure => simp [intOf]; omega
        | false =>
          have HX := Lib.hid (HNO.out j _ HS.out (HSEL.out.trans hob))
          have HC' : Hid (Calls Try.prog 76 #[.int .i64 o, .pointer (some ⟨b1, 0, none⟩), .pointer (some ⟨b2, 0, none⟩)] X fun e V' => e = .returned (.bool false) ∧ Below X.heap.size X V') := Lib.hid (by have := HC.out; rwa [hob] at this)
          clear hob HC
          generalize picks (selK 3 T own) t j = q at *
          go_wp2_with fail
          refine HC'.out.mono ?_
          rintro e V ⟨rfl, bV⟩
          have OV := Lib.hid (show OwnA V W.heap.size (.slice A' q.length c') q from own_below (B' := X.heap.size) O.out bV (Nat.le_refl _))
          have BV := Lib.hid (BX.out.trans (bV.mono hszX))
          clear bV EX O BX HC' z5 y0 ho0
          go_wp2_with fail
          go_roundw
          case rel => exact ⟨j + 1, A', c', by omega, by go_num, by rw [HX.out], by rw [HX.out]; exact OV.out, BV.out⟩
          case measure => simp [intOf]; omega
      · have hcb : (e0 == 3) = false := by simpa using k0
        have HX := Lib.hid (HNO.out j _ HS.out (selK_kind k0))
        clear k0
        generalize picks (selK 3 T own) t j = q at *
        go_wp2_with fail
        go_roundw
        case rel => exact ⟨j + 1, A', c', by omega, by go_num, by rw [HX.out], by rw [HX.out]; exact O.out, BX.out⟩
        case measure => simp [intOf]; omega
    · obtain rfl : j = N := by omega
      have HB := Lib.hid hb
      have O := Lib.hid hown
      clear hb hown
      go_wp2_with fail
      go_ret
      exact ⟨A', c', rfl, O.out, HB.out⟩

def hasC (t : List Tr) (call : Int) : Bool := decide (0 ≤ call ∧ call < ((tds t).calls.length : Int))
theorem hasC_nil (call : Int) : hasC [] call = false := by
  unfold hasC
  rw [decide_eq_false_iff_not]
  intro ⟨h1, h2⟩
  have h0 : ((tds []).calls.length : Int) = 0 := rfl
  omega
theorem hasC_btw (t : List Tr) (call : Int) : btw call 0 (((tds t).calls.length : Int) - 1) = hasC t call := by
  unfold btw hasC
  rw [Bool.eq_iff_iff]
  simp
  omega
set_option maxRecDepth 100000 in
set_option maxHeartbeats 4000000 in
theorem l3Call_any (lo n c : Nat) (A : Option Addr) (p : Pg) (f arg fuel call : Int) (hn : n ≤ 9223372036854775807) (hl : p.length = n) (hsm : Small p 9223372036854775807) (w : World) (ho : OwnP w lo (.slice A n c) p) :
    Calls Try.prog 69 #[.agg #[.slice A n c], .int .i64 f, .int .i64 arg, .int .i64 fuel, .int .i64 call] w fun e w' => e = .returned (.bool (hasC (runR p f arg fuel).1.trace call)) ∧ Below w.heap.size w w' := by
  have hq := Lib.hid (fun W (h : Below w.heap.size w W) => l2Ask_any w.heap.size A n c p f arg fuel hn hl hsm W (ho.rd.below h) h.size)
  have hal : ∀ o1 : Obj, Below w.heap.size w (w.alloc o1) := fun o1 => (Below.refl _ _).alloc (Nat.le_refl _) _
  have HAL := Lib.hid hal
  have hlen := runR_len p f arg fuel
  cases ha : asks p f arg fuel with
  | false =>
    have hr := Lib.hid (show hasC (runR p f arg fuel).1.trace call = false by unfold runR; rw [ha]; exact hasC_nil call)
    rw [ha] at hq
    clear ha ho hsm hal hlen
    go_enter Try.func69, Try.ntmps69
    go_wp2_with fail
    refine (hq.out _ (HAL.out _)).mono ?_
    rintro e w1 ⟨rfl, b1⟩
    go_wp2_with fail
    go_ret
    exact ⟨by rw [hr.out] <;> rfl, (HAL.out (.cells #[.slice A n c] 33)).trans (b1.mono (HAL.out _).size)⟩
  | true =>
    obtain ⟨h1, h2, h3, h4, h5, h6⟩ := start_wf (n := n) ha
    have hn6 : p.length ≤ 6 ∧ Small p 8 := okProg_small h1
    have hru := Lib.hid (fun W (h : Below w.heap.size w W) => l2Run_any lo n c A p f arg fuel hl (hn6.2.mono (by omega)) (by omega) ha W (ho.below h))
    have hrr : runR p f arg fuel = (run p fuel f arg, true) := by unfold runR; rw [ha]; rfl
    have hwh := runR_whole (p := p) (f := f) (arg := arg) (fuel := fuel) (by rw [hrr])
    rw [hrr] at hlen hwh ⊢
    rw [ha] at hq
    clear ha ho hsm hal h1 h2 h3 h4 h5 h6 hn6 hrr
    generalize run p fuel f arg = r at *
    obtain ⟨k, v, t, s⟩ := r
    dsimp only at hlen hwh ⊢
    have HW := Lib.hid hwh
    have HBT := Lib.hid (hasC_btw t call)
    clear hwh
    go_enter Try.func69, Try.ntmps69
    go_wp2_with fail
    refine (hq.out _ (HAL.out _)).mono ?_
    rintro e w1 ⟨rfl, b1⟩
    have a1' : w1.cell? ⟨w.heap.size, 0, none⟩ = some (.slice A n c) := (Blk.below (heap1_0 w (.cells #[.slice A n c] 33)) b1 (by simp)).cells 0
    have bb := Lib.hid ((HAL.out (.cells #[.slice A n c] 33)).trans (b1.mono (HAL.out _).size))
    clear b1 hq
    go_wp2_with fail
    refine (hru.out _ bb.out).mono ?_
    rintro e w2 ⟨A2, c2, rfl, ht, b2⟩
    unfold outval
    have B2 := Lib.hid (bb.out.trans (b2.mono bb.out.size))
    have hR := Lib.hid (rd_own ht)
    dsimp only at hR ⊢
    clear a1' hru b2 bb ht
    have hf2 := fun u => out_field2 (.int .i64 k) (.int .i64 v) (.slice A2 t.length c2) (.int .i64 s) u
    go_wp2_with fail
    refine (l3Read_any w2.heap.size t.length c2 A2 t HW.out rfl hlen w2 hR.out (Nat.le_refl _)).mono ?_
    rintro e w3 ⟨Ac, cc, Ao, co, rfl, oc, oo, b3⟩
    have B3 := Lib.hid (B2.out.trans (b3.mono B2.out.size))
    have hf0 := fun u => told_field0 (.slice Ac (tds t).calls.length cc) (.slice Ao (tds t).owners.length co) u
    have hcl : (tds t).calls.length ≤ 100000 := Nat.le_trans (tds_len t).2 hlen
    clear oc oo b3 hf2 B2
    go_wp2_with fail
    refine (l1In_any call 0 (((tds t).calls.length : Int) - 1) _).mono ?_
    rintro e w4 ⟨rfl, rfl⟩
    rw [HBT.out]
    go_wp2_with fail
    go_ret
    exact ⟨rfl, B3.out⟩
def ownsD (T : PL.Told) (call : Int) : Int → Bool := fun o => o == call
def ownsR (T : PL.Told) (call : Int) : Int → Bool := fun o => parAt T.calls o == call
def byR (kd : Int) (owns : PL.Told → Int → Int → Bool) (p : Pg) (f arg fuel call : Int) : List Pr × Bool :=
  if hasC (runR p f arg fuel).1.trace call = true then (picks (selK kd (tds (runR p f arg fuel).1.trace) (owns (tds (runR p f arg fuel).1.trace) call)) (runR p f arg fuel).1.trace (runR p f arg fuel).1.trace.length, true) else ([], false)
def byD := byR 2 ownsD
def byN := byR 3 ownsR
theorem byR_len (kd : Int) (owns : PL.Told → Int → Int → Bool) (p : Pg) (f arg fuel call : Int) : (byR kd owns p f arg fuel call).1.length ≤ 100000 := by
  unfold byR
  split
  · exact Nat.le_trans (picks_len _ _ _) (runR_len p f arg fuel)
  · simp
theorem byD_len (p : Pg) (f arg fuel call : Int) : (byD p f arg fuel call).1.length ≤ 100000 := byR_len _ _ _ _ _ _ _
theorem byN_len (p : Pg) (f arg fuel call : Int) : (byN p f arg fuel call).1.length ≤ 100000 := byR_len _ _ _ _ _ _ _

set_option maxRecDepth 100000 in
set_option maxHeartbeats 4000000 in
theorem byDS_any (lo n c : Nat) (A : Option Addr) (p : Pg) (f arg fuel call : Int) (hn : n ≤ 9223372036854775807) (hl : p.length = n) (hsm : Small p 9223372036854775807) (w : World) (ho : OwnP w lo (.slice A n c) p) :
    Calls Try.prog 39 #[.agg #[.slice A n c], .int .i64 f, .int .i64 arg, .int .i64 fuel, .int .i64 call] w (PrsR (byD p f arg fuel call) w) := by
  have hq := Lib.hid (fun W (h : Below w.heap.size w W) => l3Call_any lo n c A p f arg fuel call hn hl hsm W (ho.below h))
  have hal : ∀ o1 : Obj, Below w.heap.size w (w.alloc o1) := fun o1 => (Below.refl _ _).alloc (Nat.le_refl _) _
  have HAL := Lib.hid hal
  have hlen := runR_len p f arg fuel
  cases hh : hasC (runR p f arg fuel).1.trace call with
  | false =>
    have hr := Lib.hid (show byD p f arg fuel call = ([], false) by unfold byD byR; rw [hh]; rfl)
    rw [hh] at hq
    clear hh ho hsm hal hlen
    go_enter Try.func39, Try.ntmps39
    go_wp2_with fail
    refine (hq.out _ (HAL.out _)).mono ?_
    rintro e w1 ⟨rfl, b1⟩
    go_wp2_with fail
    go_ret2
    have B := (HAL.out (.cells #[.slice A n c] 33)).trans (b1.mono (HAL.out _).size)
    exact ⟨_, _, by rw [hr.out] <;> rfl, by rw [hr.out]; exact App.empty_own (heap1_0 w1 _) B.size, B.alloc B.size _⟩
  | true =>
    have ha : asks p f arg fuel = true := by
      cases ha : asks p f arg fuel with
      | true => rfl
      | false =>
        have h0 : (runR p f arg fuel).1.trace = [] := by unfold runR; rw [ha]; rfl
        rw [h0, hasC_nil] at hh
        cases hh
    obtain ⟨h1, h2, h3, h4, h5, h6⟩ := start_wf (n := n) ha
    have hn6 : p.length ≤ 6 ∧ Small p 8 := okProg_small h1
    have hru := Lib.hid (fun W (h : Below w.heap.size w W) => l2Run_any lo n c A p f arg fuel hl (hn6.2.mono (by omega)) (by omega) ha W (ho.below h))
    have hrr : runR p f arg fuel = (run p fuel f arg, true) := by unfold runR; rw [ha]; rfl
    have hwh := runR_whole (p := p) (f := f) (arg := arg) (fuel := fuel) (by rw [hrr])
    have hr : byD p f arg fuel call = (picks (selK 2 (tds (run p fuel f arg).trace) (ownsD (tds (run p fuel f arg).trace) call)) (run p fuel f arg).trace (run p fuel f arg).trace.length, true) := by unfold byD byR; rw [if_pos hh, hrr]
    rw [hh] at hq
    rw [hrr] at hlen hwh
    clear hh ha ho hsm hal h1 h2 h3 h4 h5 h6 hn6 hrr
    generalize run p fuel f arg = r at *
    obtain ⟨k, v, t, s⟩ := r
    dsimp only at hr hlen hwh
    have HR := Lib.hid hr
    have HW := Lib.hid hwh
    clear hr hwh
    go_enter Try.func39, Try.ntmps39
    go_wp2_with fail
    refine (hq.out _ (HAL.out _)).mono ?_
    rintro e w1 ⟨rfl, b1⟩
    have a1' : w1.cell? ⟨w.heap.size, 0, none⟩ = some (.slice A n c) := (Blk.below (heap1_0 w (.cells #[.slice A n c] 33)) b1 (by simp)).cells 0
    have bb := Lib.hid ((HAL.out (.cells #[.slice A n c] 33)).trans (b1.mono (HAL.out _).size))
    clear b1 hq
    go_wp2_with fail
    refine (hru.out _ bb.out).mono ?_
    rintro e w2 ⟨A2, c2, rfl, ht, b2⟩
    unfold outval
    have B2 := Lib.hid (bb.out.trans (b2.mono bb.out.size))
    have hR := Lib.hid (rd_own ht)
    dsimp only at hR ⊢
    clear a1' hru b2 bb ht
    have hf2 := fun u => out_field2 (.int .i64 k) (.int .i64 v) (.slice A2 t.length c2) (.int .i64 s) u
    go_wp2_with fail
    refine (l3D_any w2.heap.size t.length c2 A2 t call HW.out rfl hlen w2 hR.out (Nat.le_refl _)).mono ?_
    rintro e w3 ⟨A3, c3, rfl, o3, b3⟩
    have O3 := Lib.hid o3
    have B3 := Lib.hid b3
    clear o3 b3 hf2
    go_wp2_with fail
    go_ret2
    exact ⟨A3, c3, by rw [HR.out] <;> rfl, by rw [HR.out]; exact own_mono O3.out B2.out.size, B2.out.trans (B3.out.mono B2.out.size)⟩

set_option maxRecDepth 100000 in
set_option maxHeartbeats 8000000 in
theorem byDI_any (lo n c : Nat) (A : Option Addr) (p : Pg) (f arg fuel call : Int) (hn : n ≤ 9223372036854775807) (hl : p.length = n) (hsm : Small p 9223372036854775807) (w : World) (ho : OwnP w lo (.slice A n c) p) :
    Calls Try.prog 40 #[.agg #[.slice A n c], .int .i64 f, .int .i64 arg, .int .i64 fuel, .int .i64 call] w (PrsR (byD p f arg fuel call) w) := by
  have hq := Lib.hid (fun W (h : Below w.heap.size w W) => accountOf_any lo n c A p f arg fuel hn hl hsm W (ho.below h))
  have hal : ∀ o1 o2 : Obj, Below w.heap.size w ((w.alloc o1).alloc o2) := fun o1 o2 => ((Below.refl _ _).alloc (Nat.le_refl _) _).alloc (by simp) _
  have HAL := Lib.hid hal
  have hlen := runR_len p f arg fuel
  have hmf : ∀ (fn : Fn) (first cap : Array Value) (w : World), (Instr.makeFunc fn first cap).run Try.prog w = .ok (.func fn first cap) w := fun _ _ _ _ => rfl
  have hno : (runR p f arg fuel).2 = false → hasC (runR p f arg fuel).1.trace call = false := fun h => by rw [runR_none h]; exact hasC_nil call
  have hwh : (runR p f arg fuel).2 = true → Whole (runR p f arg fuel).1.trace := runR_whole
  have hr : byD p f arg fuel call = if hasC (runR p f arg fuel).1.trace call = true then (picks (selK 2 (tds (runR p f arg fuel).1.trace) (ownsD (tds (runR p f arg fuel).1.trace) call)) (runR p f arg fuel).1.trace (runR p f arg fuel).1.trace.length, true) else ([], false) := rfl
  generalize runR p f arg fuel = r at *
  obtain ⟨⟨k, v, t, s⟩, b⟩ := r
  unfold AcctR at hq
  dsimp only at hq hlen hno hwh hr
  clear ho hsm hal
  have HR0 := Lib.hid hr
  have HNO0 := Lib.hid hno
  have HWH0 := Lib.hid hwh
  clear hr hno hwh
  have HALs := Lib.hid (HAL.out (.cells #[.slice A n c] 33) (.cells #[.int .i64 call] 3))
  go_enter Try.func40, Try.ntmps40
  go_wp2_with fail
  refine (hq.out _ (HAL.out _ _)).mono ?_
  rintro e w2 ⟨g, k', v', s', At, ct, cv, ov, cur, rfl, hacc, hrd, hg, b2⟩
  have HBX := Lib.hid (show Blk w2 (w.heap.size + 1) 3 #[.int .i64 call] from Blk.below (heap2_1 w (.cells #[.slice A n c] 33) (.cells #[.int .i64 call] 3)) b2 (by simp))
  have BB := Lib.hid (HALs.out.trans (b2.mono HALs.out.size))
  have H := Lib.hid hacc
  have HR3 := Lib.hid hrd
  have hsz := BB.out.size
  clear hacc hrd b2 hq
  cases b with
  | false =>
    have hh := HNO0.out rfl
    have hr := HR0.out
    rw [hh] at hr
    have HRR := Lib.hid (hr.trans (if_neg (by decide)))
    clear hh hr
    go_wp2_with fail
    go_ret2
    exact ⟨_, _, by rw [HRR.out] <;> rfl, by rw [HRR.out]; exact App.empty_own (heap1_0 w2 _) hsz, BB.out.alloc hsz _⟩
  | true =>
    have HW := Lib.hid (HWH0.out rfl)
    have hr := HR0.out
    have HCA := Lib.hid (hasCall_any H.out call (hasC t call) rfl)
    have y0 : w2.cell? ⟨w.heap.size + 1, 0, none⟩ = some (.int .i64 call) := HBX.out.cells 0
    cases hh : hasC t call with
    | false =>
      rw [hh] at hr HCA
      have HRR := Lib.hid (hr.trans (if_neg (by decide)))
      clear hr hh
      go_wp2_with fail
      refine HCA.out.mono ?_
      rintro e w3 ⟨rfl, rfl⟩
      go_wp2_with fail
      go_ret2
      exact ⟨_, _, by rw [HRR.out] <;> rfl, by rw [HRR.out]; exact App.empty_own (heap1_0 w2 _) hsz, BB.out.alloc hsz _⟩
    | true =>
      rw [hh, if_pos rfl] at hr
      rw [hh] at HCA
      have HRR := Lib.hid hr
      have HP := Lib.hid (pairsD_any (w.heap.size + 1) (ownsD (tds t) call) H.out HR3.out rfl hlen (whole_owners HW.out).2 (fun V bV j o hj => cloD_any (w.heap.size + 1) call o V ((HBX.out.below bV HBX.out.lt).cells 0)))
      clear hr hh
      go_wp2_with fail
      refine HCA.out.mono ?_
      rintro e w3 ⟨rfl, rfl⟩
      go_wp2_with fail
      refine HP.out.mono ?_
      rintro e w4 ⟨A4, c4, rfl, o4, b4⟩
      have O4 := Lib.hid (own_mono (B' := w.heap.size) o4 hsz)
      have B4 := Lib.hid (BB.out.trans (b4.mono hsz))
      clear o4 b4
      go_wp2_with fail
      go_ret2
      exact ⟨A4, c4, by rw [HRR.out] <;> rfl, by rw [HRR.out]; exact O4.out, B4.out⟩

set_option maxRecDepth 100000 in
set_option maxHeartbeats 4000000 in
theorem byRS_any (lo n c : Nat) (A : Option Addr) (p : Pg) (f arg fuel call : Int) (hn : n ≤ 9223372036854775807) (hl : p.length = n) (hsm : Small p 9223372036854775807) (w : World) (ho : OwnP w lo (.slice A n c) p) :
    Calls Try.prog 44 #[.agg #[.slice A n c], .int .i64 f, .int .i64 arg, .int .i64 fuel, .int .i64 call] w (PrsR (byN p f arg fuel call) w) := by
  have hq := Lib.hid (fun W (h : Below w.heap.size w W) => l3Call_any lo n c A p f arg fuel call hn hl hsm W (ho.below h))
  have hal : ∀ o1 : Obj, Below w.heap.size w (w.alloc o1) := fun o1 => (Below.refl _ _).alloc (Nat.le_refl _) _
  have HAL := Lib.hid hal
  have hlen := runR_len p f arg fuel
  cases hh : hasC (runR p f arg fuel).1.trace call with
  | false =>
    have hr := Lib.hid (show byN p f arg fuel call = ([], false) by unfold byN byR; rw [hh]; rfl)
    rw [hh] at hq
    clear hh ho hsm hal hlen
    go_enter Try.func44, Try.ntmps44
    go_wp2_with fail
    refine (hq.out _ (HAL.out _)).mono ?_
    rintro e w1 ⟨rfl, b1⟩
    go_wp2_with fail
    go_ret2
    have B := (HAL.out (.cells #[.slice A n c] 33)).trans (b1.mono (HAL.out _).size)
    exact ⟨_, _, by rw [hr.out] <;> rfl, by rw [hr.out]; exact App.empty_own (heap1_0 w1 _) B.size, B.alloc B.size _⟩
  | true =>
    have ha : asks p f arg fuel = true := by
      cases ha : asks p f arg fuel with
      | true => rfl
      | false =>
        have h0 : (runR p f arg fuel).1.trace = [] := by unfold runR; rw [ha]; rfl
        rw [h0, hasC_nil] at hh
        cases hh
    obtain ⟨h1, h2, h3, h4, h5, h6⟩ := start_wf (n := n) ha
    have hn6 : p.length ≤ 6 ∧ Small p 8 := okProg_small h1
    have hru := Lib.hid (fun W (h : Below w.heap.size w W) => l2Run_any lo n c A p f arg fuel hl (hn6.2.mono (by omega)) (by omega) ha W (ho.below h))
    have hrr : runR p f arg fuel = (run p fuel f arg, true) := by unfold runR; rw [ha]; rfl
    have hwh := runR_whole (p := p) (f := f) (arg := arg) (fuel := fuel) (by rw [hrr])
    have hr : byN p f arg fuel call = (picks (selK 3 (tds (run p fuel f arg).trace) (ownsR (tds (run p fuel f arg).trace) call)) (run p fuel f arg).trace (run p fuel f arg).trace.length, true) := by unfold byN byR; rw [if_pos hh, hrr]
    rw [hh] at hq
    rw [hrr] at hlen hwh
    clear hh ha ho hsm hal h1 h2 h3 h4 h5 h6 hn6 hrr
    generalize run p fuel f arg = r at *
    obtain ⟨k, v, t, s⟩ := r
    dsimp only at hr hlen hwh
    have HR := Lib.hid hr
    have HW := Lib.hid hwh
    clear hr hwh
    go_enter Try.func44, Try.ntmps44
    go_wp2_with fail
    refine (hq.out _ (HAL.out _)).mono ?_
    rintro e w1 ⟨rfl, b1⟩
    have a1' : w1.cell? ⟨w.heap.size, 0, none⟩ = some (.slice A n c) := (Blk.below (heap1_0 w (.cells #[.slice A n c] 33)) b1 (by simp)).cells 0
    have bb := Lib.hid ((HAL.out (.cells #[.slice A n c] 33)).trans (b1.mono (HAL.out _).size))
    clear b1 hq
    go_wp2_with fail
    refine (hru.out _ bb.out).mono ?_
    rintro e w2 ⟨A2, c2, rfl, ht, b2⟩
    unfold outval
    have B2 := Lib.hid (bb.out.trans (b2.mono bb.out.size))
    have hR := Lib.hid (rd_own ht)
    dsimp only at hR ⊢
    clear a1' hru b2 bb ht
    have hf2 := fun u => out_field2 (.int .i64 k) (.int .i64 v) (.slice A2 t.length c2) (.int .i64 s) u
    go_wp2_with fail
    refine (l3R_any w2.heap.size t.length c2 A2 t call HW.out rfl hlen w2 hR.out (Nat.le_refl _)).mono ?_
    rintro e w3 ⟨A3, c3, rfl, o3, b3⟩
    have O3 := Lib.hid o3
    have B3 := Lib.hid b3
    clear o3 b3 hf2
    go_wp2_with fail
    go_ret2
    exact ⟨A3, c3, by rw [HR.out] <;> rfl, by rw [HR.out]; exact own_mono O3.out B2.out.size, B2.out.trans (B3.out.mono B2.out.size)⟩

set_option maxRecDepth 100000 in
set_option maxHeartbeats 8000000 in
theorem byRI_any (lo n c : Nat) (A : Option Addr) (p : Pg) (f arg fuel call : Int) (hn : n ≤ 9223372036854775807) (hl : p.length = n) (hsm : Small p 9223372036854775807) (w : World) (ho : OwnP w lo (.slice A n c) p) :
    Calls Try.prog 45 #[.agg #[.slice A n c], .int .i64 f, .int .i64 arg, .int .i64 fuel, .int .i64 call] w (PrsR (byN p f arg fuel call) w) := by
  have hq := Lib.hid (fun W (h : Below w.heap.size w W) => accountOf_any lo n c A p f arg fuel hn hl hsm W (ho.below h))
  have hal : ∀ o1 o2 : Obj, Below w.heap.size w ((w.alloc o1).alloc o2) := fun o1 o2 => ((Below.refl _ _).alloc (Nat.le_refl _) _).alloc (by simp) _
  have HAL := Lib.hid hal
  have hlen := runR_len p f arg fuel
  have hmf : ∀ (fn : Fn) (first cap : Array Value) (w : World), (Instr.makeFunc fn first cap).run Try.prog w = .ok (.func fn first cap) w := fun _ _ _ _ => rfl
  have hno : (runR p f arg fuel).2 = false → hasC (runR p f arg fuel).1.trace call = false := fun h => by rw [runR_none h]; exact hasC_nil call
  have hwh : (runR p f arg fuel).2 = true → Whole (runR p f arg fuel).1.trace := runR_whole
  have hr : byN p f arg fuel call = if hasC (runR p f arg fuel).1.trace call = true then (picks (selK 3 (tds (runR p f arg fuel).1.trace) (ownsR (tds (runR p f arg fuel).1.trace) call)) (runR p f arg fuel).1.trace (runR p f arg fuel).1.trace.length, true) else ([], false) := rfl
  generalize runR p f arg fuel = r at *
  obtain ⟨⟨k, v, t, s⟩, b⟩ := r
  unfold AcctR at hq
  dsimp only at hq hlen hno hwh hr
  clear ho hsm hal
  have HR0 := Lib.hid hr
  have HNO0 := Lib.hid hno
  have HWH0 := Lib.hid hwh
  clear hr hno hwh
  have HALs := Lib.hid (HAL.out (.cells #[.slice A n c] 33) (.cells #[.int .i64 call] 3))
  go_enter Try.func45, Try.ntmps45
  go_wp2_with fail
  refine (hq.out _ (HAL.out _ _)).mono ?_
  rintro e w2 ⟨g, k', v', s', At, ct, cv, ov, cur, rfl, hacc, hrd, hg, b2⟩
  have HBX := Lib.hid (show Blk w2 (w.heap.size + 1) 3 #[.int .i64 call] from Blk.below (heap2_1 w (.cells #[.slice A n c] 33) (.cells #[.int .i64 call] 3)) b2 (by simp))
  have BB := Lib.hid (HALs.out.trans (b2.mono HALs.out.size))
  have H := Lib.hid hacc
  have HR3 := Lib.hid hrd
  have hsz := BB.out.size
  clear hacc hrd b2 hq
  go_upto_region 2 with fail
  change (fun V => Code.wp _ _ _ _ V) _
  refine gen_world (X := fun V => Blk V w2.heap.size 92 #[.pointer (some ⟨g, 0, none⟩)] ∧ Below w2.heap.size w2 V) ⟨heap1_0 w2 _, (Below.refl _ _).alloc (Nat.le_refl _) _⟩ ?_
  rintro w3 ⟨x3, b3⟩
  have HBA := Lib.hid x3
  have HB3 := Lib.hid (BB.out.trans (b3.mono hsz))
  have H3 := Lib.hid (H.out.below b3)
  have HR33 := Lib.hid (HR3.out.below (b3.mono (Nat.le_of_lt H.out.lt)))
  have HBX3 := Lib.hid (HBX.out.below b3 HBX.out.lt)
  have hsz3 := HB3.out.size
  have ya : w3.cell? ⟨w2.heap.size, 0, none⟩ = some (.pointer (some ⟨g, 0, none⟩)) := x3.cells 0
  clear x3 b3 BB H HR3 HBX
  cases b with
  | false =>
    have hh := HNO0.out rfl
    have hr := HR0.out
    rw [hh] at hr
    have HRR := Lib.hid (hr.trans (if_neg (by decide)))
    clear hh hr
    go_wp2_with fail
    go_ret2
    exact ⟨_, _, by rw [HRR.out] <;> rfl, by rw [HRR.out]; exact App.empty_own (heap1_0 w3 _) hsz3, HB3.out.alloc hsz3 _⟩
  | true =>
    have HW := Lib.hid (HWH0.out rfl)
    have hr := HR0.out
    have HCA := Lib.hid (hasCall_any H3.out call (hasC t call) rfl)
    have y0 : w3.cell? ⟨w.heap.size + 1, 0, none⟩ = some (.int .i64 call) := HBX3.out.cells 0
    cases hh : hasC t call with
    | false =>
      rw [hh] at hr HCA
      have HRR := Lib.hid (hr.trans (if_neg (by decide)))
      clear hr hh
      go_wp2_with fail
      refine HCA.out.mono ?_
      rintro e w4 ⟨rfl, rfl⟩
      go_wp2_with fail
      go_ret2
      exact ⟨_, _, by rw [HRR.out] <;> rfl, by rw [HRR.out]; exact App.empty_own (heap1_0 w3 _) hsz3, HB3.out.alloc hsz3 _⟩
    | true =>
      rw [hh, if_pos rfl] at hr
      rw [hh] at HCA
      have HRR := Lib.hid hr
      have hF : ∀ V, Below w3.heap.size w3 V → ∀ (j : Nat) (o : Int), (tds t).owners[j]? = some o → Calls Try.prog 76 #[.int .i64 o, .pointer (some ⟨w2.heap.size, 0, none⟩), .pointer (some ⟨w.heap.size + 1, 0, none⟩)] V fun e V' => e = .returned (.bool (ownsR (tds t) call o)) ∧ Below V.heap.size V V' := fun V bV j o hj => by
        obtain ⟨o0, o1⟩ := (whole_owners HW.out).1 j o hj
        obtain ⟨no, rfl⟩ : ∃ no : Nat, o = no := ⟨o.toNat, by omega⟩
        obtain ⟨x, hx⟩ : ∃ x, (tds t).calls[no]? = some x := ⟨_, List.getElem?_eq_getElem (by omega)⟩
        have e1 : ownsR (tds t) call (no : Int) = (x.par == call) := by unfold ownsR parAt; rw [Int.toNat_natCast, hx]
        rw [e1]
        exact cloR_any w2.heap.size (w.heap.size + 1) call no x (H3.out.below bV) hx ((HBA.out.below bV HBA.out.lt).cells 0) ((HBX3.out.below bV HBX3.out.lt).cells 0)
      have HP := Lib.hid (pairsR_any w2.heap.size (w.heap.size + 1) (ownsR (tds t) call) H3.out HR33.out rfl hlen (whole_owners HW.out).2 hF)
      clear hr hh hF
      go_wp2_with fail
      refine HCA.out.mono ?_
      rintro e w4 ⟨rfl, rfl⟩
      go_wp2_with fail
      refine HP.out.mono ?_
      rintro e w5 ⟨A4, c4, rfl, o4, b4⟩
      have O4 := Lib.hid (own_mono (B' := w.heap.size) o4 hsz3)
      have B4 := Lib.hid (HB3.out.trans (b4.mono hsz3))
      clear o4 b4
      go_wp2_with fail
      go_ret2
      exact ⟨A4, c4, by rw [HRR.out] <;> rfl, by rw [HRR.out]; exact O4.out, B4.out⟩

end Go.Proofs.Yteagmmmniffibaa.ByP
