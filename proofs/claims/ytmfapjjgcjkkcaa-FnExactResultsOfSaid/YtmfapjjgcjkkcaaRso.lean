/- ResultsOf: spec and impl. (Written by wip/tools/genres.py.) -/
import Derived.Test.YtmfapjjgcjkkcaaPairs
import Derived.Test.YtmfapjjgcjkkcaaTree
import Derived.Test.YtmfapjjgcjkkcaaLawA
import Derived.BigRegion
namespace Go.Proofs.Ytmfapjjgcjkkcaa.RsoP
set_option linter.unusedVariables false
set_option linter.unusedSimpArgs false
open Go.ChangeShapes Go.WideShapes Go.ChangeAt Go.RowKit
open PL Mem Srun Sst To OwnS AskP StpS Res Swhole Sout Irp RunF IntsP RowC RowA AccP AcctP Read3 PairsP TreeP LawA

set_option maxRecDepth 100000 in
set_option maxHeartbeats 8000000 in
theorem pairsA_any {g N ct : Nat} {k v s : Int} {At : Option Addr} {cv ov : Value} {cur : Int} {t : List Tr} {T : PL.Told} {W : World}  (own : Int → Bool) (h : Acc g k v s (.slice At N ct) cv ov T.calls T.owners cur W) (hr : Rd3 W g At t) (hN : t.length = N) (hlen : N ≤ 100000)
    (hol : T.owners.length = N) (hF : ∀ V, Below W.heap.size W V → ∀ (j : Nat) (o : Int), T.owners[j]? = some o → Calls Try.prog 55 #[.int .i64 o] V fun e V' => e = .returned (.bool (own o)) ∧ Below V.heap.size V V') :
    Calls Try.prog 54 #[.pointer (some ⟨g, 0, none⟩), .int .i64 7, .func (.func 55) #[] #[]] W (PairsR (picks (selK 7 T own) t N) W) := by
  obtain ⟨i0, hi, hz0, hz1, hz2⟩ := info_parts infoP2
  obtain ⟨Ao, co, rfl⟩ := own_slice h.owners
  have z2 : W.cell? ⟨g, 2, none⟩ = some (.slice At N ct) := h.blk.cells 2
  have hgl := h.lt
  have H := Lib.hid h
  have HR := Lib.hid (fun V (b : Below W.heap.size W V) => hr.below (b.mono (Nat.le_of_lt hgl)))
  have HN := Lib.hid hN
  have HOL := Lib.hid hol
  have HF := Lib.hid hF
  have HLE := Lib.hid (fun j => picks_len (selK 7 T own) t j)
  have HYES := Lib.hid (fun (j : Nat) (e : Tr) (h : t[j]? = some e) (hs : selK 7 T own j e = true) => picks_yes h hs)
  have HNO := Lib.hid (fun (j : Nat) (e : Tr) (h : t[j]? = some e) (hs : selK 7 T own j e = false) => picks_no h hs)
  clear h hr hN hol hF
  go_enter Try.func54, Try.ntmps54
  go_wp2_with fail
  go_loopw [7, 17] (fun v i wr => ∃ (j : Nat) (A' : Option Addr) (c' : Nat), j ≤ N ∧ i = .int .i64 j ∧ v = .slice A' (picks (selK 7 T own) t j).length c' ∧ OwnA wr W.heap.size (.slice A' (picks (selK 7 T own) t j).length c') (picks (selK 7 T own) t j) ∧ Below W.heap.size W wr) (fun _ i _ => N - (intOf i).toNat)
  case atStart => exact ⟨0, _, _, Nat.zero_le _, rfl, rfl, App.empty_own (heap1_0 W _) (Nat.le_refl _), (Below.refl _ _).alloc (Nat.le_refl _) _⟩
  case round =>
    obtain ⟨j, A', c', hj, rfl, rfl, hown, hb⟩ := hrel
    clear z2
    have hsz := hb.size
    by_cases hlt : j < N
    · obtain ⟨⟨e0, e1, e2⟩, hs⟩ : ∃ s, t[j]? = some s := ⟨_, List.getElem?_eq_getElem (by rw [HN.out]; exact hlt)⟩
      obtain ⟨ad, rfl, hab, h0', h1', h2'⟩ := (HR.out wr hb) j _ hs
      obtain ⟨o, hos⟩ : ∃ o, T.owners[j]? = some o := ⟨_, List.getElem?_eq_getElem (by rw [HOL.out]; exact hlt)⟩
      have hl := HLE.out j
      have HB := Lib.hid hb
      have O := Lib.hid hown
      have HS := Lib.hid hs
      have HOS := Lib.hid hos
      dsimp only at h0' h1' h2'
      clear hs hb hown hos
      go_upto_region 5 with fail
      change (fun V => Code.wp _ _ _ _ V) _
      refine gen_world (X := fun V => Blk V wr.heap.size 59 #[.int .i64 e0, .int .i64 e1, .int .i64 e2] ∧ Below W.heap.size W V ∧ OwnA V W.heap.size (.slice A' (picks (selK 7 T own) t j).length c') (picks (selK 7 T own) t j)) ⟨heap1_0 wr _, HB.out.alloc hsz _, own_below (B' := wr.heap.size) O.out ((Below.refl _ _).alloc (Nat.le_refl _) _) (Nat.le_refl _)⟩ ?_
      clear HB O h0' h1' h2'
      generalize wr.heap.size = bx
      rintro X ⟨eX, bX, oX⟩
      have hacc := H.out.below bX
      obtain ⟨ao, rfl, hao, ho0⟩ := (hacc.owners.rd rfl) j _ HOS.out
      have hjo : j < T.owners.length := (List.getElem?_eq_some_iff.1 HOS.out).1
      have z5 : X.cell? ⟨g, 5, none⟩ = some (.slice (some ao) T.owners.length co) := hacc.blk.cells 5
      have y0 : X.cell? ⟨bx, 0, none⟩ = some (.int .i64 e0) := eX.cells 0
      have hszX := bX.size
      have EX := Lib.hid eX
      have BX := Lib.hid bX
      have O := Lib.hid oX
      clear hacc eX bX oX
      by_cases k0 : e0 = 7
      · subst k0
        have HSEL := Lib.hid (show selK 7 T own j (7, e1, e2) = own o from selK_own rfl HOS.out)
        have HC := Lib.hid (HF.out X BX.out j o HOS.out)
        cases hob : own o with
        | true =>
          have HX := Lib.hid (HYES.out j _ HS.out (HSEL.out.trans hob))
          have HC' : Hid (Calls Try.prog 55 #[.int .i64 o] X fun e V' => e = .returned (.bool true) ∧ Below X.heap.size X V') := Lib.hid (by have := HC.out; rwa [hob] at this)
          clear hob HC
          generalize picks (selK 7 T own) t j = q at *
          go_wp2_with fail
          refine HC'.out.mono ?_
          rintro e V ⟨rfl, bV⟩
          have y1 : V.cell? ⟨bx, 1, none⟩ = some (.int .i64 e1) := (EX.out.below bV EX.out.lt).cells 1
          have y2 : V.cell? ⟨bx, 2, none⟩ = some (.int .i64 e2) := (EX.out.below bV EX.out.lt).cells 2
          have OV := Lib.hid (show OwnA V W.heap.size (.slice A' q.length c') q from own_below (B' := X.heap.size) O.out bV (Nat.le_refl _))
          have BV := Lib.hid (BX.out.trans (bV.mono hszX))
          have hszV := Nat.le_trans hszX bV.size
          clear bV EX O BX HC' z5 y0 ho0
          go_wp2_with (at_builtin; refine wpList_append_lies _ rfl _ _ 26 rfl W.heap.size 60 i0 _ 2 16 Try.underlying26 hi hz0 hz1 hz2 rfl (by decide) _ _ _ rfl (World.ownsRow.alloc OV.out _) ⟨V.heap.size, 0, none⟩ 1 1 [.int .i64 e1, .int .i64 e2] rfl rfl ?cn_1 ?co_1 (by decide) ?c63_1 ?cb_1 ?cl_1 (V.heap.size + 1) ?cH_1 ?next_1)
          (try (case cn_1 => exact World.news_of_block (cs := #[.int .i64 e1, .int .i64 e2]) (t := 60) (fr := (0, 0)) (heap_alloc_new _ _)))
          case co_1 => first | (intro u hu; simp at hu; rcases hu with rfl | rfl <;> rfl) | simp [Value.oneCell']
          case c63_1 => first | (unfold maxLen; omega) | omega
          case cb_1 => omega
          case cl_1 => first | (simp; omega) | omega
          (try (case cH_1 => simp))
          case next_1 =>
            intro g2 cap2 w2 hown2 hgrow2 hat2 hlt2
            have c2 : Chg (fun y => (Value.slice A' q.length c').ownBlock = some y) V w2 := (Chg.alloc _ V _).trans (Chg.of_grown hgrow2) (fun x _ hx => hx.symm)
            have b2 := Lib.hid (BV.out.trans (c2.below hszV (fun x hx e => by have := (World.ownsRow.lt OV.out x e).1; omega)))
            have O2 := Lib.hid hown2
            clear hown2 hgrow2 hat2 c2 OV
            go_wp2_with fail
            go_roundw
            case rel =>
              refine ⟨j + 1, some ⟨g2, 0, none⟩, cap2, by omega, by go_num, ?_, ?_, b2.out⟩
              · rw [HX.out, List.length_append, List.length_singleton]
              · rw [HX.out]
                unfold OwnA
                rw [List.length_append, List.length_singleton, cells2_append]
                exact O2.out
            case measure => simp [intOf]; omega
        | false =>
          have HX := Lib.hid (HNO.out j _ HS.out (HSEL.out.trans hob))
          have HC' : Hid (Calls Try.prog 55 #[.int .i64 o] X fun e V' => e = .returned (.bool false) ∧ Below X.heap.size X V') := Lib.hid (by have := HC.out; rwa [hob] at this)
          clear hob HC
          generalize picks (selK 7 T own) t j = q at *
          go_wp2_with fail
          refine HC'.out.mono ?_
          rintro e V ⟨rfl, bV⟩
          have OV := Lib.hid (show OwnA V W.heap.size (.slice A' q.length c') q from own_below (B' := X.heap.size) O.out bV (Nat.le_refl _))
          have BV := Lib.hid (BX.out.trans (bV.mono hszX))
          clear bV EX O BX HC' z5 y0 ho0
          go_wp2_with fail
          go_roundw
          case rel => exact ⟨j + 1, A', c', by omega, by go_num, by rw [HX.out], by rw [HX.out]; exact OV.out, BV.out⟩
          case measure => simp [intOf]; omega
      · have hcb : (e0 == 7) = false := by simpa using k0
        have HX := Lib.hid (HNO.out j _ HS.out (selK_kind k0))
        clear k0
        generalize picks (selK 7 T own) t j = q at *
        go_wp2_with fail
        go_roundw
        case rel => exact ⟨j + 1, A', c', by omega, by go_num, by rw [HX.out], by rw [HX.out]; exact O.out, BX.out⟩
        case measure => simp [intOf]; omega
    · obtain rfl : j = N := by omega
      have HB := Lib.hid hb
      have O := Lib.hid hown
      clear hb hown
      go_wp2_with fail
      go_ret
      exact ⟨A', c', rfl, O.out, HB.out⟩

theorem cloA_any (o : Int) (W : World) : Calls Try.prog 55 #[.int .i64 o] W fun e W' => e = .returned (.bool true) ∧ Below W.heap.size W W' := by
  go_enter Try.func55, Try.ntmps55
  go_wp2_with fail
  go_ret
  exact ⟨rfl, Below.refl _ _⟩
def resR (p : Pg) (f arg fuel : Int) : List Pr × Bool := (picks (selK 7 (tds (runR p f arg fuel).1.trace) (fun _ => true)) (runR p f arg fuel).1.trace (runR p f arg fuel).1.trace.length, (runR p f arg fuel).2)
theorem resR_len (p : Pg) (f arg fuel : Int) : (resR p f arg fuel).1.length ≤ 100000 := Nat.le_trans (picks_len _ _ _) (runR_len p f arg fuel)
set_option maxRecDepth 100000 in
set_option maxHeartbeats 8000000 in
theorem resS_any (lo n c : Nat) (A : Option Addr) (p : Pg) (f arg fuel : Int) (hn : n ≤ 9223372036854775807) (hl : p.length = n) (hsm : Small p 9223372036854775807) (w : World) (ho : OwnP w lo (.slice A n c) p) :
    Calls Try.prog 15 #[.agg #[.slice A n c], .int .i64 f, .int .i64 arg, .int .i64 fuel] w (PrsR (resR p f arg fuel) w) := by
  obtain ⟨i0, hi, hz0, hz1, hz2⟩ := info_parts infoP2
  have hq := Lib.hid (fun W (h : Below w.heap.size w W) => l2Ask_any w.heap.size A n c p f arg fuel hn hl hsm W (ho.rd.below h) h.size)
  have hal : ∀ o1 o2 : Obj, Below w.heap.size w ((w.alloc o1).alloc o2) := fun o1 o2 => ((Below.refl _ _).alloc (Nat.le_refl _) _).alloc (by simp) _
  have HAL := Lib.hid hal
  have hlen := runR_len p f arg fuel
  have HE := Lib.hid (show OwnA ((w.alloc (.cells #[.slice A n c] 31)).alloc (.cells #[] 60)) w.heap.size (.slice (some ⟨w.heap.size + 1, 0, none⟩) 0 0) [] from App.empty_own (heap2_1 w _ _) (by omega))
  have HALs := Lib.hid (HAL.out (.cells #[.slice A n c] 31) (.cells #[] 60))
  cases ha : asks p f arg fuel with
  | false =>
    have hr := Lib.hid (show resR p f arg fuel = ([], false) by unfold resR runR; rw [ha]; rfl)
    rw [ha] at hq
    clear ha ho hsm hal hlen
    go_enter Try.func15, Try.ntmps15
    go_wp2_with fail
    refine (hq.out _ (HAL.out _ _)).mono ?_
    rintro e w1 ⟨rfl, b1⟩
    have O := Lib.hid (own_below HE.out b1 (Nat.le_refl _))
    have B := Lib.hid (HALs.out.trans (b1.mono HALs.out.size))
    clear b1
    go_wp2_with fail
    go_ret2
    exact ⟨_, _, by rw [hr.out] <;> rfl, by rw [hr.out]; exact O.out, B.out⟩
  | true =>
    obtain ⟨h1, h2, h3, h4, h5, h6⟩ := start_wf (n := n) ha
    have hn6 : p.length ≤ 6 ∧ Small p 8 := okProg_small h1
    have hru := Lib.hid (fun W (h : Below w.heap.size w W) => l2Run_any lo n c A p f arg fuel hl (hn6.2.mono (by omega)) (by omega) ha W (ho.below h))
    have hrr : runR p f arg fuel = (run p fuel f arg, true) := by unfold runR; rw [ha]; rfl
    have hr : resR p f arg fuel = (picks (selK 7 (tds (run p fuel f arg).trace) (fun _ => true)) (run p fuel f arg).trace (run p fuel f arg).trace.length, true) := by unfold resR; rw [hrr]
    rw [hrr] at hlen
    rw [ha] at hq
    clear ha ho hsm hal h1 h2 h3 h4 h5 h6 hn6 hrr
    generalize run p fuel f arg = r at *
    obtain ⟨k, v, t, s⟩ := r
    dsimp only at hr hlen
    obtain ⟨N, hN⟩ : ∃ N, t.length = N := ⟨_, rfl⟩
    have HOL := Lib.hid (show (tds t).owners.length = N from (tds_len t).1.trans hN)
    rw [hN] at hr hlen
    have HN := Lib.hid hN
    have HR := Lib.hid hr
    have HLE := Lib.hid (fun j => picks_len (selK 7 (tds t) (fun _ => true)) t j)
    have HYES := Lib.hid (fun (j : Nat) (e : Tr) (h : t[j]? = some e) (hs : (selK 7 (tds t) (fun _ => true)) j e = true) => picks_yes h hs)
    have HNO := Lib.hid (fun (j : Nat) (e : Tr) (h : t[j]? = some e) (hs : (selK 7 (tds t) (fun _ => true)) j e = false) => picks_no h hs)
    clear hr
    go_enter Try.func15, Try.ntmps15
    go_wp2_with fail
    refine (hq.out _ (HAL.out _ _)).mono ?_
    rintro e w1 ⟨rfl, b1⟩
    have a1' : w1.cell? ⟨w.heap.size, 0, none⟩ = some (.slice A n c) := (Blk.below (heap2_0 w (.cells #[.slice A n c] 31) (.cells #[] 60)) b1 (by simp <;> omega)).cells 0
    have bb := Lib.hid (HALs.out.trans (b1.mono HALs.out.size))
    have O1 := Lib.hid (own_below HE.out b1 (Nat.le_refl _))
    clear b1 hq HE
    go_wp2_with fail
    refine (hru.out _ bb.out).mono ?_
    rintro e w2 ⟨A2, c2, rfl, ht, b2⟩
    unfold outval
    have B2 := Lib.hid (bb.out.trans (b2.mono bb.out.size))
    have HT := Lib.hid (show Tre w2 w.heap.size (.slice A2 N c2) t from (by have := own_mono ht bb.out.size; dsimp only at this; rw [hN] at this; unfold Tre; rw [hN]; exact this))
    have O2 := Lib.hid (own_below O1.out b2 (Nat.le_refl _))
    dsimp only
    rw [hN]
    clear a1' hru b2 bb ht O1 hN
    have hf2 := fun u => out_field2 (.int .i64 k) (.int .i64 v) (.slice A2 N c2) (.int .i64 s) u
    go_wp2_with fail
    clear hf2
    go_loopw [10, 12] (fun v i wr => ∃ (j : Nat) (A' : Option Addr) (c' : Nat), j ≤ N ∧ i = .int .i64 j ∧ v = .slice A' (picks (selK 7 (tds t) (fun _ => true)) t j).length c' ∧ OwnA wr w.heap.size (.slice A' (picks (selK 7 (tds t) (fun _ => true)) t j).length c') (picks (selK 7 (tds t) (fun _ => true)) t j) ∧ Tre wr w.heap.size (.slice A2 N c2) t ∧ Below w.heap.size w wr) (fun _ i _ => N - (intOf i).toNat)
    case atStart => exact ⟨0, _, _, Nat.zero_le _, rfl, rfl, O2.out, HT.out, B2.out⟩
    case round =>
      obtain ⟨j, A', c', hj, rfl, rfl, hown, htre, hb⟩ := hrel
      clear HT O2 B2
      have hlo : w.heap.size ≤ wr.heap.size := hb.size
      by_cases hlt : j < N
      · obtain ⟨⟨e0, e1, e2⟩, hs⟩ : ∃ s, t[j]? = some s := ⟨_, List.getElem?_eq_getElem (by rw [HN.out]; exact hlt)⟩
        obtain ⟨ad, rfl, hab, h0', h1', h2'⟩ := (rd_own (show wr.ownsRow w.heap.size _ 3 (.slice A2 N c2) N (cells3 t) from (by unfold Tre at htre; rwa [HN.out] at htre))) j _ hs
        obtain ⟨o, hos⟩ : ∃ o, (tds t).owners[j]? = some o := ⟨_, List.getElem?_eq_getElem (by rw [HOL.out]; exact hlt)⟩
        have hl := HLE.out j
        have hap := Lib.hid (apart htre hown (by decide) ad.block rfl)
        have HB := Lib.hid hb
        have HT := Lib.hid htre
        have O := Lib.hid hown
        have HS := Lib.hid hs
        have HOS := Lib.hid hos
        dsimp only at h0' h1' h2'
        clear hs hb hown hos htre
        by_cases k0 : e0 = 7
        · subst k0
          have HX := Lib.hid (HYES.out j _ HS.out (selK_own rfl HOS.out))
          generalize picks (selK 7 (tds t) (fun _ => true)) t j = q at *
          go_wp2_with fail
          have S0 : (fun V : World => V.cell? ⟨(ad.add (j * 3)).block, (ad.add (j * 3)).off + 1, none⟩ = some (.int .i64 e1) ∧ V.cell? ⟨(ad.add (j * 3)).block, (ad.add (j * 3)).off + 2, none⟩ = some (.int .i64 e2)) wr.drew := ⟨h1', h2'⟩
          refine Last2.region_last [14] (fun V : World => V.cell? ⟨(ad.add (j * 3)).block, (ad.add (j * 3)).off + 1, none⟩ = some (.int .i64 e1) ∧ V.cell? ⟨(ad.add (j * 3)).block, (ad.add (j * 3)).off + 2, none⟩ = some (.int .i64 e2)) (by kernel_rfl) ?_
          refine Last2.last_take (i := 0) (d := some 39) (v := .slice A' q.length c') rfl rfl (by kernel_rfl) (by kernel_rfl) (by kernel_rfl) (fun _ _ _ h => h) rfl (by kernel_rfl) (by kernel_rfl) rfl ?_ S0 ?_
          · (intro V hV; (try dsimp only at hV); go_simp; try with_reducible rfl)
          simp only [Act.put, List.setIfInBounds_toArray, List.set_cons_zero, List.set_cons_succ]
          refine Last2.last_take (i := 1) (d := some 40) (v := .slice (some ad) N c2) rfl rfl (by kernel_rfl) (by kernel_rfl) (by kernel_rfl) (fun _ _ _ h => h) rfl (by kernel_rfl) (by kernel_rfl) rfl ?_ S0 ?_
          · (intro V hV; (try dsimp only at hV); go_simp; try with_reducible rfl)
          simp only [Act.put, List.setIfInBounds_toArray, List.set_cons_zero, List.set_cons_succ]
          refine Last2.last_take (i := 2) (d := some 41) (v := .int .i64 (j : Int)) rfl rfl (by kernel_rfl) (by kernel_rfl) (by kernel_rfl) (fun _ _ _ h => h) rfl (by kernel_rfl) (by kernel_rfl) rfl ?_ S0 ?_
          · (intro V hV; (try dsimp only at hV); go_simp; try with_reducible rfl)
          simp only [Act.put, List.setIfInBounds_toArray, List.set_cons_zero, List.set_cons_succ]
          refine Last2.last_take (i := 3) (d := some 42) (v := .pointer (some (ad.add (j * 3)))) rfl rfl (by kernel_rfl) (by kernel_rfl) (by kernel_rfl) (fun _ _ _ h => h) rfl (by kernel_rfl) (by kernel_rfl) rfl ?_ S0 ?_
          · (intro V hV; (try dsimp only at hV); go_simp; try with_reducible rfl)
          simp only [Act.put, List.setIfInBounds_toArray, List.set_cons_zero, List.set_cons_succ]
          refine Last2.last_take (i := 4) (d := some 43) (v := .pointer (some ⟨(ad.add (j * 3)).block, (ad.add (j * 3)).off + 1, none⟩)) rfl rfl (by kernel_rfl) (by kernel_rfl) (by kernel_rfl) (fun _ _ _ h => h) rfl (by kernel_rfl) (by kernel_rfl) rfl ?_ S0 ?_
          · (intro V hV; (try dsimp only at hV); go_simp; try with_reducible rfl)
          simp only [Act.put, List.setIfInBounds_toArray, List.set_cons_zero, List.set_cons_succ]
          refine Last2.last_take (i := 5) (d := some 44) (v := .int .i64 e1) rfl rfl (by kernel_rfl) (by kernel_rfl) (by kernel_rfl) (fun _ _ _ h => h) rfl (by kernel_rfl) (by kernel_rfl) rfl ?_ S0 ?_
          · (intro V hV; (try dsimp only at hV); go_simp; try with_reducible rfl)
          simp only [Act.put, List.setIfInBounds_toArray, List.set_cons_zero, List.set_cons_succ]
          refine Last2.last_take (i := 6) (d := some 45) (v := .slice (some ad) N c2) rfl rfl (by kernel_rfl) (by kernel_rfl) (by kernel_rfl) (fun _ _ _ h => h) rfl (by kernel_rfl) (by kernel_rfl) rfl ?_ S0 ?_
          · (intro V hV; (try dsimp only at hV); go_simp; try with_reducible rfl)
          simp only [Act.put, List.setIfInBounds_toArray, List.set_cons_zero, List.set_cons_succ]
          refine Last2.last_take (i := 7) (d := some 46) (v := .int .i64 (j : Int)) rfl rfl (by kernel_rfl) (by kernel_rfl) (by kernel_rfl) (fun _ _ _ h => h) rfl (by kernel_rfl) (by kernel_rfl) rfl ?_ S0 ?_
          · (intro V hV; (try dsimp only at hV); go_simp; try with_reducible rfl)
          simp only [Act.put, List.setIfInBounds_toArray, List.set_cons_zero, List.set_cons_succ]
          refine Last2.last_take (i := 8) (d := some 47) (v := .pointer (some (ad.add (j * 3)))) rfl rfl (by kernel_rfl) (by kernel_rfl) (by kernel_rfl) (fun _ _ _ h => h) rfl (by kernel_rfl) (by kernel_rfl) rfl ?_ S0 ?_
          · (intro V hV; (try dsimp only at hV); go_simp; try with_reducible rfl)
          simp only [Act.put, List.setIfInBounds_toArray, List.set_cons_zero, List.set_cons_succ]
          refine Last2.last_take (i := 9) (d := some 48) (v := .pointer (some ⟨(ad.add (j * 3)).block, (ad.add (j * 3)).off + 2, none⟩)) rfl rfl (by kernel_rfl) (by kernel_rfl) (by kernel_rfl) (fun _ _ _ h => h) rfl (by kernel_rfl) (by kernel_rfl) rfl ?_ S0 ?_
          · (intro V hV; (try dsimp only at hV); go_simp; try with_reducible rfl)
          simp only [Act.put, List.setIfInBounds_toArray, List.set_cons_zero, List.set_cons_succ]
          refine Last2.last_take (i := 10) (d := some 49) (v := .int .i64 e2) rfl rfl (by kernel_rfl) (by kernel_rfl) (by kernel_rfl) (fun _ _ _ h => h) rfl (by kernel_rfl) (by kernel_rfl) rfl ?_ S0 ?_
          · (intro V hV; (try dsimp only at hV); go_simp; try with_reducible rfl)
          simp only [Act.put, List.setIfInBounds_toArray, List.set_cons_zero, List.set_cons_succ]
          refine Last2.last_take (i := 11) (d := some 50) (v := .agg #[.int .i64 e1, .int .i64 e2]) rfl rfl (by kernel_rfl) (by kernel_rfl) (by kernel_rfl) (fun _ _ _ h => h) rfl (by kernel_rfl) (by kernel_rfl) rfl ?_ S0 ?_
          · (intro V hV; (try dsimp only at hV); go_simp; try with_reducible rfl)
          simp only [Act.put, List.setIfInBounds_toArray, List.set_cons_zero, List.set_cons_succ]
          refine Last2.last_one (i := 12) (o := { dst := some 51, op := .buildSlice 26 1 #[(0, .tmp 50)], type := _, pos := _, after := _, guard := none }) (by kernel_rfl) rfl rfl (fun K hK => ?_)
          go_simp
          have hne : (ad.add (j * 3)).block < wr.heap.size := by rw [block_of_add]; exact hab
          have bal : Below wr.heap.size wr (wr.alloc (.cells #[.int .i64 e1, .int .i64 e2] 60)) := (Below.refl _ _).alloc (Nat.le_refl _) _
          have S1 : (fun V : World => V.cell? ⟨(ad.add (j * 3)).block, (ad.add (j * 3)).off + 1, none⟩ = some (.int .i64 e1) ∧ V.cell? ⟨(ad.add (j * 3)).block, (ad.add (j * 3)).off + 2, none⟩ = some (.int .i64 e2)) (wr.alloc (.cells #[.int .i64 e1, .int .i64 e2] 60)).drew := ⟨(bal.cell (show (⟨(ad.add (j * 3)).block, (ad.add (j * 3)).off + 1, none⟩ : Addr).block < _ from hne)).trans h1', (bal.cell (show (⟨(ad.add (j * 3)).block, (ad.add (j * 3)).off + 2, none⟩ : Addr).block < _ from hne)).trans h2'⟩
          refine hK.out _ _ (fun _ => S1) ?_
          clear hK K S0
          try simp only [Act.put, List.setIfInBounds_toArray, List.set_cons_zero, List.set_cons_succ]
          have o0 := World.ownsRow.alloc O.out (.cells #[.int .i64 e1, .int .i64 e2] 60)
          have p0 := App.pair_own (heap1_0 wr (.cells #[.int .i64 e1, .int .i64 e2] 60))
          refine Last2.last_one (i := 13) (o := { dst := some 52, op := .call { callee := .builtin .append, args := #[.tmp 39, .tmp 51], argTypes := #[26, 26] }, type := _, pos := _, after := _, guard := none }) (by kernel_rfl) rfl rfl (fun K hK => ?_)
          refine App.row_wp _ (.tmp 39) (.tmp 51) 26 rfl w.heap.size 0 60 i0 _ 2 16 Try.underlying26 hi hz0 hz1 hz2 rfl (by decide) _ _ _ rfl o0 _ 1 [.int .i64 e1, .int .i64 e2] rfl p0 (by intro u hu; simp at hu; rcases hu with rfl | rfl <;> rfl) (by unfold maxLen; omega) (by omega) (by show w.heap.size ≤ (wr.alloc _).heap.size; rw [World.size_alloc]; omega) ?_
          intro v1 w1 o1 g1 t1
          have ch : Chg (fun x => (Value.slice A' q.length c').ownBlock = some x) wr w1 := Chg.trans (b := (wr.alloc (.cells #[.int .i64 e1, .int .i64 e2] 60)).drew) (Chg.trans (Chg.alloc _ wr _) (Chg.drew (fun _ => False) _) (fun _ _ h => h.elim)) (Chg.of_grown g1) (fun x _ hx => hx.symm)
          have hnc : ¬ (Value.slice A' q.length c').ownBlock = some (ad.add (j * 3)).block := by rw [block_of_add]; exact hap.out
          have S2 : (fun V : World => V.cell? ⟨(ad.add (j * 3)).block, (ad.add (j * 3)).off + 1, none⟩ = some (.int .i64 e1) ∧ V.cell? ⟨(ad.add (j * 3)).block, (ad.add (j * 3)).off + 2, none⟩ = some (.int .i64 e2)) w1 := ⟨(ch.cell (p := ⟨(ad.add (j * 3)).block, (ad.add (j * 3)).off + 1, none⟩) hne hnc).trans h1', (ch.cell (p := ⟨(ad.add (j * 3)).block, (ad.add (j * 3)).off + 2, none⟩) hne hnc).trans h2'⟩
          refine hK.out _ _ (fun _ => S2) ?_
          clear hK K o0 p0 S1
          obtain ⟨A1, c1, rfl⟩ := own_slice o1
          have O1 := Lib.hid o1
          have T1 := Lib.hid (own_chg HT.out ch (fun x hx e => apart HT.out O.out (by decide) x hx e))
          have B1 := Lib.hid (HB.out.trans (ch.below hlo (fun x hx e => by have := (World.ownsRow.lt O.out x e).1; omega)))
          clear o1 g1 t1 ch S2 HB O bal HT hap
          try simp only [Act.put, List.setIfInBounds_toArray, List.set_cons_zero, List.set_cons_succ]
          refine Last2.last_one (i := 14) (o := { dst := some 10, op := .assign (.tmp 52), type := _, pos := _, after := _, guard := none }) (by kernel_rfl) rfl rfl (fun K hK => ?_)
          go_simp
          refine hK.out _ _ (fun h => (h (by decide)).elim) ?_
          clear hK K
          try simp only [Act.put, List.setIfInBounds_toArray, List.set_cons_zero, List.set_cons_succ]
          refine Last2.last_done (by kernel_rfl) ?_ _
          go_wp2_with fail
          go_roundw
          case rel =>
            refine ⟨j + 1, A1, c1, by omega, by go_num, ?_, ?_, T1.out, B1.out⟩
            · rw [HX.out, List.length_append, List.length_singleton]
            · rw [HX.out]
              unfold OwnA
              rw [List.length_append, List.length_singleton, cells2_append]
              exact O1.out
          case measure => simp [intOf]; omega
        · have hcb : (e0 == 7) = false := by simpa using k0
          have HX := Lib.hid (HNO.out j _ HS.out (selK_kind k0))
          clear k0
          generalize picks (selK 7 (tds t) (fun _ => true)) t j = q at *
          go_wp2_with fail
          go_roundw
          case rel => exact ⟨j + 1, A', c', by omega, by go_num, by rw [HX.out], by rw [HX.out]; exact O.out, HT.out, HB.out⟩
          case measure => simp [intOf]; omega
      · obtain rfl : j = N := by omega
        have HB := Lib.hid hb
        have O := Lib.hid hown
        clear hb hown htre
        go_wp2_with fail
        go_ret2
        exact ⟨A', c', by rw [HR.out] <;> rfl, by rw [HR.out]; exact O.out, HB.out⟩
set_option maxRecDepth 100000 in
set_option maxHeartbeats 8000000 in
theorem resI_any (lo n c : Nat) (A : Option Addr) (p : Pg) (f arg fuel : Int) (hn : n ≤ 9223372036854775807) (hl : p.length = n) (hsm : Small p 9223372036854775807) (w : World) (ho : OwnP w lo (.slice A n c) p) :
    Calls Try.prog 17 #[.agg #[.slice A n c], .int .i64 f, .int .i64 arg, .int .i64 fuel] w (PrsR (resR p f arg fuel) w) := by
  have hq := Lib.hid (fun W (h : Below w.heap.size w W) => accountOf_any lo n c A p f arg fuel hn hl hsm W (ho.below h))
  have hal : ∀ o1 : Obj, Below w.heap.size w (w.alloc o1) := fun o1 => (Below.refl _ _).alloc (Nat.le_refl _) _
  have HALs := Lib.hid (hal (.cells #[.slice A n c] 31))
  have hlen := runR_len p f arg fuel
  have hr := Lib.hid (show resR p f arg fuel = (picks (selK 7 (tds (runR p f arg fuel).1.trace) (fun _ => true)) (runR p f arg fuel).1.trace (runR p f arg fuel).1.trace.length, (runR p f arg fuel).2) from rfl)
  generalize runR p f arg fuel = r at *
  clear ho hsm hal
  go_enter Try.func17, Try.ntmps17
  go_wp2_with fail
  refine (hq.out _ HALs.out).mono ?_
  rintro e w2 ⟨g, k, v, s, At, ct, cv, ov, cur, rfl, hacc, hrd, hg, b2⟩
  have BB := Lib.hid (HALs.out.trans (b2.mono HALs.out.size))
  have HP := Lib.hid (pairsA_any (fun _ => true) hacc hrd rfl hlen (tds_len _).1 (fun V bV j o hj => cloA_any o V))
  have hsz := BB.out.size
  clear hacc hrd b2 hq
  go_wp2_with fail
  refine HP.out.mono ?_
  rintro e w4 ⟨A4, c4, rfl, o4, b4⟩
  have O4 := Lib.hid (own_mono (B' := w.heap.size) o4 hsz)
  have B4 := Lib.hid (BB.out.trans (b4.mono hsz))
  clear o4 b4
  go_wp2_with fail
  go_ret2
  exact ⟨A4, c4, by rw [hr.out] <;> rfl, by rw [hr.out]; exact O4.out, B4.out⟩
end Go.Proofs.Ytmfapjjgcjkkcaa.RsoP
