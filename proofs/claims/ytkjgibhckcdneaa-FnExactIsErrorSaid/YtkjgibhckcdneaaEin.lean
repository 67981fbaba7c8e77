/- The methods of the errors of Go, and errors.is over them. -/
import Derived.Test.YtkjgibhckcdneaaEim
import Derived.Deep.LoopGhost
namespace Go.Proofs.Ytkjgibhckcdneaa.ErI
set_option linter.unusedVariables false
set_option linter.unusedSimpArgs false
open Go.ChangeShapes Go.WideShapes Go.ChangeAt Go.RowKit
open Mem IntsP ErP ErM ErT ErA ErU ErD ErW ErL ErF ErQ

/-- A result, the memory being as it was. -/
def SameR (v : Value) (w : World) (e : Ending) (w' : World) : Prop := e = .returned v ∧ Chg (fun _ => False) w w'
theorem unwrapW_any (b : Nat) (v : Value) (w : World) (h : w.cell? ⟨b, 2, none⟩ = some v) :
    Calls Try.prog 100 #[.pointer (some ⟨b, 0, none⟩)] w (SameR v w) := by
  go_enter Try.func100, Try.ntmps100
  go_wp2_with fail
  go_ret
  exact ⟨rfl, Chg.refl _ _⟩
theorem unwrapJ_any (b : Nat) (v : Value) (w : World) (h : w.cell? ⟨b, 3, none⟩ = some v) :
    Calls Try.prog 102 #[.pointer (some ⟨b, 0, none⟩)] w (SameR v w) := by
  go_enter Try.func102, Try.ntmps102
  go_wp2_with fail
  go_ret
  exact ⟨rfl, Chg.refl _ _⟩
set_option maxRecDepth 100000 in
set_option maxHeartbeats 2000000 in
theorem like_any (bz : Nat) (e : Er) (bs : Nat → Nat) (t : Nat) (k dz dt : Int) (tt : List Int) (w : World) (ht : e[t]? = some (k, dt, tt)) (hk : k = 1 ∨ k = 2 ∨ k = 3 ∨ k = 4)
    (h1 : w.cell? ⟨bz, 1, none⟩ = some (.int .i64 dz)) (h2 : w.cell? ⟨bs t, 1, none⟩ = some (.int .i64 dt)) :
    Calls Try.prog 104 #[.pointer (some ⟨bz, 0, none⟩), valE e bs t] w (SameR (.bool (decide (k = 1) && decide (dz = dt))) w) := by
  unfold valE
  rw [nodeE_at ht]
  show Calls Try.prog 104 #[.pointer (some ⟨bz, 0, none⟩), .iface (TyE k) (.pointer (some ⟨bs t, 0, none⟩))] w _
  have aP := asP
  have aW := asW
  have aJ := asJ
  have aL := asL
  rcases hk with rfl | rfl | rfl | rfl
  · rw [show TyE 1 = 102 from rfl]
    by_cases hd : dz = dt
    · subst hd
      simp only [decide_true, Bool.and_self]
      go_enter Try.func104, Try.ntmps104
      go_wp2_with fail
      go_quiet (fail)
      go_wp2_with fail
      go_ret
      exact ⟨rfl, Chg.drewN _ _ _⟩
    · have hd' : (dt == dz) = false := by simpa using fun h => hd h.symm
      rw [decide_eq_false hd]
      clear hd
      simp only [decide_true, Bool.and_false]
      go_enter Try.func104, Try.ntmps104
      go_wp2_with fail
      go_quiet (fail)
      go_wp2_with fail
      go_ret
      exact ⟨rfl, Chg.drewN _ _ _⟩
  · rw [show TyE 2 = 92 from rfl, show (decide ((2 : Int) = 1) && decide (dz = dt)) = false from rfl]
    go_enter Try.func104, Try.ntmps104
    go_wp2_with fail
    go_quiet (fail)
    go_wp2_with fail
    go_ret
    exact ⟨rfl, Chg.drewN _ _ _⟩
  · rw [show TyE 3 = 95 from rfl, show (decide ((3 : Int) = 1) && decide (dz = dt)) = false from rfl]
    go_enter Try.func104, Try.ntmps104
    go_wp2_with fail
    go_quiet (fail)
    go_wp2_with fail
    go_ret
    exact ⟨rfl, Chg.drewN _ _ _⟩
  · rw [show TyE 4 = 99 from rfl, show (decide ((4 : Int) = 1) && decide (dz = dt)) = false from rfl]
    go_enter Try.func104, Try.ntmps104
    go_wp2_with fail
    go_quiet (fail)
    go_wp2_with fail
    go_ret
    exact ⟨rfl, Chg.drewN _ _ _⟩
theorem ok_kind {e : Er} (h : okErr e = true) {i : Nat} {s : En} (hs : e[i]? = some s) : (s.1 = 1 ∧ s.2.2 = []) ∨ (s.1 = 2 ∧ s.2.2.length = 1) ∨ (s.1 = 3 ∧ 0 < s.2.2.length) ∨ (s.1 = 4 ∧ s.2.2 = []) := by
  obtain ⟨h1, h2, h3⟩ := (okErr_iff e).1 h
  have g := h3 i s (List.getElem?_eq_some_iff.1 hs).1 hs
  unfold okNode at g
  rw [Bool.and_eq_true] at g
  have g := g.2
  unfold okKind at g
  split at g
  · rename_i hk
    have : s.2.2 = [] := List.eq_nil_of_length_eq_zero (of_decide_eq_true g)
    rcases hk with hk | hk
    · exact .inl ⟨hk, this⟩
    · exact .inr (.inr (.inr ⟨hk, this⟩))
  · split at g
    · rename_i hk
      exact .inr (.inl ⟨hk, of_decide_eq_true g⟩)
    · split at g
      · rename_i hk
        rw [Bool.and_eq_true] at g
        exact .inr (.inr (.inl ⟨hk, of_decide_eq_true g.1⟩))
      · cases g
set_option maxRecDepth 100000 in
set_option maxHeartbeats 8000000 in
theorem is_any (p : Er) (hok : okErr p = true) (bs : Nat → Nat) (t : Nat) (ht : t < p.length) : ∀ (K x : Nat), x < p.length → p.length - x < K → ∀ w, Vals w p bs 0 →
    Calls Try.prog 79 #[valE p bs x, valE p bs t, .bool true] w (SameR (.bool (hitN p t x)) w)
  | 0, x, hx, hk, w, hv => by omega
  | K + 1, x, hx, hk, w, hv => by
    have IH := Lib.hid (is_any p hok bs t ht K)
    have HOK := Lib.hid hok
    have HV := Lib.hid hv
    have HTL := Lib.hid ht
    obtain ⟨n, hn⟩ : ∃ n, p.length = n := ⟨_, rfl⟩
    have hL := Lib.hid hn
    rw [hn] at hx hk ht
    obtain ⟨⟨kt, dt, tt⟩, hst⟩ : ∃ s, p[t]? = some s := ⟨_, List.getElem?_eq_getElem (by rw [hn]; exact ht)⟩
    have HST := Lib.hid hst
    have hkt : kt = 1 ∨ kt = 2 ∨ kt = 3 ∨ kt = 4 := by
      rcases ok_kind hok hst with ⟨h, _⟩ | ⟨h, _⟩ | ⟨h, _⟩ | ⟨h, _⟩
      · exact .inl h
      · exact .inr (.inl h)
      · exact .inr (.inr (.inl h))
      · exact .inr (.inr (.inr h))
    have HKT := Lib.hid hkt
    obtain ⟨vt, hvt⟩ : ∃ v, valE p bs t = v := ⟨_, rfl⟩
    have HVT := Lib.hid hvt
    rw [hvt] at IH ⊢
    obtain ⟨vx, hvx⟩ : ∃ v, valE p bs x = v := ⟨_, rfl⟩
    have HVX := Lib.hid hvx
    rw [hvx]
    clear hok hv hn hst hvt hvx hkt
    go_enter Try.func79, Try.ntmps79
    go_wp2_with fail
    go_loopg [0] (n + 1) (fun g v wr => ∃ z : Nat, z < n ∧ x ≤ z ∧ n - z < g ∧ v = valE p bs z ∧ hitN p t z = hitN p t x ∧ Chg (fun _ => False) w wr)
    case atStart => exact ⟨x, hx, Nat.le_refl _, by omega, HVX.out.symm, rfl, Chg.refl _ _⟩
    case round =>
      obtain ⟨z, hz, hxz, hg, rfl, hhit, hch⟩ := hrel
      obtain ⟨k, rfl⟩ : ∃ k, gk = k + 1 := ⟨gk - 1, by omega⟩
      have HH := Lib.hid hhit
      have HC := Lib.hid hch
      have V2 := Lib.hid (HV.out.chg hch)
      obtain ⟨⟨kz, dz, tz⟩, hsz⟩ : ∃ s, p[z]? = some s := ⟨_, List.getElem?_eq_getElem (by rw [hL.out]; exact hz)⟩
      have HSZ := Lib.hid hsz
      have hstep := Lib.hid (hitN_step HOK.out (t := t) (by rw [hL.out]; exact hz) hsz)
      have heq := eql_val V2.out (z := z) (t := t) (by rw [hL.out]; exact hz) HTL.out
      have hvz : valE p bs z = .iface (TyE kz) (.pointer (some ⟨bs z, 0, none⟩)) := by unfold valE; rw [nodeE_at hsz]
      rw [HVT.out, hvz] at heq
      rw [hvz]
      clear hhit hch hsz hvz
      by_cases hzt : z = t
      · rw [decide_eq_true hzt] at heq
        have hres := Lib.hid (show hitN p t x = true by rw [← HH.out, hstep.out]; unfold isOne; rw [decide_eq_true hzt]; rfl)
        clear hzt hstep
        go_wp2_with fail
        go_ret
        exact ⟨by rw [hres.out]; rfl, HC.out⟩
      · rw [decide_eq_false hzt] at heq
        have hone := Lib.hid (show isOne p t z = likeE (kz, dz, tz) (kt, dt, tt) by unfold isOne; rw [decide_eq_false hzt, nodeE_at HSZ.out, nodeE_at HST.out]; rfl)
        clear hzt
        rcases ok_kind HOK.out HSZ.out with ⟨h1, h2⟩ | ⟨h1, h2⟩ | ⟨h1, h2⟩ | ⟨h1, h2⟩ <;> dsimp only at h1 h2
        · obtain rfl : kz = 1 := h1
          obtain rfl : tz = [] := h2
          rw [show TyE 1 = 102 from rfl] at heq ⊢
          have hres := Lib.hid (show hitN p t x = false by rw [← HH.out, hstep.out, hone.out]; rfl)
          have nE := isP
          have uE := unP
          have vE := usP
          clear hstep hone
          go_wp2_with fail
          go_ret
          exact ⟨by rw [hres.out]; rfl, HC.out⟩
        · obtain rfl : kz = 2 := h1
          rw [show TyE 2 = 92 from rfl] at heq ⊢
          obtain ⟨q, hq, hcell⟩ := V2.out.wrap z _ (Nat.zero_le _) HSZ.out rfl
          obtain ⟨q', hq', hzq, hqn⟩ := ok_part HOK.out HSZ.out hq
          obtain rfl : q = q' := by omega
          rw [hL.out] at hqn
          dsimp only at hq
          have htz : tz = [(q : Int)] := by
            match tz, h2, hq with
            | [a], _, hq => simpa using hq
          have hres := Lib.hid (show hitN p t q = hitN p t x by
            rw [← HH.out, hstep.out, hone.out, htz]
            simp [likeE])
          have huw := Lib.hid (unwrapW_any (bs z) (valE p bs q) wr hcell)
          have hnil : ∀ W, (binOp .eql 76 (valE p bs q) .nilIface).run Try.prog W = .ok (.bool false) W := fun W => by unfold valE; exact eql_nil _ _ W
          have hgd : ∀ W, (eqGuard .eql 76 (.tmp 37) (.const .nilIface) (valE p bs q) .nilIface).run Try.prog W = .ok () W := fun W => by unfold valE; first | rfl | simp [eqGuard]
          have nE := isW
          have uE := unW
          have mU := mUn
          clear hstep hone hq hq' hcell htz h2
          go_wp2_with fail
          refine huw.out.mono ?_
          rintro e w3 ⟨rfl, c3⟩
          have HC3 := Lib.hid (HC.out.trans c3 (fun _ _ h => h))
          clear c3
          go_wp2_with fail
          go_roundg k
          case measure => omega
          case rel => exact ⟨q, by omega, by omega, by omega, rfl, hres.out, HC3.out⟩
        · obtain rfl : kz = 3 := h1
          rw [show TyE 3 = 95 from rfl] at heq ⊢
          obtain ⟨Aj, cj, hA, hcell, hat⟩ := V2.out.join z _ (Nat.zero_le _) HSZ.out rfl
          dsimp only at hcell hat
          have huw := Lib.hid (unwrapJ_any (bs z) _ wr hcell)
          obtain ⟨ys, hys⟩ : ∃ ys, onceE tz tz.length = ys := ⟨_, rfl⟩
          have hyl := once_le tz tz.length
          have hmem := Lib.hid (fun (q : Int) (h : q ∈ ys) => (show q ∈ tz by rw [← hys, once_mem, List.take_length] at h; exact h))
          have hend := Lib.hid (show hitN p t x = ys.any (fun q => hitN p t q.toNat) by
            rw [← HH.out, hstep.out, hone.out, ← hys, once_any]
            simp [likeE])
          have h12 := ok_many HOK.out HSZ.out
          dsimp only at h12
          rw [hys] at huw hat hyl
          obtain ⟨m, hm⟩ : ∃ m, ys.length = m := ⟨_, rfl⟩
          rw [hm] at huw hyl
          have HM := Lib.hid hm
          have HAT := Lib.hid hat
          have nE := isJ
          have uE := unJ
          have vE := usJ
          have mU := mUs
          clear hstep hone hcell hat hys hm h2
          obtain ⟨wo, rfl⟩ : ∃ wo, wo = wr := ⟨_, rfl⟩
          go_wp2_with fail
          refine huw.out.mono ?_
          rintro e w3 ⟨rfl, c3⟩
          have C3 := Lib.hid c3
          clear c3
          go_wp2_with fail
          go_loopw [45] (fun j' wi => ∃ j : Nat, j ≤ m ∧ j' = .int .i64 j ∧ (ys.take j).any (fun q => hitN p t q.toNat) = false ∧ Chg (fun _ => False) wo wi) (fun j' _ => m - (intOf j').toNat)
          case atStart => exact ⟨0, Nat.zero_le _, rfl, rfl, C3.out⟩
          case round =>
            obtain ⟨j, hj, rfl, hno, hc⟩ := hrel
            have HNO := Lib.hid hno
            have HC4 := Lib.hid hc
            have HC5 := Lib.hid (HC.out.trans hc (fun _ _ h => h))
            have V4 := Lib.hid (V2.out.chg hc)
            clear hno hc
            by_cases hjm : j < m
            · obtain ⟨q0, hq0⟩ : ∃ q, ys[j]? = some q := ⟨_, List.getElem?_eq_getElem (by rw [HM.out]; exact hjm)⟩
              obtain ⟨j1, hj1⟩ := List.getElem?_of_mem (hmem.out q0 (List.mem_of_getElem? hq0))
              obtain ⟨q, rfl, hzq, hqn⟩ := ok_part HOK.out HSZ.out hj1
              have hc1 : wr.cell? (Aj.add j) = some (valE p bs q) := (HC4.out.cell (by rw [block_of_add]; exact hA) (fun h => h)).trans (HAT.out j q hq0)
              have hIH := IH.out q hqn (by rw [hL.out] at hqn ⊢; omega) wr V4.out
              have hnext := Lib.hid (show (ys.take (j + 1)).any (fun q => hitN p t q.toNat) = hitN p t q by rw [List.take_add_one, hq0, List.any_append, HNO.out]; simp)
              have hin := Lib.hid (fun (h : hitN p t q = true) => (show hitN p t x = true by rw [hend.out, List.any_eq_true]; exact ⟨(q : Int), List.mem_of_getElem? hq0, by rw [Int.toNat_natCast]; exact h⟩))
              clear hq0 hj1
              cases hb : hitN p t q with
              | true =>
                rw [hb] at hIH
                have HIH := Lib.hid hIH
                have hres := Lib.hid (hin.out hb)
                clear hIH hb
                go_wp2_with fail
                refine HIH.out.mono ?_
                rintro e w5 ⟨rfl, c5⟩
                have HC6 := Lib.hid (HC5.out.trans c5 (fun _ _ h => h))
                clear c5
                go_wp2_with fail
                go_ret
                exact ⟨by rw [hres.out]; rfl, HC6.out⟩
              | false =>
                rw [hb] at hIH
                have HIH := Lib.hid hIH
                have hno2 := Lib.hid (hnext.out.trans hb)
                clear hIH hb
                go_wp2_with fail
                refine HIH.out.mono ?_
                rintro e w5 ⟨rfl, c5⟩
                have HC6 := Lib.hid (HC4.out.trans c5 (fun _ _ h => h))
                clear c5
                go_wp2_with fail
                go_roundw
                case rel => exact ⟨j + 1, by omega, by go_num, hno2.out, HC6.out⟩
                case measure => simp [intOf]; omega
            · obtain rfl : m = j := by omega
              have hres := Lib.hid (show hitN p t x = false by rw [hend.out, ← HNO.out, List.take_of_length_le (by rw [HM.out]; exact Nat.le_refl _)])
              go_wp2_with fail
              go_ret
              exact ⟨by rw [hres.out]; rfl, HC5.out⟩
        · obtain rfl : kz = 4 := h1
          obtain rfl : tz = [] := h2
          rw [show TyE 4 = 99 from rfl] at heq ⊢
          obtain ⟨cs, ty, b1, b2, b3⟩ := V2.out.blk z _ (Nat.zero_le _) HSZ.out
          obtain ⟨cs', ty', b1', b2', b3'⟩ := V2.out.blk t _ (Nat.zero_le _) HST.out
          have hlk := like_any (bs z) p bs t kt dz dt tt wr HST.out HKT.out ((b1.cells 1).trans b3) ((b1'.cells 1).trans b3')
          rw [HVT.out] at hlk
          obtain ⟨b, hb⟩ : ∃ b, (decide (kt = 1) && decide (dz = dt)) = b := ⟨_, rfl⟩
          rw [hb] at hlk
          have HLK := Lib.hid hlk
          have hres := Lib.hid (show hitN p t x = b by
            rw [← HH.out, hstep.out, hone.out]
            show (likeE (4, dz, []) (kt, dt, tt) || false) = b
            rw [Bool.or_false, ← hb]
            rfl)
          have nE := isL
          have uE := unL
          have vE := usL
          have mI := mIs
          clear hstep hone hb hlk b1 b2 b3 b1' b2' b3'
          cases b with
          | true =>
            go_wp2_with fail
            refine HLK.out.mono ?_
            rintro e w3 ⟨rfl, c3⟩
            have HC3 := Lib.hid (HC.out.trans c3 (fun _ _ h => h))
            go_wp2_with fail
            go_ret
            exact ⟨by rw [hres.out]; rfl, HC3.out⟩
          | false =>
            go_wp2_with fail
            refine HLK.out.mono ?_
            rintro e w3 ⟨rfl, c3⟩
            have HC3 := Lib.hid (HC.out.trans c3 (fun _ _ h => h))
            go_wp2_with fail
            go_ret
            exact ⟨by rw [hres.out]; rfl, HC3.out⟩
end Go.Proofs.Ytkjgibhckcdneaa.ErI
