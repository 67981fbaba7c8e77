/- impl.withFirst lays errors anew with one more ahead of all others, if that makes valid ones. -/
import Derived.Test.YtkjgibhckcdneaaErap
import Derived.Test.YtkjgibhckcdneaaLast2
namespace Go.Proofs.Ytkjgibhckcdneaa.ErF
set_option linter.unusedVariables false
set_option linter.unusedSimpArgs false
open Go.ChangeShapes Go.WideShapes Go.ChangeAt Go.RowKit
open Mem IntsP ErP ErM ErT ErA ErU ErD ErW ErL

set_option maxRecDepth 100000 in
set_option maxHeartbeats 8000000 in
theorem first_any (lo n c : Nat) (A : Option Addr) (p : Er) (k d : Int) (As : Option Addr) (ms cs : Nat) (xs : List Int) (hn : n ≤ 2000000) (hl : p.length = n) (hsm : SmallE p 2000000) (hms : ms ≤ 2000000) (hlx : xs.length = ms)
    (hf : ∀ (j : Nat) (z : Int), xs[j]? = some z → fitI z) (w : World) (ho : OwnE w lo (.slice A n c) p) (hrx : RdI w w.heap.size As xs) :
    Calls Try.prog 64 #[.agg #[.slice A n c], .agg #[.int .i64 k, .int .i64 d, .slice As ms cs]] w (ErrR (firstR p (k, d, xs)) w) := by
  have hF := Lib.hid (fun w hr hB => areErrors_any w.heap.size A n c p (by omega) hl (hsm.mono (by omega)) w hr hB)
  have b3 : ∀ o o' o2 : Obj, Below w.heap.size w (((w.alloc o).alloc o').alloc o2) := fun o o' o2 => (((Below.refl _ _).alloc (Nat.le_refl _) _).alloc (by simp) _).alloc (by simp; omega) _
  have B3 := Lib.hid b3
  have hO := Lib.hid ho
  have hRX := Lib.hid hrx
  have hL := Lib.hid hl
  have hLX := Lib.hid hlx
  have hFX := Lib.hid hf
  clear ho hl hrx hlx hf b3
  cases hok : okErr p with
  | false =>
    have hs := Lib.hid (show firstR p (k, d, xs) = ([], false) by unfold firstR; rw [hok]; rfl)
    rw [hok] at hF
    clear hok
    go_enter Try.func64, Try.ntmps64
    go_wp2_with fail
    refine (hF.out _ (hO.out.below (B3.out _ _ _)).rd (Nat.le_refl _)).mono ?_
    rintro e w1 ⟨rfl, b⟩
    have bb := Lib.hid ((B3.out (.cells #[.slice A n c] 29) (.cells #[.int .i64 k, .int .i64 d, .slice As ms cs] 55) (.cells #[.slice none 0 0] 29)).trans (b.mono (by simp; omega)))
    have x4 : Blk w1 (w.heap.size + 2) 29 #[.slice none 0 0] := Blk.below (heap3_2 w _ _ _) b (by simp)
    have y4 : w1.cell? ⟨w.heap.size + 1 + 1, 0, none⟩ = some (.slice none 0 0) := x4.cells 0
    have f4 : w1.frozen? ⟨w.heap.size + 1 + 1, 0, none⟩ = false := x4.frozen 0
    clear b x4
    go_wp2_with fail
    refine bodyPost_ret (v := .tuple #[.agg #[.slice none 0 0], .bool false]) (by simp [results, Try.results64, go_sem, y4]) rfl ?_
    rw [hs.out]
    exact ⟨none, 0, rfl, OwnE.nil _ _, bb.out.setCell (p := ⟨w.heap.size + 1 + 1, 0, none⟩) (by show w.heap.size ≤ w.heap.size + 1 + 1; omega) _⟩
  | true =>
    have hfirst := Lib.hid (show firstR p (k, d, xs) = if okErr (aheadE p (k, d, xs)) then (aheadE p (k, d, xs), true) else ([], false) by unfold firstR; rw [hok]; rfl)
    have hn12 : n ≤ 12 := by rw [← hL.out]; exact ((okErr_iff p).1 hok).2.1
    have HOK := Lib.hid hok
    have hRd := Lib.hid hO.out.rd
    have hP := Lib.hid (fun W h hB => partsF_any w.heap.size k d As ms cs xs hms hLX.out hFX.out W h hB)
    obtain ⟨i0, hi, hz0, hz1, hz2⟩ := info_parts infoNode
    rw [hok] at hF
    clear hok hsm
    go_enter Try.func64, Try.ntmps64
    go_wp2_with fail
    refine (hF.out _ (hO.out.below (B3.out _ _ _)).rd (Nat.le_refl _)).mono ?_
    rintro e w1 ⟨rfl, b⟩
    have bb := Lib.hid ((B3.out (.cells #[.slice A n c] 29) (.cells #[.int .i64 k, .int .i64 d, .slice As ms cs] 55) (.cells #[.slice none 0 0] 29)).trans (b.mono (by simp; omega)))
    have x4 : Blk w1 (w.heap.size + 2) 29 #[.slice none 0 0] := Blk.below (heap3_2 w _ _ _) b (by simp)
    have x3 : Blk w1 (w.heap.size + 1) 55 #[.int .i64 k, .int .i64 d, .slice As ms cs] := Blk.below (heap3_1 w _ _ _) b (by simp)
    have x2 : Blk w1 w.heap.size 29 #[.slice A n c] := Blk.below (heap3_0 w _ _ _) b (by simp; omega)
    obtain ⟨y0, y1, y2⟩ : w1.cell? ⟨w.heap.size + 1, 0, none⟩ = some (.int .i64 k) ∧ w1.cell? ⟨w.heap.size + 1, 1, none⟩ = some (.int .i64 d) ∧ w1.cell? ⟨w.heap.size + 1, 2, none⟩ = some (.slice As ms cs) := ⟨x3.cells 0, x3.cells 1, x3.cells 2⟩
    have X4 := Lib.hid x4
    have X2 := Lib.hid x2
    have RX1 := Lib.hid (hRX.out.below bb.out)
    clear b x4 x3 x2
    go_wp2_with fail
    refine (hP.out _ RX1.out bb.out.size).mono ?_
    rintro e w2 ⟨gu, rfl, hgu, ou, b2⟩
    have l4 := X4.out.lt
    have OU := Lib.hid ou
    have hgul := ou.lt gu
    clear y0 y1 y2
    have z2 : ∀ o o' : Obj, ((w2.alloc o).alloc o').cell? ⟨w.heap.size, 0, none⟩ = some (.slice A n c) := fun o o' =>
      ((World.cell?_alloc_lt _ o' ⟨w.heap.size, 0, none⟩ (by have := b2.size; simp; omega)).trans (World.cell?_alloc_lt w2 o ⟨w.heap.size, 0, none⟩ (by have := b2.size; show w.heap.size < w2.heap.size; omega))).trans ((X2.out.below b2 (by omega)).cells 0)
    go_wp2_with fail
    obtain ⟨h0, hh0⟩ : ∃ h0, w2.heap.size = h0 := ⟨_, rfl⟩
    obtain ⟨bm, hbm⟩ : ∃ bm, w2.heap.size + 1 = bm := ⟨_, rfl⟩
    obtain ⟨w3, hw3⟩ : ∃ w3, (w2.alloc (.cells #[.int .i64 k, .int .i64 d, .slice (some ⟨gu, 0, none⟩) ms ms] 55)).alloc (.cells #[.slice (some ⟨w2.heap.size, 0, none⟩) 1 1] 29) = w3 := ⟨_, rfl⟩
    have hb23 : Below w2.heap.size w2 w3 := by rw [← hw3]; exact ((Below.refl _ _).alloc (Nat.le_refl _) _).alloc (by simp) _
    have bb3 : Below w.heap.size w w3 := (bb.out.trans (b2.mono bb.out.size)).trans (hb23.mono (by have := b2.size; have := bb.out.size; omega))
    have hFs : Fs w3 (w.heap.size + 3) h0 bm (.slice (some ⟨h0, 0, none⟩) 1 1) [nodeF nx (k, d, xs)] w3 := by
      have l34 : w.heap.size + 3 ≤ w1.heap.size := l4
      refine ⟨own_one (u := .slice (some ⟨gu, 0, none⟩) ms ms) ?_ (by have := b2.size; omega) ?_, ?_, fun b hb => .inl (by simpa [Value.ownBlock] using hb.symm), Chg.refl _ _⟩
      · rw [← hw3, ← hh0]; exact heap2_0 w2 _ _
      · have := own_below OU.out hb23 (Nat.le_refl _)
        simp only [nodeF, List.length_map, hLX.out]
        exact own_mono this l34
      · rw [← hw3, ← hbm, ← hh0]; exact heap2_1 w2 _ _
    have x23 : Blk w3 w.heap.size 29 #[.slice A n c] := (X2.out.below b2 X2.out.lt).below hb23 (X2.out.below b2 X2.out.lt).lt
    have x43 : Blk w3 (w.heap.size + 2) 29 #[.slice none 0 0] := (X4.out.below b2 X4.out.lt).below hb23 (X4.out.below b2 X4.out.lt).lt
    have l5 : w.heap.size + 2 < h0 := by rw [← hh0]; have := b2.size; omega
    have l6 : h0 < bm := by omega
    have l7 : bm < w3.heap.size := hFs.box.lt
    have HFs := Lib.hid hFs
    have X23 := Lib.hid x23
    have X43 := Lib.hid x43
    have BB3 := Lib.hid bb3
    have R3 := Lib.hid (hRd.out.below bb3)
    rw [hw3]
    rw [hh0] at *
    rw [hbm]
    clear hw3 hbm hh0 hFs x23 x43 bb3 hb23 OU hgul hgu b2 z2 bb X2 X4 RX1 hP hF l4
    go_loopw [22] (fun i wr => ∃ (j : Nat) (Av : Option Addr) (cv : Nat), j ≤ n ∧ i = .int .i64 j ∧ Fs w3 (w.heap.size + 3) h0 bm (.slice Av (j + 1) cv) (nodeF nx (k, d, xs) :: (p.take j).map (nodeF nx)) wr) (fun i _ => n - (intOf i).toNat)
    case atStart => exact ⟨0, _, _, Nat.zero_le _, rfl, HFs.out⟩
    case round =>
      obtain ⟨j, Av, cv, hj, rfl, hG⟩ := hrel
      have G := Lib.hid hG
      have sz := hG.chg.size
      have zr : wr.cell? ⟨w.heap.size, 0, none⟩ = some (.slice A n c) := (X23.out.chg hG.chg (by omega)).cells 0
      have zm : wr.cell? ⟨bm, 0, none⟩ = some (.slice Av (j + 1) cv) := hG.box.cells 0
      have RR := Lib.hid (rdE_chg R3.out hG.chg (by omega) (fun b hb => by omega))
      clear hG
      by_cases hlt : j < n
      · obtain ⟨⟨t0, t1, t2⟩, hsx⟩ : ∃ s, p[j]? = some s := ⟨_, List.getElem?_eq_getElem (by rw [hL.out]; exact hlt)⟩
        obtain ⟨ad, Ai, ci, rfl, hab, c0, c1, c2, c3⟩ := RR.out j _ hsx
        have HS := Lib.hid hsx
        have C3 := Lib.hid c3
        dsimp only at c0 c1 c2
        have h12 : t2.length ≤ 12 := ok_many HOK.out HS.out
        clear hsx c3
        go_wp2_with fail
        obtain ⟨b9, hb9⟩ : ∃ b9, wr.heap.size = b9 := ⟨_, rfl⟩
        obtain ⟨W, hW⟩ : ∃ W, wr.alloc (.cells #[.int .i64 t0, .int .i64 t1, .slice Ai t2.length ci] 55) = W := ⟨_, rfl⟩
        have bW : Below wr.heap.size wr W := by rw [← hW]; exact (Below.refl _ _).alloc (Nat.le_refl _) _
        have xW : Blk W b9 55 #[.int .i64 t0, .int .i64 t1, .slice Ai t2.length ci] := by rw [← hW, ← hb9]; exact heap1_0 _ _
        have gW : Fs w3 (w.heap.size + 3) h0 bm (.slice Av (j + 1) cv) (nodeF nx (k, d, xs) :: (p.take j).map (nodeF nx)) W := ⟨G.out.own.below bW, G.out.box.below bW G.out.box.lt, G.out.at_, G.out.chg.trans (Chg.of_below (C := fun _ => False) bW) (fun _ _ h => h.elim)⟩
        have C3W := Lib.hid (C3.out.below (bW.mono (by omega)))
        rw [hW, hb9]
        have XW := Lib.hid xW
        have GW := Lib.hid gW
        have l9 := xW.lt
        have l8 : w3.heap.size ≤ b9 := by rw [← hb9]; exact sz
        have vne : ∀ b, (Value.slice Av (j + 1) cv).ownBlock = some b → b ≠ bm ∧ b < b9 := by
          intro b hb
          obtain ⟨vals, hvl, hvo, _, _⟩ := G.out.own
          exact ⟨fun e => App.own_blk_ne hvo G.out.box (by decide) (by rw [hb, e]), by rw [← hb9]; exact (hvo.lt b hb).2⟩
        have VNE := Lib.hid vne
        have bbW := Lib.hid (BB3.out.trans (gW.chg.below BB3.out.size (fun b hb h => by omega)))
        clear hW xW gW bW G c0 c1 c2 zr zm C3 RR hb9 sz vne
        have S0 : (fun V : World => V.cell? ⟨bm, 0, none⟩ = some (.slice Av (j + 1) cv) ∧ V.cell? ⟨b9, 0, none⟩ = some (.int .i64 t0) ∧ V.cell? ⟨b9, 1, none⟩ = some (.int .i64 t1) ∧ V.cell? ⟨b9, 2, none⟩ = some (.slice Ai t2.length ci)) W.drew := ⟨GW.out.box.cells 0, XW.out.cells 0, XW.out.cells 1, XW.out.cells 2⟩
        refine Last2.region_last [8] (fun V : World => V.cell? ⟨bm, 0, none⟩ = some (.slice Av (j + 1) cv) ∧ V.cell? ⟨b9, 0, none⟩ = some (.int .i64 t0) ∧ V.cell? ⟨b9, 1, none⟩ = some (.int .i64 t1) ∧ V.cell? ⟨b9, 2, none⟩ = some (.slice Ai t2.length ci)) (by kernel_rfl) ?_
        refine Last2.last_take (i := 0) (d := some 26) (v := .pointer (some ⟨bm, 0, none⟩)) rfl rfl (by kernel_rfl) (by kernel_rfl) (by kernel_rfl) (fun _ _ _ h => h) rfl (by kernel_rfl) (by kernel_rfl) rfl ?_ S0 ?_
        · (intro V hV; (try dsimp only at hV); go_simp; try with_reducible rfl)
        simp only [Act.put, List.setIfInBounds_toArray, List.set_cons_zero, List.set_cons_succ]
        refine Last2.last_take (i := 1) (d := some 27) (v := .slice Av (j + 1) cv) rfl rfl (by kernel_rfl) (by kernel_rfl) (by kernel_rfl) (fun _ _ _ h => h) rfl (by kernel_rfl) (by kernel_rfl) rfl ?_ S0 ?_
        · (intro V hV; (try dsimp only at hV); go_simp; try with_reducible rfl)
        simp only [Act.put, List.setIfInBounds_toArray, List.set_cons_zero, List.set_cons_succ]
        refine Last2.last_take (i := 2) (d := some 28) (v := .agg #[.int .i64 t0, .int .i64 t1, .slice Ai t2.length ci]) rfl rfl (by kernel_rfl) (by kernel_rfl) (by kernel_rfl) (fun _ _ _ h => h) rfl (by kernel_rfl) (by kernel_rfl) rfl ?_ S0 ?_
        · (intro V hV; (try dsimp only at hV); go_simp; try with_reducible rfl)
        simp only [Act.put, List.setIfInBounds_toArray, List.set_cons_zero, List.set_cons_succ]
        refine Last2.last_take (i := 3) (d := some 29) (v := .func (.func 76) #[] #[]) rfl rfl (by kernel_rfl) (by kernel_rfl) (by kernel_rfl) (fun _ _ _ h => h) rfl (by kernel_rfl) (by kernel_rfl) rfl ?_ S0 ?_
        · (intro V hV; (try dsimp only at hV); go_simp; try with_reducible rfl)
        simp only [Act.put, List.setIfInBounds_toArray, List.set_cons_zero, List.set_cons_succ]
        have hptl := fun (q : Nat) (z : Int) (hz : t2[q]? = some z) => (show fitI z by
          obtain ⟨zq, rfl, h1, h2⟩ := ok_part (s := (t0, t1, t2)) HOK.out HS.out hz
          rw [hL.out] at h2
          unfold fitI; omega)
        have HPT := Lib.hid (partsF_any w.heap.size t0 t1 Ai t2.length ci t2 (by omega) rfl hptl W.drew (C3W.out.keep (fun _ _ => rfl)) (by show w.heap.size ≤ W.heap.size; omega))
        have FD : Fs w3 (w.heap.size + 3) h0 bm (.slice Av (j + 1) cv) (nodeF nx (k, d, xs) :: (p.take j).map (nodeF nx)) W.drew := ⟨GW.out.own.below ((Below.refl _ _).drew), GW.out.box.below ((Below.refl _ _).drew) GW.out.box.lt, GW.out.at_, chg_drew GW.out.chg⟩
        have XD : Blk W.drew b9 55 #[.int .i64 t0, .int .i64 t1, .slice Ai t2.length ci] := XW.out.below ((Below.refl _ _).drew) XW.out.lt
        have lW : b9 < W.drew.heap.size := XD.lt
        have lW3 : w3.heap.size ≤ W.drew.heap.size := FD.chg.size
        have hql : (nodeF nx (k, d, xs) :: (p.take j).map (nodeF nx)).length = j + 1 := by rw [List.length_cons, List.length_map, List.length_take, hL.out, Nat.min_eq_left (by omega)]
        have HQL := Lib.hid hql
        have hSB : ∀ V, Below W.drew.heap.size W.drew V → (fun V : World => V.cell? ⟨bm, 0, none⟩ = some (.slice Av (j + 1) cv) ∧ V.cell? ⟨b9, 0, none⟩ = some (.int .i64 t0) ∧ V.cell? ⟨b9, 1, none⟩ = some (.int .i64 t1) ∧ V.cell? ⟨b9, 2, none⟩ = some (.slice Ai t2.length ci)) V := fun V b => ⟨(FD.box.below b FD.box.lt).cells 0, (XD.below b XD.lt).cells 0, (XD.below b XD.lt).cells 1, (XD.below b XD.lt).cells 2⟩
        have HSB := Lib.hid hSB
        have HFD := Lib.hid FD
        have HXD := Lib.hid XD
        clear hptl GW XW C3W FD XD S0 hql hSB
        generalize W.drew = U at *
        refine Last2.last_one (i := 4) (o := { dst := some 30, op := .call { callee := .value (.func 68), args := #[.tmp 28, .tmp 29], argTypes := _ }, type := _, pos := _, after := _, guard := none }) (by kernel_rfl) rfl rfl (fun K hK => ?_)
        go_simp
        refine HPT.out.mono ?_
        rintro e w4 ⟨gp, rfl, hgp, op, b4⟩
        refine hK.out _ _ (fun _ => HSB.out _ b4) ?_
        clear hK K
        try simp only [Act.put, List.setIfInBounds_toArray, List.set_cons_zero, List.set_cons_succ]
        refine Last2.last_one (i := 5) (o := { dst := some 31, op := .buildSlice 27 1 #[(0, .tmp 30)], type := _, pos := _, after := _, guard := none }) (by kernel_rfl) rfl rfl (fun K hK => ?_)
        go_simp
        have b5 : Below U.heap.size U (w4.alloc (.cells #[.int .i64 t0, .int .i64 t1, .slice (some ⟨gp, 0, none⟩) t2.length t2.length] 55)) := b4.alloc b4.size _
        refine hK.out _ _ (fun _ => HSB.out _ b5) ?_
        clear hK K
        try simp only [Act.put, List.setIfInBounds_toArray, List.set_cons_zero, List.set_cons_succ]
        obtain ⟨vals, v1, v2, v3, v4⟩ := HFD.out.own
        rw [HQL.out] at v2
        have HV2 := Lib.hid v2
        have HV := Lib.hid (And.intro v1 (And.intro v3 v4))
        have hone : ∀ u ∈ ([.int .i64 t0, .int .i64 t1, .slice (some ⟨gp, 0, none⟩) t2.length t2.length] : List Value), u.oneCell' = true := by intro u hu; simp at hu; rcases hu with rfl | rfl | rfl <;> rfl
        have OR := Lib.hid (own_below v2 b5 (Nat.le_refl _))
        have PR := Lib.hid (node_own (heap1_0 w4 (.cells #[.int .i64 t0, .int .i64 t1, .slice (some ⟨gp, 0, none⟩) t2.length t2.length] 55)))
        have hsz5 : w.heap.size + 3 ≤ (w4.alloc (.cells #[.int .i64 t0, .int .i64 t1, .slice (some ⟨gp, 0, none⟩) t2.length t2.length] 55)).heap.size := by have := b5.size; omega
        have OP := Lib.hid (own_alloc op (.cells #[.int .i64 t0, .int .i64 t1, .slice (some ⟨gp, 0, none⟩) t2.length t2.length] 55))
        have B5 := Lib.hid b5
        have s4 := b4.size
        clear v1 v2 v3 v4 op b4 b5
        refine Last2.last_one (i := 6) (o := { dst := some 32, op := .call { callee := .builtin .append, args := #[.tmp 27, .tmp 31], argTypes := #[27, 27] }, type := _, pos := _, after := _, guard := none }) (by kernel_rfl) rfl rfl (fun K hK => ?_)
        refine App.row_wp _ (.tmp 27) (.tmp 31) 27 rfl (w.heap.size + 3) 0 55 i0 _ 3 40 Try.underlying27 hi hz0 hz1 hz2 rfl (by decide) _ _ _ rfl OR.out _ 1 [.int .i64 t0, .int .i64 t1, .slice (some ⟨gp, 0, none⟩) t2.length t2.length] rfl PR.out hone (by unfold maxLen; omega) (by omega) hsz5 ?_
        intro v2 w6 o6 g6 t6
        obtain ⟨A6, c6, rfl⟩ := own_slice o6
        have c56 : Chg (fun b => (Value.slice Av (j + 1) cv).ownBlock = some b) U w6 := (Chg.of_below (C := fun b => (Value.slice Av (j + 1) cv).ownBlock = some b) B5.out).trans (App.Chg.of_grown' (C := fun b => (Value.slice Av (j + 1) cv).ownBlock = some b) g6 (fun k hk => hk)) (fun _ _ h => h)
        have S6 : (fun V : World => V.cell? ⟨bm, 0, none⟩ = some (.slice Av (j + 1) cv) ∧ V.cell? ⟨b9, 0, none⟩ = some (.int .i64 t0) ∧ V.cell? ⟨b9, 1, none⟩ = some (.int .i64 t1) ∧ V.cell? ⟨b9, 2, none⟩ = some (.slice Ai t2.length ci)) w6 := ⟨(HFD.out.box.chg c56 (fun h => (VNE.out bm h).1 rfl)).cells 0, (HXD.out.chg c56 (fun h => Nat.lt_irrefl _ (VNE.out b9 h).2)).cells 0, (HXD.out.chg c56 (fun h => Nat.lt_irrefl _ (VNE.out b9 h).2)).cells 1, (HXD.out.chg c56 (fun h => Nat.lt_irrefl _ (VNE.out b9 h).2)).cells 2⟩
        have u6 : w6.ownsRow (w.heap.size + 3) 3 1 (.slice (some ⟨gp, 0, none⟩) t2.length t2.length) t2.length (cellsI (t2.map nx)) := own_mono (own_chg OP.out (App.Chg.of_grown' (C := fun b => (Value.slice Av (j + 1) cv).ownBlock = some b) g6 (fun k hk => hk)) (fun k hk hk2 => App.own_ne OR.out OP.out (by decide) hk2 hk)) (by omega)
        have hgpk : ∀ b, (Value.slice (some ⟨gp, 0, none⟩) t2.length t2.length).ownBlock = some b → U.heap.size ≤ b := by
          intro b hb
          have e : gp = b := by simpa [Value.ownBlock] using hb
          omega
        have FP := Fs.push (s := nodeF nx (t0, t1, t2)) (u := .slice (some ⟨gp, 0, none⟩) t2.length t2.length) (v2 := .slice A6 (j + 1 + 1) c6) HFD.out HV.out.1 (by rw [HQL.out]; exact HV2.out) HV.out.2.1 HV.out.2.2 c56 (by
            rcases t6 with t6 | t6
            · exact .inl t6
            · exact .inr ⟨_, t6, by simp; omega⟩) l7 (by rw [HQL.out, cellsN_append]; exact o6) (by simp only [nodeF, List.length_map]; exact u6) hgpk
        rw [← ahead_take HS.out] at FP
        have bx6 := HFD.out.box.chg c56 (fun h => (VNE.out bm h).1 rfl)
        have zm6 : w6.cell? ⟨bm, 0, none⟩ = some (.slice Av (j + 1) cv) := bx6.cells 0
        have fm6 : w6.frozen? ⟨bm, 0, none⟩ = false := bx6.frozen 0
        have HFP := Lib.hid FP
        refine hK.out _ _ (fun _ => S6) ?_
        clear hK K o6 g6 t6 c56 u6 FP bx6 OP OR PR hone HV HV2 B5
        try simp only [Act.put, List.setIfInBounds_toArray, List.set_cons_zero, List.set_cons_succ]
        refine Last2.last_one (i := 7) (o := { dst := some 33, op := .fieldAddr 29 (.tmp 7) 0, type := _, pos := _, after := _, guard := none }) (by kernel_rfl) rfl rfl (fun K hK => ?_)
        go_simp
        refine hK.out _ _ (fun _ => S6) ?_
        clear hK K S6
        try simp only [Act.put, List.setIfInBounds_toArray, List.set_cons_zero, List.set_cons_succ]
        refine Last2.last_one (i := 8) (o := { dst := none, op := .store 27 (.tmp 33) (.tmp 32), type := _, pos := _, after := _, guard := none }) (by kernel_rfl) rfl rfl (fun K hK => ?_)
        go_simp
        refine hK.out _ _ (fun h => (h (by decide)).elim) ?_
        clear hK K
        try simp only [Act.put, List.setIfInBounds_toArray, List.set_cons_zero, List.set_cons_succ]
        refine Last2.last_done (by kernel_rfl) ?_ _
        generalize w6.setCell ⟨bm, 0, none⟩ (.slice A6 (j + 1 + 1) c6) = w7 at *
        clear zm6 fm6
        go_wp2_with fail
        go_roundw
        case rel => exact ⟨j + 1, A6, c6, by omega, by go_num, HFP.out⟩
        case measure => simp [intOf]; omega
      · obtain rfl : j = n := by omega
        have hE : nodeF nx (k, d, xs) :: (p.take j).map (nodeF nx) = aheadE p (k, d, xs) := by rw [List.take_of_length_le (by rw [hL.out]; exact Nat.le_refl _)]; rfl
        have x4r := (X43.out.chg G.out.chg (by omega))
        have hsmE : SmallE (aheadE p (k, d, xs)) 9223372036854775807 := by
          intro i s hs
          cases i with
          | zero =>
            obtain rfl : nodeF nx (k, d, xs) = s := by simpa [aheadE] using hs
            simp only [nodeF, List.length_map, hLX.out]; omega
          | succ i =>
            have : (p.map (nodeF nx))[i]? = some s := by simpa [aheadE] using hs
            rw [List.getElem?_map] at this
            obtain ⟨t, ht, rfl⟩ := Option.map_eq_some_iff.1 this
            have := ok_many HOK.out ht
            simp only [nodeF, List.length_map]; omega
        have G2 : Fs w3 (w.heap.size + 3) h0 bm (.slice Av (j + 1) cv) (aheadE p (k, d, xs)) wr := by rw [← hE]; exact G.out
        have hAr := Lib.hid (areErrors_any wr.heap.size Av (j + 1) cv (aheadE p (k, d, xs)) (by omega) (by rw [aheadE_length, hL.out]) hsmE wr G2.own.rd (Nat.le_refl _))
        have HG2 := Lib.hid G2
        have X4R := Lib.hid x4r
        clear hE x4r hsmE G2 G
        go_wp2_with fail
        refine hAr.out.mono ?_
        rintro e w5 ⟨rfl, b5⟩
        have y4 : w5.cell? ⟨w.heap.size + 1 + 1, 0, none⟩ = some (.slice none 0 0) := (X4R.out.below b5 X4R.out.lt).cells 0
        have f4 : w5.frozen? ⟨w.heap.size + 1 + 1, 0, none⟩ = false := (X4R.out.below b5 X4R.out.lt).frozen 0
        have zm5 : w5.cell? ⟨bm, 0, none⟩ = some (.slice Av (j + 1) cv) := (HG2.out.box.below b5 HG2.out.box.lt).cells 0
        have bb5 := Lib.hid ((BB3.out.trans (HG2.out.chg.below BB3.out.size (fun b hb h => by omega))).trans (b5.mono (by have := BB3.out.size; omega)))
        have O5 := Lib.hid (HG2.out.own.below b5)
        clear b5 zr zm RR X4R hAr
        cases hok2 : okErr (aheadE p (k, d, xs)) with
        | false =>
          have hs := Lib.hid (show firstR p (k, d, xs) = ([], false) by rw [hfirst.out, hok2]; rfl)
          clear hok2
          go_wp2_with fail
          refine bodyPost_ret (v := .tuple #[.agg #[.slice none 0 0], .bool false]) (by simp [results, Try.results64, go_sem, y4]) rfl ?_
          rw [hs.out]
          exact ⟨none, 0, rfl, OwnE.nil _ _, bb5.out.setCell (p := ⟨w.heap.size + 1 + 1, 0, none⟩) (by show w.heap.size ≤ w.heap.size + 1 + 1; omega) _⟩
        | true =>
          have hs := Lib.hid (show firstR p (k, d, xs) = (aheadE p (k, d, xs), true) by rw [hfirst.out, hok2]; rfl)
          have hal := aheadE_length p (k, d, xs)
          rw [hL.out] at hal
          have HAL := Lib.hid hal
          clear hok2 hal
          go_wp2_with fail
          refine bodyPost_ret (v := .tuple #[.agg #[.slice Av (j + 1) cv], .bool true]) (by simp [results, Try.results64, go_sem, y4]) rfl ?_
          rw [hs.out]
          refine ⟨Av, cv, by simp only [HAL.out], ?_, bb5.out.setCell (p := ⟨w.heap.size + 1 + 1, 0, none⟩) (by show w.heap.size ≤ w.heap.size + 1 + 1; omega) _⟩
          simp only [HAL.out]
          exact (O5.out.chg (Chg.set _ ⟨w.heap.size + 1 + 1, 0, none⟩ _) (fun b hb _ => by show ¬ b = w.heap.size + 1 + 1; omega)).mono (by omega)
end Go.Proofs.Ytkjgibhckcdneaa.ErF
