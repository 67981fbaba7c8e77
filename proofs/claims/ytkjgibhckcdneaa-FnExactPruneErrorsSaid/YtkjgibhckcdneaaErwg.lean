/- spec.l6Ahead lays errors anew with one more ahead of all others; when these are valid. -/
import Derived.Test.YtkjgibhckcdneaaErwf
namespace Go.Proofs.Ytkjgibhckcdneaa.ErF
set_option linter.unusedVariables false
set_option linter.unusedSimpArgs false
open Go.ChangeShapes Go.WideShapes Go.ChangeAt Go.RowKit
open Mem IntsP ErP ErM ErT ErA ErU ErD ErW ErL

theorem nx_small {z : Int} (h : z < 9223372036854775807) : nx z = z + 1 := by unfold nx; rw [if_neg (by omega)]
theorem node_shift {n i : Nat} {s : En} (hn : n ≤ 12) (h : okNode n i s = true) : okNode (n + 1) (i + 1) (nodeF nx s) = true := by
  rw [okNode_iff] at h ⊢
  obtain ⟨a, b, c, d, e⟩ := h
  refine ⟨a, b, by simpa [nodeF] using c, fun j p hj hp => ?_, by simpa [nodeF] using e⟩
  simp only [nodeF, List.getElem?_map] at hp
  obtain ⟨z, hz, rfl⟩ := Option.map_eq_some_iff.1 hp
  have := d j z (List.getElem?_eq_some_iff.1 hz).1 hz
  unfold okPart at this
  rw [Bool.and_eq_true, decide_eq_true_eq, decide_eq_true_eq] at this
  rw [nx_small (by omega)]
  exact okPart_yes (by omega) (by omega)
theorem ahead_ok {p : Er} {s : En} (h : okErr p = true) : okErr (aheadE p s) = true ↔ p.length ≠ 12 ∧ okNode (p.length + 1) 0 (nodeF nx s) = true := by
  obtain ⟨h1, h2, h3⟩ := (okErr_iff p).1 h
  rw [okErr_iff, aheadE_length]
  constructor
  · rintro ⟨_, a, b⟩
    exact ⟨by omega, b 0 _ (by omega) rfl⟩
  · rintro ⟨a, b⟩
    refine ⟨by omega, by omega, fun i t hi ht => ?_⟩
    cases i with
    | zero =>
      obtain rfl : nodeF nx s = t := by simpa [aheadE] using ht
      exact b
    | succ i =>
      have : (p.map (nodeF nx))[i]? = some t := by simpa [aheadE] using ht
      rw [List.getElem?_map] at this
      obtain ⟨u, hu, rfl⟩ := Option.map_eq_some_iff.1 this
      exact node_shift h2 (h3 i u (by omega) hu)
theorem Fs.nil {w3 : World} {lo h0 bm : Nat} (hh : w3.heap[h0]? = some (.cells #[] 55)) (hlo : lo ≤ h0) (hb : Blk w3 bm 29 #[.slice (some ⟨h0, 0, none⟩) 0 0]) : Fs w3 lo h0 bm (.slice (some ⟨h0, 0, none⟩) 0 0) [] w3 :=
  ⟨⟨[], rfl, App.empty_own hh hlo, fun i s h => by simp at h, fun i j u u' k h => by simp at h⟩, hb, fun k hk => .inl (by simpa [Value.ownBlock] using hk.symm), Chg.refl _ _⟩
theorem ahead_at {p : Er} {s t : En} {j : Nat} (h : (s :: p)[j]? = some t) : (aheadE p s).take (j + 1) = (aheadE p s).take j ++ [nodeF nx t] := by
  have h2 : (aheadE p s)[j]? = some (nodeF nx t) := by
    have : aheadE p s = (s :: p).map (nodeF nx) := rfl
    rw [this, List.getElem?_map, h]; rfl
  rw [List.take_add_one, h2]; rfl

def AheadR (q : Er) (m : Nat) (w : World) (e : Ending) (w' : World) : Prop := ∃ A c, e = .returned (.agg #[.slice A m c]) ∧ OwnE w' (w.heap.size + 3) (.slice A m c) q ∧ Below w.heap.size w w'
set_option maxRecDepth 100000 in
set_option maxHeartbeats 8000000 in
theorem aheadS_any (n c : Nat) (A : Option Addr) (p : Er) (k d : Int) (As : Option Addr) (ms cs : Nat) (xs : List Int) (hl : p.length = n) (hok : okErr p = true) (hms : ms ≤ 12) (hlx : xs.length = ms)
    (hf : ∀ (j : Nat) (z : Int), xs[j]? = some z → 0 ≤ z ∧ z < n) (w : World) (hr : RdE w w.heap.size A p) (hrx : RdI w w.heap.size As xs) :
    Calls Try.prog 63 #[.agg #[.slice A n c], .agg #[.int .i64 k, .int .i64 d, .slice As ms cs]] w (AheadR (aheadE p (k, d, xs)) (n + 1) w) := by
  have hn12 : n ≤ 12 := by rw [← hl]; exact ((okErr_iff p).1 hok).2.1
  have HOK := Lib.hid hok
  have hRd := Lib.hid hr
  have hRX := Lib.hid hrx
  have hL := Lib.hid hl
  have hLX := Lib.hid hlx
  have hFX := Lib.hid hf
  obtain ⟨i0, hi, hz0, hz1, hz2⟩ := info_parts infoNode
  obtain ⟨i3, hi3, hy0, hy1, hy2⟩ := info_parts info3
  clear hl hok hr hrx hlx hf
  go_enter Try.func63, Try.ntmps63
  go_wp2_with fail
  -- BODY
  obtain ⟨h0, hh0⟩ : ∃ h0, w.heap.size + 1 + 1 + 1 = h0 := ⟨_, rfl⟩
  obtain ⟨bm, hbm⟩ : ∃ bm, w.heap.size + 1 + 1 + 1 + 1 = bm := ⟨_, rfl⟩
  obtain ⟨w3, hw3⟩ : ∃ w3, ((((w.alloc (.cells #[.slice A n c] 29)).alloc (.cells #[.int .i64 k, .int .i64 d, .slice As ms cs] 55)).alloc (.cells #[.slice none 0 0] 29)).alloc (.cells #[] 55)).alloc (.cells #[.slice (some ⟨w.heap.size + 1 + 1 + 1, 0, none⟩) 0 0] 29) = w3 := ⟨_, rfl⟩
  have x2 : Blk w3 w.heap.size 29 #[.slice A n c] := by rw [← hw3]; exact heap5_0 _ _ _ _ _ _
  have x3 : Blk w3 (w.heap.size + 1) 55 #[.int .i64 k, .int .i64 d, .slice As ms cs] := by rw [← hw3]; exact heap5_1 _ _ _ _ _ _
  have x4 : Blk w3 (w.heap.size + 1 + 1) 29 #[.slice none 0 0] := by rw [← hw3]; exact (Below.heap_alloc _ _ _ (by simp)).trans (heap4_2 _ _ _ _ _)
  have bb3 : Below w.heap.size w w3 := by rw [← hw3]; exact (((((Below.refl _ _).alloc (Nat.le_refl _) _).alloc (by simp) _).alloc (by simp; omega) _).alloc (by simp; omega) _).alloc (by simp; omega) _
  have hFs : Fs w3 (w.heap.size + 3) h0 bm (.slice (some ⟨h0, 0, none⟩) 0 0) [] w3 := by
    refine Fs.nil ?_ (by omega) ?_
    · rw [← hw3, ← hh0]; exact heap5_3 _ _ _ _ _ _
    · rw [← hw3, ← hbm, ← hh0]; exact heap5_4 _ _ _ _ _ _
  have l6 : h0 < bm := by omega
  have l5 : w.heap.size + 1 + 1 < h0 := by omega
  have l7 : bm < w3.heap.size := hFs.box.lt
  rw [hw3, hbm, hh0]
  have HFs := Lib.hid hFs
  have X2 := Lib.hid x2
  have X3 := Lib.hid x3
  have X4 := Lib.hid x4
  have BB3 := Lib.hid bb3
  have R3 := Lib.hid (hRd.out.below bb3)
  have RX3 := Lib.hid (hRX.out.below bb3)
  clear hw3 hbm hh0 hFs x2 x3 x4 bb3
  go_loopw [6] (fun i wr => ∃ (j : Nat) (Av : Option Addr) (cv : Nat), j ≤ n + 1 ∧ i = .int .i64 ((j : Int) - 1) ∧ Fs w3 (w.heap.size + 3) h0 bm (.slice Av j cv) ((aheadE p (k, d, xs)).take j) wr) (fun i _ => (n + 1 : Nat) - (intOf i + 1).toNat)
  case atStart => exact ⟨0, _, _, Nat.zero_le _, rfl, HFs.out⟩
  case round =>
    obtain ⟨j, Av, cv, hj, rfl, hG⟩ := hrel
    have G := Lib.hid hG
    have sz := hG.chg.size
    have zr : wr.cell? ⟨w.heap.size, 0, none⟩ = some (.slice A n c) := (X2.out.chg hG.chg (by omega)).cells 0
    have zm : wr.cell? ⟨bm, 0, none⟩ = some (.slice Av j cv) := hG.box.cells 0
    obtain ⟨y0, y1, y2⟩ : wr.cell? ⟨w.heap.size + 1, 0, none⟩ = some (.int .i64 k) ∧ wr.cell? ⟨w.heap.size + 1, 1, none⟩ = some (.int .i64 d) ∧ wr.cell? ⟨w.heap.size + 1, 2, none⟩ = some (.slice As ms cs) := ⟨(X3.out.chg hG.chg (by omega)).cells 0, (X3.out.chg hG.chg (by omega)).cells 1, (X3.out.chg hG.chg (by omega)).cells 2⟩
    have RR := Lib.hid (rdE_chg R3.out hG.chg (by omega) (fun b hb => by omega))
    have RXR := Lib.hid (rdI_chg RX3.out hG.chg (by omega) (fun b hb => by omega))
    clear hG
    by_cases hlt : j < n + 1
    · obtain ⟨⟨t0, t1, t2⟩, ht⟩ : ∃ t, ((k, d, xs) :: p)[j]? = some t := ⟨_, List.getElem?_eq_getElem (by rw [List.length_cons, hL.out]; exact hlt)⟩
      have HT := Lib.hid (ahead_at ht)
      have hql : ((aheadE p (k, d, xs)).take j).length = j := by rw [List.length_take, aheadE_length, hL.out, Nat.min_eq_left (by omega)]
      have HQL := Lib.hid hql
      clear hql
      rcases Nat.eq_zero_or_pos j with hj0 | hj0
      · subst hj0
        obtain ⟨rfl, rfl, rfl⟩ : k = t0 ∧ d = t1 ∧ xs = t2 := by simpa using ht
        rw [show ((0 : Nat) : Int) - 1 = -1 from rfl]
        have hm1 : (-1 : Int) < (n : Int) := by omega
        clear ht
        go_wp2_with fail
        obtain ⟨W, hW⟩ : ∃ W, (wr.alloc (.cells #[.int .i64 k, .int .i64 d, .slice As ms cs] 55)).alloc (.cells #[] 3) = W := ⟨_, rfl⟩
        obtain ⟨b7, hb7⟩ : ∃ b7, wr.heap.size = b7 := ⟨_, rfl⟩
        have bW : Below wr.heap.size wr W := by rw [← hW]; exact ((Below.refl _ _).alloc (Nat.le_refl _) _).alloc (by simp) _
        have xW : Blk W b7 55 #[.int .i64 k, .int .i64 d, .slice As xs.length cs] := by rw [← hW, ← hb7, hLX.out]; exact heap2_0 _ _ _
        have eW : W.heap[b7 + 1]? = some (.cells #[] 3) := by rw [← hW, ← hb7]; exact heap2_1 _ _ _
        have RW := Lib.hid (RXR.out.below (bW.mono (by omega)))
        have hbd : ∀ (q : Nat) (z : Int), xs[q]? = some z → -1 < z ∧ z < 9223372036854775806 := fun q z hz => by have := hFX.out q z hz; omega
        have ht12 : xs.length ≤ 12 := by rw [hLX.out]; exact hms
        rw [hW, hb7]
        clear hW y0 y1 y2 zr zm RR RXR
        have sW := bW.size
        have hgr : Grow W b7 (b7 + 1) (.slice (some ⟨b7 + 1, 0, none⟩) 0 0) ((xs.map nx).take 0) W := ⟨App.empty_own eW (by omega), fun b hb => .inl (by simpa [Value.ownBlock] using hb.symm), Chg.refl _ _⟩
        have HGR := Lib.hid hgr
        have HBD := Lib.hid hbd
        have BW := Lib.hid bW
        have XW := Lib.hid xW
        have lW := xW.lt
        obtain ⟨m, hm⟩ : ∃ m, xs.length = m := ⟨_, rfl⟩
        have HM := Lib.hid hm
        have lW2 : b7 + 1 < W.heap.size := (Array.getElem?_eq_some_iff.1 eW).1
        have XW' : Hid (Blk W b7 55 #[.int .i64 k, .int .i64 d, .slice As m cs]) := Lib.hid (by rw [← hm]; exact xW)
        rw [hm] at ht12
        rw [hb7] at sz BW
        have hb7' := Lib.hid hb7
        clear hgr hbd bW xW eW hm XW sW hb7
        obtain ⟨wo, rfl⟩ : ∃ wo, wo = wr := ⟨_, rfl⟩
        go_loopw [8, 9] (fun v i wi => ∃ (q : Nat) (Ag : Option Addr) (cg : Nat), q ≤ m ∧ i = .int .i64 q ∧ v = .slice Ag q cg ∧ Grow W b7 (b7 + 1) (.slice Ag q cg) ((xs.map nx).take q) wi) (fun _ i _ => m - (intOf i).toNat)
        case atStart => exact ⟨0, _, _, Nat.zero_le _, rfl, rfl, HGR.out⟩
        case round =>
          obtain ⟨q, Ag, cg, hq, rfl, rfl, hG2⟩ := hrel
          have GI := Lib.hid hG2
          have zb2 : wr.cell? ⟨b7, 2, none⟩ = some (.slice As m cs) := (XW'.out.chg hG2.chg (by omega)).cells 2
          have RI := Lib.hid (rdI_chg RW.out hG2.chg (by omega) (fun b hb => by omega))
          have b7i : wr.cell? ⟨b7, 0, none⟩ = some (.int .i64 k) := (XW'.out.chg hG2.chg (by omega)).cells 0
          have b7j : wr.cell? ⟨b7, 1, none⟩ = some (.int .i64 d) := (XW'.out.chg hG2.chg (by omega)).cells 1
          have hbi : Below wo.heap.size wo wr := by rw [hb7'.out]; exact BW.out.trans (hG2.chg.below (by omega) (fun b hb h => by omega))
          have zmi : wr.cell? ⟨bm, 0, none⟩ = some (.slice Av (0) cv) := (G.out.box.below hbi G.out.box.lt).cells 0
          have fmi : wr.frozen? ⟨bm, 0, none⟩ = false := (G.out.box.below hbi G.out.box.lt).frozen 0
          have HBI := Lib.hid hbi
          have swr := hG2.chg.size
          clear hG2 hbi
          by_cases hql : q < m
          · obtain ⟨z, hz⟩ : ∃ z, xs[q]? = some z := ⟨_, List.getElem?_eq_getElem (by rw [HM.out]; exact hql)⟩
            obtain ⟨az, haz, hab', d0⟩ := RI.out q z hz
            obtain ⟨hz1', hz2'⟩ := HBD.out q z hz
            have hN : (xs.map nx).take (q + 1) = (xs.map nx).take q ++ [z + 1] := by rw [List.take_add_one, List.getElem?_map, hz, Option.map_some, nx_small (by omega)]; rfl
            have HN := Lib.hid hN
            have hlq : ((xs.map nx).take q).length = q := by rw [List.length_take, List.length_map, HM.out, Nat.min_eq_left (by omega)]
            have hown : wr.ownsRow b7 3 1 (.slice Ag q cg) q (cellsI ((xs.map nx).take q)) := by have := GI.out.own; rwa [hlq] at this
            have HOW := Lib.hid hown
            have HLQ := Lib.hid hlq
            have HAZ := Lib.hid haz
            rw [haz] at zb2
            clear hz hN hown hlq haz
            go_wp2_with (at_builtin; refine App.row_list _ rfl (.tmp 35) (.tmp 42) 33 rfl b7 0 3 i3 _ 1 8 Try.underlying33 hi3 hy0 hy1 hy2 rfl (by decide) (.slice Ag q cg) q (cellsI ((xs.map nx).take q)) rfl (own_alloc HOW.out _) (.slice (some ⟨wr.heap.size, 0, none⟩) 1 1) 1 [.int .i64 (z + 1)] rfl (App.one_own (heap1_0 wr _)) (by intro u hu; simp at hu; rw [hu]; rfl) (by unfold maxLen; omega) (by omega) (by simp; omega) ?_)
            intro v1 w5 o1 g1 t1
            have hp := GI.out.push (z := z + 1) (v' := v1) (w' := w5) (.cells #[.int .i64 (z + 1)] 3) rfl (by rw [HLQ.out]; exact o1) g1 (by simpa using t1)
            rw [← HN.out] at hp
            have HP := Lib.hid hp
            obtain ⟨A1, c1', rfl⟩ := own_slice o1
            clear o1 g1 t1 hp
            go_wp2_with fail
            go_roundw
            case rel => exact ⟨q + 1, _, _, by omega, by go_num, rfl, HP.out⟩
            case measure => simp [intOf]; omega
          · obtain rfl : q = m := by omega
            have hfull : (xs.map nx).take q = xs.map nx := List.take_of_length_le (by rw [List.length_map, HM.out]; exact Nat.le_refl _)
            have hlq : (xs.map nx).length = q := by rw [List.length_map, HM.out]
            have hown : wr.ownsRow b7 3 1 (.slice Ag q cg) q (cellsI (xs.map nx)) := by have := GI.out.own; rwa [hfull, hlq] at this
            obtain ⟨vals, v1, v2, v3, v4⟩ := G.out.own
            rw [HQL.out] at v2
            have OR := Lib.hid (own_alloc (own_below v2 HBI.out (Nat.le_refl _)) (.cells #[.int .i64 k, .int .i64 d, .slice Ag q cg] 55))
            have OP := Lib.hid (own_alloc hown (.cells #[.int .i64 k, .int .i64 d, .slice Ag q cg] 55))
            have HOW := Lib.hid hown
            have HV2 := Lib.hid v2
            have HV := Lib.hid (And.intro v1 (And.intro v3 v4))
            have hone : ∀ u ∈ ([.int .i64 k, .int .i64 d, .slice Ag q cg] : List Value), u.oneCell' = true := by intro u hu; simp at hu; rcases hu with rfl | rfl | rfl <;> rfl
            have hszr : w.heap.size + 3 ≤ (wr.alloc (.cells #[.int .i64 k, .int .i64 d, .slice Ag q cg] 55)).heap.size := by simp; omega
            clear hown v1 v2 v3 v4 hfull
            go_wp2_with (at_builtin; refine App.row_list _ rfl (.tmp 45) (.tmp 52) 27 rfl (w.heap.size + 3) 0 55 i0 _ 3 40 Try.underlying27 hi hz0 hz1 hz2 rfl (by decide) (.slice Av (0) cv) (0) (cellsN vals) rfl OR.out (.slice (some ⟨wr.heap.size, 0, none⟩) 1 1) 1 [.int .i64 k, .int .i64 d, .slice Ag q cg] rfl (node_own (heap1_0 wr _)) hone (by unfold maxLen; omega) (by omega) hszr ?_)
            intro v2 w6 o6 g6 t6
            obtain ⟨A6, c6, rfl⟩ := own_slice o6
            have c56 : Chg (fun b => (Value.slice Av (0) cv).ownBlock = some b) wo w6 := ((Chg.of_below (C := fun b => (Value.slice Av (0) cv).ownBlock = some b) HBI.out).new _).trans (App.Chg.of_grown' (C := fun b => (Value.slice Av (0) cv).ownBlock = some b) g6 (fun k hk => hk)) (fun _ _ h => h)
            have u6 : w6.ownsRow (w.heap.size + 3) 3 1 (.slice Ag q cg) q (cellsI (xs.map nx)) := own_mono (own_chg OP.out (App.Chg.of_grown' (C := fun b => (Value.slice Av (0) cv).ownBlock = some b) g6 (fun k hk => hk)) (fun k hk hk2 => App.own_ne OR.out OP.out (by decide) hk2 hk)) (by omega)
            have FP := Fs.push (s := nodeF nx (k, d, xs)) (u := .slice Ag q cg) (v2 := .slice A6 (0 + 1) c6) G.out HV.out.1 (by rw [HQL.out]; exact HV2.out) HV.out.2.1 HV.out.2.2 c56 (by
                rcases t6 with t6 | t6
                · exact .inl t6
                · exact .inr ⟨_, t6, by have := HBI.out.size; simp; omega⟩) l7 (by rw [HQL.out, cellsN_append]; exact o6) (by simp only [nodeF, hlq]; exact u6) (fun b hb => by rw [hb7'.out]; exact (HOW.out.lt b hb).1)
            rw [← HT.out] at FP
            have bx6 := G.out.box.chg c56 (fun h => by
              obtain ⟨vals', _, hvo, _, _⟩ := G.out.own
              exact App.own_blk_ne hvo G.out.box (by decide) h)
            have zm6 : w6.cell? ⟨bm, 0, none⟩ = some (.slice Av (0) cv) := bx6.cells 0
            have fm6 : w6.frozen? ⟨bm, 0, none⟩ = false := bx6.frozen 0
            have HFP := Lib.hid FP
            clear o6 g6 t6 c56 u6 FP bx6 OP OR hone HV HV2 HBI hlq
            go_wp2_with fail
            go_roundw
            case rel => exact ⟨0 + 1, A6, c6, by omega, by first | go_num | (congr 1; omega), HFP.out⟩
            case measure => first | (simp [intOf]; done) | (simp [intOf]; omega)
      · obtain ⟨j', rfl⟩ : ∃ j', j = j' + 1 := ⟨j - 1, by omega⟩
        have hs : p[j']? = some (t0, t1, t2) := by simpa using ht
        obtain ⟨ad, Ai, ci, rfl, hab, c0, c1, c2, c3⟩ := RR.out j' _ hs
        have HS := Lib.hid hs
        have C3 := Lib.hid c3
        dsimp only at c0 c1 c2
        rw [show ((j' + 1 : Nat) : Int) - 1 = j' by omega]
        clear ht hs c3
        have k0 : ∀ o, (wr.alloc o).cell? (ad.add (j' * 3)) = some (.int .i64 t0) := fun o => (World.cell?_alloc_lt wr o (ad.add (j' * 3)) (by rw [block_of_add]; omega)).trans c0
        have k1 : ∀ o, (wr.alloc o).cell? ⟨(ad.add (j' * 3)).block, (ad.add (j' * 3)).off + 1, none⟩ = some (.int .i64 t1) := fun o => (World.cell?_alloc_lt wr o _ (by show (ad.add (j' * 3)).block < _; rw [block_of_add]; omega)).trans c1
        have k2 : ∀ o, (wr.alloc o).cell? ⟨(ad.add (j' * 3)).block, (ad.add (j' * 3)).off + 2, none⟩ = some (.slice Ai t2.length ci) := fun o => (World.cell?_alloc_lt wr o _ (by show (ad.add (j' * 3)).block < _; rw [block_of_add]; omega)).trans c2
        have zr1 : ∀ o, (wr.alloc o).cell? ⟨w.heap.size, 0, none⟩ = some (.slice (some ad) n c) := fun o => (World.cell?_alloc_lt wr o ⟨w.heap.size, 0, none⟩ (by show w.heap.size < _; omega)).trans zr
        go_wp2_with fail
        obtain ⟨W, hW⟩ : ∃ W, (wr.alloc (.cells #[.int .i64 t0, .int .i64 t1, .slice Ai t2.length ci] 55)).alloc (.cells #[] 3) = W := ⟨_, rfl⟩
        obtain ⟨b7, hb7⟩ : ∃ b7, wr.heap.size = b7 := ⟨_, rfl⟩
        have bW : Below wr.heap.size wr W := by rw [← hW]; exact ((Below.refl _ _).alloc (Nat.le_refl _) _).alloc (by simp) _
        have xW : Blk W b7 55 #[.int .i64 t0, .int .i64 t1, .slice Ai t2.length ci] := by rw [← hW, ← hb7]; exact heap2_0 _ _ _
        have eW : W.heap[b7 + 1]? = some (.cells #[] 3) := by rw [← hW, ← hb7]; exact heap2_1 _ _ _
        have RW := Lib.hid (C3.out.below (bW.mono (by omega)))
        have hbd : ∀ (q : Nat) (z : Int), t2[q]? = some z → -1 < z ∧ z < 9223372036854775806 := fun q z hz => by
          obtain ⟨zq, rfl, h1, h2⟩ := ok_part (s := (t0, t1, t2)) HOK.out HS.out hz
          rw [hL.out] at h2
          omega
        have ht12 : t2.length ≤ 12 := ok_many HOK.out HS.out
        rw [hW, hb7]
        clear hW y0 y1 y2 zr zm RR RXR c0 c1 c2 k0 k1 k2 zr1 C3
        have sW := bW.size
        have hgr : Grow W b7 (b7 + 1) (.slice (some ⟨b7 + 1, 0, none⟩) 0 0) ((t2.map nx).take 0) W := ⟨App.empty_own eW (by omega), fun b hb => .inl (by simpa [Value.ownBlock] using hb.symm), Chg.refl _ _⟩
        have HGR := Lib.hid hgr
        have HBD := Lib.hid hbd
        have BW := Lib.hid bW
        have XW := Lib.hid xW
        have lW := xW.lt
        obtain ⟨m, hm⟩ : ∃ m, t2.length = m := ⟨_, rfl⟩
        have HM := Lib.hid hm
        have lW2 : b7 + 1 < W.heap.size := (Array.getElem?_eq_some_iff.1 eW).1
        have XW' : Hid (Blk W b7 55 #[.int .i64 t0, .int .i64 t1, .slice Ai m ci]) := Lib.hid (by rw [← hm]; exact xW)
        rw [hm] at ht12
        rw [hb7] at sz BW
        have hb7' := Lib.hid hb7
        clear hgr hbd bW xW eW hm XW sW hb7
        obtain ⟨wo, rfl⟩ : ∃ wo, wo = wr := ⟨_, rfl⟩
        go_loopw [8, 9] (fun v i wi => ∃ (q : Nat) (Ag : Option Addr) (cg : Nat), q ≤ m ∧ i = .int .i64 q ∧ v = .slice Ag q cg ∧ Grow W b7 (b7 + 1) (.slice Ag q cg) ((t2.map nx).take q) wi) (fun _ i _ => m - (intOf i).toNat)
        case atStart => exact ⟨0, _, _, Nat.zero_le _, rfl, rfl, HGR.out⟩
        case round =>
          obtain ⟨q, Ag, cg, hq, rfl, rfl, hG2⟩ := hrel
          have GI := Lib.hid hG2
          have zb2 : wr.cell? ⟨b7, 2, none⟩ = some (.slice Ai m ci) := (XW'.out.chg hG2.chg (by omega)).cells 2
          have RI := Lib.hid (rdI_chg RW.out hG2.chg (by omega) (fun b hb => by omega))
          have b7i : wr.cell? ⟨b7, 0, none⟩ = some (.int .i64 t0) := (XW'.out.chg hG2.chg (by omega)).cells 0
          have b7j : wr.cell? ⟨b7, 1, none⟩ = some (.int .i64 t1) := (XW'.out.chg hG2.chg (by omega)).cells 1
          have hbi : Below wo.heap.size wo wr := by rw [hb7'.out]; exact BW.out.trans (hG2.chg.below (by omega) (fun b hb h => by omega))
          have zmi : wr.cell? ⟨bm, 0, none⟩ = some (.slice Av (j' + 1) cv) := (G.out.box.below hbi G.out.box.lt).cells 0
          have fmi : wr.frozen? ⟨bm, 0, none⟩ = false := (G.out.box.below hbi G.out.box.lt).frozen 0
          have HBI := Lib.hid hbi
          have swr := hG2.chg.size
          clear hG2 hbi
          by_cases hql : q < m
          · obtain ⟨z, hz⟩ : ∃ z, t2[q]? = some z := ⟨_, List.getElem?_eq_getElem (by rw [HM.out]; exact hql)⟩
            obtain ⟨az, haz, hab', d0⟩ := RI.out q z hz
            obtain ⟨hz1', hz2'⟩ := HBD.out q z hz
            have hN : (t2.map nx).take (q + 1) = (t2.map nx).take q ++ [z + 1] := by rw [List.take_add_one, List.getElem?_map, hz, Option.map_some, nx_small (by omega)]; rfl
            have HN := Lib.hid hN
            have hlq : ((t2.map nx).take q).length = q := by rw [List.length_take, List.length_map, HM.out, Nat.min_eq_left (by omega)]
            have hown : wr.ownsRow b7 3 1 (.slice Ag q cg) q (cellsI ((t2.map nx).take q)) := by have := GI.out.own; rwa [hlq] at this
            have HOW := Lib.hid hown
            have HLQ := Lib.hid hlq
            have HAZ := Lib.hid haz
            rw [haz] at zb2
            clear hz hN hown hlq haz
            go_wp2_with (at_builtin; refine App.row_list _ rfl (.tmp 35) (.tmp 42) 33 rfl b7 0 3 i3 _ 1 8 Try.underlying33 hi3 hy0 hy1 hy2 rfl (by decide) (.slice Ag q cg) q (cellsI ((t2.map nx).take q)) rfl (own_alloc HOW.out _) (.slice (some ⟨wr.heap.size, 0, none⟩) 1 1) 1 [.int .i64 (z + 1)] rfl (App.one_own (heap1_0 wr _)) (by intro u hu; simp at hu; rw [hu]; rfl) (by unfold maxLen; omega) (by omega) (by simp; omega) ?_)
            intro v1 w5 o1 g1 t1
            have hp := GI.out.push (z := z + 1) (v' := v1) (w' := w5) (.cells #[.int .i64 (z + 1)] 3) rfl (by rw [HLQ.out]; exact o1) g1 (by simpa using t1)
            rw [← HN.out] at hp
            have HP := Lib.hid hp
            obtain ⟨A1, c1', rfl⟩ := own_slice o1
            clear o1 g1 t1 hp
            go_wp2_with fail
            go_roundw
            case rel => exact ⟨q + 1, _, _, by omega, by go_num, rfl, HP.out⟩
            case measure => simp [intOf]; omega
          · obtain rfl : q = m := by omega
            have hfull : (t2.map nx).take q = t2.map nx := List.take_of_length_le (by rw [List.length_map, HM.out]; exact Nat.le_refl _)
            have hlq : (t2.map nx).length = q := by rw [List.length_map, HM.out]
            have hown : wr.ownsRow b7 3 1 (.slice Ag q cg) q (cellsI (t2.map nx)) := by have := GI.out.own; rwa [hfull, hlq] at this
            obtain ⟨vals, v1, v2, v3, v4⟩ := G.out.own
            rw [HQL.out] at v2
            have OR := Lib.hid (own_alloc (own_below v2 HBI.out (Nat.le_refl _)) (.cells #[.int .i64 t0, .int .i64 t1, .slice Ag q cg] 55))
            have OP := Lib.hid (own_alloc hown (.cells #[.int .i64 t0, .int .i64 t1, .slice Ag q cg] 55))
            have HOW := Lib.hid hown
            have HV2 := Lib.hid v2
            have HV := Lib.hid (And.intro v1 (And.intro v3 v4))
            have hone : ∀ u ∈ ([.int .i64 t0, .int .i64 t1, .slice Ag q cg] : List Value), u.oneCell' = true := by intro u hu; simp at hu; rcases hu with rfl | rfl | rfl <;> rfl
            have hszr : w.heap.size + 3 ≤ (wr.alloc (.cells #[.int .i64 t0, .int .i64 t1, .slice Ag q cg] 55)).heap.size := by simp; omega
            clear hown v1 v2 v3 v4 hfull
            go_wp2_with (at_builtin; refine App.row_list _ rfl (.tmp 45) (.tmp 52) 27 rfl (w.heap.size + 3) 0 55 i0 _ 3 40 Try.underlying27 hi hz0 hz1 hz2 rfl (by decide) (.slice Av (j' + 1) cv) (j' + 1) (cellsN vals) rfl OR.out (.slice (some ⟨wr.heap.size, 0, none⟩) 1 1) 1 [.int .i64 t0, .int .i64 t1, .slice Ag q cg] rfl (node_own (heap1_0 wr _)) hone (by unfold maxLen; omega) (by omega) hszr ?_)
            intro v2 w6 o6 g6 t6
            obtain ⟨A6, c6, rfl⟩ := own_slice o6
            have c56 : Chg (fun b => (Value.slice Av (j' + 1) cv).ownBlock = some b) wo w6 := ((Chg.of_below (C := fun b => (Value.slice Av (j' + 1) cv).ownBlock = some b) HBI.out).new _).trans (App.Chg.of_grown' (C := fun b => (Value.slice Av (j' + 1) cv).ownBlock = some b) g6 (fun k hk => hk)) (fun _ _ h => h)
            have u6 : w6.ownsRow (w.heap.size + 3) 3 1 (.slice Ag q cg) q (cellsI (t2.map nx)) := own_mono (own_chg OP.out (App.Chg.of_grown' (C := fun b => (Value.slice Av (j' + 1) cv).ownBlock = some b) g6 (fun k hk => hk)) (fun k hk hk2 => App.own_ne OR.out OP.out (by decide) hk2 hk)) (by omega)
            have FP := Fs.push (s := nodeF nx (t0, t1, t2)) (u := .slice Ag q cg) (v2 := .slice A6 (j' + 1 + 1) c6) G.out HV.out.1 (by rw [HQL.out]; exact HV2.out) HV.out.2.1 HV.out.2.2 c56 (by
                rcases t6 with t6 | t6
                · exact .inl t6
                · exact .inr ⟨_, t6, by have := HBI.out.size; simp; omega⟩) l7 (by rw [HQL.out, cellsN_append]; exact o6) (by simp only [nodeF, hlq]; exact u6) (fun b hb => by rw [hb7'.out]; exact (HOW.out.lt b hb).1)
            rw [← HT.out] at FP
            have bx6 := G.out.box.chg c56 (fun h => by
              obtain ⟨vals', _, hvo, _, _⟩ := G.out.own
              exact App.own_blk_ne hvo G.out.box (by decide) h)
            have zm6 : w6.cell? ⟨bm, 0, none⟩ = some (.slice Av (j' + 1) cv) := bx6.cells 0
            have fm6 : w6.frozen? ⟨bm, 0, none⟩ = false := bx6.frozen 0
            have HFP := Lib.hid FP
            clear o6 g6 t6 c56 u6 FP bx6 OP OR hone HV HV2 HBI hlq
            go_wp2_with fail
            go_roundw
            case rel => exact ⟨j' + 1 + 1, A6, c6, by omega, by first | go_num | (congr 1; omega), HFP.out⟩
            case measure => first | (simp [intOf]; done) | (simp [intOf]; omega)
    · obtain rfl : j = n + 1 := by omega
      rw [show ((n + 1 : Nat) : Int) - 1 = n by omega]
      have hE : (aheadE p (k, d, xs)).take (n + 1) = aheadE p (k, d, xs) := List.take_of_length_le (by rw [aheadE_length, hL.out]; exact Nat.le_refl _)
      rw [hE] at G
      have y4 : wr.cell? ⟨w.heap.size + 1 + 1, 0, none⟩ = some (.slice none 0 0) := (X4.out.chg G.out.chg (by omega)).cells 0
      have f4 : wr.frozen? ⟨w.heap.size + 1 + 1, 0, none⟩ = false := (X4.out.chg G.out.chg (by omega)).frozen 0
      have bb5 := Lib.hid (BB3.out.trans (G.out.chg.below BB3.out.size (fun b hb h => by omega)))
      clear hE y0 y1 y2 RR RXR
      go_wp2_with fail
      refine bodyPost_ret (v := .agg #[.slice Av (n + 1) cv]) (by simp [results, Try.results63, go_sem, y4]) rfl ?_
      exact ⟨Av, cv, rfl, G.out.own.chg (Chg.set _ ⟨w.heap.size + 1 + 1, 0, none⟩ _) (fun b hb _ => by show ¬ b = w.heap.size + 1 + 1; omega), bb5.out.setCell (p := ⟨w.heap.size + 1 + 1, 0, none⟩) (by show w.heap.size ≤ w.heap.size + 1 + 1; omega) _⟩
end Go.Proofs.Ytkjgibhckcdneaa.ErF
