/- The model's l4Trace. (Written by wip/tools/genpt.py.) -/
import Derived.Test.YtgcjlkdahlfjlaaM22
set_option linter.unusedVariables false
set_option linter.unusedSimpArgs false
namespace Go.Proofs.Ytgcjlkdahlfjlaa.Pt
open Go.ChangeShapes Go.WideShapes Go.ChangeAt Go.RowKit
open PL Mem Srun Sst IntsP RowA Swhole PMem Psf Pw Px Py Pr Pz

theorem mine_apart {V : World} {lo g : Nat} {h0 h1 h2 h3 h4 h5 h6 : Hd} {s : MS} {cs : Array Value} (h : W4 V lo h0 h1 h2 h3 h4 h5 h6 s) (hg : Blk V g 61 cs) : ¬ Mine h0 h1 h2 h3 h4 h5 h6 g := by
 obtain ⟨vals, hv, _⟩ := h.unw
 rintro (e | e | e | e | e | e | e)
 ·exact blk_apart h.calls hg (by decide) ((slice_own _ _ _ _ _).trans e)
 ·exact blk_apart h.pan hg (by decide) ((slice_own _ _ _ _ _).trans e)
 ·exact blk_apart h.dep hg (by decide) ((slice_own _ _ _ _ _).trans e)
 ·exact blk_apart hv hg (by decide) ((slice_own _ _ _ _ _).trans e)
 ·exact blk_apart h.rcv hg (by decide) ((slice_own _ _ _ _ _).trans e)
 ·exact blk_apart h.rep hg (by decide) ((slice_own _ _ _ _ _).trans e)
 ·exact blk_apart h.bef hg (by decide) ((slice_own _ _ _ _ _).trans e)
theorem mine_low {V : World} {lo x : Nat} {h0 h1 h2 h3 h4 h5 h6 : Hd} {s : MS} (h : W4 V lo h0 h1 h2 h3 h4 h5 h6 s) (hx : Mine h0 h1 h2 h3 h4 h5 h6 x) : lo ≤ x := by
 obtain ⟨vals, hv, _⟩ := h.unw
 rcases hx with e | e | e | e | e | e | e
 ·exact (World.ownsRow.lt h.calls x ((slice_own _ _ _ _ _).trans e)).1
 ·exact (World.ownsRow.lt h.pan x ((slice_own _ _ _ _ _).trans e)).1
 ·exact (World.ownsRow.lt h.dep x ((slice_own _ _ _ _ _).trans e)).1
 ·exact (World.ownsRow.lt hv x ((slice_own _ _ _ _ _).trans e)).1
 ·exact (World.ownsRow.lt h.rcv x ((slice_own _ _ _ _ _).trans e)).1
 ·exact (World.ownsRow.lt h.rep x ((slice_own _ _ _ _ _).trans e)).1
 ·exact (World.ownsRow.lt h.bef x ((slice_own _ _ _ _ _).trans e)).1
theorem st_put {w V U : World} {b3 : Nat} {h0 h1 h2 h3 h4 h5 h6 k0 k1 k2 k3 k4 k5 k6 : Hd} {s s' : MS} (hS : St4 (fun _ => False) w w.heap.size b3 w.heap.size h0 h1 h2 h3 h4 h5 h6 s V) (hb : w.heap.size < b3) (hch : Chg (Mine h0 h1 h2 h3 h4 h5 h6) V U) (hW : W4 U w.heap.size k0 k1 k2 k3 k4 k5 k6 s') :
  St4 (fun _ => False) w w.heap.size b3 w.heap.size k0 k1 k2 k3 k4 k5 k6 s' (((((((U.setCell ⟨b3, 0, none⟩ (.slice k0.A s'.stk.length k0.c)).setCell ⟨b3, 1, none⟩ (.slice k1.A s'.pan.length k1.c)).setCell ⟨b3, 2, none⟩ (.slice k2.A s'.pan.length k2.c)).setCell ⟨b3, 3, none⟩ (.slice k3.A s'.pan.length k3.c)).setCell ⟨b3, 4, none⟩ (.slice k4.A s'.rcv.length k4.c)).setCell ⟨b3, 5, none⟩ (.slice k5.A s'.pan.length k5.c)).setCell ⟨b3, 6, none⟩ (.slice k6.A s'.pan.length k6.c)) := by
 have hB := hS.b0.chg hch (mine_apart hS.w4 hS.b0)
 exact ⟨Blk.all7 hB rfl, far7 (hS.bz.chg hch (mine_apart hS.w4 hS.bz)) (by omega), hW.set7 hB, chg7 (hS.chg.trans hch (fun x hx e => by have := mine_low hS.w4 e; omega)) (Nat.le_of_lt hb)⟩
theorem empty_at {V : World} {e size base g : Nat} (hg : V.heap.size = g) (hb : base ≤ g) : (V.alloc (.cells #[] e)).ownsRow base e size (.slice (some ⟨g, 0, none⟩) 0 0) 0 [] := by subst hg; exact App.empty_own (heap1_0 V _) hb
theorem apt_blk {a b n c n' c' : Nat} (h : a ≠ b) : Apt (.slice (some ⟨a, 0, none⟩) n c) (.slice (some ⟨b, 0, none⟩) n' c') := fun k hk hk' => by
 obtain rfl : a = k := by simpa [Value.ownBlock] using hk
 obtain rfl : b = a := by simpa [Value.ownBlock] using hk'
 exact h rfl
def rd0 (w : World) : World := ((((((w.alloc (.cells z7 61)).alloc (.cells #[] 79)).alloc (.cells #[] 3)).alloc (.cells #[] 38)).alloc (.cells #[] 94)).alloc (.cells #[] 3)).alloc (.cells #[] 3)
theorem rd0_w4 (w : World) : W4 (rd0 w) w.heap.size ⟨none, 0⟩ ⟨some ⟨w.heap.size + 1, 0, none⟩, 0⟩ ⟨some ⟨w.heap.size + 2, 0, none⟩, 0⟩ ⟨some ⟨w.heap.size + 3, 0, none⟩, 0⟩ ⟨some ⟨w.heap.size + 4, 0, none⟩, 0⟩ ⟨some ⟨w.heap.size + 5, 0, none⟩, 0⟩ ⟨some ⟨w.heap.size + 6, 0, none⟩, 0⟩ ms0 := by
 unfold rd0
 refine ⟨⟨rfl, .inl ⟨rfl, rfl⟩⟩, ?_, ?_, ?_, ?_, ?_, ⟨[], ?_, fun i xs hx => by cases i <;> cases hx⟩, apt_blk (by omega), apt_blk (by omega), apt_blk (by omega)⟩
 ·exact World.ownsRow.alloc (World.ownsRow.alloc (World.ownsRow.alloc (World.ownsRow.alloc (World.ownsRow.alloc (empty_at (by simp) (by omega)) _) _) _) _) _
 ·exact World.ownsRow.alloc (World.ownsRow.alloc (World.ownsRow.alloc (World.ownsRow.alloc (empty_at (by simp) (by omega)) _) _) _) _
 ·exact World.ownsRow.alloc (World.ownsRow.alloc (empty_at (by simp) (by omega)) _) _
 ·exact World.ownsRow.alloc (empty_at (by simp) (by omega)) _
 ·exact empty_at (by simp) (by omega)
 ·exact World.ownsRow.alloc (World.ownsRow.alloc (World.ownsRow.alloc (empty_at (by simp) (by omega)) _) _) _
theorem rd0_size (w : World) : (rd0 w).heap.size = w.heap.size + 7 := by unfold rd0; simp
theorem rd0_below (w : World) : Below w.heap.size w (rd0 w) := by
 unfold rd0
 refine Below.alloc (Below.alloc (Below.alloc (Below.alloc (Below.alloc (Below.alloc (Below.alloc (Below.refl _ _) ?_ _) ?_ _) ?_ _) ?_ _) ?_ _) ?_ _) ?_ _ <;> simp <;> omega
theorem rd0_bz (w : World) : Blk (rd0 w) w.heap.size 61 z7 := by
 unfold rd0
 have h : Blk (w.alloc (.cells z7 61)) w.heap.size 61 z7 := heap1_0 w _
 have s : ∀ (V : World) (o : Obj), Blk V w.heap.size 61 z7 → Blk (V.alloc o) w.heap.size 61 z7 := fun V o hV => hV.below (B := V.heap.size) ((Below.refl _ _).alloc (Nat.le_refl _) _) hV.lt
 exact s _ _ (s _ _ (s _ _ (s _ _ (s _ _ (s _ _ h)))))
theorem rd0_st (w : World) (cs : Array Value) (hu : cs = recV ⟨none, 0⟩ ⟨some ⟨w.heap.size + 1, 0, none⟩, 0⟩ ⟨some ⟨w.heap.size + 2, 0, none⟩, 0⟩ ⟨some ⟨w.heap.size + 3, 0, none⟩, 0⟩ ⟨some ⟨w.heap.size + 4, 0, none⟩, 0⟩ ⟨some ⟨w.heap.size + 5, 0, none⟩, 0⟩ ⟨some ⟨w.heap.size + 6, 0, none⟩, 0⟩ ms0) :
  St4 (fun _ => False) w w.heap.size (w.heap.size + 7) w.heap.size ⟨none, 0⟩ ⟨some ⟨w.heap.size + 1, 0, none⟩, 0⟩ ⟨some ⟨w.heap.size + 2, 0, none⟩, 0⟩ ⟨some ⟨w.heap.size + 3, 0, none⟩, 0⟩ ⟨some ⟨w.heap.size + 4, 0, none⟩, 0⟩ ⟨some ⟨w.heap.size + 5, 0, none⟩, 0⟩ ⟨some ⟨w.heap.size + 6, 0, none⟩, 0⟩ ms0 ((rd0 w).alloc (.cells cs 61)) := by
 have hb : Blk ((rd0 w).alloc (.cells cs 61)) (w.heap.size + 7) 61 cs := by have := heap1_0 (rd0 w) (.cells cs 61); rw [rd0_size] at this; exact this
 have ba : Below (rd0 w).heap.size (rd0 w) ((rd0 w).alloc (.cells cs 61)) := (Below.refl _ _).alloc (Nat.le_refl _) _
 refine ⟨hu ▸ hb, (rd0_bz w).below ba (rd0_bz w).lt, (rd0_w4 w).below ba, ?_⟩
 exact (Chg.of_below (rd0_below w)).trans (Chg.of_below (C := fun _ => False) ba) (fun _ _ f => f)
theorem d2_snoc (O : List Ent) (no : Nat) (dv : Bool) : cellsD (callsOf (⟨no, dv, none⟩ :: O)) = cellsD (callsOf O) ++ [.bool dv, .int .i64 (-1)] := by
 rw [callsOf_cons, cellsD_append]
 rfl
theorem beg_fin {w Y W : World} {b3 next : Nat} {h0 h1 h2 h3 h4 h5 h6 : Hd} {stk : List Ent} {pan : List PF} {rcv : List (Int × Int)} {dv : Bool} {A : Option Addr} {c : Nat} (hS : St4 (fun _ => False) w w.heap.size b3 w.heap.size h0 h1 h2 h3 h4 h5 h6 ⟨stk, next, pan, rcv⟩ Y) (hb : w.heap.size < b3) (hB : Below Y.heap.size Y W) (ho : W.ownsRow Y.heap.size 157 2 (.slice A (stk.length + 1) c) (stk.length + 1) (cellsD (callsOf stk) ++ [.bool dv, .int .i64 (-1)])) :
  St4 (fun _ => False) w w.heap.size b3 w.heap.size ⟨A, c⟩ h1 h2 h3 h4 h5 h6 ⟨⟨next, dv, none⟩ :: stk, next + 1, pan, rcv⟩ (W.setCell ⟨b3, 0, none⟩ (.slice A (stk.length + 1) c)) := by
 have s1 := hS.below hB
 have hlo : w.heap.size ≤ Y.heap.size := Nat.le_trans (Nat.le_of_lt hb) (Nat.le_of_lt hS.b0.lt)
 have hw := s1.w4.stk (h0' := ⟨A, c⟩) (Below.refl _ _) (⟨next, dv, none⟩ :: stk) (by rw [d2_snoc]; exact own_mono ho hlo)
 have hw' : W4 W w.heap.size ⟨A, c⟩ h1 h2 h3 h4 h5 h6 ⟨⟨next, dv, none⟩ :: stk, next + 1, pan, rcv⟩ := ⟨hw.calls, hw.pan, hw.dep, hw.rcv, hw.rep, hw.bef, hw.unw, hw.a25, hw.a26, hw.a56⟩
 refine ⟨?_, s1.bz.far _ _ (by show w.heap.size ≠ b3; omega), hw'.set s1.b0 0 _, s1.chg.put _ _ (.inl (Nat.le_of_lt hb))⟩
 have := s1.b0.put 0 (.slice A (stk.length + 1) c)
 simp only [Last2.s] at this
 exact this
theorem ret_fin {w Y : World} {b3 next g c0 : Nat} {h1 h2 h3 h4 h5 h6 : Hd} {a : Ent} {O : List Ent} {pan : List PF} {rcv : List (Int × Int)} (hS : St4 (fun _ => False) w w.heap.size b3 w.heap.size ⟨some ⟨g, 0, none⟩, c0⟩ h1 h2 h3 h4 h5 h6 ⟨a :: O, next, pan, rcv⟩ Y) (hb : w.heap.size < b3) :
  St4 (fun _ => False) w w.heap.size b3 w.heap.size ⟨some ⟨g, 0, none⟩, c0⟩ h1 h2 h3 h4 h5 h6 ⟨O, next, pan, rcv⟩ (Y.setCell ⟨b3, 0, none⟩ (.slice (some ⟨g, 0, none⟩) O.length c0)) := by
 refine ⟨?_, hS.bz.far _ _ (by show w.heap.size ≠ b3; omega), (hS.w4.set hS.b0 0 _).stk (h0' := ⟨some ⟨g, 0, none⟩, c0⟩) (Below.refl _ _) O (stk_pop rfl (hS.w4.set hS.b0 0 _).calls), hS.chg.put _ _ (.inl (Nat.le_of_lt hb))⟩
 have := hS.b0.put 0 (.slice (some ⟨g, 0, none⟩) O.length c0)
 simpa only [Last2.s] using this
set_option maxRecDepth 100000 in
set_option maxHeartbeats 1600000 in
theorem l4Trace_any (B N c : Nat) (A : Option Addr) (t : List Tr) (hN : t.length = N) (hlen : N ≤ 100000) (hpd : (pds t).2 = true) (w : World) (hr : Rd3 w B A t) (hB : B ≤ w.heap.size) :
  Calls Try.prog 85 #[.slice A N c] w fun e w' => ∃ h0 h1 h2 h3 h4 h5 h6, e = .returned (.agg (recV h0 h1 h2 h3 h4 h5 h6 (mds t))) ∧ W4 w' w.heap.size h0 h1 h2 h3 h4 h5 h6 (mds t) ∧ Below w.heap.size w w' := by
 obtain ⟨i0, hi, hz0, hz1, hz2⟩ := info_parts infoD
 have hR := Lib.hid hr
 have HN := Lib.hid hN
 have HMD := Lib.hid (fun (j : Nat) (e : Tr) (h : t[j]? = some e) => mds_take h)
 have HIO := Lib.hid (fun (j : Nat) (e : Tr) (h : t[j]? = some e) => mds_ord hpd h)
 have HVL := Lib.hid (fun (j : Nat) (h : j ≤ t.length) => mds_val hpd j h)
 have HLN := Lib.hid (fun (j : Nat) (h : j ≤ t.length) => mds_lens hpd j h)
 have HFULL := Lib.hid (show mds (t.take N) = mds t by rw [← hN, List.take_length])
 clear hr hN hpd
 go_enter Try.func85, Try.ntmps85
 go_upto_region 2 with fail
 change (fun V => Code.wp _ _ _ _ V) _
 refine gen_world (X := fun V => ∃ h0 h1 h2 h3 h4 h5 h6, St4 (fun _ => False) w w.heap.size (w.heap.size + 7) w.heap.size h0 h1 h2 h3 h4 h5 h6 ms0 V) ⟨_, _, _, _, _, _, _, rd0_st w _ rfl⟩ ?_
 rintro V1 hV1
 have hb3 : w.heap.size < w.heap.size + 7 := by omega
 try simp only [Nat.add_assoc, Nat.reduceAdd]
 generalize w.heap.size + 7 = b3 at *
 obtain ⟨k0, k1, k2, k3, k4, k5, k6, hS0⟩ := hV1
 have HS0 := Lib.hid hS0
 clear hS0
 go_wp2_with fail
 go_loopw [4] (fun v wr => ∃ (j : Nat) (h0 h1 h2 h3 h4 h5 h6 : Hd), j ≤ N ∧ v = .int .i64 j ∧ St4 (fun _ => False) w w.heap.size b3 w.heap.size h0 h1 h2 h3 h4 h5 h6 (mds (t.take j)) wr) (fun v _ => N - (intOf v).toNat)
 case atStart => exact ⟨0, _, _, _, _, _, _, _, Nat.zero_le _, rfl, HS0.out⟩
 case round =>
  obtain ⟨j, h0, h1, h2, h3, h4, h5, h6, hj, rfl, hS⟩ := hrel
  clear HS0
  by_cases hlt : j < N
  ·obtain ⟨⟨e0, e1, e2⟩, hs⟩ : ∃ s, t[j]? = some s := ⟨_, List.getElem?_eq_getElem (by rw [HN.out]; exact hlt)⟩
   obtain ⟨ad, rfl, hab, h0', h1', h2'⟩ := (hR.out.below ((chg_false hS.chg).mono hB)) j _ hs
   have HX := Lib.hid (HMD.out j _ hs)
   have IO := HIO.out j _ hs
   have VL := HVL.out j (by rw [HN.out]; exact hj)
   have LN := HLN.out j (by rw [HN.out]; exact hj)
   dsimp only at h0' h1' h2'
   generalize mds (t.take j) = s at *
   obtain ⟨stk, next, pan, rcv⟩ := s
   have hl0 : stk.length ≤ 100000 := Nat.le_trans LN.stk (by omega)
   have hl1 : pan.length ≤ 100000 := Nat.le_trans LN.pan (by omega)
   have hl2 : rcv.length ≤ 100000 := Nat.le_trans LN.rcv (by omega)
   have hl3 : ∀ x ∈ pan, x.by_.length ≤ 100000 := fun x hx => Nat.le_trans (LN.by_ x hx) (by omega)
   have hon : ∀ a ∈ stk, ∀ k, a.on = some k → k < pan.length := VL.on
   have HON := Lib.hid hon
   have HL3 := Lib.hid hl3
   have ST := Lib.hid hS
   have z0 := hS.b0.cells
   clear hs hS VL LN hon hl3
   by_cases k1 : e0 = 1
   ·subst k1
    go_upto_region 9 with fail
    change (fun V => Code.wp _ _ _ _ V) _
    refine gen_world (X := fun Y => (St4 (fun _ => False) w w.heap.size b3 w.heap.size h0 h1 h2 h3 h4 h5 h6 ⟨stk, next, pan, rcv⟩ Y) ∧ Blk Y wr.heap.size 74 #[.int .i64 1, .int .i64 e1, .int .i64 e2]) ⟨ST.out.below ((Below.refl _ _).alloc (Nat.le_refl _) _), heap1_0 wr _⟩ ?_
    clear ST h0' h1' h2' z0
    generalize wr.heap.size = be
    rintro Y ⟨hY, xY⟩
    have SB := Lib.hid (fun (V : World) (hb : Below Y.heap.size Y V) => (⟨(hb.cell hY.b0.lt).trans (hY.b0.cells 0), (hb.cell xY.lt).trans (xY.cells 0)⟩ : (fun V : World => V.cell? ⟨b3, 0, none⟩ = some (.slice h0.A stk.length h0.c) ∧ V.cell? ⟨be, 0, none⟩ = some (.int .i64 1)) V))
    have S0 : (fun V : World => V.cell? ⟨b3, 0, none⟩ = some (.slice h0.A stk.length h0.c) ∧ V.cell? ⟨be, 0, none⟩ = some (.int .i64 1)) Y.drew := SB.out _ (Below.refl _ _).drew
    have ST := Lib.hid hY
    have XE := Lib.hid xY
    have hwy : w.heap.size ≤ Y.heap.size := Nat.le_trans (Nat.le_of_lt hb3) (Nat.le_of_lt hY.b0.lt)
    clear hY xY
    go_wp2_with fail
    refine Last2.region_last [11] (fun V : World => V.cell? ⟨b3, 0, none⟩ = some (.slice h0.A stk.length h0.c) ∧ V.cell? ⟨be, 0, none⟩ = some (.int .i64 1)) (by kernel_rfl) ?_
    refine Last2.tk 1 29 (.pointer (some ⟨b3, 0, none⟩)) S0 ?_
    simp only [Act.put, Last2.s]
    refine Last2.tk 2 30 (.slice h0.A stk.length h0.c) S0 ?_
    simp only [Act.put, Last2.s]
    refine Last2.tk 4 32 (.pointer (some ⟨be, 0, none⟩)) S0 ?_
    simp only [Act.put, Last2.s]
    refine Last2.tk 5 33 (.int .i64 1) S0 ?_
    simp only [Act.put, Last2.s]
    refine Last2.tk 6 34 (.bool false) S0 ?_
    simp only [Act.put, Last2.s]
    refine Last2.tk 7 35 (.agg #[.bool false, .int .i64 (-1)]) S0 ?_
    simp only [Act.put, Last2.s]
    refine Last2.last_two (i := 0) (j := 8) (oi := { dst := some 28, op := .buildSlice 58 0 #[], type := _, pos := _, after := _, guard := none }) (oj := { dst := some 36, op := .buildSlice 58 1 #[(0, .tmp 35)], type := _, pos := _, after := _, guard := none }) (by kernel_rfl) rfl rfl rfl rfl (fun K hK => ?_) (fun K hK => ?_)
    ·
     go_simp
     have BW := Lib.hid (show Below Y.heap.size Y (Y.alloc (.cells #[] 157)).drew from ((Below.refl _ _).alloc (Nat.le_refl _) _).drew)
     refine hK.out _ _ (fun _ => SB.out _ BW.out) ?_
     clear hK K
     try simp only [Act.put, Last2.s]
     refine Last2.last_two (i := 3) (j := 8) (oi := { dst := some 31, op := .call { callee := .builtin .append, args := #[.tmp 28, .tmp 30], argTypes := #[58, 58] }, type := _, pos := _, after := _, guard := none }) (oj := { dst := some 36, op := .buildSlice 58 1 #[(0, .tmp 35)], type := _, pos := _, after := _, guard := none }) (by kernel_rfl) rfl rfl rfl rfl (fun K hK => ?_) (fun K hK => ?_)
     ·
      have EO := Lib.hid (show (Y.alloc (.cells #[] 157)).drew.ownsRow Y.heap.size 157 2 (.slice (some ⟨Y.heap.size, 0, none⟩) 0 0) 0 [] from App.empty_own (heap1_0 Y _) (Nat.le_refl _))
      have CO := Lib.hid (show (Y.alloc (.cells #[] 157)).drew.ownsRow w.heap.size 157 2 (.slice h0.A stk.length h0.c) stk.length (cellsD (callsOf stk)) from World.ownsRow.alloc ST.out.w4.calls _)
      have hsz := BW.out.size
      refine App.row_wp _ (.tmp 28) (.tmp 30) 58 rfl Y.heap.size w.heap.size 157 i0 _ 2 16 Try.underlying58 hi hz0 hz1 hz2 rfl (by decide) (.slice (some ⟨Y.heap.size, 0, none⟩) 0 0) 0 [] rfl EO.out (.slice h0.A stk.length h0.c) stk.length (cellsD (callsOf stk)) rfl CO.out (cellsD_one _) (by unfold maxLen; omega) (by omega) hsz ?_
      intro v1 w1 o1 g1 t1
      have bw : Below Y.heap.size Y w1 := App.Bl.grown BW.out g1 (fun x hx => (World.ownsRow.lt EO.out x hx).1)
      refine hK.out _ _ (fun _ => SB.out _ bw) ?_
      clear hK K
      try simp only [Act.put, Last2.s]
      obtain ⟨A1, c1, rfl⟩ := own_slice o1
      have o1' : w1.ownsRow Y.heap.size 157 2 (.slice A1 stk.length c1) stk.length (cellsD (callsOf stk)) := by simpa using o1
      try simp only [Nat.zero_add]
      refine Last2.last_one (i := 8) (o := { dst := some 36, op := .buildSlice 58 1 #[(0, .tmp 35)], type := _, pos := _, after := _, guard := none }) (by kernel_rfl) rfl rfl (fun K hK => ?_)
      go_simp
      have BX := Lib.hid (show Below Y.heap.size Y (w1.alloc (.cells #[.bool false, .int .i64 (-1)] 157)) from bw.alloc bw.size _)
      refine hK.out _ _ (fun _ => SB.out _ BX.out) ?_
      clear hK K
      try simp only [Act.put, Last2.s]
      have OR := Lib.hid (show (w1.alloc (.cells #[.bool false, .int .i64 (-1)] 157)).ownsRow Y.heap.size 157 2 (.slice A1 stk.length c1) stk.length (cellsD (callsOf stk)) from World.ownsRow.alloc o1' _)
      have PR := Lib.hid (App.pair_own (heap1_0 w1 (.cells #[.bool false, .int .i64 (-1)] 157)))
      have hsz2 := BX.out.size
      clear o1 o1' g1 t1 bw EO CO BW hsz
      refine Last2.last_one (i := 9) (o := { dst := some 37, op := .call { callee := .builtin .append, args := #[.tmp 31, .tmp 36], argTypes := #[58, 58] }, type := _, pos := _, after := _, guard := none }) (by kernel_rfl) rfl rfl (fun K hK => ?_)
      refine App.row_wp _ (.tmp 31) (.tmp 36) 58 rfl Y.heap.size 0 157 i0 _ 2 16 Try.underlying58 hi hz0 hz1 hz2 rfl (by decide) _ _ _ rfl OR.out _ 1 [.bool false, .int .i64 (-1)] rfl PR.out (by intro u hu; simp at hu; rcases hu with rfl | rfl <;> rfl) (by unfold maxLen; omega) (by omega) hsz2 ?_
      intro v2 w2 o2 g2 t2
      have bw2 : Below Y.heap.size Y w2 := App.Bl.grown BX.out g2 (fun x hx => (World.ownsRow.lt OR.out x hx).1)
      refine hK.out _ _ (fun _ => SB.out _ bw2) ?_
      clear hK K
      try simp only [Act.put, Last2.s]
      obtain ⟨A2, c2, rfl⟩ := own_slice o2
      refine Last2.last_one (i := 10) (o := { dst := some 38, op := .fieldAddr 61 (.tmp 3) 0, type := _, pos := _, after := _, guard := none }) (by kernel_rfl) rfl rfl (fun K hK => ?_)
      go_simp
      refine hK.out _ _ (fun _ => SB.out _ bw2) ?_
      clear hK K
      try simp only [Act.put, Last2.s]
      have fz := (ST.out.below bw2).b0.frozen
      have hc9 := (SB.out w2 bw2).1
      have O9 := Lib.hid o2
      have BW2 := Lib.hid bw2
      clear o2 g2 t2 bw2
      refine Last2.last_one (i := 11) (o := { dst := none, op := .store 58 (.tmp 38) (.tmp 37), type := _, pos := _, after := _, guard := none }) (by kernel_rfl) rfl rfl (fun K hK => ?_)
      go_simp
      refine hK.out _ _ (fun h => (h (by decide)).elim) ?_
      clear hK K fz hc9
      try simp only [Act.put, Last2.s]
      refine Last2.last_done (by kernel_rfl) ?_ _
      have FN := Lib.hid (beg_fin (dv := false) ST.out hb3 BW2.out O9.out)
      clear SB OR PR BX O9 BW2 ST XE S0
      go_wp2_with fail
      go_roundw
      case rel => exact ⟨j + 1, ⟨A2, c2⟩, h1, h2, h3, h4, h5, h6, by omega, by go_num, by rw [HX.out, md_beg (by simp)]; exact FN.out⟩
      case measure => simp [intOf]; omega
     ·
      go_simp
      have hs1 : (Y.alloc (.cells #[] 157)).heap.size = Y.heap.size + 1 := by simp
      have BW' := Lib.hid (show Below Y.heap.size Y ((Y.alloc (.cells #[] 157)).drew.alloc (.cells #[.bool false, .int .i64 (-1)] 157)) from BW.out.alloc BW.out.size _)
      refine hK.out _ _ (fun _ => SB.out _ BW'.out) ?_
      clear hK K
      try simp only [Act.put, Last2.s]
      refine Last2.last_one (i := 3) (o := { dst := some 31, op := .call { callee := .builtin .append, args := #[.tmp 28, .tmp 30], argTypes := #[58, 58] }, type := _, pos := _, after := _, guard := none }) (by kernel_rfl) rfl rfl (fun K hK => ?_)
      have EO := Lib.hid (show ((Y.alloc (.cells #[] 157)).drew.alloc (.cells #[.bool false, .int .i64 (-1)] 157)).ownsRow Y.heap.size 157 2 (.slice (some ⟨Y.heap.size, 0, none⟩) 0 0) 0 [] from World.ownsRow.alloc (App.empty_own (heap1_0 Y _) (Nat.le_refl _)) _)
      have CO := Lib.hid (show ((Y.alloc (.cells #[] 157)).drew.alloc (.cells #[.bool false, .int .i64 (-1)] 157)).ownsRow w.heap.size 157 2 (.slice h0.A stk.length h0.c) stk.length (cellsD (callsOf stk)) from World.ownsRow.alloc (World.ownsRow.alloc ST.out.w4.calls _) _)
      have BW := BW'
      have hsz := BW.out.size
      refine App.row_wp _ (.tmp 28) (.tmp 30) 58 rfl Y.heap.size w.heap.size 157 i0 _ 2 16 Try.underlying58 hi hz0 hz1 hz2 rfl (by decide) (.slice (some ⟨Y.heap.size, 0, none⟩) 0 0) 0 [] rfl EO.out (.slice h0.A stk.length h0.c) stk.length (cellsD (callsOf stk)) rfl CO.out (cellsD_one _) (by unfold maxLen; omega) (by omega) hsz ?_
      intro v1 w1 o1 g1 t1
      have bw : Below Y.heap.size Y w1 := App.Bl.grown BW.out g1 (fun x hx => (World.ownsRow.lt EO.out x hx).1)
      refine hK.out _ _ (fun _ => SB.out _ bw) ?_
      clear hK K
      try simp only [Act.put, Last2.s]
      obtain ⟨A1, c1, rfl⟩ := own_slice o1
      have o1' : w1.ownsRow Y.heap.size 157 2 (.slice A1 stk.length c1) stk.length (cellsD (callsOf stk)) := by simpa using o1
      try simp only [Nat.zero_add]
      have PR := Lib.hid (World.ownsRow.kept (w := ((Y.alloc (.cells #[] 157)).drew.alloc (.cells #[.bool false, .int .i64 (-1)] 157))) (App.pair_own (g := Y.heap.size + 1) (by have := heap1_0 (Y.alloc (.cells #[] 157)).drew (.cells #[.bool false, .int .i64 (-1)] 157); exact heap2_1 Y _ _)) g1 (.inr (show (Value.slice (some ⟨Y.heap.size + 1, 0, none⟩) 1 1).ownBlock ≠ (Value.slice (some ⟨Y.heap.size, 0, none⟩) 0 0).ownBlock by simp [Value.ownBlock])))
      have BX := Lib.hid bw
      have OR := Lib.hid o1'
      have hsz2 := BX.out.size
      clear o1 o1' g1 t1 bw EO CO BW BW' hsz hs1
      refine Last2.last_one (i := 9) (o := { dst := some 37, op := .call { callee := .builtin .append, args := #[.tmp 31, .tmp 36], argTypes := #[58, 58] }, type := _, pos := _, after := _, guard := none }) (by kernel_rfl) rfl rfl (fun K hK => ?_)
      refine App.row_wp _ (.tmp 31) (.tmp 36) 58 rfl Y.heap.size 0 157 i0 _ 2 16 Try.underlying58 hi hz0 hz1 hz2 rfl (by decide) _ _ _ rfl OR.out _ 1 [.bool false, .int .i64 (-1)] rfl PR.out (by intro u hu; simp at hu; rcases hu with rfl | rfl <;> rfl) (by unfold maxLen; omega) (by omega) hsz2 ?_
      intro v2 w2 o2 g2 t2
      have bw2 : Below Y.heap.size Y w2 := App.Bl.grown BX.out g2 (fun x hx => (World.ownsRow.lt OR.out x hx).1)
      refine hK.out _ _ (fun _ => SB.out _ bw2) ?_
      clear hK K
      try simp only [Act.put, Last2.s]
      obtain ⟨A2, c2, rfl⟩ := own_slice o2
      refine Last2.last_one (i := 10) (o := { dst := some 38, op := .fieldAddr 61 (.tmp 3) 0, type := _, pos := _, after := _, guard := none }) (by kernel_rfl) rfl rfl (fun K hK => ?_)
      go_simp
      refine hK.out _ _ (fun _ => SB.out _ bw2) ?_
      clear hK K
      try simp only [Act.put, Last2.s]
      have fz := (ST.out.below bw2).b0.frozen
      have hc9 := (SB.out w2 bw2).1
      have O9 := Lib.hid o2
      have BW2 := Lib.hid bw2
      clear o2 g2 t2 bw2
      refine Last2.last_one (i := 11) (o := { dst := none, op := .store 58 (.tmp 38) (.tmp 37), type := _, pos := _, after := _, guard := none }) (by kernel_rfl) rfl rfl (fun K hK => ?_)
      go_simp
      refine hK.out _ _ (fun h => (h (by decide)).elim) ?_
      clear hK K fz hc9
      try simp only [Act.put, Last2.s]
      refine Last2.last_done (by kernel_rfl) ?_ _
      have FN := Lib.hid (beg_fin (dv := false) ST.out hb3 BW2.out O9.out)
      clear SB OR PR BX O9 BW2 ST XE S0
      go_wp2_with fail
      go_roundw
      case rel => exact ⟨j + 1, ⟨A2, c2⟩, h1, h2, h3, h4, h5, h6, by omega, by go_num, by rw [HX.out, md_beg (by simp)]; exact FN.out⟩
      case measure => simp [intOf]; omega
    ·
     go_simp
     have BW := Lib.hid (show Below Y.heap.size Y (Y.alloc (.cells #[.bool false, .int .i64 (-1)] 157)).drew from ((Below.refl _ _).alloc (Nat.le_refl _) _).drew)
     refine hK.out _ _ (fun _ => SB.out _ BW.out) ?_
     clear hK K
     try simp only [Act.put, Last2.s]
     refine Last2.last_one (i := 0) (o := { dst := some 28, op := .buildSlice 58 0 #[], type := _, pos := _, after := _, guard := none }) (by kernel_rfl) rfl rfl (fun K hK => ?_)
     go_simp
     have BW' := Lib.hid (show Below Y.heap.size Y ((Y.alloc (.cells #[.bool false, .int .i64 (-1)] 157)).drew.alloc (.cells #[] 157)) from BW.out.alloc BW.out.size _)
     refine hK.out _ _ (fun _ => SB.out _ BW'.out) ?_
     clear hK K
     try simp only [Act.put, Last2.s]
     refine Last2.last_one (i := 3) (o := { dst := some 31, op := .call { callee := .builtin .append, args := #[.tmp 28, .tmp 30], argTypes := #[58, 58] }, type := _, pos := _, after := _, guard := none }) (by kernel_rfl) rfl rfl (fun K hK => ?_)
     have EO := Lib.hid (show ((Y.alloc (.cells #[.bool false, .int .i64 (-1)] 157)).drew.alloc (.cells #[] 157)).ownsRow Y.heap.size 157 2 (.slice (some ⟨Y.heap.size + 1, 0, none⟩) 0 0) 0 [] from App.empty_own (heap2_1 Y _ _) (Nat.le_succ _))
     have CO := Lib.hid (show ((Y.alloc (.cells #[.bool false, .int .i64 (-1)] 157)).drew.alloc (.cells #[] 157)).ownsRow w.heap.size 157 2 (.slice h0.A stk.length h0.c) stk.length (cellsD (callsOf stk)) from World.ownsRow.alloc (World.ownsRow.alloc ST.out.w4.calls _) _)
     have BW := BW'
     have hsz := BW.out.size
     refine App.row_wp _ (.tmp 28) (.tmp 30) 58 rfl Y.heap.size w.heap.size 157 i0 _ 2 16 Try.underlying58 hi hz0 hz1 hz2 rfl (by decide) (.slice (some ⟨Y.heap.size + 1, 0, none⟩) 0 0) 0 [] rfl EO.out (.slice h0.A stk.length h0.c) stk.length (cellsD (callsOf stk)) rfl CO.out (cellsD_one _) (by unfold maxLen; omega) (by omega) hsz ?_
     intro v1 w1 o1 g1 t1
     have bw : Below Y.heap.size Y w1 := App.Bl.grown BW.out g1 (fun x hx => (World.ownsRow.lt EO.out x hx).1)
     refine hK.out _ _ (fun _ => SB.out _ bw) ?_
     clear hK K
     try simp only [Act.put, Last2.s]
     obtain ⟨A1, c1, rfl⟩ := own_slice o1
     have o1' : w1.ownsRow Y.heap.size 157 2 (.slice A1 stk.length c1) stk.length (cellsD (callsOf stk)) := by simpa using o1
     try simp only [Nat.zero_add]
     have PR := Lib.hid (World.ownsRow.kept (w := ((Y.alloc (.cells #[.bool false, .int .i64 (-1)] 157)).drew.alloc (.cells #[] 157))) (App.pair_own (heap2_0 Y _ _)) g1 (.inr (show (Value.slice (some ⟨Y.heap.size, 0, none⟩) 1 1).ownBlock ≠ (Value.slice (some ⟨Y.heap.size + 1, 0, none⟩) 0 0).ownBlock by simp [Value.ownBlock])))
     have BX := Lib.hid bw
     have OR := Lib.hid o1'
     have hsz2 := BX.out.size
     clear o1 o1' g1 t1 bw EO CO BW BW' hsz
     refine Last2.last_one (i := 9) (o := { dst := some 37, op := .call { callee := .builtin .append, args := #[.tmp 31, .tmp 36], argTypes := #[58, 58] }, type := _, pos := _, after := _, guard := none }) (by kernel_rfl) rfl rfl (fun K hK => ?_)
     refine App.row_wp _ (.tmp 31) (.tmp 36) 58 rfl Y.heap.size 0 157 i0 _ 2 16 Try.underlying58 hi hz0 hz1 hz2 rfl (by decide) _ _ _ rfl OR.out _ 1 [.bool false, .int .i64 (-1)] rfl PR.out (by intro u hu; simp at hu; rcases hu with rfl | rfl <;> rfl) (by unfold maxLen; omega) (by omega) hsz2 ?_
     intro v2 w2 o2 g2 t2
     have bw2 : Below Y.heap.size Y w2 := App.Bl.grown BX.out g2 (fun x hx => (World.ownsRow.lt OR.out x hx).1)
     refine hK.out _ _ (fun _ => SB.out _ bw2) ?_
     clear hK K
     try simp only [Act.put, Last2.s]
     obtain ⟨A2, c2, rfl⟩ := own_slice o2
     refine Last2.last_one (i := 10) (o := { dst := some 38, op := .fieldAddr 61 (.tmp 3) 0, type := _, pos := _, after := _, guard := none }) (by kernel_rfl) rfl rfl (fun K hK => ?_)
     go_simp
     refine hK.out _ _ (fun _ => SB.out _ bw2) ?_
     clear hK K
     try simp only [Act.put, Last2.s]
     have fz := (ST.out.below bw2).b0.frozen
     have hc9 := (SB.out w2 bw2).1
     have O9 := Lib.hid o2
     have BW2 := Lib.hid bw2
     clear o2 g2 t2 bw2
     refine Last2.last_one (i := 11) (o := { dst := none, op := .store 58 (.tmp 38) (.tmp 37), type := _, pos := _, after := _, guard := none }) (by kernel_rfl) rfl rfl (fun K hK => ?_)
     go_simp
     refine hK.out _ _ (fun h => (h (by decide)).elim) ?_
     clear hK K fz hc9
     try simp only [Act.put, Last2.s]
     refine Last2.last_done (by kernel_rfl) ?_ _
     have FN := Lib.hid (beg_fin (dv := false) ST.out hb3 BW2.out O9.out)
     clear SB OR PR BX O9 BW2 ST XE S0
     go_wp2_with fail
     go_roundw
     case rel => exact ⟨j + 1, ⟨A2, c2⟩, h1, h2, h3, h4, h5, h6, by omega, by go_num, by rw [HX.out, md_beg (by simp)]; exact FN.out⟩
     case measure => simp [intOf]; omega
   ·by_cases k3 : e0 = 3
    ·subst k3
     go_upto_region 9 with fail
     change (fun V => Code.wp _ _ _ _ V) _
     refine gen_world (X := fun Y => (St4 (fun _ => False) w w.heap.size b3 w.heap.size h0 h1 h2 h3 h4 h5 h6 ⟨stk, next, pan, rcv⟩ Y) ∧ Blk Y wr.heap.size 74 #[.int .i64 3, .int .i64 e1, .int .i64 e2]) ⟨ST.out.below ((Below.refl _ _).alloc (Nat.le_refl _) _), heap1_0 wr _⟩ ?_
     clear ST h0' h1' h2' z0
     generalize wr.heap.size = be
     rintro Y ⟨hY, xY⟩
     have SB := Lib.hid (fun (V : World) (hb : Below Y.heap.size Y V) => (⟨(hb.cell hY.b0.lt).trans (hY.b0.cells 0), (hb.cell xY.lt).trans (xY.cells 0)⟩ : (fun V : World => V.cell? ⟨b3, 0, none⟩ = some (.slice h0.A stk.length h0.c) ∧ V.cell? ⟨be, 0, none⟩ = some (.int .i64 3)) V))
     have S0 : (fun V : World => V.cell? ⟨b3, 0, none⟩ = some (.slice h0.A stk.length h0.c) ∧ V.cell? ⟨be, 0, none⟩ = some (.int .i64 3)) Y.drew := SB.out _ (Below.refl _ _).drew
     have ST := Lib.hid hY
     have XE := Lib.hid xY
     have hwy : w.heap.size ≤ Y.heap.size := Nat.le_trans (Nat.le_of_lt hb3) (Nat.le_of_lt hY.b0.lt)
     clear hY xY
     go_wp2_with fail
     refine Last2.region_last [11] (fun V : World => V.cell? ⟨b3, 0, none⟩ = some (.slice h0.A stk.length h0.c) ∧ V.cell? ⟨be, 0, none⟩ = some (.int .i64 3)) (by kernel_rfl) ?_
     refine Last2.tk 1 29 (.pointer (some ⟨b3, 0, none⟩)) S0 ?_
     simp only [Act.put, Last2.s]
     refine Last2.tk 2 30 (.slice h0.A stk.length h0.c) S0 ?_
     simp only [Act.put, Last2.s]
     refine Last2.tk 4 32 (.pointer (some ⟨be, 0, none⟩)) S0 ?_
     simp only [Act.put, Last2.s]
     refine Last2.tk 5 33 (.int .i64 3) S0 ?_
     simp only [Act.put, Last2.s]
     refine Last2.tk 6 34 (.bool true) S0 ?_
     simp only [Act.put, Last2.s]
     refine Last2.tk 7 35 (.agg #[.bool true, .int .i64 (-1)]) S0 ?_
     simp only [Act.put, Last2.s]
     refine Last2.last_two (i := 0) (j := 8) (oi := { dst := some 28, op := .buildSlice 58 0 #[], type := _, pos := _, after := _, guard := none }) (oj := { dst := some 36, op := .buildSlice 58 1 #[(0, .tmp 35)], type := _, pos := _, after := _, guard := none }) (by kernel_rfl) rfl rfl rfl rfl (fun K hK => ?_) (fun K hK => ?_)
     ·
      go_simp
      have BW := Lib.hid (show Below Y.heap.size Y (Y.alloc (.cells #[] 157)).drew from ((Below.refl _ _).alloc (Nat.le_refl _) _).drew)
      refine hK.out _ _ (fun _ => SB.out _ BW.out) ?_
      clear hK K
      try simp only [Act.put, Last2.s]
      refine Last2.last_two (i := 3) (j := 8) (oi := { dst := some 31, op := .call { callee := .builtin .append, args := #[.tmp 28, .tmp 30], argTypes := #[58, 58] }, type := _, pos := _, after := _, guard := none }) (oj := { dst := some 36, op := .buildSlice 58 1 #[(0, .tmp 35)], type := _, pos := _, after := _, guard := none }) (by kernel_rfl) rfl rfl rfl rfl (fun K hK => ?_) (fun K hK => ?_)
      ·
       have EO := Lib.hid (show (Y.alloc (.cells #[] 157)).drew.ownsRow Y.heap.size 157 2 (.slice (some ⟨Y.heap.size, 0, none⟩) 0 0) 0 [] from App.empty_own (heap1_0 Y _) (Nat.le_refl _))
       have CO := Lib.hid (show (Y.alloc (.cells #[] 157)).drew.ownsRow w.heap.size 157 2 (.slice h0.A stk.length h0.c) stk.length (cellsD (callsOf stk)) from World.ownsRow.alloc ST.out.w4.calls _)
       have hsz := BW.out.size
       refine App.row_wp _ (.tmp 28) (.tmp 30) 58 rfl Y.heap.size w.heap.size 157 i0 _ 2 16 Try.underlying58 hi hz0 hz1 hz2 rfl (by decide) (.slice (some ⟨Y.heap.size, 0, none⟩) 0 0) 0 [] rfl EO.out (.slice h0.A stk.length h0.c) stk.length (cellsD (callsOf stk)) rfl CO.out (cellsD_one _) (by unfold maxLen; omega) (by omega) hsz ?_
       intro v1 w1 o1 g1 t1
       have bw : Below Y.heap.size Y w1 := App.Bl.grown BW.out g1 (fun x hx => (World.ownsRow.lt EO.out x hx).1)
       refine hK.out _ _ (fun _ => SB.out _ bw) ?_
       clear hK K
       try simp only [Act.put, Last2.s]
       obtain ⟨A1, c1, rfl⟩ := own_slice o1
       have o1' : w1.ownsRow Y.heap.size 157 2 (.slice A1 stk.length c1) stk.length (cellsD (callsOf stk)) := by simpa using o1
       try simp only [Nat.zero_add]
       refine Last2.last_one (i := 8) (o := { dst := some 36, op := .buildSlice 58 1 #[(0, .tmp 35)], type := _, pos := _, after := _, guard := none }) (by kernel_rfl) rfl rfl (fun K hK => ?_)
       go_simp
       have BX := Lib.hid (show Below Y.heap.size Y (w1.alloc (.cells #[.bool true, .int .i64 (-1)] 157)) from bw.alloc bw.size _)
       refine hK.out _ _ (fun _ => SB.out _ BX.out) ?_
       clear hK K
       try simp only [Act.put, Last2.s]
       have OR := Lib.hid (show (w1.alloc (.cells #[.bool true, .int .i64 (-1)] 157)).ownsRow Y.heap.size 157 2 (.slice A1 stk.length c1) stk.length (cellsD (callsOf stk)) from World.ownsRow.alloc o1' _)
       have PR := Lib.hid (App.pair_own (heap1_0 w1 (.cells #[.bool true, .int .i64 (-1)] 157)))
       have hsz2 := BX.out.size
       clear o1 o1' g1 t1 bw EO CO BW hsz
       refine Last2.last_one (i := 9) (o := { dst := some 37, op := .call { callee := .builtin .append, args := #[.tmp 31, .tmp 36], argTypes := #[58, 58] }, type := _, pos := _, after := _, guard := none }) (by kernel_rfl) rfl rfl (fun K hK => ?_)
       refine App.row_wp _ (.tmp 31) (.tmp 36) 58 rfl Y.heap.size 0 157 i0 _ 2 16 Try.underlying58 hi hz0 hz1 hz2 rfl (by decide) _ _ _ rfl OR.out _ 1 [.bool true, .int .i64 (-1)] rfl PR.out (by intro u hu; simp at hu; rcases hu with rfl | rfl <;> rfl) (by unfold maxLen; omega) (by omega) hsz2 ?_
       intro v2 w2 o2 g2 t2
       have bw2 : Below Y.heap.size Y w2 := App.Bl.grown BX.out g2 (fun x hx => (World.ownsRow.lt OR.out x hx).1)
       refine hK.out _ _ (fun _ => SB.out _ bw2) ?_
       clear hK K
       try simp only [Act.put, Last2.s]
       obtain ⟨A2, c2, rfl⟩ := own_slice o2
       refine Last2.last_one (i := 10) (o := { dst := some 38, op := .fieldAddr 61 (.tmp 3) 0, type := _, pos := _, after := _, guard := none }) (by kernel_rfl) rfl rfl (fun K hK => ?_)
       go_simp
       refine hK.out _ _ (fun _ => SB.out _ bw2) ?_
       clear hK K
       try simp only [Act.put, Last2.s]
       have fz := (ST.out.below bw2).b0.frozen
       have hc9 := (SB.out w2 bw2).1
       have O9 := Lib.hid o2
       have BW2 := Lib.hid bw2
       clear o2 g2 t2 bw2
       refine Last2.last_one (i := 11) (o := { dst := none, op := .store 58 (.tmp 38) (.tmp 37), type := _, pos := _, after := _, guard := none }) (by kernel_rfl) rfl rfl (fun K hK => ?_)
       go_simp
       refine hK.out _ _ (fun h => (h (by decide)).elim) ?_
       clear hK K fz hc9
       try simp only [Act.put, Last2.s]
       refine Last2.last_done (by kernel_rfl) ?_ _
       have FN := Lib.hid (beg_fin (dv := true) ST.out hb3 BW2.out O9.out)
       clear SB OR PR BX O9 BW2 ST XE S0
       go_wp2_with fail
       go_roundw
       case rel => exact ⟨j + 1, ⟨A2, c2⟩, h1, h2, h3, h4, h5, h6, by omega, by go_num, by rw [HX.out, md_beg (by simp)]; exact FN.out⟩
       case measure => simp [intOf]; omega
      ·
       go_simp
       have hs1 : (Y.alloc (.cells #[] 157)).heap.size = Y.heap.size + 1 := by simp
       have BW' := Lib.hid (show Below Y.heap.size Y ((Y.alloc (.cells #[] 157)).drew.alloc (.cells #[.bool true, .int .i64 (-1)] 157)) from BW.out.alloc BW.out.size _)
       refine hK.out _ _ (fun _ => SB.out _ BW'.out) ?_
       clear hK K
       try simp only [Act.put, Last2.s]
       refine Last2.last_one (i := 3) (o := { dst := some 31, op := .call { callee := .builtin .append, args := #[.tmp 28, .tmp 30], argTypes := #[58, 58] }, type := _, pos := _, after := _, guard := none }) (by kernel_rfl) rfl rfl (fun K hK => ?_)
       have EO := Lib.hid (show ((Y.alloc (.cells #[] 157)).drew.alloc (.cells #[.bool true, .int .i64 (-1)] 157)).ownsRow Y.heap.size 157 2 (.slice (some ⟨Y.heap.size, 0, none⟩) 0 0) 0 [] from World.ownsRow.alloc (App.empty_own (heap1_0 Y _) (Nat.le_refl _)) _)
       have CO := Lib.hid (show ((Y.alloc (.cells #[] 157)).drew.alloc (.cells #[.bool true, .int .i64 (-1)] 157)).ownsRow w.heap.size 157 2 (.slice h0.A stk.length h0.c) stk.length (cellsD (callsOf stk)) from World.ownsRow.alloc (World.ownsRow.alloc ST.out.w4.calls _) _)
       have BW := BW'
       have hsz := BW.out.size
       refine App.row_wp _ (.tmp 28) (.tmp 30) 58 rfl Y.heap.size w.heap.size 157 i0 _ 2 16 Try.underlying58 hi hz0 hz1 hz2 rfl (by decide) (.slice (some ⟨Y.heap.size, 0, none⟩) 0 0) 0 [] rfl EO.out (.slice h0.A stk.length h0.c) stk.length (cellsD (callsOf stk)) rfl CO.out (cellsD_one _) (by unfold maxLen; omega) (by omega) hsz ?_
       intro v1 w1 o1 g1 t1
       have bw : Below Y.heap.size Y w1 := App.Bl.grown BW.out g1 (fun x hx => (World.ownsRow.lt EO.out x hx).1)
       refine hK.out _ _ (fun _ => SB.out _ bw) ?_
       clear hK K
       try simp only [Act.put, Last2.s]
       obtain ⟨A1, c1, rfl⟩ := own_slice o1
       have o1' : w1.ownsRow Y.heap.size 157 2 (.slice A1 stk.length c1) stk.length (cellsD (callsOf stk)) := by simpa using o1
       try simp only [Nat.zero_add]
       have PR := Lib.hid (World.ownsRow.kept (w := ((Y.alloc (.cells #[] 157)).drew.alloc (.cells #[.bool true, .int .i64 (-1)] 157))) (App.pair_own (g := Y.heap.size + 1) (by have := heap1_0 (Y.alloc (.cells #[] 157)).drew (.cells #[.bool true, .int .i64 (-1)] 157); exact heap2_1 Y _ _)) g1 (.inr (show (Value.slice (some ⟨Y.heap.size + 1, 0, none⟩) 1 1).ownBlock ≠ (Value.slice (some ⟨Y.heap.size, 0, none⟩) 0 0).ownBlock by simp [Value.ownBlock])))
       have BX := Lib.hid bw
       have OR := Lib.hid o1'
       have hsz2 := BX.out.size
       clear o1 o1' g1 t1 bw EO CO BW BW' hsz hs1
       refine Last2.last_one (i := 9) (o := { dst := some 37, op := .call { callee := .builtin .append, args := #[.tmp 31, .tmp 36], argTypes := #[58, 58] }, type := _, pos := _, after := _, guard := none }) (by kernel_rfl) rfl rfl (fun K hK => ?_)
       refine App.row_wp _ (.tmp 31) (.tmp 36) 58 rfl Y.heap.size 0 157 i0 _ 2 16 Try.underlying58 hi hz0 hz1 hz2 rfl (by decide) _ _ _ rfl OR.out _ 1 [.bool true, .int .i64 (-1)] rfl PR.out (by intro u hu; simp at hu; rcases hu with rfl | rfl <;> rfl) (by unfold maxLen; omega) (by omega) hsz2 ?_
       intro v2 w2 o2 g2 t2
       have bw2 : Below Y.heap.size Y w2 := App.Bl.grown BX.out g2 (fun x hx => (World.ownsRow.lt OR.out x hx).1)
       refine hK.out _ _ (fun _ => SB.out _ bw2) ?_
       clear hK K
       try simp only [Act.put, Last2.s]
       obtain ⟨A2, c2, rfl⟩ := own_slice o2
       refine Last2.last_one (i := 10) (o := { dst := some 38, op := .fieldAddr 61 (.tmp 3) 0, type := _, pos := _, after := _, guard := none }) (by kernel_rfl) rfl rfl (fun K hK => ?_)
       go_simp
       refine hK.out _ _ (fun _ => SB.out _ bw2) ?_
       clear hK K
       try simp only [Act.put, Last2.s]
       have fz := (ST.out.below bw2).b0.frozen
       have hc9 := (SB.out w2 bw2).1
       have O9 := Lib.hid o2
       have BW2 := Lib.hid bw2
       clear o2 g2 t2 bw2
       refine Last2.last_one (i := 11) (o := { dst := none, op := .store 58 (.tmp 38) (.tmp 37), type := _, pos := _, after := _, guard := none }) (by kernel_rfl) rfl rfl (fun K hK => ?_)
       go_simp
       refine hK.out _ _ (fun h => (h (by decide)).elim) ?_
       clear hK K fz hc9
       try simp only [Act.put, Last2.s]
       refine Last2.last_done (by kernel_rfl) ?_ _
       have FN := Lib.hid (beg_fin (dv := true) ST.out hb3 BW2.out O9.out)
       clear SB OR PR BX O9 BW2 ST XE S0
       go_wp2_with fail
       go_roundw
       case rel => exact ⟨j + 1, ⟨A2, c2⟩, h1, h2, h3, h4, h5, h6, by omega, by go_num, by rw [HX.out, md_beg (by simp)]; exact FN.out⟩
       case measure => simp [intOf]; omega
     ·
      go_simp
      have BW := Lib.hid (show Below Y.heap.size Y (Y.alloc (.cells #[.bool true, .int .i64 (-1)] 157)).drew from ((Below.refl _ _).alloc (Nat.le_refl _) _).drew)
      refine hK.out _ _ (fun _ => SB.out _ BW.out) ?_
      clear hK K
      try simp only [Act.put, Last2.s]
      refine Last2.last_one (i := 0) (o := { dst := some 28, op := .buildSlice 58 0 #[], type := _, pos := _, after := _, guard := none }) (by kernel_rfl) rfl rfl (fun K hK => ?_)
      go_simp
      have BW' := Lib.hid (show Below Y.heap.size Y ((Y.alloc (.cells #[.bool true, .int .i64 (-1)] 157)).drew.alloc (.cells #[] 157)) from BW.out.alloc BW.out.size _)
      refine hK.out _ _ (fun _ => SB.out _ BW'.out) ?_
      clear hK K
      try simp only [Act.put, Last2.s]
      refine Last2.last_one (i := 3) (o := { dst := some 31, op := .call { callee := .builtin .append, args := #[.tmp 28, .tmp 30], argTypes := #[58, 58] }, type := _, pos := _, after := _, guard := none }) (by kernel_rfl) rfl rfl (fun K hK => ?_)
      have EO := Lib.hid (show ((Y.alloc (.cells #[.bool true, .int .i64 (-1)] 157)).drew.alloc (.cells #[] 157)).ownsRow Y.heap.size 157 2 (.slice (some ⟨Y.heap.size + 1, 0, none⟩) 0 0) 0 [] from App.empty_own (heap2_1 Y _ _) (Nat.le_succ _))
      have CO := Lib.hid (show ((Y.alloc (.cells #[.bool true, .int .i64 (-1)] 157)).drew.alloc (.cells #[] 157)).ownsRow w.heap.size 157 2 (.slice h0.A stk.length h0.c) stk.length (cellsD (callsOf stk)) from World.ownsRow.alloc (World.ownsRow.alloc ST.out.w4.calls _) _)
      have BW := BW'
      have hsz := BW.out.size
      refine App.row_wp _ (.tmp 28) (.tmp 30) 58 rfl Y.heap.size w.heap.size 157 i0 _ 2 16 Try.underlying58 hi hz0 hz1 hz2 rfl (by decide) (.slice (some ⟨Y.heap.size + 1, 0, none⟩) 0 0) 0 [] rfl EO.out (.slice h0.A stk.length h0.c) stk.length (cellsD (callsOf stk)) rfl CO.out (cellsD_one _) (by unfold maxLen; omega) (by omega) hsz ?_
      intro v1 w1 o1 g1 t1
      have bw : Below Y.heap.size Y w1 := App.Bl.grown BW.out g1 (fun x hx => (World.ownsRow.lt EO.out x hx).1)
      refine hK.out _ _ (fun _ => SB.out _ bw) ?_
      clear hK K
      try simp only [Act.put, Last2.s]
      obtain ⟨A1, c1, rfl⟩ := own_slice o1
      have o1' : w1.ownsRow Y.heap.size 157 2 (.slice A1 stk.length c1) stk.length (cellsD (callsOf stk)) := by simpa using o1
      try simp only [Nat.zero_add]
      have PR := Lib.hid (World.ownsRow.kept (w := ((Y.alloc (.cells #[.bool true, .int .i64 (-1)] 157)).drew.alloc (.cells #[] 157))) (App.pair_own (heap2_0 Y _ _)) g1 (.inr (show (Value.slice (some ⟨Y.heap.size, 0, none⟩) 1 1).ownBlock ≠ (Value.slice (some ⟨Y.heap.size + 1, 0, none⟩) 0 0).ownBlock by simp [Value.ownBlock])))
      have BX := Lib.hid bw
      have OR := Lib.hid o1'
      have hsz2 := BX.out.size
      clear o1 o1' g1 t1 bw EO CO BW BW' hsz
      refine Last2.last_one (i := 9) (o := { dst := some 37, op := .call { callee := .builtin .append, args := #[.tmp 31, .tmp 36], argTypes := #[58, 58] }, type := _, pos := _, after := _, guard := none }) (by kernel_rfl) rfl rfl (fun K hK => ?_)
      refine App.row_wp _ (.tmp 31) (.tmp 36) 58 rfl Y.heap.size 0 157 i0 _ 2 16 Try.underlying58 hi hz0 hz1 hz2 rfl (by decide) _ _ _ rfl OR.out _ 1 [.bool true, .int .i64 (-1)] rfl PR.out (by intro u hu; simp at hu; rcases hu with rfl | rfl <;> rfl) (by unfold maxLen; omega) (by omega) hsz2 ?_
      intro v2 w2 o2 g2 t2
      have bw2 : Below Y.heap.size Y w2 := App.Bl.grown BX.out g2 (fun x hx => (World.ownsRow.lt OR.out x hx).1)
      refine hK.out _ _ (fun _ => SB.out _ bw2) ?_
      clear hK K
      try simp only [Act.put, Last2.s]
      obtain ⟨A2, c2, rfl⟩ := own_slice o2
      refine Last2.last_one (i := 10) (o := { dst := some 38, op := .fieldAddr 61 (.tmp 3) 0, type := _, pos := _, after := _, guard := none }) (by kernel_rfl) rfl rfl (fun K hK => ?_)
      go_simp
      refine hK.out _ _ (fun _ => SB.out _ bw2) ?_
      clear hK K
      try simp only [Act.put, Last2.s]
      have fz := (ST.out.below bw2).b0.frozen
      have hc9 := (SB.out w2 bw2).1
      have O9 := Lib.hid o2
      have BW2 := Lib.hid bw2
      clear o2 g2 t2 bw2
      refine Last2.last_one (i := 11) (o := { dst := none, op := .store 58 (.tmp 38) (.tmp 37), type := _, pos := _, after := _, guard := none }) (by kernel_rfl) rfl rfl (fun K hK => ?_)
      go_simp
      refine hK.out _ _ (fun h => (h (by decide)).elim) ?_
      clear hK K fz hc9
      try simp only [Act.put, Last2.s]
      refine Last2.last_done (by kernel_rfl) ?_ _
      have FN := Lib.hid (beg_fin (dv := true) ST.out hb3 BW2.out O9.out)
      clear SB OR PR BX O9 BW2 ST XE S0
      go_wp2_with fail
      go_roundw
      case rel => exact ⟨j + 1, ⟨A2, c2⟩, h1, h2, h3, h4, h5, h6, by omega, by go_num, by rw [HX.out, md_beg (by simp)]; exact FN.out⟩
      case measure => simp [intOf]; omega
    ·by_cases k5 : e0 = 5
     ·subst k5
      obtain ⟨a, O, hstk⟩ := IO.top (by simp)
      obtain rfl : stk = a :: O := hstk
      clear IO
      go_upto_region 11 with fail
      change (fun V => Code.wp _ _ _ _ V) _
      refine gen_world (X := fun Y => (St4 (fun _ => False) w w.heap.size b3 w.heap.size h0 h1 h2 h3 h4 h5 h6 ⟨a :: O, next, pan, rcv⟩ Y) ∧ Blk Y wr.heap.size 74 #[.int .i64 5, .int .i64 e1, .int .i64 e2]) ⟨ST.out.below ((Below.refl _ _).alloc (Nat.le_refl _) _), heap1_0 wr _⟩ ?_
      clear ST h0' h1' h2' z0
      generalize wr.heap.size = be
      rintro Y ⟨hY, xY⟩
      have z0 := hY.b0.cells
      have f0 := hY.b0.frozen
      have x0 := xY.cells
      have hwy : w.heap.size ≤ Y.heap.size := Nat.le_trans (Nat.le_of_lt hb3) (Nat.le_of_lt hY.b0.lt)
      have ST := Lib.hid hY
      clear hY xY
      obtain ⟨s', hs'⟩ : ∃ s' : MS, (⟨⟨a.no, a.dfr, some pan.length⟩ :: O, next, pan ++ [⟨e1, e2, 0, a.no, O.length + 1, [], -1, -1⟩], rcv⟩ : MS) = s' := ⟨_, rfl⟩
      have HC0 := l4Panic_any w.heap.size h0 h1 h2 h3 h4 h5 h6 next pan rcv a O 5 e1 e2 Y (by simp at hl0; omega) hl1 hwy ST.out.w4
      rw [hs'] at HC0
      have HX2 := Lib.hid (show mds (t.take (j + 1)) = s' from (by rw [HX.out, md_5 rfl rfl]; exact hs'))
      have HC := Lib.hid HC0
      clear hs' HC0
      go_wp2_with fail
      refine HC.out.mono ?_
      rintro e U ⟨k0, k1, k2, k3, k5, k6, rfl, hW, hch⟩
      have FN := Lib.hid (st_put ST.out hb3 hch hW)
      have B1 := ST.out.b0.chg hch (mine_apart ST.out.w4 ST.out.b0)
      have z0 := B1.cells
      have f0 := B1.frozen
      clear ST HC hW hch B1 x0
      go_wp2_with fail
      clear z0 f0
      go_roundw
      case rel => exact ⟨j + 1, k0, k1, k2, k3, h4, k5, k6, by omega, by go_num, by rw [HX2.out]; exact FN.out⟩
      case measure => simp [intOf]; omega
     ·by_cases k6 : e0 = 6
      ·subst k6
       obtain ⟨a, ⟨bno, bdfr, bon⟩, S, k, hstk, hbo⟩ := IO.rec6 rfl
       dsimp only at hbo
       subst hbo
       obtain rfl : stk = a :: ⟨bno, bdfr, some k⟩ :: S := hstk
       clear IO
       have hkl : k < pan.length := HON.out ⟨bno, bdfr, some k⟩ (by simp) k rfl
       go_upto_region 13 with fail
       change (fun V => Code.wp _ _ _ _ V) _
       refine gen_world (X := fun Y => (St4 (fun _ => False) w w.heap.size b3 w.heap.size h0 h1 h2 h3 h4 h5 h6 ⟨a :: ⟨bno, bdfr, some k⟩ :: S, next, pan, rcv⟩ Y) ∧ Blk Y wr.heap.size 74 #[.int .i64 6, .int .i64 e1, .int .i64 e2]) ⟨ST.out.below ((Below.refl _ _).alloc (Nat.le_refl _) _), heap1_0 wr _⟩ ?_
       clear ST h0' h1' h2' z0
       generalize wr.heap.size = be
       rintro Y ⟨hY, xY⟩
       have z0 := hY.b0.cells
       have f0 := hY.b0.frozen
       have x0 := xY.cells
       have hwy : w.heap.size ≤ Y.heap.size := Nat.le_trans (Nat.le_of_lt hb3) (Nat.le_of_lt hY.b0.lt)
       have ST := Lib.hid hY
       clear hY xY
       obtain ⟨s', hs'⟩ : ∃ s' : MS, (⟨a :: ⟨bno, bdfr, none⟩ :: S, next, upd pan k (fun x => setFate x 1), rcv ++ [((k : Int), e1)]⟩ : MS) = s' := ⟨_, rfl⟩
       have HC0 := l4Recover_any w.heap.size h0 h1 h2 h3 h4 h5 h6 next pan rcv a bno bdfr k S 6 e1 e2 Y hkl (by simp at hl0; omega) hl1 hl2 hwy ST.out.w4
       rw [hs'] at HC0
       have HX2 := Lib.hid (show mds (t.take (j + 1)) = s' from (by rw [HX.out, md_6 rfl rfl rfl]; exact hs'))
       have HC := Lib.hid HC0
       clear hs' HC0
       go_wp2_with fail
       refine HC.out.mono ?_
       rintro e U ⟨k0, k1, k4, rfl, hW, hch0⟩
       have hch : Chg (Mine h0 h1 h2 h3 h4 h5 h6) Y U := hch0.mono (fun x _ e => .inr (.inr (.inr (.inr (.inl (mine_of e))))))
       have FN := Lib.hid (st_put ST.out hb3 hch hW)
       have B1 := ST.out.b0.chg hch (mine_apart ST.out.w4 ST.out.b0)
       have z0 := B1.cells
       have f0 := B1.frozen
       clear ST HC hW hch hch0 B1 x0
       go_wp2_with fail
       clear z0 f0
       go_roundw
       case rel => exact ⟨j + 1, k0, k1, h2, h3, k4, h5, h6, by omega, by go_num, by rw [HX2.out]; exact FN.out⟩
       case measure => simp [intOf]; omega
      ·by_cases k7 : e0 = 7
       ·subst k7
        obtain ⟨a, O, hstk⟩ := IO.top (by simp)
        obtain rfl : stk = a :: O := hstk
        clear IO
        obtain ⟨m, hm⟩ : ∃ m, O.length = m := ⟨_, rfl⟩
        have hcal : wr.ownsRow w.heap.size 157 2 (.slice h0.A (m + 1) h0.c) (m + 1) (cellsD (callsOf (a :: O))) := by have := ST.out.w4.calls; rw [← hm]; exact this
        obtain ⟨A0, c0⟩ := h0
        have hcap : m + 1 ≤ c0 := Slast0.own_cap hcal
        rcases own_form hcal with ⟨hx, _⟩ | ⟨_, g, cp, hv, _, _⟩
        ·omega
        simp only [Value.slice.injEq, true_and] at hv
        obtain ⟨rfl, rfl⟩ := hv
        have HM := Lib.hid hm
        clear hm hcal
        go_upto_region 15 with fail
        change (fun V => Code.wp _ _ _ _ V) _
        refine gen_world (X := fun Y => St4 (fun _ => False) w w.heap.size b3 w.heap.size ⟨some ⟨g, 0, none⟩, c0⟩ h1 h2 h3 h4 h5 h6 ⟨a :: O, next, pan, rcv⟩ Y) (ST.out.below ((Below.refl _ _).alloc (Nat.le_refl _) _)) ?_
        clear ST h0' h1' h2' z0
        rintro Y hY
        have z0 : Y.cell? ⟨b3, 0, none⟩ = some (.slice (some ⟨g, 0, none⟩) (m + 1) c0) := by rw [← HM.out]; exact hY.b0.cells 0
        have f0 := hY.b0.frozen
        have hmm : ((m + 1 : Nat) : Int) - 1 = (m : Int) := by omega
        have hkc : m ≤ c0 := by omega
        have hml : m ≤ 100000 := by have h := HM.out; simp at hl0; omega
        have ST := Lib.hid hY
        clear hY
        go_wp2_with fail
        clear z0 f0
        have FN := Lib.hid (ret_fin ST.out hb3)
        clear ST
        go_roundw
        case rel => exact ⟨j + 1, ⟨some ⟨g, 0, none⟩, c0⟩, h1, h2, h3, h4, h5, h6, by omega, by go_num, by rw [HX.out, md_7 rfl rfl]; have e := HM.out; subst e; exact FN.out⟩
        case measure => simp [intOf]; omega
       ·by_cases k8 : e0 = 8
        ·subst k8
         obtain ⟨⟨ano, adfr, aon⟩, O, k, hstk, hao, hok⟩ := IO.unw rfl
         dsimp only at hao hok
         subst hao
         obtain rfl : stk = ⟨ano, adfr, some k⟩ :: O := hstk
         clear IO
         have hkl : k < pan.length := HON.out ⟨ano, adfr, some k⟩ (by simp) k rfl
         have HOK := Lib.hid hok
         clear hok
         go_upto_region 17 with fail
         change (fun V => Code.wp _ _ _ _ V) _
         refine gen_world (X := fun Y => (St4 (fun _ => False) w w.heap.size b3 w.heap.size h0 h1 h2 h3 h4 h5 h6 ⟨⟨ano, adfr, some k⟩ :: O, next, pan, rcv⟩ Y) ∧ Blk Y wr.heap.size 74 #[.int .i64 8, .int .i64 e1, .int .i64 e2]) ⟨ST.out.below ((Below.refl _ _).alloc (Nat.le_refl _) _), heap1_0 wr _⟩ ?_
         clear ST h0' h1' h2' z0
         generalize wr.heap.size = be
         rintro Y ⟨hY, xY⟩
         have z0 := hY.b0.cells
         have f0 := hY.b0.frozen
         have x0 := xY.cells
         have hwy : w.heap.size ≤ Y.heap.size := Nat.le_trans (Nat.le_of_lt hb3) (Nat.le_of_lt hY.b0.lt)
         have ST := Lib.hid hY
         clear hY xY
         obtain ⟨s', hs'⟩ : ∃ s' : MS, (⟨putE O (some k), next, if O = [] then upd (upd pan k (fun x => addBy x e1)) k (fun x => setFate x 3) else replOf (upd pan k (fun x => addBy x e1)) (onE O) k, rcv⟩ : MS) = s' := ⟨_, rfl⟩
         have HC0 := l4Unwind_any w.heap.size h0 h1 h2 h3 h4 h5 h6 next pan rcv ano adfr k O 8 e1 e2 Y HOK.out hkl (fun b hb => HON.out b (List.mem_cons_of_mem _ hb)) HL3.out (by simp at hl0; omega) hl1 hwy ST.out.w4
         rw [hs'] at HC0
         have HX2 := Lib.hid (show mds (t.take (j + 1)) = s' from (by rw [HX.out, md_8 rfl rfl rfl]; exact hs'))
         have HC := Lib.hid HC0
         clear hs' HC0
         go_wp2_with fail
         refine HC.out.mono ?_
         rintro e U ⟨k0, k1, k3, k5, k6, rfl, hW, hbl⟩
         have hch : Chg (Mine h0 h1 h2 h3 h4 h5 h6) Y U := Chg.of_below hbl
         have FN := Lib.hid (st_put ST.out hb3 hch hW)
         have B1 := ST.out.b0.chg hch (mine_apart ST.out.w4 ST.out.b0)
         have z0 := B1.cells
         have f0 := B1.frozen
         clear ST HC hW hch hbl B1 x0
         go_wp2_with fail
         clear z0 f0
         go_roundw
         case rel => exact ⟨j + 1, k0, k1, h2, k3, h4, k5, k6, by omega, by go_num, by rw [HX2.out]; exact FN.out⟩
         case measure => simp [intOf]; omega
        ·by_cases k9 : e0 = 9
         ·subst k9
          obtain ⟨a, O, hstk, hok⟩ := IO.exi rfl
          obtain rfl : stk = a :: O := hstk
          clear IO
          have HOK := Lib.hid hok
          clear hok
          go_upto_region 19 with fail
          change (fun V => Code.wp _ _ _ _ V) _
          refine gen_world (X := fun Y => (St4 (fun _ => False) w w.heap.size b3 w.heap.size h0 h1 h2 h3 h4 h5 h6 ⟨a :: O, next, pan, rcv⟩ Y) ∧ Blk Y wr.heap.size 74 #[.int .i64 9, .int .i64 e1, .int .i64 e2]) ⟨ST.out.below ((Below.refl _ _).alloc (Nat.le_refl _) _), heap1_0 wr _⟩ ?_
          clear ST h0' h1' h2' z0
          generalize wr.heap.size = be
          rintro Y ⟨hY, xY⟩
          have z0 := hY.b0.cells
          have f0 := hY.b0.frozen
          have x0 := xY.cells
          have hwy : w.heap.size ≤ Y.heap.size := Nat.le_trans (Nat.le_of_lt hb3) (Nat.le_of_lt hY.b0.lt)
          have ST := Lib.hid hY
          clear hY xY
          obtain ⟨s', hs'⟩ : ∃ s' : MS, (⟨putE O none, next, fatesOf pan (onE O) 4, rcv⟩ : MS) = s' := ⟨_, rfl⟩
          have HC0 := l4Exit_any w.heap.size h0 h1 h2 h3 h4 h5 h6 next pan rcv a O Y HOK.out (fun b hb => HON.out b (List.mem_cons_of_mem _ hb)) (by simp at hl0; omega) hl1 hwy ST.out.w4
          rw [hs'] at HC0
          have HX2 := Lib.hid (show mds (t.take (j + 1)) = s' from (by rw [HX.out, md_9 rfl rfl]; exact hs'))
          have HC := Lib.hid HC0
          clear hs' HC0
          go_wp2_with fail
          refine HC.out.mono ?_
          rintro e U ⟨k0, k1, rfl, hW, hbl⟩
          have hch : Chg (Mine h0 h1 h2 h3 h4 h5 h6) Y U := Chg.of_below hbl
          have FN := Lib.hid (st_put ST.out hb3 hch hW)
          have B1 := ST.out.b0.chg hch (mine_apart ST.out.w4 ST.out.b0)
          have z0 := B1.cells
          have f0 := B1.frozen
          clear ST HC hW hch hbl B1 x0
          go_wp2_with fail
          clear z0 f0
          go_roundw
          case rel => exact ⟨j + 1, k0, k1, h2, h3, h4, h5, h6, by omega, by go_num, by rw [HX2.out]; exact FN.out⟩
          case measure => simp [intOf]; omega
         ·have hk : ¬ (e0 = 1 ∨ e0 = 3) := fun h => h.elim k1 k3
          have q1 : (e0 == 1) = false := by simpa using k1
          have q3 : (e0 == 3) = false := by simpa using k3
          have q5 : (e0 == 5) = false := by simpa using k5
          have q6 : (e0 == 6) = false := by simpa using k6
          have q7 : (e0 == 7) = false := by simpa using k7
          have q8 : (e0 == 8) = false := by simpa using k8
          have q9 : (e0 == 9) = false := by simpa using k9
          have HX2 := Lib.hid (HX.out.trans (md_else (s := ⟨stk, next, pan, rcv⟩) (e := (e0, e1, e2)) hk ⟨k5, k6, k7, k8, k9⟩))
          have S1 := Lib.hid (ST.out.below ((Below.refl wr.heap.size wr).alloc (Nat.le_refl _) (.cells #[.int .i64 e0, .int .i64 e1, .int .i64 e2] 74)))
          clear hk k1 k3 k5 k6 k7 k8 k9 ST IO z0
          go_wp2_with fail
          go_roundw
          case rel => exact ⟨j + 1, h0, h1, h2, h3, h4, h5, h6, by omega, by go_num, by rw [HX2.out]; exact S1.out⟩
          case measure => simp [intOf]; omega

  ·obtain rfl : j = N := by omega
   have ST := Lib.hid hS
   have z0 := hS.b0.cells
   have z1 := hS.bz.cells
   have f1 := hS.bz.frozen
   rw [HFULL.out] at ST z0
   clear hS
   go_wp2_with fail
   clear z0 z1 f1
   refine gen_post (X := fun V => Blk V w.heap.size 61 (recV h0 h1 h2 h3 h4 h5 h6 (mds t)) ∧ W4 V w.heap.size h0 h1 h2 h3 h4 h5 h6 (mds t) ∧ Chg (fun _ => False) w V) ⟨Blk.all7 ST.out.bz rfl, ST.out.w4.set7 ST.out.bz, chg7 ST.out.chg (Nat.le_refl _)⟩ ?_
   clear ST
   intro V hV
   have V1 := hV.1.cells
   have HV := Lib.hid hV.2
   clear hV
   exact bodyPost_ret (v := .agg (recV h0 h1 h2 h3 h4 h5 h6 (mds t))) (by simp [results, Try.results85, go_sem, V1]) rfl ⟨_, _, _, _, _, _, _, rfl, HV.out.1, chg_false HV.out.2⟩
end Go.Proofs.Ytgcjlkdahlfjlaa.Pt
-- squeezed
