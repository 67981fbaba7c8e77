import Derived.Test.YtikdcnlbjpabjabTree
import Derived.Test.YtikdcnlbjpabjabM3
set_option linter.all false
namespace Go.Proofs.Ytikdcnlbjpabjab.CflP
open Lib (hid)
open Go.ChangeShapes Go.WideShapes Go.ChangeAt Go.RowKit
open PL Mem To IntsP RowC LawC LawI TreeP
structure Grow (w2 : World) (lo h0 : Nat) (v : Value) (ys : List Int) (wr : World) : Prop where
 own : wr.ownsRow lo 3 1 v ys.length (cellsI ys)
 at_ : ∀ k, v.ownBlock = some k → k = h0 ∨ w2.heap.size ≤ k
 chg : Chg (fun b => b = h0) w2 wr
theorem Grow.push {w2 wr V w' : World} {lo h0 : Nat} {v v' : Value} {ys : List Int} {z : Int} (h : Grow w2 lo h0 v ys wr) (o : Obj) (hV : V = wr.alloc o)
  (ho : w'.ownsRow lo 3 1 v' (ys.length + 1) (cellsI ys ++ [.int .i64 z])) (hg : V.grownBy w' v.ownBlock) (ha : v'.ownBlock = v.ownBlock ∨ v'.ownBlock = some V.heap.size) : Grow w2 lo h0 v' (ys ++ [z]) w' := by
 subst hV
 have sz := h.chg.size
 refine ⟨by rw [List.length_append, List.length_singleton, cellsI_append]; exact ho, fun k hk => ?_, ?_⟩
 ·rcases ha with ha | ha
  ·exact h.at_ k (by rw [← ha]; exact hk)
  ·rw [ha] at hk
   have : wr.heap.size + 1 = k := by simpa using hk
   omega
 ·have h1 : Chg (fun b => b = h0) w2 (wr.alloc o) := h.chg.new o
  refine h1.trans (App.Chg.of_grown' (C := fun b => b = h0 ∨ w2.heap.size ≤ b) hg (fun k hk => h.at_ k hk)) (fun x hx hx2 => ?_)
  rcases hx2 with hx2 | hx2
  ·exact hx2
  ·omega
theorem own_alloc {w : World} {B e sz n : Nat} {v : Value} {xs : List Value} (h : w.ownsRow B e sz v n xs) (o : Obj) : (w.alloc o).ownsRow B e sz v n xs := own_below h ((Below.refl _ _).alloc (Nat.le_refl _) o) (Nat.le_refl _)
theorem own_drew {w : World} {B e sz n : Nat} {v : Value} {xs : List Value} (h : w.ownsRow B e sz v n xs) : w.drew.ownsRow B e sz v n xs := own_below h ((Below.refl w.heap.size w).drew) (Nat.le_refl _)
theorem Grow.len {w2 wr : World} {lo h0 m c : Nat} {A : Option Addr} {ys : List Int} (h : Grow w2 lo h0 (.slice A m c) ys wr) : ys.length = m := by
 rcases h.own.2 with ⟨h1, h2⟩ | ⟨_, _, _, h1, _⟩
 ·simp only [Value.slice.injEq] at h1; omega
 ·simp only [Value.slice.injEq] at h1; omega
theorem Grow.below {w2 wr w' : World} {lo h0 : Nat} {v : Value} {ys : List Int} (h : Grow w2 lo h0 v ys wr) (hb : Below wr.heap.size wr w') : Grow w2 lo h0 v ys w' :=
 ⟨own_below h.own hb (Nat.le_refl _), h.at_, h.chg.trans (Chg.of_below hb (C := fun _ => False)) (fun _ _ hx => hx.elim)⟩
def failQ (s : CI) : Bool := s.dfr && decide (s.fin = 2)
def failK (cs : List CI) (k : Nat) : List Int := ((List.range k).filter (fun i => match cs[i]? with | some s => failQ s | none => false)).map (fun i : Nat => (i : Int))
theorem failK_yes {cs : List CI} {k : Nat} {s : CI} (hs : cs[k]? = some s) (h : failQ s = true) : failK cs (k + 1) = failK cs k ++ [(k : Int)] := by
 unfold failK; rw [List.range_succ, List.filter_append, List.map_append]; simp [hs, h]
theorem failK_no {cs : List CI} {k : Nat} {s : CI} (hs : cs[k]? = some s) (h : failQ s = false) : failK cs (k + 1) = failK cs k := by
 unfold failK; rw [List.range_succ, List.filter_append, List.map_append]; simp [hs, h]
theorem failK_len (cs : List CI) (k : Nat) : (failK cs k).length ≤ k := by
 unfold failK; rw [List.length_map]; exact Nat.le_trans (List.length_filter_le _ _) (by simp)
theorem failQ_no {s : CI} (h : s.dfr = false) : failQ s = false := by unfold failQ; rw [h]; rfl
theorem failQ_fin {s : CI} (h : s.dfr = true) : failQ s = decide (s.fin = 2) := by unfold failQ; rw [h]; rfl
def cflR (p : Pg) (f arg fuel : Int) : List Int × Bool := (failK (treeR p f arg fuel).1 (treeR p f arg fuel).1.length, (treeR p f arg fuel).2)
theorem cflR_len (p : Pg) (f arg fuel : Int) : (cflR p f arg fuel).1.length ≤ 100000 := Nat.le_trans (failK_len _ _) (treeR_len p f arg fuel)
theorem gen_world7 {X G : World → Prop} {W : World} (hx : X W) (h : ∀ W, X W → G W) : G W := h W hx
set_option maxRecDepth 100000 in
set_option maxHeartbeats 4000000 in
theorem cflS_any (lo n c : Nat) (A : Option Addr) (p : Pg) (f arg fuel : Int) (hn : n ≤ 9223372036854775807) (hl : p.length = n) (hsm : Small p 9223372036854775807) (w : World) (ho : OwnP w lo (.slice A n c) p) :
  Calls Try.prog 21 #[.agg #[.slice A n c], .int .i64 f, .int .i64 arg, .int .i64 fuel] w (IntsR (cflR p f arg fuel) w) := by
 have HT := hid (fun W (h : Below w.heap.size w W) => treeS_any lo n c A p f arg fuel hn hl hsm W (ho.below h))
 have hlen := treeR_len p f arg fuel
 have hr := hid (show cflR p f arg fuel = (failK (treeR p f arg fuel).1 (treeR p f arg fuel).1.length, (treeR p f arg fuel).2) from rfl)
 generalize treeR p f arg fuel = r at *
 obtain ⟨cs, g⟩ := r
 dsimp only at hlen
 obtain ⟨i0, hi, hz0, hz1, hz2⟩ := info_parts info3
 obtain ⟨N, hN⟩ : ∃ N, cs.length = N := ⟨_, rfl⟩
 have HN := hid hN
 have hal : ∀ o1 : Obj, Below w.heap.size w (w.alloc o1) := fun o1 => (Below.refl _ _).alloc (Nat.le_refl _) _
 have hal2 : ∀ o1 o2 : Obj, Below w.heap.size w ((w.alloc o1).alloc o2) := fun o1 o2 => (hal o1).alloc (by simp) _
 have HAL := hid hal
 have HAL2 := hid hal2
 rw [hN] at hlen
 clear ho hsm hal hal2 hN
 go_enter Try.func21, Try.ntmps21
 go_wp2_with fail
 refine (HT.out _ (HAL2.out _ _)).mono ?_
 rintro e w2 ⟨Ac, cc, rfl, hoc, b1⟩
 have HB2 := hid ((HAL2.out (.cells #[.slice A n c] 31) (.cells #[] 3)).trans (b1.mono (HAL2.out _ _).size))
 obtain ⟨h0, hh0⟩ : ∃ h0, w.heap.size + 1 = h0 := ⟨_, rfl⟩
 dsimp only at *
 unfold OwnC at hoc
 rw [HN.out] at hoc ⊢
 have hne : ∀ k, (Value.slice Ac N cc).ownBlock = some k → k ≠ h0 := fun k hk => by have := (World.ownsRow.lt hoc k hk).1; simp at this; omega
 have hbk : w2.heap[w.heap.size + 1]? = some (.cells #[] 3) := (b1.block _ (by simp)).trans (heap2_1 w _ _)
 have HOC := hid (own_mono (B' := w.heap.size) hoc (by simp; omega))
 have HG := hid (show Grow w2 w.heap.size h0 (.slice (some ⟨h0, 0, none⟩) 0 0) (failK cs 0) w2 by
  rw [← hh0]; exact ⟨App.empty_own hbk (Nat.le_succ _), fun k hk => .inl (by simpa [Value.ownBlock] using hk.symm), Chg.refl _ _⟩)
 have s2 : w.heap.size ≤ h0 ∧ h0 < w2.heap.size := ⟨by omega, by rw [← hh0]; exact (Array.getElem?_eq_some_iff.1 hbk).1⟩
 rw [hh0]
 clear hoc hbk HT b1 hh0
 go_wp2_with fail
 go_loopw [10, 13] (fun v i wr => ∃ (k m : Nat) (Ag : Option Addr) (cg : Nat), k ≤ N ∧ i = .int .i64 k ∧ v = .slice Ag m cg ∧ m ≤ k ∧ Grow w2 w.heap.size h0 (.slice Ag m cg) (failK cs k) wr) (fun _ i _ => N - (intOf i).toNat)
 case atStart => exact ⟨0, 0, _, _, Nat.zero_le _, rfl, rfl, Nat.le_refl _, HG.out⟩
 case round =>
  obtain ⟨k, m, Ag, cg, hk, rfl, rfl, hmk, hG⟩ := hrel
  have G := hid hG
  have HM := hid hG.len
  have szr := hG.chg.size
  have HRC := hid (OwnC.rd (xs := cs) (show OwnC wr w.heap.size (.slice Ac N cc) cs by unfold OwnC; rw [HN.out]; exact own_chg HOC.out hG.chg hne) HN.out)
  clear hG
  by_cases hlt : k < N
  ·obtain ⟨s, hsx⟩ : ∃ s, cs[k]? = some s := ⟨_, List.getElem?_eq_getElem (by rw [HN.out]; exact hlt)⟩
   obtain ⟨ad, rfl, hab, c0, c1, c2, c3, c4⟩ := HRC.out k _ hsx
   have HS := hid hsx
   clear hsx
   cases hd : s.dfr with
   | false =>
    have hq := failQ_no hd
    rw [hd] at c2
    have hN := hid (failK_no HS.out hq)
    clear hq
    go_wp2_with fail
    go_roundw
    case rel => exact ⟨k + 1, m, _, _, by omega, by go_num, rfl, by omega, by rw [hN.out]; exact G.out⟩
    case measure => simp [intOf]; omega
   | true =>
    by_cases hf : s.fin = 2
    ·have hq : failQ s = true := by rw [failQ_fin hd, decide_eq_true hf]
     rw [hd] at c2
     have hf2 : (s.fin == 2) = true := by simp [hf]
     have hN := hid (failK_yes HS.out hq)
     have HOW := hid (by have := G.out.own; rwa [HM.out] at this : wr.ownsRow w.heap.size 3 1 (.slice Ag m cg) m (cellsI (failK cs k)))
     clear hq
     go_wp2_with (first | (at_builtin; refine App.row_list _ rfl (.tmp 42) (.tmp 44) 26 rfl w.heap.size 0 3 i0 _ 1 8 Try.underlying26 hi hz0 hz1 hz2 rfl (by decide) (.slice Ag m cg) m (cellsI (failK cs k)) rfl (own_alloc HOW.out _) (.slice (some ⟨wr.heap.size, 0, none⟩) 1 1) 1 [.int .i64 (k : Int)] rfl (App.one_own (heap1_0 wr _)) (by intro u hu; simp at hu; rw [hu]; rfl) (by unfold maxLen; omega) (by omega) (by simp; omega) ?_) | go_in)
     intro v1 w3 o1 g1 t1
     have hp := G.out.push (z := (k : Int)) (v' := v1) (w' := w3) (.cells #[.int .i64 (k : Int)] 3) rfl (by rw [HM.out]; exact o1) g1 (by simpa using t1)
     rw [← hN.out] at hp
     have HP := hid hp
     obtain ⟨A1, c1', rfl⟩ := own_slice o1
     clear o1 g1 t1 hp
     go_wp2_with fail
     go_roundw
     case rel => exact ⟨k + 1, m + 1, _, _, by omega, by go_num, rfl, by omega, HP.out⟩
     case measure => simp [intOf]; omega
    ·have hq : failQ s = false := by rw [failQ_fin hd, decide_eq_false hf]
     rw [hd] at c2
     have hf2 : (s.fin == 2) = false := by simp [hf]
     have hN := hid (failK_no HS.out hq)
     clear hq
     go_wp2_with fail
     go_roundw
     case rel => exact ⟨k + 1, m, _, _, by omega, by go_num, rfl, by omega, by rw [hN.out]; exact G.out⟩
     case measure => simp [intOf]; omega
  ·obtain rfl : k = N := by omega
   go_wp2_with fail
   go_ret2
   rw [hr.out]
   refine ⟨Ag, cg, by simp only [HN.out, HM.out]; rfl, ?_, HB2.out.trans (G.out.chg.below HB2.out.size (fun b hb => by omega))⟩
   simp only [OwnI]
   rw [HN.out]
   have := G.out.own
   rw [HM.out] at this ⊢
   exact this
set_option maxRecDepth 100000 in
set_option maxHeartbeats 4000000 in
theorem cflI_any (lo n c : Nat) (A : Option Addr) (p : Pg) (f arg fuel : Int) (hn : n ≤ 9223372036854775807) (hl : p.length = n) (hsm : Small p 9223372036854775807) (w : World) (ho : OwnP w lo (.slice A n c) p) :
  Calls Try.prog 22 #[.agg #[.slice A n c], .int .i64 f, .int .i64 arg, .int .i64 fuel] w (IntsR (cflR p f arg fuel) w) := by
 have HT := hid (fun W (h : Below w.heap.size w W) => treeI_any lo n c A p f arg fuel hn hl hsm W (ho.below h))
 have hlen := treeR_len p f arg fuel
 have hr := hid (show cflR p f arg fuel = (failK (treeR p f arg fuel).1 (treeR p f arg fuel).1.length, (treeR p f arg fuel).2) from rfl)
 generalize treeR p f arg fuel = r at *
 obtain ⟨cs, g⟩ := r
 dsimp only at hlen
 obtain ⟨i0, hi, hz0, hz1, hz2⟩ := info_parts info3
 obtain ⟨N, hN⟩ : ∃ N, cs.length = N := ⟨_, rfl⟩
 have HN := hid hN
 have hal : ∀ o1 : Obj, Below w.heap.size w (w.alloc o1) := fun o1 => (Below.refl _ _).alloc (Nat.le_refl _) _
 have hal2 : ∀ o1 o2 : Obj, Below w.heap.size w ((w.alloc o1).alloc o2) := fun o1 o2 => (hal o1).alloc (by simp) _
 have HAL := hid hal
 have HAL2 := hid hal2
 rw [hN] at hlen
 clear ho hsm hal hal2 hN
 go_enter Try.func22, Try.ntmps22
 go_wp2_with fail
 refine (HT.out _ (HAL.out _)).mono ?_
 rintro e w1 ⟨Ac, cc, rfl, hoc, b1⟩
 have HB1 := hid ((HAL.out (.cells #[.slice A n c] 31)).trans (b1.mono (HAL.out _).size))
 dsimp only at *
 unfold OwnC at hoc
 rw [HN.out] at hoc ⊢
 obtain ⟨h0, hh0⟩ : ∃ h0, w1.heap.size = h0 := ⟨_, rfl⟩
 have hne : ∀ k, (Value.slice Ac N cc).ownBlock = some k → k ≠ h0 := fun k hk => by have := (World.ownsRow.lt hoc k hk).2; omega
 have HOC1 := hid hoc
 clear hoc b1 HT
 go_wp2_with fail
 obtain ⟨w2, hw2⟩ : ∃ w2, w1.alloc (.cells #[] 3) = w2 := ⟨_, rfl⟩
 have b12 : Below w1.heap.size w1 w2 := by rw [← hw2]; exact (Below.refl _ _).alloc (Nat.le_refl _) _
 have HOC := hid (own_mono (B' := w.heap.size) (own_below HOC1.out b12 (Nat.le_refl _)) (by simp))
 have HG := hid (show Grow w2 w.heap.size h0 (.slice (some ⟨h0, 0, none⟩) 0 0) (failK cs 0) w2 by
  rw [← hw2, ← hh0]; exact ⟨App.empty_own (heap1_0 w1 _) HB1.out.size, fun k hk => .inl (by simpa [Value.ownBlock] using hk.symm), Chg.refl _ _⟩)
 have HB2 := hid (HB1.out.trans (b12.mono HB1.out.size))
 have s2 : w.heap.size ≤ h0 ∧ h0 < w2.heap.size := ⟨by rw [← hh0]; exact HB1.out.size, by rw [← hw2, ← hh0]; simp⟩
 rw [hw2]
 try rw [hh0]
 clear hw2 b12 HB1 HOC1 hh0
 go_loopw [12, 26] (fun v i wr => ∃ (k m : Nat) (Ag : Option Addr) (cg : Nat), k ≤ N ∧ i = .int .i64 k ∧ v = .slice Ag m cg ∧ m ≤ k ∧ Grow w2 w.heap.size h0 (.slice Ag m cg) (failK cs k) wr) (fun _ i _ => N - (intOf i).toNat)
 case atStart => exact ⟨0, 0, _, _, Nat.zero_le _, rfl, rfl, Nat.le_refl _, HG.out⟩
 case round =>
  obtain ⟨k, m, Ag, cg, hk, rfl, rfl, hmk, hG⟩ := hrel
  have G := hid hG
  have HM := hid hG.len
  have szr := hG.chg.size
  have HRC := hid (OwnC.rd (xs := cs) (show OwnC wr w.heap.size (.slice Ac N cc) cs by unfold OwnC; rw [HN.out]; exact own_chg HOC.out hG.chg hne) HN.out)
  clear hG
  by_cases hlt : k < N
  ·obtain ⟨s, hsx⟩ : ∃ s, cs[k]? = some s := ⟨_, List.getElem?_eq_getElem (by rw [HN.out]; exact hlt)⟩
   obtain ⟨ad, rfl, hab, c0, c1, c2, c3, c4⟩ := HRC.out k _ hsx
   have HS := hid hsx
   clear hsx
   have HQ0 := hid (fun o => G.out.below ((Below.refl wr.heap.size wr).alloc (Nat.le_refl _) o))
   cases hd : s.dfr with
   | false =>
    have hq := failQ_no hd
    have hN := hid (failK_no HS.out hq)
    clear hq
    go_upto_region 6 with fail
    change (fun V => Code.wp _ _ _ _ V) _
    refine gen_world7 (X := fun V => Grow w2 w.heap.size h0 (.slice Ag m cg) (failK cs k) V ∧ Blk V wr.heap.size 54 #[.int .i64 s.f, .int .i64 s.par, .bool false, .int .i64 s.fin, .int .i64 s.val]) ⟨HQ0.out _, heap1_0 wr _⟩ ?_
    rintro wq ⟨gq, bq⟩
    have GQ := hid gq
    have y2 : wq.cell? ⟨wr.heap.size, 2, none⟩ = some (.bool false) := bq.cells 2
    have y3 : wq.cell? ⟨wr.heap.size, 3, none⟩ = some (.int .i64 s.fin) := bq.cells 3
    have HOW := hid (by have := gq.own; rwa [HM.out] at this : wq.ownsRow w.heap.size 3 1 (.slice Ag m cg) m (cellsI (failK cs k)))
    have sq := gq.chg.size
    clear gq bq
    go_wp2_with fail
    go_roundw
    case rel => exact ⟨k + 1, m, _, _, by omega, by go_num, rfl, by omega, by rw [hN.out]; exact GQ.out⟩
    case measure => simp [intOf]; omega
   | true =>
    by_cases hf : s.fin = 2
    ·have hq : failQ s = true := by rw [failQ_fin hd, decide_eq_true hf]
     have hf2 : (s.fin == 2) = true := by simp [hf]
     have hN := hid (failK_yes HS.out hq)
     clear hq
     go_upto_region 6 with fail
     change (fun V => Code.wp _ _ _ _ V) _
     refine gen_world7 (X := fun V => Grow w2 w.heap.size h0 (.slice Ag m cg) (failK cs k) V ∧ Blk V wr.heap.size 54 #[.int .i64 s.f, .int .i64 s.par, .bool true, .int .i64 2, .int .i64 s.val]) ⟨HQ0.out _, heap1_0 wr _⟩ ?_
     rintro wq ⟨gq, bq⟩
     have GQ := hid gq
     have y2 : wq.cell? ⟨wr.heap.size, 2, none⟩ = some (.bool true) := bq.cells 2
     have y3 : wq.cell? ⟨wr.heap.size, 3, none⟩ = some (.int .i64 2) := bq.cells 3
     have HOW := hid (by have := gq.own; rwa [HM.out] at this : wq.ownsRow w.heap.size 3 1 (.slice Ag m cg) m (cellsI (failK cs k)))
     have sq := gq.chg.size
     clear gq bq
     go_wp2_with (first | (at_builtin; refine App.row_list _ rfl (.tmp 38) (.tmp 40) 26 rfl w.heap.size 0 3 i0 _ 1 8 Try.underlying26 hi hz0 hz1 hz2 rfl (by decide) (.slice Ag m cg) m (cellsI (failK cs k)) rfl (own_alloc HOW.out _) (.slice (some ⟨wq.heap.size, 0, none⟩) 1 1) 1 [.int .i64 (k : Int)] rfl (App.one_own (heap1_0 wq _)) (by intro u hu; simp at hu; rw [hu]; rfl) (by unfold maxLen; omega) (by omega) (by simp; omega) ?_) | go_in)
     intro v1 w3 o1 g1 t1
     have hp := GQ.out.push (z := (k : Int)) (v' := v1) (w' := w3) (.cells #[.int .i64 (k : Int)] 3) rfl (by rw [HM.out]; exact o1) g1 (by simpa using t1)
     rw [← hN.out] at hp
     have HP := hid hp
     obtain ⟨A1, c1', rfl⟩ := own_slice o1
     clear o1 g1 t1 hp
     go_wp2_with fail
     go_roundw
     case rel => exact ⟨k + 1, m + 1, _, _, by omega, by go_num, rfl, by omega, HP.out⟩
     case measure => simp [intOf]; omega
    ·have hq : failQ s = false := by rw [failQ_fin hd, decide_eq_false hf]
     have hf2 : (s.fin == 2) = false := by simp [hf]
     have hN := hid (failK_no HS.out hq)
     clear hq
     go_upto_region 6 with fail
     change (fun V => Code.wp _ _ _ _ V) _
     refine gen_world7 (X := fun V => Grow w2 w.heap.size h0 (.slice Ag m cg) (failK cs k) V ∧ Blk V wr.heap.size 54 #[.int .i64 s.f, .int .i64 s.par, .bool true, .int .i64 s.fin, .int .i64 s.val]) ⟨HQ0.out _, heap1_0 wr _⟩ ?_
     rintro wq ⟨gq, bq⟩
     have GQ := hid gq
     have y2 : wq.cell? ⟨wr.heap.size, 2, none⟩ = some (.bool true) := bq.cells 2
     have y3 : wq.cell? ⟨wr.heap.size, 3, none⟩ = some (.int .i64 s.fin) := bq.cells 3
     have HOW := hid (by have := gq.own; rwa [HM.out] at this : wq.ownsRow w.heap.size 3 1 (.slice Ag m cg) m (cellsI (failK cs k)))
     have sq := gq.chg.size
     clear gq bq
     go_wp2_with fail
     go_roundw
     case rel => exact ⟨k + 1, m, _, _, by omega, by go_num, rfl, by omega, by rw [hN.out]; exact GQ.out⟩
     case measure => simp [intOf]; omega
  ·obtain rfl : k = N := by omega
   go_wp2_with fail
   go_ret2
   rw [hr.out]
   refine ⟨Ag, cg, by simp only [HN.out, HM.out]; rfl, ?_, HB2.out.trans (G.out.chg.below HB2.out.size (fun b hb => by omega))⟩
   simp only [OwnI]
   rw [HN.out]
   have := G.out.own
   rw [HM.out] at this ⊢
   exact this
end Go.Proofs.Ytikdcnlbjpabjab.CflP
-- squeezed
