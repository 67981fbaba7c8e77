/- impl.valuesOf, the walk; impl.IsError tells whether an error is another one. -/
import Derived.Test.YtkjgibhckcdneaaEvs
import Derived.Test.YtkjgibhckcdneaaEis
namespace Go.Proofs.Ytkjgibhckcdneaa.ErI
set_option linter.unusedVariables false
set_option linter.unusedSimpArgs false
open Go.ChangeShapes Go.WideShapes Go.ChangeAt Go.RowKit
open Mem IntsP ErP ErM ErT ErA ErU ErD ErW ErL ErF ErQ

set_option maxRecDepth 100000 in
set_option maxHeartbeats 8000000 in
theorem vs_any (n c : Nat) (A : Option Addr) (p : Er) (hok : okErr p = true) (hl : p.length = n) (w : World) (hr : RdE w w.heap.size A p) (hcap : CapE w A p) :
    Calls Try.prog 69 #[.agg #[.slice A n c]] w (VsR p n w) := by
  have hn : n ≤ 12 := by rw [← hl]; exact ((okErr_iff p).1 hok).2.1
  have HOK := Lib.hid hok
  have hL := Lib.hid hl
  have hRd := Lib.hid hr
  have HCAP := Lib.hid hcap
  obtain ⟨i0, hi, hz0, hz1, hz2⟩ := info_parts infoErr
  have hmk := fun W => run_make_rowN (P := Try.prog) 72 76 i0 _ Try.underlying72 hi hz0 .i64 .i64 n n (Nat.le_refl _) (by rw [hz2]; omega) (by omega) W
  rw [hz1] at hmk
  clear hok hl hr hcap hi hz0 hz2
  go_enter Try.func69, Try.ntmps69
  go_wp2_with fail
  obtain ⟨w3, hw3⟩ : ∃ w3, (w.alloc (.cells #[.slice A n c] 29)).alloc (.cells (madeCells #[Value.nilIface] n) 76) = w3 := ⟨_, rfl⟩
  obtain ⟨gv, hgv⟩ : ∃ gv, w.heap.size + 1 = gv := ⟨_, rfl⟩
  have x0 : Blk w3 w.heap.size 29 #[.slice A n c] := by rw [← hw3]; exact heap2_0 _ _ _
  have b3 : Below w.heap.size w w3 := by rw [← hw3]; exact ((Below.refl _ _).alloc (Nat.le_refl _) _).alloc (by simp) _
  have o3 : w3.ownsRow gv 76 1 (.slice (some ⟨gv, 0, none⟩) n n) n (rowV p (fun _ => 0) n n) := by
    rw [← hw3, ← hgv]
    have := row_new (w := w.alloc (.cells #[.slice A n c] 29)) (n := n) (by omega) p (fun _ => 0)
    simpa using this
  have X0 := Lib.hid x0
  have B3 := Lib.hid b3
  have hV : Vp w3 p n gv n (fun _ => 0) w3 := ⟨o3, fun i s hi hs => by have := (List.getElem?_eq_some_iff.1 hs).1; rw [hL.out] at this; omega, fun i j hi hi2 => by omega, Chg.refl _ _⟩
  have HV := Lib.hid hV
  have lgv : gv < w3.heap.size := by rw [← hw3, ← hgv]; simp
  have lwg : w.heap.size < gv := by omega
  rw [hw3, hgv]
  clear hw3 hgv x0 b3 o3 hV
  go_loopw [4] (fun i' wr => ∃ (k : Nat) (bs : Nat → Nat), k ≤ n ∧ i' = .int .i64 ((k : Int) - 1) ∧ Vp w3 p n gv k bs wr) (fun i' _ => (intOf i' + 1).toNat)
  case atStart => exact ⟨n, _, Nat.le_refl _, rfl, HV.out⟩
  case round =>
    obtain ⟨k, bs, hk, rfl, hG⟩ := hrel
    have G := Lib.hid hG
    have szr := hG.chg.size
    clear hG
    have zr : wr.cell? ⟨w.heap.size, 0, none⟩ = some (.slice A n c) := (X0.out.chg G.out.chg (by omega)).cells 0
    rcases Nat.eq_zero_or_pos k with hk0 | hk0
    · subst hk0
      rw [show ((0 : Nat) : Int) - 1 = -1 from rfl]
      go_wp2_with fail
      go_ret
      exact ⟨gv, bs, rfl, by omega, by omega, fun q hq => by
        rw [G.out.own.cellAt q (by omega), rowV_at hq, if_pos (Nat.zero_le _)], G.out.vals hL.out, B3.out.trans (G.out.chg.below B3.out.size (fun b hb h => by omega))⟩
    · obtain ⟨k', rfl⟩ : ∃ k', k = k' + 1 := ⟨k - 1, by omega⟩
      rw [show ((k' + 1 : Nat) : Int) - 1 = k' by omega]
      have hkn : k' < n := by omega
      obtain ⟨⟨kk, d, ps⟩, hs⟩ : ∃ s, p[k']? = some s := ⟨_, List.getElem?_eq_getElem (by rw [hL.out]; exact hkn)⟩
      obtain ⟨ad, Ai, ci, hAd, hab, c0, c1, c2, c3⟩ := hRd.out k' _ hs
      have hci := HCAP.out k' _ ad Ai ci hs hAd c2
      have key : ∀ q : Addr, q.block < w.heap.size → wr.cell? q = w.cell? q := fun q hq => (G.out.chg.cell (by have := B3.out.size; omega) (by omega)).trans (B3.out.cell hq)
      have e0 := (key (ad.add (k' * 3)) (by rw [block_of_add]; exact hab)).trans c0
      have e1 := (key ⟨(ad.add (k' * 3)).block, (ad.add (k' * 3)).off + 1, none⟩ (by show (ad.add _).block < _; rw [block_of_add]; exact hab)).trans c1
      have e2 := (key ⟨(ad.add (k' * 3)).block, (ad.add (k' * 3)).off + 2, none⟩ (by show (ad.add _).block < _; rw [block_of_add]; exact hab)).trans c2
      dsimp only at e0 e1 e2 hci c3
      have hrI : RdI wr wr.heap.size Ai ps := (c3.keep (fun q hq => key q hq)).more (by have := B3.out.size; omega)
      have hvo := Lib.hid (vo_any (valE p bs) (valE_iface p bs) p HOK.out k' kk d ps hs n gv hL.out Ai ci hci wr hrI (by omega) (fun q h1 h2 => by
        rw [G.out.own.cellAt q (by omega), rowV_at h2, if_pos (by omega)]))
      have HS := Lib.hid hs
      have HAD := Lib.hid hAd
      rw [hAd] at zr ⊢
      clear c0 c1 c2 c3 hs hci hrI hAd key
      have hge : (0 : Int) ≤ (k' : Int) := by omega
      obtain ⟨m, hm⟩ : ∃ m, ps.length = m := ⟨_, rfl⟩
      rw [hm] at e2 hvo
      go_wp2_with fail
      refine hvo.out.mono ?_
      rintro e w5 ⟨b, rfl, hOne, b5⟩
      have HN := Lib.hid (G.out.next HOK.out hL.out HS.out lgv hOne b5)
      have o5 := own_below G.out.own b5 (Nat.le_refl _)
      have z5 : w5.cell? ⟨gv, k', none⟩ = some .nilIface := by rw [o5.cellAt k' (by omega), rowV_at hkn, if_neg (by omega)]
      have f5 : w5.frozen? ⟨gv, k', none⟩ = false := o5.frozenAt k'
      have hval : valE p (putB bs k' b) k' = .iface (TyE kk) (.pointer (some ⟨b, 0, none⟩)) := by unfold valE; rw [putB_self, nodeE_at HS.out]
      rw [hval] at HN
      clear hOne b5 o5 hval
      go_wp2_with fail
      generalize w5.setCell ⟨gv, k', none⟩ (.iface (TyE kk) (.pointer (some ⟨b, 0, none⟩))) = w6 at *
      clear z5 f5
      go_wp2_with fail
      go_roundw
      case rel => exact ⟨k', _, by omega, rfl, HN.out⟩
      case measure => simp [intOf] <;> omega
end Go.Proofs.Ytkjgibhckcdneaa.ErI
