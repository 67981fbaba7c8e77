import Derived.Test.YtibadkjdchdnjabGuc
import Derived.Deep.RegionHeld3
import Derived.Deep.AppendLies
set_option linter.all false
namespace Go.Proofs.Ytibadkjdchdnjab.Gud
open Lib (hid)
open Go.ChangeShapes Go.WideShapes Go.ChangeAt Go.RowKit
open PL Mem Sst To AskP StpS Res PrgS IntsP LawI SetM Gua Gub Guc
def guaS (p : Pg) (l : List Int) (j : Nat) : List Int := (l.take j).filter (hasR p)
theorem guaS_yes {p : Pg} {l : List Int} {j : Nat} {x : Int} (h : l[j]? = some x) (h' : hasR p x = true) : guaS p l (j + 1) = guaS p l j ++ [x] := by
 unfold guaS
 rw [List.take_add_one, h, List.filter_append]
 simp [h']
theorem guaS_no {p : Pg} {l : List Int} {j : Nat} {x : Int} (h : l[j]? = some x) (h' : hasR p x = false) : guaS p l (j + 1) = guaS p l j := by
 unfold guaS
 rw [List.take_add_one, h, List.filter_append]
 simp [h']
theorem guaS_len (p : Pg) (l : List Int) (j : Nat) : (guaS p l j).length ≤ j := by
 have h1 : (guaS p l j).length ≤ (l.take j).length := List.length_filter_le _ _
 rw [List.length_take] at h1
 omega
theorem defL_len {p : Pg} {nf : Nat} {xs : List Tr} (hx : p[nf]? = some xs) : (defL p nf).length ≤ xs.length := by
 rw [defL_at hx]
 exact Nat.le_trans (setS_len _) (rawD_len _ _)
theorem defL_row {p : Pg} {nf : Nat} {xs : List Tr} (hp : okProg p = true) (hx : p[nf]? = some xs) {j : Nat} {x : Int} (h : (defL p nf)[j]? = some x) : ∃ (g : Nat) (ys : List Tr), x = g ∧ p[g]? = some ys ∧ ys.length ≤ 8 := by
 have h1 := List.mem_of_getElem? h
 rw [defL_at hx, setS_mem] at h1
 obtain ⟨h3, h4⟩ := def_rng hp hx h1
 have hlt : x.toNat < p.length := by omega
 exact ⟨x.toNat, _, by omega, List.getElem?_eq_getElem hlt, ((okProg_parts hp).2.2 _ _ (List.getElem?_eq_getElem hlt)).1⟩
structure GS (w : World) (s3 s4 n c m cl : Nat) (A Al : Option Addr) (l : List Int) (A' : Option Addr) (c' : Nat) (q : List Int) (wr : World) : Prop where
 own : OwnI wr (w.heap.size + 1) (.slice A' q.length c') q
 apart : ∀ k, (Value.slice A' q.length c').ownBlock = some k → k < s3 ∨ s4 ≤ k
 lst : OwnIH wr s3 s4 (.slice Al m cl) l
 box : Blk wr w.heap.size 31 #[.slice A n c]
 bel : Below w.heap.size w wr
 sz : s4 ≤ wr.heap.size
theorem GS.below {w : World} {s3 s4 n c m cl : Nat} {A Al : Option Addr} {l : List Int} {A' : Option Addr} {c' : Nat} {q : List Int} {V W : World} (h : GS w s3 s4 n c m cl A Al l A' c' q V) (b : Below V.heap.size V W) : GS w s3 s4 n c m cl A Al l A' c' q W :=
 ⟨own_below (B' := V.heap.size) h.own b (Nat.le_refl _), h.apart, h.lst.below (b.mono h.sz), h.box.below b h.box.lt, h.bel.trans (b.mono h.bel.size), Nat.le_trans h.sz b.size⟩
theorem GS.push {w : World} {s3 s4 n c m cl : Nat} {A Al : Option Addr} {l : List Int} {A' : Option Addr} {c' : Nat} {q q' : List Int} {V W : World} {g2 cap2 : Nat} (h : GS w s3 s4 n c m cl A Al l A' c' q V)
  (ch : Chg (fun y => (Value.slice A' q.length c').ownBlock = some y) V W) (ho : OwnI W (w.heap.size + 1) (.slice (some ⟨g2, 0, none⟩) q'.length cap2) q') (hg : (Value.slice A' q.length c').ownBlock = some g2 ∨ g2 = V.heap.size + 1) :
  GS w s3 s4 n c m cl A Al l (some ⟨g2, 0, none⟩) cap2 q' W := by
 have hs := h.sz
 refine ⟨ho, ?_, h.lst.chg ch h.sz (fun k h1 h2 hc => ?_), h.box.chg ch (fun e => ?_), h.bel.trans (ch.below h.bel.size (fun x hx e => ?_)), Nat.le_trans hs ch.size⟩
 ·intro k hk
  obtain rfl : g2 = k := by simpa [Value.ownBlock] using hk
  rcases hg with hg | hg
  ·exact h.apart _ hg
  ·omega
 ·rcases h.apart k hc with hc | hc <;> omega
 ·have := (World.ownsRow.lt h.own _ e).1; omega
 ·have := (World.ownsRow.lt h.own x e).1; omega
set_option maxRecDepth 100000 in
set_option maxHeartbeats 8000000 in
theorem guaS_any (lo n c : Nat) (A : Option Addr) (p : Pg) (f : Int) (hn : n ≤ 9223372036854775807) (hl : p.length = n) (hsm : Small p 9223372036854775807) (w : World) (ho : OwnP w lo (.slice A n c) p) :
  Calls Try.prog 10 #[.agg #[.slice A n c], .int .i64 f] w (IntsR (guardsR p f) w) := by
 obtain ⟨i0, hi, hz0, hz1, hz2⟩ := info_parts infoInt
 have hP := hid (fun W (h : Below w.heap.size w W) => l2Program_any w.heap.size A n c p hn hl hsm W (ho.rd.below h) h.size)
 have hF := hid (fun W => l2Function_any A n c f hn W)
 have hC := hid (fun (nf : Nat) (xs : List Tr) (h6 : n ≤ 100) (h1 : p[nf]? = some xs) (h8 : xs.length ≤ 8) W (h : Below w.heap.size w W) => l5Defers_any n c nf A p xs h6 hl h1 h8 W ((ho.rd.below h).more h.size))
 have hC2 := hid (fun (h6 : n ≤ 100) (nf : Nat) (xs : List Tr) (h1 : p[nf]? = some xs) (h8 : xs.length ≤ 8) W (h : Below w.heap.size w W) => l5Recovers_any n c nf A p xs h6 hl h1 h8 W ((ho.rd.below h).more h.size))
 have hs : isFn p f = (okProg p && inP f n) := by rw [← hl]; exact isFn_eq p f
 have hr : guardsR p f = if isFn p f = true then (guaL p f.toNat, true) else ([], false) := rfl
 have hrow : isFn p f = true → _ := isFn_row
 have HAR := hid (fun (g : Nat) (ys : List Tr) (h : p[g]? = some ys) => hasR_at h)
 rw [hl] at hrow
 generalize isFn p f = R at *
 have HR := hid hr
 have hal : ∀ V : World, Below w.heap.size w V → Below w.heap.size w (V.alloc (.cells #[.slice A n c] 31)) := fun V b => b.alloc b.size _
 clear ho hsm hr
 go_enter Try.func10, Try.ntmps10
 go_upto_region 2 with fail
 change (fun V => Code.wp _ _ _ _ V) _
 refine gen_world (X := fun V => Blk V w.heap.size 31 #[.slice A n c] ∧ OwnI V (w.heap.size + 1) (.slice (some ⟨w.heap.size + 1, 0, none⟩) 0 0) [] ∧ Below w.heap.size w V ∧ w.heap.size + 2 ≤ V.heap.size) ⟨heap2_0 w _ _, App.empty_own (heap2_1 w _ _) (Nat.le_refl _), ((Below.refl _ _).alloc (Nat.le_refl _) _).alloc (by simp) _, by simp⟩ ?_
 rintro w1 ⟨x1, o1, b1, l1⟩
 have z1 : w1.cell? ⟨w.heap.size, 0, none⟩ = some (.slice A n c) := x1.cells 0
 have X1 := hid x1
 have O1 := hid o1
 have B1 := hid b1
 clear x1 b1 o1
 cases h1 : okProg p with
 | false =>
  rw [h1] at hs hP
  have HS := hid (show R = false by rw [hs]; rfl)
  clear hs h1 hrow
  go_wp2_with fail
  refine (hP.out _ B1.out).mono ?_
  rintro e w2 ⟨rfl, b2⟩
  have O2 := hid (own_below (B' := w1.heap.size) O1.out b2 (Nat.le_refl _))
  have B2 := hid (B1.out.trans (b2.mono B1.out.size))
  clear b2
  go_wp2_with fail
  go_ret2
  exact ⟨_, _, by rw [HR.out, HS.out] <;> rfl, by rw [HR.out, HS.out]; exact own_mono O2.out (Nat.le_succ _), B2.out⟩
 | true =>
  rw [h1] at hs hP
  cases h2 : inP f n with
  | false =>
   rw [h2] at hs hF
   have HS := hid (show R = false by rw [hs]; rfl)
   clear hs h1 h2 hrow
   go_wp2_with fail
   refine (hP.out _ B1.out).mono ?_
   rintro e w2 ⟨rfl, b2⟩
   have X2 := hid (X1.out.below b2 (by omega))
   have z2 : w2.cell? ⟨w.heap.size, 0, none⟩ = some (.slice A n c) := X2.out.cells 0
   have O2 := hid (own_below (B' := w1.heap.size) O1.out b2 (Nat.le_refl _))
   have B2 := hid (B1.out.trans (b2.mono B1.out.size))
   clear b2 z1
   go_wp2_with fail
   refine (hF.out _).mono ?_
   rintro e w3 ⟨rfl, rfl⟩
   have B3 := hid (hal w2 B2.out)
   have O3 := hid (own_below (B' := w2.heap.size) O2.out ((Below.refl _ _).alloc (Nat.le_refl _) (.cells #[.slice A n c] 31)) (Nat.le_refl _))
   go_upto_region 3 with fail
   change (fun V => Code.wp _ _ _ _ V) _
   refine gen_world (X := fun V => Below w.heap.size w V ∧ OwnI V (w.heap.size + 1) (.slice (some ⟨w.heap.size + 1, 0, none⟩) 0 0) []) ⟨B3.out, O3.out⟩ ?_
   rintro w3 ⟨b3, o3⟩
   have B4 := hid b3
   have O4 := hid o3
   clear b3 o3 z2 B2 O2 X2
   go_wp2_with fail
   go_ret2
   exact ⟨_, _, by rw [HR.out, HS.out] <;> rfl, by rw [HR.out, HS.out]; exact own_mono O4.out (Nat.le_succ _), B4.out⟩
  | true =>
   rw [h2] at hs hF
   have hRt : R = true := by rw [hs]; rfl
   obtain ⟨nf, xs, rfl, hx, h8, hnf, hn6, hp⟩ := hrow hRt
   have HS := hid hRt
   have HC := hid (fun W (h : Below w.heap.size w W) => hC.out nf xs (by omega) hx h8 W h)
   have HC2 := hid (hC2.out (by omega))
   have HRW := hid (fun (j : Nat) (x : Int) (h : (defL p nf)[j]? = some x) => defL_row hp hx h)
   have hm8 : (defL p nf).length ≤ 8 := Nat.le_trans (defL_len hx) h8
   have HALL := hid (show guaS p (defL p nf) (defL p nf).length = guaL p nf by unfold guaS guaL; rw [List.take_length])
   have HLE := hid (fun j => guaS_len p (defL p nf) j)
   have HYES := hid (fun (j : Nat) (x : Int) (h : (defL p nf)[j]? = some x) (h' : hasR p x = true) => guaS_yes h h')
   have HNO := hid (fun (j : Nat) (x : Int) (h : (defL p nf)[j]? = some x) (h' : hasR p x = false) => guaS_no h h')
   have HZ := hid (show guaS p (defL p nf) 0 = [] by unfold guaS; simp)
   clear hs h1 h2 hrow hx hC hC2 hRt hp h8
   generalize defL p nf = l at *
   obtain ⟨m, hm⟩ : ∃ m, l.length = m := ⟨_, rfl⟩
   have HM := hid hm
   rw [hm] at HC hm8 HALL
   clear hm
   go_wp2_with fail
   refine (hP.out _ B1.out).mono ?_
   rintro e w2 ⟨rfl, b2⟩
   have X2 := hid (X1.out.below b2 (by omega))
   have z2 : w2.cell? ⟨w.heap.size, 0, none⟩ = some (.slice A n c) := X2.out.cells 0
   have O2 := hid (own_below (B' := w1.heap.size) O1.out b2 (Nat.le_refl _))
   have B2 := hid (B1.out.trans (b2.mono B1.out.size))
   have l2 : w.heap.size + 2 ≤ w2.heap.size := Nat.le_trans l1 b2.size
   clear b2 z1 X1 O1 B1
   go_wp2_with fail
   refine (hF.out _).mono ?_
   rintro e w3 ⟨rfl, rfl⟩
   have B3 := hid (hal w2 B2.out)
   have X3 := hid (X2.out.alloc (.cells #[.slice A n c] 31))
   have O3 := hid (own_below (B' := w2.heap.size) O2.out ((Below.refl _ _).alloc (Nat.le_refl _) (.cells #[.slice A n c] 31)) (Nat.le_refl _))
   go_upto_region 4 with fail
   change (fun V => Code.wp _ _ _ _ V) _
   refine gen_world (X := fun V => Below w.heap.size w V ∧ Blk V w.heap.size 31 #[.slice A n c] ∧ OwnI V (w.heap.size + 1) (.slice (some ⟨w.heap.size + 1, 0, none⟩) 0 0) [] ∧ w.heap.size + 2 ≤ V.heap.size) ⟨B3.out, X3.out, O3.out, by simp; omega⟩ ?_
   rintro w3 ⟨b3, x3, o3, l3⟩
   have z3 : w3.cell? ⟨w.heap.size, 0, none⟩ = some (.slice A n c) := x3.cells 0
   have B4 := hid b3
   have X4 := hid x3
   have O4 := hid o3
   clear b3 x3 o3 z2 B2 B3 X2 X3 O2 O3 l2
   go_wp2_with fail
   refine (HC.out _ B4.out).mono ?_
   rintro e w4 ⟨Al, cl, rfl, o4, b4⟩
   have hG := hid (show GS w w3.heap.size w4.heap.size n c m cl A Al l (some ⟨w.heap.size + 1, 0, none⟩) 0 [] w4 from ⟨own_below (B' := w3.heap.size) O4.out b4 (Nat.le_refl _), fun k hk => .inl (by have h5 : w.heap.size + 1 = k := (by simpa [Value.ownBlock] using hk); omega), .of o4, X4.out.below b4 (by omega), B4.out.trans (b4.mono B4.out.size), Nat.le_refl _⟩)
   clear o4 b4 z3 X4 O4 B4 HC l1 l3 hP hF hal
   generalize w3.heap.size = s3 at *
   generalize w4.heap.size = s4 at *
   go_wp2_with fail
   go_loopw [6, 8] (fun v i wr => ∃ (j : Nat) (A' : Option Addr) (c' : Nat), j ≤ m ∧ i = .int .i64 j ∧ v = .slice A' (guaS p l j).length c' ∧ GS w s3 s4 n c m cl A Al l A' c' (guaS p l j) wr) (fun _ i _ => m - (intOf i).toNat)
   case atStart => exact ⟨0, _, _, Nat.zero_le _, rfl, by rw [HZ.out] <;> rfl, by rw [HZ.out]; exact hG.out⟩
   case round =>
    obtain ⟨j, A', c', hj, rfl, rfl, hg⟩ := hrel
    clear hG HZ
    have hle := HLE.out j
    have hsz := hg.bel.size
    have G := hid hg
    by_cases hlt : j < m
    ·obtain ⟨x, hx⟩ : ∃ x, l[j]? = some x := ⟨_, List.getElem?_eq_getElem (by rw [HM.out]; exact hlt)⟩
     obtain ⟨g, ys, rfl, hys, hy8⟩ := HRW.out j x hx
     have HY := hid (fun h => HYES.out j g hx h)
     have HN := hid (fun h => HNO.out j g hx h)
     have HHR := hid (HAR.out g ys hys)
     obtain ⟨al, rfl, hal, -⟩ := (OwnI.rd hg.lst.1 HM.out) j g hx
     have hX := hid (fun (V : World) (b : Below wr.heap.size wr V) => (show V.cell? ⟨w.heap.size, 0, none⟩ = some (.slice A n c) ∧ V.cell? (al.add j) = some (.int .i64 g) from ⟨(G.out.below b).box.cells 0, by obtain ⟨al', e, -, h⟩ := (OwnI.rd (G.out.below b).lst.1 HM.out) j g hx; cases e; exact h⟩))
     have cF := hid (fun (W : World) (b : Below wr.heap.size wr W) => (HC2.out g ys hys hy8 W (G.out.below b).bel).mono (fun e w' h => show ∃ Ar cr, e = Ending.returned (.slice Ar (recL ys).length cr) ∧ Below wr.heap.size wr w' from let ⟨Ar, cr, h1, _, h3⟩ := h; ⟨Ar, cr, h1, b.trans (h3.mono b.size)⟩))
     clear hg hx hys hy8 HRW HYES HNO HLE HAR
     generalize hasR p g = hr at *
     generalize guaS p l j = q at *
     generalize recL ys = rl at *
     go_upto_region 8 with fail
     obtain ⟨z0, z1⟩ := hX.out wr (Below.refl _ _)
     have bD : Below wr.heap.size wr wr.drew := (Below.refl _ _).drew
     go_wp2_with fail
     go_region_held3 (fun V => V.cell? ⟨w.heap.size, 0, none⟩ = some (.slice A n c) ∧ V.cell? (al.add j) = some (.int .i64 g))
      (first | exact ⟨z0, z1⟩ | (refine hX.out _ ?_; assumption))
      (first | (go_at_call 36; refine (cF.out _ ?_).mono ?_; assumption; rintro e w9 ⟨Ar, cr, rfl, b9⟩))
     have G9 := hid (G.out.below b9)
     obtain ⟨z90, z91⟩ := hX.out w9 b9
     clear b9 bD hX cF z0 z1 G
     cases hr with
     | false =>
      have HX := hid (HN.out (by simp))
      have hgt : ¬ 0 < rl.length := by simpa using HHR.out.symm
      go_wp2_with fail
      go_roundw
      case rel => exact ⟨j + 1, A', c', by omega, by go_num, by rw [HX.out], by rw [HX.out]; exact G9.out⟩
      case measure => simp [intOf]; omega
     | true =>
      have HX := hid (HY.out (by simp))
      have hgt : 0 < rl.length := by simpa using HHR.out.symm
      have O := hid G9.out.own
      have hsz9 := G9.out.bel.size
      go_wp2_with (at_builtin; refine wpList_append_lies _ rfl _ _ 26 rfl (w.heap.size + 1) 3 i0 _ 1 8 Try.underlying26 hi hz0 hz1 hz2 rfl (by decide) _ _ _ rfl (World.ownsRow.alloc O.out _) ⟨w9.heap.size, 0, none⟩ 1 1 [.int .i64 g] rfl rfl ?cn ?co (by decide) ?c63 ?cb ?cl (w9.heap.size + 1) ?cH ?next)
      (try (case cn => exact World.news_of_block (cs := #[.int .i64 g]) (t := 3) (fr := (0, 0)) (heap_alloc_new _ _)))
      case co => first | (intro u hu; simp at hu; rcases hu with rfl; rfl) | simp [Value.oneCell']
      case c63 => first | (unfold maxLen; omega) | omega
      case cb => omega
      (try (case cl => first | (simp; omega) | omega))
      (try (case cH => simp))
      case next =>
       intro g2 cap2 w2' hown2 hgrow2 hat2 hlt2
       have c2' : Chg (fun y => (Value.slice A' q.length c').ownBlock = some y) w9 w2' := (Chg.alloc _ w9 _).trans (Chg.of_grown hgrow2) (fun x _ hx => hx.symm)
       have G2 := hid (G9.out.push (q' := q ++ [(g : Int)]) c2' (by unfold OwnI; rw [List.length_append, List.length_singleton, cellsI_append]; exact hown2) hat2)
       clear hown2 hgrow2 hat2 c2'
       go_wp2_with fail
       go_roundw
       case rel => exact ⟨j + 1, some ⟨g2, 0, none⟩, cap2, by omega, by go_num, by rw [HX.out, List.length_append, List.length_singleton], by rw [HX.out]; exact G2.out⟩
       case measure => simp [intOf]; omega
    ·obtain rfl : j = m := by omega
     clear hg
     go_wp2_with fail
     go_ret2
     refine ⟨A', c', ?_, ?_, G.out.bel⟩
     ·rw [HR.out, HS.out, if_pos rfl, Int.toNat_natCast, ← HALL.out] <;> rfl
     ·rw [HR.out, HS.out, if_pos rfl, Int.toNat_natCast, ← HALL.out]
      exact own_mono G.out.own (Nat.le_succ _)
end Go.Proofs.Ytibadkjdchdnjab.Gud
-- squeezed
