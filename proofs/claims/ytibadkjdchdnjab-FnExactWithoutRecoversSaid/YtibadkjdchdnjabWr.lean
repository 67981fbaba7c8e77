import Derived.Test.YtibadkjdchdnjabGua
import Derived.Test.YtibadkjdchdnjabDefer2
import Derived.Test.YtibadkjdchdnjabLawI
import Derived.Test.YtibadkjdchdnjabSst
set_option linter.all false
namespace Go.Proofs.Ytibadkjdchdnjab.Wr
open Lib (hid)
open Go.ChangeShapes Go.WideShapes Go.ChangeAt Go.RowKit
open PL Mem Sst To MarkP Res Prg PrgS StpS IntsP DeferP DeferW Gua LawI
def setR (s : Tr) : Tr := if s.1 = 7 then (1, s.2.1, 0) else s
def bodyR (b : List Tr) : List Tr := b.map setR
def withoutR (p : Pg) : Pg × Bool := if okProg p = true then (p.map bodyR, true) else ([], false)
def gpart {α : Type} (φ : α → α) (b : List α) (i : Nat) : List α := (b.take i).map φ ++ b.drop i
theorem gpart_at {α : Type} (φ : α → α) (b : List α) (i : Nat) (s : α) (h : b[i]? = some s) : (gpart φ b i)[i]? = some s := by
 have hi := (List.getElem?_eq_some_iff.1 h).1
 unfold gpart
 rw [List.getElem?_append_right (by simp; omega)]
 simpa [Nat.min_eq_left (Nat.le_of_lt hi)] using h
theorem gpart_next {α : Type} (φ : α → α) (b : List α) (i : Nat) (s : α) (h : b[i]? = some s) : (gpart φ b i).set i (φ s) = gpart φ b (i + 1) := by
 have hi := (List.getElem?_eq_some_iff.1 h).1
 have hl : ((b.take i).map φ).length = i := by simp; omega
 unfold gpart
 rw [List.set_append_right _ _ (by omega), hl, Nat.sub_self, List.drop_eq_getElem_cons hi, List.set_cons_zero, List.take_add_one, h]
 simp
theorem gpart_all {α : Type} (φ : α → α) (b : List α) (i : Nat) (h : i = b.length) : gpart φ b i = b.map φ := by subst h; simp [gpart]
theorem gpart_zero {α : Type} (φ : α → α) (b : List α) : gpart φ b 0 = b := by simp [gpart]
theorem recs_pre (xs : List Tr) : ∀ d t, recs xs t <+: recs xs (t + d)
 | 0, t => List.prefix_refl _
 | d + 1, t => by
  refine (recs_pre xs d t).trans ?_
  rw [show t + (d + 1) = t + d + 1 by omega, recs]
  split
  ·split
   ·exact List.prefix_append _ _
   ·exact List.prefix_refl _
  ·exact List.prefix_refl _
theorem recs_next (xs : List Tr) : ∀ d t, t + d = xs.length → (recs xs t).length < (recL xs).length → ∃ (a : Nat) (s : Tr), t ≤ a ∧ a < xs.length ∧ xs[a]? = some s ∧ s.1 = 7 ∧ recs xs a = recs xs t ∧ dpart setR xs a = dpart setR xs t
 | 0, t, h, hl => by
  unfold recL at hl
  rw [← h] at hl
  exact absurd hl (Nat.lt_irrefl _)
 | d + 1, t, h, hl => by
  obtain ⟨s, hs⟩ : ∃ s, xs[t]? = some s := ⟨_, List.getElem?_eq_getElem (by omega)⟩
  by_cases hk : s.1 = 7
  ·exact ⟨t, s, Nat.le_refl _, by omega, hs, hk, rfl, rfl⟩
  ·have h1 := recs_no hs hk
   have h2 := part_same setR xs t s hs (if_neg hk)
   obtain ⟨a, s', g1, g2, g3, g4, g5, g6⟩ := recs_next xs d (t + 1) (by omega) (by rw [h1]; exact hl)
   exact ⟨a, s', by omega, g2, g3, g4, g5.trans h1, g6.trans h2.symm⟩
theorem recs_done (xs : List Tr) : ∀ d t, t + d = xs.length → ¬ (recs xs t).length < (recL xs).length → dpart setR xs t = bodyR xs
 | 0, t, h, hl => part_all setR xs t (by omega)
 | d + 1, t, h, hl => by
  obtain ⟨s, hs⟩ : ∃ s, xs[t]? = some s := ⟨_, List.getElem?_eq_getElem (by omega)⟩
  by_cases hk : s.1 = 7
  ·exfalso
   have h1 := (recs_pre xs d (t + 1)).length_le
   rw [recs_yes hs hk, show t + 1 + d = xs.length by omega, List.length_append, List.length_singleton] at h1
   unfold recL at hl
   omega
  ·rw [part_same setR xs t s hs (if_neg hk)]
   exact recs_done xs d (t + 1) (by omega) (by rw [recs_no hs hk]; exact hl)
theorem recL_at {xs : List Tr} {a : Nat} {s : Tr} (hs : xs[a]? = some s) (hk : s.1 = 7) : (recL xs)[(recs xs a).length]? = some (a : Int) := by
 have ha := (List.getElem?_eq_some_iff.1 hs).1
 obtain ⟨r, hr⟩ := recs_pre xs (xs.length - (a + 1)) (a + 1)
 rw [show a + 1 + (xs.length - (a + 1)) = xs.length by omega] at hr
 unfold recL
 rw [← hr, recs_yes hs hk, List.append_assoc, List.getElem?_append_right (Nat.le_refl _), Nat.sub_self]
 rfl
theorem own_set3 {w : World} {B e n c : Nat} {A : Option Addr} {xs : List Tr} {k : Nat} {s : Tr} {g : Nat} (h : w.ownsRow B e 3 (.slice A n c) n (cells3 xs)) (hA : A = some ⟨g, 0, none⟩) (hk : k < xs.length) :
  (((w.setCell ⟨g, k * 3, none⟩ (.int .i64 s.1)).setCell ⟨g, k * 3 + 1, none⟩ (.int .i64 s.2.1)).setCell ⟨g, k * 3 + 2, none⟩ (.int .i64 s.2.2)).ownsRow B e 3 (.slice A n c) n (cells3 (xs.set k s)) := by
 subst hA
 have := (((h.stored (k * 3) (.int .i64 s.1)).1.stored (k * 3 + 1) (.int .i64 s.2.1)).1.stored (k * 3 + 2) (.int .i64 s.2.2)).1
 rwa [cells3_set xs k s hk] at this
theorem chg_set3 {C : Nat → Prop} {a w : World} (h : Chg C a w) {g : Nat} (hg : C g) (i j k : Nat) (x y z : Value) : Chg C a (((w.setCell ⟨g, i, none⟩ x).setCell ⟨g, j, none⟩ y).setCell ⟨g, k, none⟩ z) :=
 ((h.put ⟨g, i, none⟩ x (.inr hg)).put ⟨g, j, none⟩ y (.inr hg)).put ⟨g, k, none⟩ z (.inr hg)
theorem withoutR_len {p : Pg} (h : okProg p = true) : (p.map bodyR).length = p.length := List.length_map ..
set_option maxRecDepth 100000 in
set_option maxHeartbeats 8000000 in
theorem wrI_any (lo n c : Nat) (A : Option Addr) (p : Pg) (hn : n ≤ 2000000) (hl : p.length = n) (hsm : Small p 2000000) (w : World) (ho : OwnP w lo (.slice A n c) p) :
  Calls Try.prog 24 #[.agg #[.slice A n c]] w (ProgR (withoutR p) w) := by
 have hF := hid (fun w hr hB => isProgram_any w.heap.size A n c p (by omega) hl (hsm.mono (by omega)) w hr hB)
 have h2 : ∀ o o' : Obj, Below w.heap.size w ((w.alloc o).alloc o') := fun o o' => ((Below.refl _ _).alloc (Nat.le_refl _) _).alloc (by simp) _
 have H2 := hid h2
 have hO := hid ho
 clear ho h2
 have hk0 : ∀ w1 : World, Below ((w.alloc (.cells #[.slice A n c] 31)).alloc (.cells #[.slice none 0 0] 31)).heap.size ((w.alloc (.cells #[.slice A n c] 31)).alloc (.cells #[.slice none 0 0] 31)) w1 →
   Blk w1 w.heap.size 31 #[.slice A n c] ∧ Blk w1 (w.heap.size + 1) 31 #[.slice none 0 0] ∧ Below w.heap.size w w1 ∧ w.heap.size + 2 ≤ w1.heap.size :=
  fun w1 b => ⟨Blk.below (heap2_0 _ _ _) b (by simp; omega), Blk.below (heap2_1 _ _ _) b (by simp), (H2.out _ _).trans (b.mono (by simp; omega)), by have := b.size; simp at this; omega⟩
 have HK := hid hk0
 clear hk0
 cases hok : okProg p with
 | false =>
  have hs := hid (show withoutR p = ([], false) by unfold withoutR; rw [hok]; rfl)
  rw [hok] at hF
  clear hok hl hsm
  go_enter Try.func24, Try.ntmps24
  go_wp2_with fail
  refine (hF.out _ (hO.out.below (H2.out _ _)).rd (Nat.le_refl _)).mono ?_
  rintro e w1 ⟨rfl, b1⟩
  obtain ⟨d0, d1, bb1, s1⟩ := HK.out w1 b1
  have z0 : w1.cell? ⟨w.heap.size, 0, none⟩ = some (.slice A n c) := d0.cells 0
  have z1 : w1.cell? ⟨w.heap.size + 1, 0, none⟩ = some (.slice none 0 0) := d1.cells 0
  have f1 := d1.frozen 0
  clear d0 d1 b1
  go_wp2_with fail
  exact bodyPost_ret (v := .tuple #[.agg #[.slice none 0 0], .bool false]) (by simp [results, Try.results24, go_sem, z1]) rfl (by rw [hs.out]; exact ⟨none, 0, rfl, own_nil _ _, bb1.setCell (by show w.heap.size ≤ w.heap.size + 1; omega) _⟩)
 | true =>
  have hs := hid (show withoutR p = (p.map bodyR, true) by unfold withoutR; rw [hok]; rfl)
  rw [hok] at hF
  obtain ⟨hn1, hn6, hsm8⟩ := okProg_parts hok
  have hC := hid (fun (W : World) (h : OwnP W lo (.slice A n c) p) => CopyP.copyProgram_any lo n c A p (by omega) hl (fun i xs h => Nat.le_trans (hsm8 i xs h).1 (by omega)) W h)
  have hRows := hid (fun (j : Nat) (hj : j < n) => (show ∃ xs, p[j]? = some xs ∧ xs.length ≤ 8 from ⟨_, List.getElem?_eq_getElem (by omega), (hsm8 j _ (List.getElem?_eq_getElem (by omega))).1⟩))
  have hL := hid hl
  rw [hl] at hn1 hn6
  clear hl hsm hok hsm8
  go_enter Try.func24, Try.ntmps24
  go_wp2_with fail
  refine (hF.out _ (hO.out.below (H2.out _ _)).rd (Nat.le_refl _)).mono ?_
  rintro e w1 ⟨rfl, b1⟩
  obtain ⟨d0, d1, bb1, s1⟩ := HK.out w1 b1
  have z0 : w1.cell? ⟨w.heap.size, 0, none⟩ = some (.slice A n c) := d0.cells 0
  clear b1
  go_wp2_with fail
  refine (hC.out _ (hO.out.below bb1)).mono ?_
  rintro e w2 ⟨A2, c2, rfl, o2, b2⟩
  have D1 := hid (d1.below b2 d1.lt)
  have bb2 := hid (bb1.trans (b2.mono bb1.size))
  have s2 := b2.size
  obtain ⟨xs0, hx0, -⟩ := hRows.out 0 (by omega)
  obtain ⟨g, Ai0, ci0, rfl, -, -, -, -⟩ := (OwnH.of o2).row hx0
  have OH := hid (OwnH.of o2)
  clear z0 d0 d1 bb1 b2 o2 hx0 hC hF
  go_upto_region 4 with fail
  change (fun V => Code.wp _ _ _ _ V) _
  refine gen_world (X := fun V => Blk V w2.heap.size 31 #[.slice (some ⟨g, 0, none⟩) n c2] ∧ Below w2.heap.size w2 V) ⟨heap1_0 w2 _, (Below.refl _ _).alloc (Nat.le_refl _) _⟩ ?_
  rintro W3 ⟨B3, b3⟩
  have O3 := hid (OH.out.below b3)
  have D3 := hid (D1.out.below b3 D1.out.lt)
  have D1l := D1.out.lt
  have B3' := hid B3
  have b3' := hid b3
  have s3 := B3.lt
  have y0 : W3.cell? ⟨w2.heap.size, 0, none⟩ = some (.slice (some ⟨g, 0, none⟩) n c2) := B3.cells 0
  clear b3 B3 OH D1
  generalize hh : w2.heap.size = hi at *
  go_wp2_with fail
  go_loopw [18] (fun i wr => ∃ j : Nat, j ≤ n ∧ i = .int .i64 j ∧ OwnH wr w1.heap.size hi (.slice (some ⟨g, 0, none⟩) n c2) (gpart bodyR p j) ∧ Chg (fun b => w1.heap.size ≤ b ∧ b < hi) W3 wr) (fun i _ => n - (intOf i).toNat)
  case atStart => exact ⟨0, Nat.zero_le _, rfl, by rw [gpart_zero]; exact O3.out, Chg.refl _ _⟩
  case round =>
   obtain ⟨j, hj, rfl, hown, hch⟩ := hrel
   clear y0 O3
   have HO := hid hown
   have HC := hid hch
   have hsz := hch.size
   clear hch
   by_cases hlt : j < n
   ·obtain ⟨xs, hx, hx8⟩ := hRows.out j hlt
    have hgx := gpart_at bodyR p j xs hx
    obtain ⟨g', Ai, ci, e1, hc2, hrow, hbd, hput⟩ := hown.row hgx
    cases e1
    have HNX := hid (gpart_next bodyR p j xs hx)
    obtain ⟨m, hm⟩ : ∃ m, xs.length = m := ⟨_, rfl⟩
    rw [hm] at hx8 hc2 hrow hbd hput
    have HM := hid hm
    have HR := hid hrow
    have HB := hid hbd
    have HP := hid hput
    have HRC := hid (recoversIn_any m ci Ai xs hm hx8 wr.heap.size wr (Nat.le_refl _) (rd_own hrow))
    clear hown hgx hrow hbd hput hx hm
    go_wp2_with fail
    refine HRC.out.mono ?_
    rintro e w5 ⟨A5, c5, rfl, o5, b5⟩
    obtain ⟨mr, hmr⟩ : ∃ mr, (recL xs).length = mr := ⟨_, rfl⟩
    have HMR := hid hmr
    have hmr8 : mr ≤ 8 := by rw [← hmr]; exact Nat.le_trans (recs_len xs _) (by rw [HM.out]; exact hx8)
    rw [hmr] at o5
    have O5 := hid (OwnIH.of o5)
    have R5 := hid (own_below (B' := wr.heap.size) HR.out b5 (Nat.le_refl _))
    have s5 := b5.size
    have B5 := hid b5
    rw [hmr]
    clear o5 b5 hmr HRC hc2
    go_wp2_with fail
    go_loopw [25] (fun i V => ∃ (k t : Nat), k ≤ mr ∧ t ≤ m ∧ i = .int .i64 k ∧ (recs xs t).length = k ∧ V.ownsRow w1.heap.size 65 3 (.slice Ai m ci) m (cells3 (dpart setR xs t)) ∧ Chg (fun b => (Value.slice Ai m ci).ownBlock = some b) w5 V) (fun i _ => mr - (intOf i).toNat)
    case atStart => exact ⟨0, 0, Nat.zero_le _, Nat.zero_le _, rfl, rfl, by rw [show dpart setR xs 0 = xs by simp [dpart]]; exact R5.out, Chg.refl _ _⟩
    case round =>
     obtain ⟨k, t, hk, ht, rfl, hkt, hrow, hch⟩ := hrel
     have HC5 := hid hch
     have HRW := hid hrow
     have HKT := hid hkt
     by_cases hkm : k < mr
     ·obtain ⟨a, s, ha1, ha2, hs1, hs2, ha3, ha4⟩ := recs_next xs (m - t) t (by rw [HM.out]; omega) (by rw [HMR.out, hkt]; exact hkm)
      have hre := recL_at hs1 hs2
      rw [ha3, hkt] at hre
      rw [← ha4] at hrow
      obtain ⟨a5, rfl, -, ha5⟩ := (OwnI.rd (O5.out.chg hch (Nat.le_refl _) (fun q h1 h2 hc => by have := HB.out q hc; omega)).1 HMR.out) k a hre
      obtain ⟨gi, rfl, hgi, -, -, -, -, v0, v1, v2, fr0, fr1⟩ := own_at hrow (part_at setR xs a s hs1) (by rw [← HM.out]; exact ha2)
      have fr2 := hrow.frozenAt (a * 3 + 2)
      have ha2' : a < m := by rw [← HM.out]; exact ha2
      have HRA := hid hrow
      have HST := hid hs1
      have HS7 := hid hs2
      have HA3 := hid ha3
      clear hrow hch hre hs1 hs2 ha3 ha4 hkt ha2
      go_wp2_with fail
      go_roundw
      case rel =>
       refine ⟨k + 1, a + 1, by omega, by omega, by go_num, ?_, ?_, ?_⟩
       ·rw [recs_yes HST.out HS7.out, List.length_append, List.length_singleton, HA3.out, HKT.out]
       ·have := own_set3 (s := setR s) HRA.out rfl (k := a) (by rw [part_length setR xs a (by rw [HM.out]; omega), HM.out]; exact ha2')
        rw [part_next setR xs a s HST.out, show setR s = ((1 : Int), s.2.1, (0 : Int)) from if_pos HS7.out] at this
        exact this
       ·exact chg_set3 HC5.out rfl _ _ _ _ _ _
      case measure => simp [intOf]; omega
     ·obtain rfl : k = mr := by omega
      have hdn := recs_done xs (m - t) t (by rw [HM.out]; omega) (by rw [HMR.out, hkt]; omega)
      rw [hdn] at hrow
      have HRN := hid hrow
      have hszV := hch.size
      have HCH := hid hch
      clear hrow hch hkt
      go_wp2_with fail
      go_roundw
      case rel =>
       refine ⟨j + 1, by omega, by go_num, ?_, ?_⟩
       ·rw [← HNX.out]
        exact HP.out _ (bodyR xs) ((List.length_map ..).trans HM.out) HRN.out ((Chg.of_below B5.out).trans HCH.out (fun _ _ h => h))
       ·refine (HC.out.trans ((Chg.of_below (C := fun b => w1.heap.size ≤ b ∧ b < hi) B5.out).trans (HCH.out.mono (fun q _ hq => HB.out q hq)) (fun _ _ h => h)) (fun _ _ h => h))
      case measure => simp [intOf]; omega
   ·obtain rfl : j = n := by omega
    have hb6 := (B3'.out.chg HC.out (fun hc => by omega))
    have hb1 := (D3.out.chg HC.out (fun hc => by omega))
    have z6 : wr.cell? ⟨hi, 0, none⟩ = some (.slice (some ⟨g, 0, none⟩) j c2) := hb6.cells 0
    have z1 : wr.cell? ⟨w.heap.size + 1, 0, none⟩ = some (.slice none 0 0) := hb1.cells 0
    have f1 := hb1.frozen 0
    clear hb6 hb1
    go_wp2_with fail
    refine bodyPost_ret (v := .tuple #[.agg #[.slice (some ⟨g, 0, none⟩) j c2], .bool true]) (by simp [results, Try.results24, go_sem, z1]) rfl ?_
    have fin := HO.out
    rw [gpart_all bodyR p j hL.out.symm] at fin
    have fin2 := (fin.keep (w' := wr.setCell ⟨w.heap.size + 1, 0, none⟩ (.slice (some ⟨g, 0, none⟩) j c2)) (fun b h1 _ => Below.heap_setCell _ _ _ _ (by show b ≠ w.heap.size + 1; omega))).own.mono (Nat.le_trans (Nat.le_add_right _ 2) s1)
    rw [hs.out]
    have hl : (p.map bodyR).length = j := (List.length_map ..).trans hL.out
    refine ⟨_, _, by rw [hl], by rw [hl]; exact fin2, ?_⟩
    have hwh : w.heap.size ≤ hi := by omega
    have t := (bb2.out.trans (b3'.out.mono hwh)).trans (HC.out.below (B := w.heap.size) (by have := b3'.out.size; omega) (fun x hx hx' => by omega))
    exact t.setCell (by show w.heap.size ≤ w.heap.size + 1; omega) _
end Go.Proofs.Ytibadkjdchdnjab.Wr
-- squeezed
