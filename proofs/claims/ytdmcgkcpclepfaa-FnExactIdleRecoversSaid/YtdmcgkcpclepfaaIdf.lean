import Derived.Test.YtdmcgkcpclepfaaIdp
import Derived.Test.YtdmcgkcpclepfaaGub
import Derived.Test.YtdmcgkcpclepfaaLast2
import Derived.Test.YtdmcgkcpclepfaaLawA
set_option linter.all false
namespace Go.Proofs.Ytdmcgkcpclepfaa.Idf
open Lib (hid)
open Go.ChangeShapes Go.WideShapes Go.ChangeAt Go.RowKit
open PL Mem Sst To AskP StpS Res PrgS IntsP LawI SetM Gua Gub RowA LawA Idp
def findQ {α : Type} (q : α → Bool) (xs : List α) : Int := match xs.findIdx? q with
 | some k => k
 | none => -1
theorem findQ_yes {α : Type} {q : α → Bool} {xs : List α} {j : Nat} {y : α} (hy : xs[j]? = some y) (h3 : q y = true) (hno : ∀ (k : Nat) (z : α), k < j → xs[k]? = some z → q z = false) : findQ q xs = j := by
 have hj : j < xs.length := (List.getElem?_eq_some_iff.1 hy).1
 have h1 : xs.findIdx? q = some j := by
  rw [List.findIdx?_eq_some_iff_getElem]
  refine ⟨hj, ?_, fun k hk => ?_⟩
  ·have := (List.getElem?_eq_some_iff.1 hy).2
   rw [this]
   exact h3
  ·have := hno k _ hk (List.getElem?_eq_getElem (by omega))
   simpa using this
 unfold findQ
 rw [h1]
theorem findQ_no {α : Type} {q : α → Bool} {xs : List α} (hno : ∀ (k : Nat) (z : α), k < xs.length → xs[k]? = some z → q z = false) : findQ q xs = -1 := by
 have h1 : xs.findIdx? q = none := by
  rw [List.findIdx?_eq_none_iff]
  intro z hz
  obtain ⟨k, hk, rfl⟩ := List.getElem_of_mem hz
  exact hno k _ hk (List.getElem?_eq_getElem hk)
 unfold findQ
 rw [h1]
theorem findQ_any {α : Type} (q : α → Bool) (xs : List α) : decide (0 ≤ findQ q xs) = xs.any q := by
 cases h : xs.findIdx? q with
 | none =>
  have : findQ q xs = -1 := by unfold findQ; rw [h]
  rw [this]
  rw [List.findIdx?_eq_none_iff] at h
  symm
  show xs.any q = false
  rw [List.any_eq_false]
  intro x hx
  simpa using h x hx
 | some k =>
  have : findQ q xs = k := by unfold findQ; rw [h]
  rw [this]
  rw [List.findIdx?_eq_some_iff_getElem] at h
  obtain ⟨hk, h1, -⟩ := h
  symm
  show xs.any q = decide (0 ≤ (k : Int))
  rw [show decide (0 ≤ (k : Int)) = true by simp, List.any_eq_true]
  exact ⟨_, List.getElem_mem hk, h1⟩
set_option maxRecDepth 100000 in
theorem clo2_any (bp bg n c b : Nat) (A : Option Addr) (g : Int) (p : Pg) (ys : List Tr) (hl : p.length = n) (hn : n ≤ 100) (hy : p[b]? = some ys) (h8 : ys.length ≤ 8) (B0 : Nat) (W : World) (hB : B0 ≤ W.heap.size) (hr : RdP W B0 A p) (hp : W.cell? ⟨bp, 0, none⟩ = some (.slice A n c)) (hbp : bp < W.heap.size) (hg : W.cell? ⟨bg, 0, none⟩ = some (.int .i64 g)) (hbg : bg < W.heap.size) :
  Calls Try.prog 94 #[.int .i64 b, .pointer (some ⟨bp, 0, none⟩), .pointer (some ⟨bg, 0, none⟩)] W fun e W' => e = .returned (.bool (ys.any (isD g))) ∧ Below W.heap.size W W' := by
 obtain ⟨ad, Ay, cy, rfl, hab, h0, h1⟩ := hr b ys hy
 have hbn : b < n := by rw [← hl]; exact (List.getElem?_eq_some_iff.1 hy).1
 obtain ⟨N, hN⟩ : ∃ N, ys.length = N := ⟨_, rfl⟩
 rw [hN] at h0 h8
 have hX := hid (fun (V : World) (bV : Below W.heap.size W V) => (show V.cell? ⟨bp, 0, none⟩ = some (.slice (some ad) n c) ∧ V.cell? (ad.add b) = some (.slice Ay N cy) ∧ V.cell? ⟨bg, 0, none⟩ = some (.int .i64 g) from ⟨(bV.cell (p := ⟨bp, 0, none⟩) hbp).trans hp, (bV.cell (by rw [block_of_add]; omega)).trans h0, (bV.cell (p := ⟨bg, 0, none⟩) hbg).trans hg⟩))
 have cD := hid (defers_any g N cy Ay ys hN (by omega) B0 W.drew hB h1)
 have HN := hid hN
 generalize ys.any (isD g) = an at *
 clear hr hy h0 h1 hN hp hg hl
 go_enter Try.func94, Try.ntmps94
 go_wp2_with fail
 have S0 : (fun V => V.cell? ⟨bp, 0, none⟩ = some (.slice (some ad) n c) ∧ V.cell? (ad.add b) = some (.slice Ay N cy) ∧ V.cell? ⟨bg, 0, none⟩ = some (.int .i64 g)) W.drew := hX.out _ (Below.refl _ _).drew
 refine Last2.region_last [] (fun V => V.cell? ⟨bp, 0, none⟩ = some (.slice (some ad) n c) ∧ V.cell? (ad.add b) = some (.slice Ay N cy) ∧ V.cell? ⟨bg, 0, none⟩ = some (.int .i64 g)) (by kernel_rfl) ?_
 refine Last2.tk 0 5 (.pointer (some ⟨bp, 0, none⟩)) S0 ?_
 simp only [Act.put, Last2.s]
 refine Last2.tk 1 6 (.slice (some ad) n c) S0 ?_
 simp only [Act.put, Last2.s]
 refine Last2.tk 2 7 (.int .i64 b) S0 ?_
 simp only [Act.put, Last2.s]
 refine Last2.tk 3 8 (.pointer (some (ad.add b))) S0 ?_
 simp only [Act.put, Last2.s]
 refine Last2.tk 4 9 (.slice Ay N cy) S0 ?_
 simp only [Act.put, Last2.s]
 refine Last2.tk 5 10 (.int .i64 g) S0 ?_
 simp only [Act.put, Last2.s]
 refine Last2.last_one (i := 6) (o := { dst := some 11, op := .call { callee := .value (.func 95), args := #[.tmp 9, .tmp 10], argTypes := #[59, 3] }, type := _, pos := _, after := _, guard := _ }) (by kernel_rfl) rfl rfl (fun K hK => ?_)
 go_simp
 refine cD.out.mono ?_
 rintro e wa ⟨rfl, ba⟩
 have ta : Below W.heap.size W wa := (Below.refl _ _).drew.trans ba
 refine hK.out _ _ (fun _ => hX.out wa ta) ?_
 clear hK K
 try simp only [Act.put, Last2.s]
 have S1 := hX.out wa ta
 refine Last2.last_take (i := 7) (d := some 4) (v := .bool an) rfl rfl (by kernel_rfl) (by kernel_rfl) (by kernel_rfl) (fun _ _ _ h => h) rfl (by kernel_rfl) (by kernel_rfl) rfl ?_ S1 ?_
 ·(intro V hV; (try dsimp only at hV); go_simp; try with_reducible rfl)
 simp only [Act.put, Last2.s]
 refine Last2.last_done (by kernel_rfl) ?_ _
 have TA := hid ta
 clear S0 S1 ta ba
 go_wp2_with fail
 go_ret
 exact ⟨rfl, TA.out⟩
def qOf (p : Pg) (g : Int) (b : Int) : Bool := (p.getD b.toNat []).any (isD g)
def RowsOk (p : Pg) (l : List Int) : Prop := ∀ (j : Nat) (x : Int), l[j]? = some x → ∃ (b : Nat) (ys : List Tr), x = b ∧ p[b]? = some ys ∧ ys.length ≤ 8
set_option maxRecDepth 100000 in
set_option maxHeartbeats 4000000 in
theorem index2_any (bp bg n c m cl : Nat) (A Al : Option Addr) (g : Int) (p : Pg) (l : List Int) (hl : p.length = n) (hn : n ≤ 100) (hm : l.length = m) (hm6 : m ≤ 100) (hrow : RowsOk p l) (B0 : Nat) (w : World) (hB : B0 ≤ w.heap.size) (hr : RdP w B0 A p) (hrl : RdI w w.heap.size Al l) (hp : w.cell? ⟨bp, 0, none⟩ = some (.slice A n c)) (hbp : bp < w.heap.size) (hg : w.cell? ⟨bg, 0, none⟩ = some (.int .i64 g)) (hbg : bg < w.heap.size) :
  Calls Try.prog 128 #[.slice Al m cl, .func (.func 94) #[] #[.pointer (some ⟨bp, 0, none⟩), .pointer (some ⟨bg, 0, none⟩)]] w fun e w' => e = .returned (.int .i64 (findQ (qOf p g) l)) ∧ Below w.heap.size w w' := by
 have HC := hid (fun (V : World) (b : Below w.heap.size w V) (k : Nat) (ys : List Tr) (hy : p[k]? = some ys) (h8 : ys.length ≤ 8) => clo2_any bp bg n c k A g p ys hl hn hy h8 B0 V (Nat.le_trans hB b.size) (hr.below (b.mono hB)) ((b.cell (p := ⟨bp, 0, none⟩) hbp).trans hp) (Nat.lt_of_lt_of_le hbp b.size) ((b.cell (p := ⟨bg, 0, none⟩) hbg).trans hg) (Nat.lt_of_lt_of_le hbg b.size))
 have HL := hid (fun (V : World) (b : Below w.heap.size w V) => (show RdI V w.heap.size Al l from hrl.below b))
 have HM := hid hm
 have HRW := hid hrow
 clear hr hrl hp hg hm hl hrow
 go_enter Try.func128, Try.ntmps128
 go_wp2_with fail
 go_loopw [8] (fun v wr => ∃ j : Nat, j ≤ m ∧ v = .int .i64 j ∧ Below w.heap.size w wr ∧ ∀ (k : Nat) (z : Int), k < j → l[k]? = some z → qOf p g z = false) (fun v _ => m - (intOf v).toNat)
 case atStart => exact ⟨0, Nat.zero_le _, rfl, Below.refl _ _, fun k z hk => absurd hk (Nat.not_lt_zero _)⟩
 case round =>
  obtain ⟨j, hj, rfl, hb, hno⟩ := hrel
  have hsz := hb.size
  by_cases hlt : j < m
  ·obtain ⟨x, hx⟩ : ∃ x, l[j]? = some x := ⟨_, List.getElem?_eq_getElem (by rw [HM.out]; exact hlt)⟩
   obtain ⟨b, ys, rfl, hys, hy8⟩ := HRW.out j x hx
   obtain ⟨al, rfl, -, h0⟩ := (HL.out wr hb) j _ hx
   have hq : qOf p g (b : Int) = ys.any (isD g) := by unfold qOf; rw [Int.toNat_natCast, List.getD_eq_getElem?_getD, hys]; rfl
   have HCC := hid (HC.out wr hb b ys hys hy8)
   rw [← hq] at HCC
   have HB := hid hb
   have HX := hid hx
   have HNO := hid hno
   clear hb hx hno hys hy8 hq
   go_wp2_with fail
   refine HCC.out.mono ?_
   rintro e U ⟨rfl, bU⟩
   have BU := hid (HB.out.trans (bU.mono hsz))
   clear bU HCC HB h0
   cases h3 : qOf p g (b : Int) with
   | true =>
    have HF := hid (findQ_yes HX.out h3 HNO.out)
    clear h3
    go_wp2_with fail
    go_ret
    exact ⟨by rw [HF.out] <;> rfl, BU.out⟩
   | false =>
    have H3 := hid h3
    clear h3
    go_wp2_with fail
    go_roundw
    case rel =>
     refine ⟨j + 1, by omega, by go_num, BU.out, fun k z hk hz => ?_⟩
     by_cases hkj : k = j
     ·subst hkj
      rw [HX.out] at hz
      obtain rfl := Option.some.inj hz
      exact H3.out
     ·exact HNO.out k z (by omega) hz
    case measure => simp [intOf]; omega
  ·obtain rfl : j = m := by omega
   have HB := hid hb
   have HF := hid (findQ_no (q := qOf p g) (fun k z hk => hno k z (by rw [← HM.out]; exact hk)))
   clear hb hno
   go_wp2_with fail
   go_ret
   exact ⟨by rw [HF.out] <;> rfl, HB.out⟩
theorem contains2_any (bp bg n c m cl : Nat) (A Al : Option Addr) (g : Int) (p : Pg) (l : List Int) (hl : p.length = n) (hn : n ≤ 100) (hm : l.length = m) (hm6 : m ≤ 100) (hrow : RowsOk p l) (B0 : Nat) (w : World) (hB : B0 ≤ w.heap.size) (hr : RdP w B0 A p) (hrl : RdI w w.heap.size Al l) (hp : w.cell? ⟨bp, 0, none⟩ = some (.slice A n c)) (hbp : bp < w.heap.size) (hg : w.cell? ⟨bg, 0, none⟩ = some (.int .i64 g)) (hbg : bg < w.heap.size) :
  Calls Try.prog 93 #[.slice Al m cl, .func (.func 94) #[] #[.pointer (some ⟨bp, 0, none⟩), .pointer (some ⟨bg, 0, none⟩)]] w fun e w' => e = .returned (.bool (dfrIn p l g)) ∧ Below w.heap.size w w' := by
 have HC := hid (index2_any bp bg n c m cl A Al g p l hl hn hm hm6 hrow B0 w hB hr hrl hp hbp hg hbg)
 have HF := hid (show decide (0 ≤ findQ (qOf p g) l) = dfrIn p l g from findQ_any (qOf p g) l)
 clear hl hn hr hrl hm hrow
 generalize findQ (qOf p g) l = fd at *
 generalize dfrIn p l g = an at *
 go_enter Try.func93, Try.ntmps93
 go_wp2_with fail
 refine HC.out.mono ?_
 rintro e w2 ⟨rfl, b2⟩
 have B2 := hid b2
 clear b2 HC
 go_wp2_with fail
 go_ret
 exact ⟨by rw [← HF.out] <;> rfl, B2.out⟩
end Go.Proofs.Ytdmcgkcpclepfaa.Idf
-- squeezed
