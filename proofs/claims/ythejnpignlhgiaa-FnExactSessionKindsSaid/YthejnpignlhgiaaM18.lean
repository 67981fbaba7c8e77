import Derived.Test.YthejnpignlhgiaaM17
import Derived.Deep.DeepCutAuto
import Derived.Deep.CutBlock
set_option linter.all false
namespace Go.Proofs.Ythejnpignlhgiaa.Idfr
open Lib (hid)
open Go.ChangeShapes Go.WideShapes Go.ChangeAt Go.RowKit
open PL Mem Srun Sst Imem Itell Irec Icall Leav Ieob
def DfrI (w : Bs) (lo mb cb : Nat) (vp : Value) (fuel : Int) (tv0 : Value) (rd : Option RD) (D : Int) (R : M × Fr) (e : Ending) (W' : World) : Prop :=
 (R.1.spent = true → SpentE e ∧ ∃ tv op', Ilf w lo mb vp fuel tv0 rd tv op' R.1 W') ∧
 (R.1.spent = false → ∃ tv dv, e = .returned (.tuple #[]) ∧ Ist w lo mb cb vp fuel tv0 rd tv dv D R.1 R.2 R.2.kind (endVal R.2) W')
section
variable {inner : PL.Call} {k : Nat} {m : M} {c : Fr}
theorem dfr_none (h : c.defers = []) : dfr inner k m c = (m, c) := by
 cases k with
 | zero => rfl
 | succ k => rw [dfr, h]; rfl
theorem dfr_next {ds : List (Int × Int)} {d : Int × Int} (h : c.defers = ds ++ [d]) : dfr inner (k + 1) m c =
  if (inner m (lastFrame c d)).1.spent then ((inner m (lastFrame c d)).1, { c with defers := ds }) else dfr inner k (inner m (lastFrame c d)).1 (lastEnd { c with defers := ds } (inner m (lastFrame c d)).2) := by
 have hl : c.defers.getLast? = some d := by rw [h]; simp
 have hd : dropL c = { c with defers := ds } := by unfold dropL; rw [h]; simp
 rw [dfr, hl]
 simp only [hd]
end
theorem own_shrink {w : World} {B e sz n m c : Nat} {A : Option Addr} {xs : List Value} (h : w.ownsRow B e sz (.slice A n c) n xs) (hm : m ≤ n) : w.ownsRow B e sz (.slice A m c) m (xs.take (m * sz)) := by
 have hms : m * sz ≤ n * sz := Nat.mul_le_mul_right sz hm
 rcases h.2 with ⟨hv, rfl⟩ | ⟨g, cap, cur, hv, hB, hg, hnc, hcm, hcs, ht⟩
 ·simp only [Value.slice.injEq] at hv
  obtain ⟨rfl, _, rfl⟩ := hv
  obtain rfl : m = 0 := by omega
  exact ⟨by simp, .inl ⟨rfl, rfl⟩⟩
 ·simp only [Value.slice.injEq, true_and] at hv
  obtain ⟨rfl, rfl⟩ := hv
  refine ⟨by rw [List.length_take, h.1]; omega, .inr ⟨g, c, cur, rfl, hB, hg, by omega, hcm, hcs, ?_⟩⟩
  rw [← ht, List.take_take, Nat.min_eq_left hms]
theorem dfs_front {w : World} {lo n c : Nat} {A : Option Addr} {ds : List (Int × Int)} {d : Int × Int} (h : Dfs w lo (.slice A n c) (ds ++ [d])) (hn : n = ds.length + 1) : Dfs w lo (.slice A ds.length c) ds := by
 unfold Dfs at *
 rw [show (ds ++ [d]).length = n by simp [hn]] at h
 have := own_shrink h (show ds.length ≤ n by omega)
 rwa [cells2_append, List.take_append_of_le_length (by rw [cells2_length]; exact Nat.le_refl _), List.take_of_length_le (by rw [cells2_length]; exact Nat.le_refl _)] at this
theorem dfs_last {w : World} {lo n c : Nat} {A : Option Addr} {ds : List (Int × Int)} {d : Int × Int} (h : Dfs w lo (.slice A n c) (ds ++ [d])) (hn : n = ds.length + 1) :
  ∃ g, A = some ⟨g, 0, none⟩ ∧ n ≤ c ∧ w.cell? ⟨g, ds.length * 2, none⟩ = some (.int .i64 d.1) ∧ w.cell? ⟨g, ds.length * 2 + 1, none⟩ = some (.int .i64 d.2) := by
 unfold Dfs at h
 rw [show (ds ++ [d]).length = n by simp [hn]] at h
 have hc : n ≤ c := by
  rcases h.2 with ⟨hv, rfl⟩ | ⟨g, cap, cur, hv, hB, hg, hnc, _⟩
  ·omega
  ·simp only [Value.slice.injEq, true_and] at hv
   omega
 rcases own_form h with ⟨h0, _⟩ | ⟨_, g, cap, hv, _, hg⟩
 ·omega
 ·simp only [Value.slice.injEq, true_and] at hv
  obtain ⟨rfl, rfl⟩ := hv
  obtain ⟨c0, c1⟩ := cells2_at (ds ++ [d]) ds.length d (by simp)
  exact ⟨g, rfl, hc, (h.cellAt (ds.length * 2) (by omega)).trans c0, (h.cellAt (ds.length * 2 + 1) (by omega)).trans c1⟩
theorem lastFrame_frame0 {c : Fr} {d : Int × Int} {D : Int} {rd : RD} (hD : c.depth = D) (h1 : rd.c.r1 = c.r1) (hk : rd.k = c.kind) (hv : rd.v = bodyVal c) : frame0 d.1 (D + 1) d.2 (some rd) = lastFrame c d := by
 unfold frame0 lastFrame
 dsimp only
 rw [hD, h1, hk, hv]
 unfold bodyVal
 by_cases h2 : c.kind = 2
 ·simp only [h2, if_true]
 ·simp only [if_neg h2]
theorem ist_keep {w : Bs} {W W' : World} {lo mb cb : Nat} {vp : Value} {fuel : Int} {tv0 : Value} {rd : Option RD} {tv dv : Value} {op : Int} {m : M} {c : Fr} {k v : Int} (h : Ist w lo mb cb vp fuel tv0 rd tv dv op m c k v W) (hch : Chg (fun _ => False) W W') : Ist w lo mb cb vp fuel tv0 rd tv dv op m c k v W' :=
 ⟨⟨own_chg h.l.tre hch (fun _ _ e => e), h.l.mach.chg hch id, h.l.chg.trans hch (fun _ _ e => e.elim), h.l.ft⟩, h.b, own_chg h.dfs hch (fun _ _ e => e), h.fd, h.blk.chg hch id, h.h0, h.nr, fun d hd => (h.runB d hd).chg hch id, h.runF⟩
theorem bse_run {w : Bs} {W : World} {lo mb cb : Nat} {vp : Value} {fuel : Int} {tv0 : Value} {rd : Option RD} {tv dv : Value} {op : Int} {m : M} {c : Fr} {k v : Int} (h : Ist w lo mb cb vp fuel tv0 rd tv dv op m c k v W) (r : RD) (hr : r.b = cb) : Bse (W : World) lo mb tv (some r) :=
 ⟨h.loW, h.b.m0, Nat.lt_of_lt_of_le h.b.m1 h.size, fun d hd => (by
  obtain rfl : r = d := by simpa using hd
  rw [hr]; exact h.lo_cb), fun d hd => (by
  obtain rfl : r = d := by simpa using hd
  rw [hr]; exact h.blk.lt), fun x hx => (World.ownsRow.lt h.l.tre x hx).1, fun x hx => hx.elim⟩
section
variable {w : Bs} {W : World} {lo mb cb : Nat} {Ap : Option Addr} {np cp : Nat} {fuel : Int} {tv0 : Value} {rd : Option RD} {tv dv : Value} {D K : Int} {m : M} {c : Fr} {p : Pg} {inner : PL.Call}
set_option maxRecDepth 100000 in
set_option maxHeartbeats 4000000 in
theorem dfr_any (OK : OkI lo mb Ap np cp p fuel (D + 1) inner) (hLv : LvC inner) (hG : PL.Good np fuel (D + 1) inner) (h : Ist w lo mb cb (.slice Ap np cp) fuel tv0 rd tv dv D m c c.kind (bodyVal c) W)
  (hi : Inv np fuel K m c) (hK : K ≤ 5001) (hsp : m.spent = false) (hrd : RdP w.w lo Ap p) (hlv : Lv c) (hD : c.depth = D) :
  Calls Try.prog 138 #[.pointer (some ⟨mb, 0, none⟩), .pointer (some ⟨cb, 0, none⟩)] W (DfrI w lo mb cb (.slice Ap np cp) fuel tv0 rd D (dfr inner c.defers.length m c)) := by
 obtain ⟨R, hR⟩ : ∃ R, dfr inner c.defers.length m c = R := ⟨_, rfl⟩
 rw [hR]
 have H := hid h
 have HR := hid hR
 have HI := hid hi
 have HRD := hid hrd
 have OKH := hid OK
 have LVH := hid hLv
 have GH := hid hG
 have HK := hid hK
 have HLV := hid hlv
 have HDEP := hid hD
 have HSP := hid hsp
 clear h hR hi hrd OK hLv hG hK hlv hD hsp
 go_enter Try.func138, Try.ntmps138
 go_wp2_with fail
 go_loopg [] c.defers.length (fun k wr => ∃ (m' : M) (c' : Fr) (tv' dv' : Value), c'.defers.length = k ∧ Ist w lo mb cb (.slice Ap np cp) fuel tv0 rd tv' dv' D m' c' c'.kind (bodyVal c') wr ∧ Inv np fuel K m' c' ∧ Same c c' ∧ Lv c' ∧ m'.spent = false ∧ dfr inner k m' c' = R)
 case atStart => exact ⟨m, c, tv, dv, rfl, H.out, HI.out, Same.refl _, HLV.out, HSP.out, HR.out⟩
 case round =>
  obtain ⟨m', c', tv', dv', hlen, q, iv, sm, lv, sp, hb⟩ := hrel
  have Q := hid q
  have IV := hid iv
  have SM := hid sm
  have LV := hid lv
  have SP := hid sp
  have HB := hid hb
  obtain ⟨Ad, cd, rfl⟩ := own_slice q.dfs
  rw [hlen] at Q
  have y6 : wr.cell? ⟨cb, 6, none⟩ = some (.slice Ad gk cd) := by have := Q.out.blk.cells 6; exact this
  have hgk : gk ≤ 5001 := by have := iv.m.pot; have := iv.m.made1; have := HK.out; omega
  have HLEN := hid hlen
  clear q iv sm lv sp hb hlen
  cases gk with
  | zero =>
   have hnil : c'.defers = [] := List.length_eq_zero_iff.1 HLEN.out
   have hRR := hid (show R = (m', c') by rw [← HB.out, dfr_none hnil])
   have hk3 : c'.kind = 1 ∨ c'.kind = 2 ∨ c'.kind = 3 := by have := LV.out.2; omega
   clear hnil
   rcases hk3 with h1 | h1 | h1
   ·have y7 : wr.cell? ⟨cb, 7, none⟩ = some (.int .i64 1) := (Q.out.blk.cells 7).trans (congrArg (fun x => some (Value.int .i64 x)) h1)
    have y2 : wr.cell? ⟨cb, 2, none⟩ = some (.int .i64 c'.r1) := Q.out.blk.cells 2
    have f1 := Q.out.blk.frozen
    have y8 : wr.cell? ⟨cb, 8, none⟩ = some (.int .i64 (bodyVal c')) := Q.out.blk.cells 8
    have HE := hid (show endVal c' = c'.r1 by unfold endVal; rw [if_pos h1])
    clear h1
    go_wp2_with fail
    go_end0
    refine ⟨fun hx => (by rw [hRR.out] at hx; rw [show (m', c').1 = m' from rfl, SP.out] at hx; cases hx), fun _ => ⟨tv', .slice Ad 0 cd, rfl, ?_⟩⟩
    rw [hRR.out]
    show Ist w lo mb cb (.slice Ap np cp) fuel tv0 rd tv' (.slice Ad 0 cd) D m' c' c'.kind (endVal c') _
    rw [HE.out]
    exact Q.out.putc 8 (.int .i64 c'.r1) rfl rfl rfl ⟨rfl, rfl, rfl⟩
   ·have y7 : wr.cell? ⟨cb, 7, none⟩ = some (.int .i64 2) := (Q.out.blk.cells 7).trans (congrArg (fun x => some (Value.int .i64 x)) h1)
    have HE := hid (show endVal c' = bodyVal c' by unfold endVal bodyVal; rw [if_neg (by omega)])
    clear h1
    go_wp2_with fail
    go_end0
    refine ⟨fun hx => (by rw [hRR.out] at hx; rw [show (m', c').1 = m' from rfl, SP.out] at hx; cases hx), fun _ => ⟨tv', .slice Ad 0 cd, rfl, ?_⟩⟩
    rw [hRR.out]
    show Ist w lo mb cb (.slice Ap np cp) fuel tv0 rd tv' (.slice Ad 0 cd) D m' c' c'.kind (endVal c') _
    rw [HE.out]
    exact Q.out
   ·have y7 : wr.cell? ⟨cb, 7, none⟩ = some (.int .i64 3) := (Q.out.blk.cells 7).trans (congrArg (fun x => some (Value.int .i64 x)) h1)
    have HE := hid (show endVal c' = bodyVal c' by unfold endVal bodyVal; rw [if_neg (by omega)])
    clear h1
    go_wp2_with fail
    go_end0
    refine ⟨fun hx => (by rw [hRR.out] at hx; rw [show (m', c').1 = m' from rfl, SP.out] at hx; cases hx), fun _ => ⟨tv', .slice Ad 0 cd, rfl, ?_⟩⟩
    rw [hRR.out]
    show Ist w lo mb cb (.slice Ap np cp) fuel tv0 rd tv' (.slice Ad 0 cd) D m' c' c'.kind (endVal c') _
    rw [HE.out]
    exact Q.out
  | succ k =>
   obtain ⟨ds, d, hdd⟩ : ∃ ds d, c'.defers = ds ++ [d] := by
    rcases List.eq_nil_or_concat c'.defers with e | e
    ·have := HLEN.out; rw [e] at this; cases this
    ·obtain ⟨ds, d, e⟩ := e
     exact ⟨ds, d, by rw [e, List.concat_eq_append]⟩
   have hdl : ds.length = k := by have := HLEN.out; rw [hdd] at this; simpa using this
   have hD0 : Dfs wr lo (.slice Ad (k + 1) cd) (ds ++ [d]) := hdd ▸ Q.out.dfs
   obtain ⟨g, rfl, hcap, x0, x1⟩ := dfs_last hD0 (by rw [hdl])
   rw [hdl] at x0 x1
   have HDD := hid hdd
   have HDL := hid hdl
   have hk0 : (0 : Int) ≤ (k : Int) := by omega
   have hk1 : (k : Int) ≤ (cd : Int) := by omega
   have hk2 : (k : Int) < (k : Int) + 1 := by omega
   clear hdd hdl hD0
   go_upto_region 3 with fail
   change (fun V => Code.wp _ _ _ _ V) _
   refine gen_world (X := fun V => Ist w lo mb cb (.slice Ap np cp) fuel tv0 rd tv' (.slice (some ⟨g, 0, none⟩) (k + 1) cd) D m' c' c'.kind (bodyVal c') V ∧ Blk V wr.heap.size 196 #[.int .i64 d.1, .int .i64 d.2]) ?_ ?_
   ·exact ⟨Q.out.alloc _, heap1_0 wr _⟩
   clear x0 x1 y6
   intro V hV
   have y6 : V.cell? ⟨cb, 6, none⟩ = some (.slice (some ⟨g, 0, none⟩) (k + 1) cd) := hV.1.blk.cells 6
   have f1 := hV.1.blk.frozen
   have hD1 : Dfs V lo (.slice (some ⟨g, 0, none⟩) (k + 1) cd) (ds ++ [d]) := HDD.out ▸ hV.1.dfs
   have hDs : Dfs V lo (.slice (some ⟨g, 0, none⟩) k cd) ds := by have := dfs_front hD1 (by rw [HDL.out]); rwa [HDL.out] at this
   have Q3 := hid (hV.1.dfr hDs (Chg.refl _ _) (fun x hx => .inl hx))
   have B3 := hid (hV.2.far ⟨cb, 6, none⟩ (.slice (some ⟨g, 0, none⟩) k cd) (ne_blk hV.2 hV.1.blk (by decide)))
   clear hV hD1 hDs Q
   go_upto_region 4 with fail
   clear y6 f1
   generalize V.setCell ⟨cb, 6, none⟩ (.slice (some ⟨g, 0, none⟩) k cd) = W3 at *
   have b0 : W3.cell? ⟨wr.heap.size, 0, none⟩ = some (.int .i64 d.1) := B3.out.cells 0
   have b1 : W3.cell? ⟨wr.heap.size, 1, none⟩ = some (.int .i64 d.2) := B3.out.cells 1
   obtain ⟨rx, hrx⟩ : ∃ rx : RD, rx = { b := cb, c := { c' with defers := ds }, rp := rptr rd, dv := .slice (some ⟨g, 0, none⟩) k cd, k := c'.kind, v := bodyVal c' } := ⟨_, rfl⟩
   have hfr : frame0 d.1 (D + 1) d.2 (some rx) = lastFrame c' d := lastFrame_frame0 (SM.out.1.trans HDEP.out) (by rw [hrx]) (by rw [hrx]) (by rw [hrx])
   have hmem : d ∈ c'.defers := by rw [HDD.out]; simp
   have hinv : Inv np fuel (K - 2 * (c'.defers.length : Int)) m' (lastFrame c' d) := ⟨by show WfM fuel (K - 2 * (c'.defers.length : Int) - 2 * ((([] : List (Int × Int)).length : Nat) : Int)) m'; simpa using IV.out.m, lastFrame_wf IV.out.c hmem⟩
   have hmb : Blk W3 mb 104 (icells (.slice Ap np cp) fuel m' (D + 1 - 1) tv') := by
    rw [show D + 1 - 1 = D by omega]
    exact Q3.out.l.mach
   have hrb : RunB W3 (frame0 d.1 (D + 1) d.2 (some rx)).outer (some rx) := by
    intro r0 hr0
    obtain rfl : rx = r0 := by simpa using hr0
    subst hrx
    exact Q3.out.blk
   have hc := OKH.out (K - 2 * (c'.defers.length : Int)) m' d.1 d.2 (some rx) tv' W3 (by rw [hfr]; exact hinv) (by have := HK.out; have := HLEN.out; omega) SP.out (bse_run Q3.out rx (by rw [hrx])) Q3.out.l.tre hmb (HRD.out.below Q3.out.below) hrb
   have hcp : rptr (some rx) = .pointer (some ⟨cb, 0, none⟩) := by rw [hrx]; rfl
   rw [hfr, hcp, show D + 1 - 1 = D by omega] at hc
   have hv := LVH.out m' (lastFrame c' d) rfl
   have hg := GH.out (K - 2 * (c'.defers.length : Int)) m' (lastFrame c' d) hinv (by show c'.depth + 1 = D + 1; rw [SM.out.1, HDEP.out])
   have hRR : R = if (inner m' (lastFrame c' d)).1.spent then ((inner m' (lastFrame c' d)).1, { c' with defers := ds }) else dfr inner k (inner m' (lastFrame c' d)).1 (lastEnd { c' with defers := ds } (inner m' (lastFrame c' d)).2) := by rw [← HB.out, dfr_next HDD.out]
   generalize inner m' (lastFrame c' d) = r at *
   have HC := hid hc
   have HV := hid hv
   have HG := hid hg
   have HRR := hid hRR
   have HRX := hid hrx
   have HLO := hid (show (c'.defers.length : Int) = k + 1 by rw [HLEN.out]; rfl)
   clear hc hv hg hRR hrx hfr hmem hinv hmb hrb hcp
   go_wp2_with fail
   refine HC.out.mono ?_
   rintro e W4 ⟨h1, h2⟩
   cases hs : r.1.spent with
   | true =>
    obtain ⟨⟨older, rfl, ho⟩, tv4, op4, gl⟩ := h1 hs
    have G := hid (Q3.out.lran (show rx.b = cb by rw [HRX.out]) gl)
    have hR2 := HRR.out
    rw [if_pos hs] at hR2
    exact ⟨rfl, fun _ => ⟨⟨older, rfl, ho⟩, tv4, op4, by rw [hR2]; exact G.out⟩, fun hx => (by rw [hR2] at hx; rw [show (r.1, ({ c' with defers := ds } : Fr)).1 = r.1 from rfl, hs] at hx; cases hx)⟩
   | false =>
    obtain ⟨tv4, cb4, dv4, rfl, hcb, gl, b4, hrun⟩ := h2 hs
    have hR2 := HRR.out
    rw [if_neg (by rw [hs]; decide)] at hR2
    have hblk := hrun rx rfl
    rw [HRX.out] at hblk
    have Q4 := hid (Q3.out.ran (d := rx) (by rw [HRX.out]) gl hblk)
    obtain ⟨v1, v2, v3⟩ := HV.out hs
    have hlv := lastEnd_lv (c := { c' with defers := ds }) LV.out (HV.out hs)
    have hne : cb ≠ cb4 := by have := Q3.out.blk.lt; omega
    have hiv : Inv np fuel K r.1 (lastEnd { c' with defers := ds } r.2) := by
     obtain ⟨g1, g2, g3, g4⟩ := HG.out
     refine ⟨g1.up ?_, lastEnd_wf (c := { c' with defers := ds }) { IV.out.c with defers := fun x hx => IV.out.c.defers x (by rw [HDD.out]; simp [hx]) } g2⟩
     show K - 2 * (c'.defers.length : Int) + 2 ≤ K - 2 * (ds.length : Int)
     rw [HLO.out, HDL.out]; omega
    have REL := hid (fun V (hV : Ist w lo mb cb (.slice Ap np cp) fuel tv0 rd tv4 (.slice (some ⟨g, 0, none⟩) k cd) D r.1 (lastEnd { c' with defers := ds } r.2) (lastEnd { c' with defers := ds } r.2).kind (bodyVal (lastEnd { c' with defers := ds } r.2)) V) =>
     (show ∃ (m' : M) (c' : Fr) (tv' dv' : Value), c'.defers.length = k ∧ Ist w lo mb cb (.slice Ap np cp) fuel tv0 rd tv' dv' D m' c' c'.kind (bodyVal c') V ∧ Inv np fuel K m' c' ∧ Same c c' ∧ Lv c' ∧ m'.spent = false ∧ dfr inner k m' c' = R from
      ⟨r.1, lastEnd { c' with defers := ds } r.2, tv4, _, HDL.out, hV, hiv, SM.out.trans ⟨rfl, rfl, rfl, rfl, rfl⟩, hlv, hs, hR2.symm⟩))
    obtain ⟨cl, hcl⟩ : ∃ cl, c'.leaving = cl := ⟨_, rfl⟩
    obtain ⟨il, hil⟩ : ∃ il, r.2.leaving = il := ⟨_, rfl⟩
    have y9 : W4.cell? ⟨cb, 9, none⟩ = some (.bool cl) := (Q4.out.blk.cells 9).trans (congrArg (fun x => some (Value.bool x)) hcl)
    have b9 : W4.cell? ⟨cb4, 9, none⟩ = some (.bool il) := (b4.cells 9).trans (congrArg (fun x => some (Value.bool x)) hil)
    have f1 := Q4.out.blk.frozen
    have B4 := hid b4
    have HIL := hid hil
    have HCL := hid hcl
    have hk3 : r.2.kind = 1 ∨ r.2.kind = 2 ∨ r.2.kind = 3 := by omega
    clear h1 h2 hs gl b4 hrun hblk hlv hiv hR2 hil hcl v2 v3 b0 b1
    have hB7 : ∀ u, (W4.setCell ⟨cb, 9, none⟩ u).cell? ⟨cb4, 7, none⟩ = some (.int .i64 r.2.kind) := fun u => (B4.out.far ⟨cb, 9, none⟩ u (Ne.symm hne)).cells 7
    have hB8 : ∀ u, (W4.setCell ⟨cb, 9, none⟩ u).cell? ⟨cb4, 8, none⟩ = some (.int .i64 (endVal r.2)) := fun u => (B4.out.far ⟨cb, 9, none⟩ u (Ne.symm hne)).cells 8
    have hB10 : ∀ u, (W4.setCell ⟨cb, 9, none⟩ u).cell? ⟨cb4, 10, none⟩ = some (.bool r.2.recovered) := fun u => (B4.out.far ⟨cb, 9, none⟩ u (Ne.symm hne)).cells 10
    have V1 := hid v1
    clear v1 hne
    cases cl with
    | false =>
     have Q5 := hid (Q4.out.putc (c' := { c' with defers := ds, r1 := r.2.outer, leaving := il }) (k' := c'.kind) (v' := bodyVal c') 9 (.bool il) rfl rfl rfl ⟨rfl, rfl, rfl⟩)
     have y9' : (W4.setCell ⟨cb, 9, none⟩ (.bool il)).cell? ⟨cb, 9, none⟩ = some (.bool il) := Q5.out.blk.cells 9
     have y7' : (W4.setCell ⟨cb, 9, none⟩ (.bool il)).cell? ⟨cb, 7, none⟩ = some (.int .i64 c'.kind) := Q5.out.blk.cells 7
     have y8' : (W4.setCell ⟨cb, 9, none⟩ (.bool il)).cell? ⟨cb, 8, none⟩ = some (.int .i64 (bodyVal c')) := Q5.out.blk.cells 8
     have f2 := Q5.out.blk.frozen
     have z7 := hB7 (.bool il)
     have z8 := hB8 (.bool il)
     have z10 := hB10 (.bool il)
     clear hB7 hB8 hB10 Q4
     go_upto_region 6 with fail
     clear y9 b9 f1
     generalize W4.setCell ⟨cb, 9, none⟩ (.bool il) = W5 at *
     rcases hk3 with h3 | h3 | h3
     ·have hil0 : il = false := by
       cases hx : il with
       | false => rfl
       | true => exact absurd h3 (V1.out (by rw [HIL.out]; exact hx))
      subst hil0
      obtain ⟨rc, hrc⟩ : ∃ rc, r.2.recovered = rc := ⟨_, rfl⟩
      have H3 := hid h3
      rw [h3] at z7
      rw [hrc] at z10
      have HRC := hid hrc
      clear h3 hrc z8
      cases rc with
      | false =>
       have HLE := hid (show lastEnd { c' with defers := ds } r.2 = { c' with defers := ds, r1 := r.2.outer, leaving := false, kind := c'.kind, value := c'.value } by
        unfold lastEnd; dsimp only; rw [H3.out, HRC.out, HCL.out, HIL.out]; rfl)
       have REL2 := hid (REL.out W5 (by rw [HLE.out]; exact Q5.out))
       clear REL Q5 f2 Q3 B3 B4 HC HG HV HRR
       go_wp2_with fail
       go_roundg k
       case measure => omega
       case rel => exact REL2.out
      | true =>
       have HLE := hid (show lastEnd { c' with defers := ds } r.2 = { c' with defers := ds, r1 := r.2.outer, leaving := false, kind := 1, value := c'.value } by
        unfold lastEnd; dsimp only; rw [H3.out, HRC.out, HCL.out, HIL.out]; rfl)
       have REL2 := hid (REL.out ((W5.setCell ⟨cb, 7, none⟩ (.int .i64 1)).setCell ⟨cb, 8, none⟩ (.int .i64 0)) (by
        rw [HLE.out]
        exact ((Q5.out.putc (c' := { c' with defers := ds, r1 := r.2.outer, leaving := false, kind := 1 }) (k' := 1) (v' := bodyVal c') 7 (.int .i64 1) rfl rfl rfl ⟨rfl, rfl, rfl⟩).putc (c' := { c' with defers := ds, r1 := r.2.outer, leaving := false, kind := 1 }) (k' := 1) (v' := 0) 8 (.int .i64 0) rfl rfl rfl ⟨rfl, rfl, rfl⟩)))
       clear REL Q5 Q3 B3 B4 HC HG HV HRR
       go_wp2_with fail
       go_roundg k
       case measure => omega
       case rel => exact REL2.out
     ·have HLE := hid (show lastEnd { c' with defers := ds } r.2 = { c' with defers := ds, r1 := r.2.outer, leaving := il, kind := 2, value := r.2.value } by
       unfold lastEnd; dsimp only; rw [h3, HCL.out, HIL.out]; simp)
      have hev : endVal r.2 = r.2.value := by unfold endVal; rw [if_neg (by omega), if_pos h3]
      rw [h3] at z7
      rw [hev] at z8
      have REL2 := hid (REL.out ((W5.setCell ⟨cb, 7, none⟩ (.int .i64 2)).setCell ⟨cb, 8, none⟩ (.int .i64 (r.2.value))) (by
       rw [HLE.out]
       exact ((Q5.out.putc (c' := { c' with defers := ds, r1 := r.2.outer, leaving := il, kind := 2, value := r.2.value }) (k' := 2) (v' := bodyVal c') 7 (.int .i64 2) rfl rfl rfl ⟨rfl, rfl, rfl⟩).putc (c' := { c' with defers := ds, r1 := r.2.outer, leaving := il, kind := 2, value := r.2.value }) (k' := 2) (v' := r.2.value) 8 (.int .i64 (r.2.value)) rfl rfl rfl ⟨rfl, rfl, rfl⟩)))
      clear REL Q5 Q3 B3 B4 HC HG HV HRR hev h3 z10
      go_wp2_with fail
      go_roundg k
      case measure => omega
      case rel => exact REL2.out
     ·have HLE := hid (show lastEnd { c' with defers := ds } r.2 = { c' with defers := ds, r1 := r.2.outer, leaving := il, kind := 3, value := c'.value } by
       unfold lastEnd; dsimp only; rw [h3, HCL.out, HIL.out]; simp)
      have hev : endVal r.2 = 0 := by unfold endVal; rw [if_neg (by omega), if_neg (by omega)]
      rw [h3] at z7
      rw [hev] at z8
      have REL2 := hid (REL.out ((W5.setCell ⟨cb, 7, none⟩ (.int .i64 3)).setCell ⟨cb, 8, none⟩ (.int .i64 (0))) (by
       rw [HLE.out]
       exact ((Q5.out.putc (c' := { c' with defers := ds, r1 := r.2.outer, leaving := il, kind := 3, value := c'.value }) (k' := 3) (v' := bodyVal c') 7 (.int .i64 3) rfl rfl rfl ⟨rfl, rfl, rfl⟩).putc (c' := { c' with defers := ds, r1 := r.2.outer, leaving := il, kind := 3, value := c'.value }) (k' := 3) (v' := 0) 8 (.int .i64 (0)) rfl rfl rfl ⟨rfl, rfl, rfl⟩)))
      clear REL Q5 Q3 B3 B4 HC HG HV HRR hev h3 z10
      go_wp2_with fail
      go_roundg k
      case measure => omega
      case rel => exact REL2.out
    | true =>
     have Q5 := hid (Q4.out.putc (c' := { c' with defers := ds, r1 := r.2.outer, leaving := true }) (k' := c'.kind) (v' := bodyVal c') 9 (.bool true) rfl rfl rfl ⟨rfl, rfl, rfl⟩)
     have y9' : (W4.setCell ⟨cb, 9, none⟩ (.bool true)).cell? ⟨cb, 9, none⟩ = some (.bool true) := Q5.out.blk.cells 9
     have y7' : (W4.setCell ⟨cb, 9, none⟩ (.bool true)).cell? ⟨cb, 7, none⟩ = some (.int .i64 c'.kind) := Q5.out.blk.cells 7
     have y8' : (W4.setCell ⟨cb, 9, none⟩ (.bool true)).cell? ⟨cb, 8, none⟩ = some (.int .i64 (bodyVal c')) := Q5.out.blk.cells 8
     have f2 := Q5.out.blk.frozen
     have z7 := hB7 (.bool true)
     have z8 := hB8 (.bool true)
     have z10 := hB10 (.bool true)
     clear hB7 hB8 hB10 Q4
     go_upto_region 6 with fail
     clear y9 b9 f1
     generalize W4.setCell ⟨cb, 9, none⟩ (.bool true) = W5 at *
     rcases hk3 with h3 | h3 | h3
     ·have hil0 : il = false := by
       cases hx : il with
       | false => rfl
       | true => exact absurd h3 (V1.out (by rw [HIL.out]; exact hx))
      subst hil0
      obtain ⟨rc, hrc⟩ : ∃ rc, r.2.recovered = rc := ⟨_, rfl⟩
      have H3 := hid h3
      rw [h3] at z7
      rw [hrc] at z10
      have HRC := hid hrc
      clear h3 hrc z8
      cases rc with
      | false =>
       have HLE := hid (show lastEnd { c' with defers := ds } r.2 = { c' with defers := ds, r1 := r.2.outer, leaving := true, kind := c'.kind, value := c'.value } by
        unfold lastEnd; dsimp only; rw [H3.out, HRC.out, HCL.out, HIL.out]; rfl)
       have REL2 := hid (REL.out W5 (by rw [HLE.out]; exact Q5.out))
       clear REL Q5 f2 Q3 B3 B4 HC HG HV HRR
       go_wp2_with fail
       go_roundg k
       case measure => omega
       case rel => exact REL2.out
      | true =>
       have HLE := hid (show lastEnd { c' with defers := ds } r.2 = { c' with defers := ds, r1 := r.2.outer, leaving := true, kind := 3, value := c'.value } by
        unfold lastEnd; dsimp only; rw [H3.out, HRC.out, HCL.out, HIL.out]; rfl)
       have REL2 := hid (REL.out ((W5.setCell ⟨cb, 7, none⟩ (.int .i64 3)).setCell ⟨cb, 8, none⟩ (.int .i64 0)) (by
        rw [HLE.out]
        exact ((Q5.out.putc (c' := { c' with defers := ds, r1 := r.2.outer, leaving := true, kind := 3 }) (k' := 3) (v' := bodyVal c') 7 (.int .i64 3) rfl rfl rfl ⟨rfl, rfl, rfl⟩).putc (c' := { c' with defers := ds, r1 := r.2.outer, leaving := true, kind := 3 }) (k' := 3) (v' := 0) 8 (.int .i64 0) rfl rfl rfl ⟨rfl, rfl, rfl⟩)))
       clear REL Q5 Q3 B3 B4 HC HG HV HRR
       go_wp2_with fail
       go_roundg k
       case measure => omega
       case rel => exact REL2.out
     ·have HLE := hid (show lastEnd { c' with defers := ds } r.2 = { c' with defers := ds, r1 := r.2.outer, leaving := true, kind := 2, value := r.2.value } by
       unfold lastEnd; dsimp only; rw [h3, HCL.out, HIL.out]; simp)
      have hev : endVal r.2 = r.2.value := by unfold endVal; rw [if_neg (by omega), if_pos h3]
      rw [h3] at z7
      rw [hev] at z8
      have REL2 := hid (REL.out ((W5.setCell ⟨cb, 7, none⟩ (.int .i64 2)).setCell ⟨cb, 8, none⟩ (.int .i64 (r.2.value))) (by
       rw [HLE.out]
       exact ((Q5.out.putc (c' := { c' with defers := ds, r1 := r.2.outer, leaving := true, kind := 2, value := r.2.value }) (k' := 2) (v' := bodyVal c') 7 (.int .i64 2) rfl rfl rfl ⟨rfl, rfl, rfl⟩).putc (c' := { c' with defers := ds, r1 := r.2.outer, leaving := true, kind := 2, value := r.2.value }) (k' := 2) (v' := r.2.value) 8 (.int .i64 (r.2.value)) rfl rfl rfl ⟨rfl, rfl, rfl⟩)))
      clear REL Q5 Q3 B3 B4 HC HG HV HRR hev h3 z10
      go_wp2_with fail
      go_roundg k
      case measure => omega
      case rel => exact REL2.out
     ·have HLE := hid (show lastEnd { c' with defers := ds } r.2 = { c' with defers := ds, r1 := r.2.outer, leaving := true, kind := 3, value := c'.value } by
       unfold lastEnd; dsimp only; rw [h3, HCL.out, HIL.out]; simp)
      have hev : endVal r.2 = 0 := by unfold endVal; rw [if_neg (by omega), if_neg (by omega)]
      rw [h3] at z7
      rw [hev] at z8
      have REL2 := hid (REL.out ((W5.setCell ⟨cb, 7, none⟩ (.int .i64 3)).setCell ⟨cb, 8, none⟩ (.int .i64 (0))) (by
       rw [HLE.out]
       exact ((Q5.out.putc (c' := { c' with defers := ds, r1 := r.2.outer, leaving := true, kind := 3, value := c'.value }) (k' := 3) (v' := bodyVal c') 7 (.int .i64 3) rfl rfl rfl ⟨rfl, rfl, rfl⟩).putc (c' := { c' with defers := ds, r1 := r.2.outer, leaving := true, kind := 3, value := c'.value }) (k' := 3) (v' := 0) 8 (.int .i64 (0)) rfl rfl rfl ⟨rfl, rfl, rfl⟩)))
      clear REL Q5 Q3 B3 B4 HC HG HV HRR hev h3 z10
      go_wp2_with fail
      go_roundg k
      case measure => omega
      case rel => exact REL2.out
end
end Go.Proofs.Ythejnpignlhgiaa.Idfr

namespace Go.Proofs.Ythejnpignlhgiaa.Icar
open Lib (hid)
open Go.ChangeShapes Go.WideShapes Go.ChangeAt Go.RowKit
open PL Mem Srun Sst Imem Itell Irec Icall Leav Ieob Idfr
section
variable {w : World} {lo mb : Nat} {vp : Value} {fuel : Int} {tv : Value} {rd : Option RD} {op : Int} {m : M} {c : Fr}
theorem ist_new (h : Bse (w : World) lo mb tv rd) (ht : Tre w lo tv m.trace) (hm : Blk w mb 104 (icells vp fuel m op tv)) (hr : RunB w c.outer rd) (hf : RunF c rd) (hd : c.defers = [])
  (cs : Array Value) (hcs : cs = ccells c (rptr rd) (.slice none 0 0) 0 0) :
  Ist (w : World) lo mb w.heap.size vp fuel tv rd tv (.slice none 0 0) op m c 0 0 (w.alloc (.cells cs 186)) := by
 subst hcs
 refine ⟨⟨World.ownsRow.alloc ht _, hm.alloc _, Chg.alloc _ _ _, fun _ h => .inl h⟩, h, ?_, fun x hx => ?_, heap1_0 w _, .inl (Nat.le_refl _), fun d hd => ?_, fun d hd => (hr d hd).alloc _, hf⟩
 ·rw [hd]; exact World.ownsRow_nil _ _ _ _
 ·simp [Value.ownBlock] at hx
 ·have := h.r1 d hd
  intro e
  rw [e] at this
  exact absurd this (Nat.lt_irrefl _)
theorem frame0_runF (f D arg : Int) (rd : Option RD) : RunF (frame0 f D arg rd) rd := by
 cases rd with
 | none => exact ⟨rfl, rfl⟩
 | some d => exact ⟨rfl, rfl, fun h => by unfold frame0; dsimp only; rw [if_pos h]⟩
theorem frame0_is (f D arg : Int) (rd : Option RD) : (frame0 f D arg rd).f = f ∧ (frame0 f D arg rd).depth = D ∧ (frame0 f D arg rd).r0 = arg ∧ (frame0 f D arg rd).r1 = 0 ∧ (frame0 f D arg rd).r2 = 0 ∧ (frame0 f D arg rd).r3 = 0 ∧
  (frame0 f D arg rd).defers = [] ∧ (frame0 f D arg rd).recovered = false := by cases rd <;> exact ⟨rfl, rfl, rfl, rfl, rfl, rfl, rfl, rfl⟩
end
theorem body_facts {np : Nat} {p : Pg} {fuel K D : Int} {inner : PL.Call} {m : M} {c : Fr} (hp : okProg p = true) (hn : p.length = np) (hLv : LvC inner) (hG : PL.Good np fuel (D + 1) inner) (hi : Inv np fuel K m c) (hD : c.depth = D) (hk : c.kind = 1) (hl : c.leaving = false) :
  Inv np fuel K (body inner (p.getD c.f.toNat []) fuel (fuel.toNat + 1) m c 0).1 (body inner (p.getD c.f.toNat []) fuel (fuel.toNat + 1) m c 0).2 ∧ Same c (body inner (p.getD c.f.toNat []) fuel (fuel.toNat + 1) m c 0).2 ∧
  ((body inner (p.getD c.f.toNat []) fuel (fuel.toNat + 1) m c 0).1.spent = false → Lv (body inner (p.getD c.f.toNat []) fuel (fuel.toNat + 1) m c 0).2) := by
 have hbody : ∃ b, p[c.f.toNat]? = some b := ⟨_, List.getElem?_eq_getElem (by have := hi.c.f0; have := hi.c.f1; omega)⟩
 obtain ⟨b, hb⟩ := hbody
 have hgd : p.getD c.f.toNat [] = b := by rw [List.getD_eq_getElem?_getD, hb]; rfl
 obtain ⟨hb8, hbs⟩ := okProg_body hp hb
 rw [hgd]
 have h1 := body_inv hG hb8 (fun j s hs => by have := hbs j s hs; rwa [hn] at this) (fuel.toNat + 1) K m c 0 hi hD
 refine ⟨h1.1, h1.2.1, body_lv hLv (fun j s hs h11 => ?_) _ m c 0 hk hl (by decide)⟩
 have := hbs j s hs
 unfold okStep at this
 simp only [h11] at this
 simp at this
 exact this.1.1
theorem rptr_is (rd : Option RD) : ∃ q, rptr rd = .pointer q := by cases rd <;> exact ⟨_, rfl⟩
theorem afterB_spent {inner : PL.Call} {q : M × Fr} (h : q.1.spent = true) : afterB inner q = q := by unfold afterB; rw [if_pos h]
theorem afterB_go {inner : PL.Call} {q : M × Fr} (h : q.1.spent = false) : afterB inner q = closeC (dfr inner q.2.defers.length q.1 q.2) := by unfold afterB; rw [if_neg (by rw [h]; decide)]
theorem closeC_spent {q : M × Fr} (h : q.1.spent = true) : closeC q = q := by unfold closeC; rw [if_pos h]
theorem closeC_go {q : M × Fr} (h : q.1.spent = false) : closeC q = (finish q.1 q.2, q.2) := by unfold closeC; rw [if_neg (by rw [h]; decide)]
theorem finish_spent (m : M) (c : Fr) : (finish m c).spent = m.spent := by
 unfold finish tell
 repeat' split
 all_goals rfl
section
variable {lo mb : Nat} {Ap : Option Addr} {np cp : Nat} {fuel : Int} {p : Pg} {inner : PL.Call}
set_option maxRecDepth 100000 in
set_option maxHeartbeats 4000000 in
theorem carry_deep : OkI lo mb Ap np cp p fuel 9 (fun m c => ({ m with spent := true }, c)) := by
 intro K m f arg rd tv w hi hK hsp hb ht hm hrd hr
 obtain ⟨e1, e2, e3, e4, e5, e6, e7, e8⟩ := frame0_is f 9 arg rd
 obtain ⟨rq, hrq⟩ := rptr_is rd
 have h0 := ist_new (c := frame0 f 9 arg rd) hb ht hm hr (frame0_runF f 9 arg rd) e7 #[.int .i64 f, .int .i64 arg, .int .i64 0, .int .i64 0, .int .i64 0, .pointer rq, .slice none 0 0, .int .i64 0, .int .i64 0, .bool false, .bool false] (by unfold ccells; rw [e1, e3, e4, e5, e6, e8, frame0_leaving, hrq])
 have H := hid h0
 rw [hrq]
 clear h0 hi hK hsp hb ht hm hrd hr e1 e2 e3 e4 e5 e6 e7 e8 hrq
 go_enter Try.func128, Try.ntmps128
 go_upto_region 3 with fail
 change (fun V => Code.wp _ _ _ _ V) _
 refine gen_world (X := fun V => Ist (w : World) lo mb w.heap.size (.slice Ap np cp) fuel tv rd tv (.slice none 0 0) 8 m (frame0 f 9 arg rd) 0 0 V) ?_ ?_
 ·exact H.out
 clear H
 intro V hV
 have hbg := hid (begin_deep hV)
 clear hV
 go_wp2_with fail
 refine hbg.out.mono ?_
 rintro e W1 ⟨rfl, h1⟩
 exact ⟨rfl, fun _ => ⟨⟨[], rfl, fun x hx => by cases hx⟩, tv, 8, (Ist.asm (m' := { m with spent := true }) h1 rfl rfl rfl).l⟩, fun hx => (by cases hx)⟩
set_option maxRecDepth 100000 in
set_option maxHeartbeats 4000000 in
theorem carry_step (hp : okProg p = true) (hn : p.length = np) (D : Int) (hD0 : 1 ≤ D) (hD8 : D ≤ 8) (OK : OkI lo mb Ap np cp p fuel (D + 1) inner) (hLv : LvC inner) (hG : PL.Good np fuel (D + 1) inner) :
  OkI lo mb Ap np cp p fuel D (fun m c => afterB inner (body inner (p.getD c.f.toNat []) fuel (fuel.toNat + 1) (begin_ m c) { c with kind := 1 } 0)) := by
 intro K m f arg rd tv w hi hK hsp hb ht hm hrd hr
 obtain ⟨e1, e2, e3, e4, e5, e6, e7, e8⟩ := frame0_is f D arg rd
 obtain ⟨rq, hrq⟩ := rptr_is rd
 have h0 := ist_new (c := { frame0 f D arg rd with kind := 1 }) hb ht hm hr (by have := frame0_runF f D arg rd; cases rd <;> exact this) e7 #[.int .i64 f, .int .i64 arg, .int .i64 0, .int .i64 0, .int .i64 0, .pointer rq, .slice none 0 0, .int .i64 0, .int .i64 0, .bool false, .bool false] (by unfold ccells; dsimp only; rw [e1, e3, e4, e5, e6, e8, frame0_leaving, hrq])
 have hinv1 : Inv np fuel (K + 1) (begin_ m (frame0 f D arg rd)) { frame0 f D arg rd with kind := 1 } := begin_wf hi (by rw [e2]; omega) (by rw [e2]; omega)
 have hlen : m.trace.length ≤ 100000 := by have := hi.m.pot; have := hi.m.made1; have := hi.m.fuel1; omega
 obtain ⟨fr, hfr⟩ : ∃ fr, ({ frame0 f D arg rd with kind := 1 } : Fr) = fr := ⟨_, rfl⟩
 have hbm : begin_ m (frame0 f D arg rd) = begin_ m fr := by rw [← hfr]; rfl
 have hff : (frame0 f D arg rd).f = fr.f := by rw [← hfr]
 have hfl : fr.leaving = false := by rw [← hfr]; exact frame0_leaving f D arg rd
 have hfk : fr.kind = 1 := by rw [← hfr]
 have hfd : fr.depth = D := by rw [← hfr]; exact e2
 have hs1 : (begin_ m fr).spent = false := hsp
 dsimp only
 rw [hfr, hbm] at hinv1
 rw [hfr, hbm, hff, hrq]
 rw [hfr] at h0
 obtain ⟨bi, bs, bl⟩ := body_facts hp hn hLv hG hinv1 hfd hfk hfl
 have hbg := hid (fun (V : World) (hV : Ist (w : World) lo mb w.heap.size (.slice Ap np cp) fuel tv rd tv (.slice none 0 0) (D - 1) m fr 0 0 V) => begin_any hV (by omega) (by omega) hlen)
 rw [show D - 1 + 1 = D by omega] at hbg
 have heb := hid (fun (tv1 : Value) (V : World) (hV : Ist (w : World) lo mb w.heap.size (.slice Ap np cp) fuel tv rd tv1 (.slice none 0 0) D (begin_ m fr) fr 0 0 V) => eob_any (K := K) OK hLv hG hp hn hV hinv1 hK hs1 hrd hfl hfk hfd)
 generalize body inner (p.getD fr.f.toNat []) fuel (fuel.toNat + 1) (begin_ m fr) fr 0 = R at *
 have hdi := dfr_inv hG R.2.defers.length (K + 1) R.1 R.2 bi (bs.1.trans hfd)
 have hdl := fun h => dfr_lv hLv R.2.defers.length R.1 R.2 (bl h)
 have hdf := hid (fun (tv1 dv1 : Value) (V : World) (hsp1 : R.1.spent = false) (hV : Ist (w : World) lo mb w.heap.size (.slice Ap np cp) fuel tv rd tv1 dv1 D R.1 R.2 R.2.kind (bodyVal R.2) V) => dfr_any (K := K + 1) OK hLv hG hV bi (by omega) hsp1 hrd (bl hsp1) (bs.1.trans hfd))
 have hA := fun h => afterB_go (inner := inner) (q := R) h
 have hA2 := fun h => afterB_spent (inner := inner) (q := R) h
 generalize dfr inner R.2.defers.length R.1 R.2 = T at *
 generalize afterB inner R = r at *
 have HDI := hid hdi
 have HDL := hid hdl
 have HA := hid hA
 have HA2 := hid hA2
 have H := hid h0
 have HK := hid hK
 clear h0 hi hinv1 hlen hfr hbm hff hfl hfk hfd hs1 bi bs bl hdi hdl hA hA2 hK hsp hb ht hm hrd hr e1 e2 e3 e4 e5 e6 e7 e8 hrq OK hLv hG hp hn
 go_enter Try.func128, Try.ntmps128
 go_upto_region 3 with fail
 change (fun V => Code.wp _ _ _ _ V) _
 refine gen_world (X := fun V => Ist (w : World) lo mb w.heap.size (.slice Ap np cp) fuel tv rd tv (.slice none 0 0) (D - 1) m fr 0 0 V) H.out ?_
 clear H
 intro V hV
 have hbg1 := hid (hbg.out V hV)
 clear hV hbg
 go_wp2_with fail
 refine hbg1.out.mono ?_
 rintro e W1 ⟨tv1, rfl, h1⟩
 have heb1 := hid (heb.out tv1 W1 h1)
 clear h1 heb hbg1
 go_wp2_with fail
 refine heb1.out.mono ?_
 rintro e W2 ⟨h1, h2⟩
 clear heb1
 cases hs : R.1.spent with
 | true =>
  obtain ⟨⟨older, rfl, ho⟩, tv2, op2, g⟩ := h1 hs
  have hr := HA2.out hs
  subst hr
  exact ⟨rfl, fun _ => ⟨⟨older, rfl, ho⟩, tv2, op2, g⟩, fun hx => (by rw [hs] at hx; cases hx)⟩
 | false =>
  obtain ⟨tv2, dv2, i2, rfl⟩ := h2 hs
  have hr := HA.out hs
  have y7 : W2.cell? ⟨w.heap.size, 7, none⟩ = some (.int .i64 0) := i2.blk.cells 7
  have y8 : W2.cell? ⟨w.heap.size, 8, none⟩ = some (.int .i64 0) := i2.blk.cells 8
  have f2 := i2.blk.frozen
  have hdf1 := hid (hdf.out tv2 dv2 _ hs ((i2.putc (c' := R.2) (k' := R.2.kind) (v' := 0) 7 (.int .i64 R.2.kind) rfl rfl rfl ⟨rfl, rfl, rfl⟩).putc (c' := R.2) (k' := R.2.kind) (v' := bodyVal R.2) 8 (.int .i64 (bodyVal R.2)) rfl rfl rfl ⟨rfl, rfl, rfl⟩))
  have HS := hid hs
  have HR := hid hr
  clear h1 h2 hs hr i2 hdf HA HA2
  go_upto_region 5 with fail
  clear y7 y8 f2
  generalize (W2.setCell ⟨w.heap.size, 7, none⟩ (.int .i64 R.2.kind)).setCell ⟨w.heap.size, 8, none⟩ (.int .i64 (bodyVal R.2)) = W3 at *
  go_wp2_with fail
  refine hdf1.out.mono ?_
  rintro e W4 ⟨h1, h2⟩
  clear hdf1
  cases hs : T.1.spent with
  | true =>
   obtain ⟨⟨older, rfl, ho⟩, tv4, op4, g⟩ := h1 hs
   have hr := HR.out.trans (closeC_spent hs)
   subst hr
   exact ⟨rfl, fun _ => ⟨⟨older, rfl, ho⟩, tv4, op4, g⟩, fun hx => (by rw [hs] at hx; cases hx)⟩
  | false =>
   obtain ⟨tv4, dv4, rfl, i4⟩ := h2 hs
   have hr := HR.out.trans (closeC_go hs)
   obtain ⟨d1, d2, d3⟩ := HDI.out
   have hl := HDL.out HS.out hs
   have hfi := hid (finish_any i4 hD0 hD8 hl.2 (by have := d1.m.pot; have := d1.m.made1; have := d1.m.fuel1; have := HK.out; omega))
   have HS4 := hid hs
   have HR4 := hid hr
   clear h1 h2 hs hr i4 d1 d2 d3 hl HDI HDL
   go_wp2_with fail
   refine hfi.out.mono ?_
   rintro e W5 ⟨tv5, rfl, i5⟩
   have I5 := hid i5
   clear i5 hfi
   go_wp2_with fail
   go_ret
   have hr := HR4.out
   subst hr
   exact ⟨fun hx => (by rw [show (finish T.1 T.2, T.2).1.spent = T.1.spent from finish_spent _ _, HS4.out] at hx; cases hx), fun _ => ⟨tv5, w.heap.size, dv4, rfl, Nat.le_refl _, I5.out.l, I5.out.blk, I5.out.runB⟩⟩
end
end Go.Proofs.Ythejnpignlhgiaa.Icar

namespace Go.Proofs.Ythejnpignlhgiaa.Irun
open Lib (hid)
open Go.ChangeShapes Go.WideShapes Go.ChangeAt Go.RowKit
open PL Mem Srun Sst Imem Itell Irec Icall Leav Ieob Idfr Icar
theorem carry_all {lo mb : Nat} {Ap : Option Addr} {np cp : Nat} {fuel : Int} {p : Pg} (hp : okProg p = true) (hn : p.length = np) : ∀ d : Nat, d ≤ 8 → OkI lo mb Ap np cp p fuel (9 - d) (PL.call p fuel d)
 | 0, _ => carry_deep
 | d + 1, hd => by
  have h := carry_all (lo := lo) (mb := mb) (Ap := Ap) (cp := cp) (fuel := fuel) hp hn d (by omega)
  have hg := call_good hp (fuel := fuel) d (by omega)
  rw [hn] at hg
  have e : (9 : Int) - d = (9 - ((d + 1 : Nat) : Int)) + 1 := by omega
  rw [e] at h hg
  exact carry_step hp hn (9 - ((d + 1 : Nat) : Int)) (by omega) (by omega) h (call_lv hp d) hg
theorem rs_spent (w : World) : (Instr.typeAssert (.iface 181 (.agg #[])) 20 181 true).run Try.prog w = .ok (.tuple #[.agg #[], .bool true]) w := by kernel_rfl
theorem rs_nil (w : World) : (Instr.typeAssert .nilIface 20 181 true).run Try.prog w = .ok (.tuple #[.agg #[], .bool false]) w := by kernel_rfl
set_option maxRecDepth 100000 in
set_option maxHeartbeats 1000000 in
theorem stop_idle (p : Addr) (w : World) :
  CallsD Try.prog 127 #[.pointer (some p)] .returning w fun e u' w' => e = .returned (.tuple #[]) ∧ u' = .returning ∧ ∃ o, w' = w.alloc o := by
 have hta := rs_nil
 refine callsD_of_wpS Try.func127 rfl fun c₀ cs hu => ?_
 apply wpS_seq
 apply wpS_region
 simp [wpOpsS, go_sem, recoverD, hu, Try.ntmps127, Exit.thenS, hta]
 refine wpS_of_wp ?_
 change Code.wp Try.prog _ _ { tmps := #[.pointer (some p), .pointer (some ⟨w.heap.size, 0, none⟩), .bool false, .tuple #[.agg #[], .bool false], .nilIface, .tuple #[.agg #[], .bool false], .agg #[], .bool false, undef, undef], defers := [] } _
 go_wp2_with fail
 exact ⟨rfl, .returning, (by cases c₀; simp_all), .tuple #[], by simp [results, Try.results127, go_sem], rfl, rfl, _, rfl⟩
set_option maxRecDepth 100000 in
set_option maxHeartbeats 1000000 in
theorem stop_spent (g : Nat) (x y : Int) (older : List PanicEntry) (w : World) (hb : Blk w g 162 #[.int .i64 x, .int .i64 y]) :
  CallsD Try.prog 127 #[.pointer (some ⟨g, 0, none⟩)] (.panicking ({ v := spentV, recovered := false } :: older)) w fun e u' w' =>
   e = .returned (.tuple #[]) ∧ u' = .panicking ({ v := spentV, recovered := true } :: older) ∧ Chg (fun b => b = g) w w' ∧ Blk w' g 162 #[.int .i64 4, .int .i64 0] := by
 have hc := hb.cells
 have hz := hb.frozen
 have hta := rs_spent
 have HB := hid hb
 refine callsD_of_wpS Try.func127 rfl fun c₀ cs hu => ?_
 unfold spentV at hu
 apply wpS_seq
 apply wpS_region
 simp [wpOpsS, go_sem, recoverD, hu, Try.ntmps127, Exit.thenS, hta]
 refine wpS_of_wp ?_
 change Code.wp Try.prog _ _ { tmps := #[.pointer (some ⟨g, 0, none⟩), .pointer (some ⟨w.heap.size, 0, none⟩), .bool true, .tuple #[.agg #[], .bool true], .iface 181 (.agg #[]), .tuple #[.agg #[], .bool true], .agg #[], .bool true, undef, undef], defers := [] } _
 have hB1 := HB.out.alloc (.cells #[] 181)
 have c1 := hB1.cells
 have z1 := hB1.frozen
 have HB1 := hid hB1
 clear hB1 hc hz hb
 go_wp2_with fail
 refine ⟨rfl, _, rfl, .tuple #[], by simp [results, Try.results127, go_sem], rfl, rfl, ((Chg.alloc (fun b => b = g) w _).put ⟨g, 0, none⟩ _ (.inr rfl)).put ⟨g, 1, none⟩ _ (.inr rfl), ?_⟩
 have := (HB1.out.put 0 (.int .i64 4)).put 1 (.int .i64 0)
 simpa only [List.setIfInBounds_toArray, List.set_cons_zero, List.set_cons_succ] using this
section
variable {w : World} {lo mb : Nat} {vp : Value} {fuel : Int} {tv0 tv : Value} {op : Int} {m : M} {o : Obj} {W W' : World} {cs ms : Array Value} {m' : M}
theorem ilf_box (l : Ilf ((w.alloc o : World) : Bs) lo mb vp fuel tv0 none tv op m W) (hb : Blk W w.heap.size 162 cs) (hch : Chg (fun b => b = w.heap.size) W W') : Ilf (w : World) lo mb vp fuel tv0 none tv op m W' :=
 ⟨own_chg l.tre hch (fun x hx e => blk_apart l.tre hb (by decide) (e ▸ hx)), l.mach.chg hch (ne_blk l.mach hb (by decide)), ((Chg.alloc _ w o).trans l.chg (fun _ _ h => h)).trans hch (fun x hx e => absurd e (Nat.ne_of_lt hx)), fun x hx => by
  rcases l.ft x hx with e | e
  ·exact .inl e
  ·have : w.heap.size ≤ (w.alloc o).heap.size := by rw [World.size_alloc]; omega
   exact .inr (Nat.le_trans this e)⟩
theorem ilf_stays (l : Ilf ((w : World) : Bs) lo mb vp fuel tv0 none tv op m W) {g : Nat} (hb : Blk w g 162 cs) (ht : Tre w lo tv0 m'.trace) (hm : Blk w mb 104 ms) : Blk W g 162 cs :=
 hb.chg l.chg (fun hc => by
  rcases hc with e | e | ⟨d, hd, e⟩ | e
  ·exact ne_blk hb hm (by decide) e
  ·exact blk_apart ht hb (by decide) e
  ·cases hd
  ·exact e.elim)
end
theorem drop_all : ∀ (l : List PanicEntry), (∀ x ∈ l, x.goexit = false) → l.dropWhile (fun x => !x.goexit) = []
 | [], _ => rfl
 | a :: l, h => by
  rw [List.dropWhile_cons, if_pos (by rw [h a (by simp)]; rfl)]
  exact drop_all l (fun x hx => h x (by simp [hx]))
theorem settle_all {v : Value} {older : List PanicEntry} (h : ∀ x ∈ older, x.goexit = false) : settle (.panicking ({ v := v, recovered := true } :: older)) = .returning := by
 have e : older.dropWhile (fun x => !x.goexit) = [] := drop_all older h
 unfold settle
 simp only [e]
def RunI (w : World) (lo mb : Nat) (vp : Value) (fuel : Int) (tv0 : Value) (r : M × Fr) (e : Ending) (W' : World) : Prop :=
 ∃ tv op', e = .returned (.agg #[.int .i64 (told r).kind, .int .i64 (told r).value]) ∧ Ilf (w : World) lo mb vp fuel tv0 none tv op' r.1 W'
set_option maxRecDepth 100000 in
set_option maxHeartbeats 4000000 in
theorem run_any {Ap : Option Addr} {np cp : Nat} {fuel : Int} {p : Pg} (hp : okProg p = true) (hn : p.length = np) (lo mb : Nat) (tv : Value) (w : World) (m : M) (f arg : Int) (hi : Inv np fuel 3000 m (newFrame f 1 arg)) (hsp : m.spent = false) (hb : Bse (w : World) lo mb tv none) (ht : Tre w lo tv m.trace)
  (hm : Blk w mb 104 (icells (.slice Ap np cp) fuel m 0 tv)) (hrd : RdP w lo Ap p) :
  Calls Try.prog 112 #[.pointer (some ⟨mb, 0, none⟩), .int .i64 f, .int .i64 arg] w (RunI w lo mb (.slice Ap np cp) fuel tv (PL.call p fuel 8 m (newFrame f 1 arg))) := by
 have hal : Below lo w (w.alloc (.cells #[.int .i64 0, .int .i64 0] 162)) := (Below.refl _ _).alloc hb.l0 _
 have hc := carry_all (lo := lo) (mb := mb) (Ap := Ap) (cp := cp) (fuel := fuel) hp hn 8 (Nat.le_refl _) 3000 m f arg none tv (w.alloc (.cells #[.int .i64 0, .int .i64 0] 162)) hi (by decide) hsp
  ⟨Nat.le_trans hb.l0 hal.size, hb.m0, Nat.lt_of_lt_of_le hb.m1 hal.size, fun d hd => (by cases hd), fun d hd => (by cases hd), hb.t0, fun x hx => hx.elim⟩
  (World.ownsRow.alloc ht _) (hm.alloc _) (hrd.below hal) (fun d hd => by cases hd)
 have hc' : Calls Try.prog 128 #[.pointer (some ⟨mb, 0, none⟩), .int .i64 f, .int .i64 arg, .pointer none] (w.alloc (.cells #[.int .i64 0, .int .i64 0] 162)) (CallI (w.alloc (.cells #[.int .i64 0, .int .i64 0] 162)) lo mb (.slice Ap np cp) fuel tv none 0 (PL.call p fuel 8 m (newFrame f 1 arg))) := hc
 have hlv := call_lv hp (fuel := fuel) 8 m (newFrame f 1 arg) rfl
 generalize PL.call p fuel 8 m (newFrame f 1 arg) = r at *
 have HC := hid hc'
 have HLV := hid hlv
 have B1 := hid (heap1_0 w (.cells #[.int .i64 0, .int .i64 0] 162))
 have HT := hid (World.ownsRow.alloc ht (.cells #[.int .i64 0, .int .i64 0] 162))
 have HM := hid (hm.alloc (.cells #[.int .i64 0, .int .i64 0] 162))
 have hmf : ∀ (fn : Fn) (first cap : Array Value) (w : World), (Instr.makeFunc fn first cap).run Try.prog w = .ok (.func fn first cap) w := fun _ _ _ _ => rfl
 clear hc hc' hlv hal hi hsp hb ht hm hrd
 go_enter_defers Try.func112, Try.ntmps112
 go_wp2_with fail
 refine HC.out.mono ?_
 rintro e W1 ⟨h1, h2⟩
 cases hs : r.1.spent with
 | true =>
  obtain ⟨⟨older, rfl, ho⟩, tv1, op1, g⟩ := h1 hs
  have BX := ilf_stays g B1.out HT.out HM.out
  have G := hid g
  have HS := hid hs
  clear h1 h2 hs g
  refine leaves_cons (f := 127) (args := #[.pointer (some ⟨w.heap.size, 0, none⟩)]) (by simp) (by simp [go_sem]) ?_
  refine (stop_spent w.heap.size 0 0 older W1 BX).mono ?_
  rintro e u' w'' ⟨rfl, rfl, ch, B2⟩
  have b2 := B2.cells
  change Leaves _ _ _ _ [] (settle _) _
  rw [settle_all ho]
  have h4 : (told r).kind = 4 := by unfold told; dsimp only; rw [HS.out]; rfl
  have h0 : (told r).value = 0 := by unfold told; dsimp only; rw [HS.out]; rfl
  exact ⟨.agg #[.int .i64 4, .int .i64 0], by simp [results, Try.results112, go_sem, b2], tv1, op1, by rw [h4, h0], ilf_box G.out BX ch⟩
 | false =>
  obtain ⟨tv1, cb, dv, rfl, hcb, g, b, _⟩ := h2 hs
  have BX := hid (ilf_stays g B1.out HT.out HM.out)
  have G := hid g
  have HS := hid hs
  have y7 : W1.cell? ⟨cb, 7, none⟩ = some (.int .i64 r.2.kind) := b.cells 7
  have y8 : W1.cell? ⟨cb, 8, none⟩ = some (.int .i64 (endVal r.2)) := b.cells 8
  have b0 := BX.out.cells
  have bz := BX.out.frozen
  clear h1 h2 hs g
  go_wp2_with fail
  refine leaves_cons (f := 127) (args := #[.pointer (some ⟨w.heap.size, 0, none⟩)]) (by simp) (by simp [go_sem]) ?_
  refine (stop_idle ⟨w.heap.size, 0, none⟩ _).mono ?_
  rintro e u' w'' ⟨rfl, rfl, o, rfl⟩
  have hv := HLV.out HS.out
  have hk : (told r).kind = r.2.kind := by unfold told; dsimp only; rw [HS.out]; rfl
  have h0 : (told r).value = endVal r.2 := by unfold told endVal; dsimp only; rw [HS.out]; rfl
  have B2 := ((BX.out.put 0 (.int .i64 r.2.kind)).put 1 (.int .i64 (endVal r.2))).alloc o
  simp only [List.setIfInBounds_toArray, List.set_cons_zero, List.set_cons_succ] at B2
  have b2 := B2.cells
  exact ⟨.agg #[.int .i64 r.2.kind, .int .i64 (endVal r.2)], by simp [results, Try.results112, go_sem, b2], tv1, 0, by rw [hk, h0], ilf_box G.out BX.out ((((Chg.refl (fun b => b = w.heap.size) W1).put ⟨w.heap.size, 0, none⟩ _ (.inr rfl)).put ⟨w.heap.size, 1, none⟩ _ (.inr rfl)).new o)⟩
end Go.Proofs.Ythejnpignlhgiaa.Irun
