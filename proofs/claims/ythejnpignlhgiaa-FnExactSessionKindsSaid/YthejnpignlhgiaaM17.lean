import Derived.Test.YthejnpignlhgiaaIstep3
import Derived.Deep.LoopGhost
import Derived.Laws.Pointers
set_option linter.all false
namespace Go.Proofs.Ythejnpignlhgiaa.Imk
open Last2 (tk)
open Go.ChangeShapes Go.WideShapes Go.ChangeAt Go.RowKit
open PL Mem Srun Sst Imem Itell Irec Icall Istep1 Istep2 Istep3 Leav
def StepI (w : Bs) (lo mb cb : Nat) (vp : Value) (fuel : Int) (tv0 : Value) (rd : Option RD) (D : Int) (r : M × Fr × Int) (e : Ending) (W' : World) : Prop :=
 (r.1.spent = true → SpentE e ∧ ∃ tv op', Ilf w lo mb vp fuel tv0 rd tv op' r.1 W') ∧
 (r.1.spent = false → ∃ tv dv, Ist w lo mb cb vp fuel tv0 rd tv dv D r.1 r.2.1 0 0 W' ∧ (r.2.2 ≠ -1 → e = .returned (.int .i64 r.2.2)) ∧ (r.2.2 = -1 → r.2.1.kind = 1 → e = .returned (.int .i64 8)) ∧
  (r.2.2 = -1 → r.2.1.kind ≠ 1 → e = .panicked [{ v := endV r.2.1.kind (endVal r.2.1), recovered := false }]))
theorem innerEnd_fst (c i : Fr) (a : Int) : (innerEnd c i a).1 = (innerEnd c i 0).1 := by
 unfold innerEnd
 repeat' split
 all_goals rfl
theorem innerEnd_neg {c i : Fr} {a : Int} (h : i.kind ≠ 1) : (innerEnd c i a).2 = -1 := by
 unfold innerEnd
 rw [if_neg h]
 split
 ·rfl
 ·split <;> rfl
theorem innerEnd_kind {c i : Fr} {a : Int} (h : i.kind = 2 ∨ i.kind = 3) : (innerEnd c i a).1.kind ≠ 1 := by
 unfold innerEnd
 rcases h with h | h <;> simp [h]
section
variable {w : Bs} {W : World} {lo mb cb : Nat} {Ap : Option Addr} {np cp : Nat} {fuel : Int} {tv0 : Value} {rd : Option RD} {tv dv : Value} {D K : Int} {m : M} {c : Fr} {p : Pg} {inner : PL.Call}
set_option maxRecDepth 100000 in
set_option maxHeartbeats 4000000 in
theorem step4 (OK : OkI lo mb Ap np cp p fuel (D + 1) inner) (hLv : LvC inner) (h : Ist w lo mb cb (.slice Ap np cp) fuel tv0 rd tv dv D (m) (c) 0 0 W) (a b nx : Int) (hb0 : 0 ≤ b) (hb4 : b < 4)
  (hi : Inv np fuel K m (newFrame a (D + 1) (reg c b))) (hK : K ≤ 5000) (hsp : m.spent = false) (hrd : RdP w.w lo Ap p) (hlv : c.leaving = false) (hk : c.kind = 1) (hD : c.depth = D) (hnx : 1 ≤ nx) :
  Calls Try.prog 146 #[.pointer (some ⟨mb, 0, none⟩), .pointer (some ⟨cb, 0, none⟩), .agg #[.int .i64 4, .int .i64 a, .int .i64 b], .int .i64 nx] W (StepI w lo mb cb (.slice Ap np cp) fuel tv0 rd D (mk inner m c (nx - 1) (4, a, b))) := by
 have hc : ∀ V, Ist w lo mb cb (.slice Ap np cp) fuel tv0 rd tv dv D (m) (c) 0 0 V → Calls Try.prog 148 #[.pointer (some ⟨mb, 0, none⟩), .pointer (some ⟨cb, 0, none⟩), .int .i64 a, .int .i64 (reg c b)] V (MakeC w lo mb cb (.slice Ap np cp) fuel tv0 rd dv D c (inner m (newFrame a (D + 1) (reg c b)))) :=
  fun V hV => makeCall_any OK hLv hV a (reg c b) hi hK hsp hrd hlv hk
 have hmk : mk inner m c (nx - 1) (4, a, b) = ((inner m (newFrame a (D + 1) (reg c b))).1, innerEnd c (inner m (newFrame a (D + 1) (reg c b))).2 (nx - 1)) := by
  unfold mk mkCall
  rw [if_pos rfl, hD]
 have hv := hLv m (newFrame a (D + 1) (reg c b)) rfl
 rw [hmk]
 generalize inner m (newFrame a (D + 1) (reg c b)) = r at *
 have H := Lib.hid h
 have HC := Lib.hid hc
 have HV9 := Lib.hid hv
 clear h hc hmk OK hLv hi hsp hrd hv
 go_enter Try.func146, Try.ntmps146
 go_upto_region 1 with fail
 change (fun V => Code.wp _ _ _ _ V) _
 refine gen_world (X := fun V => Ist w lo mb cb (.slice Ap np cp) fuel tv0 rd tv dv D (m) (c) 0 0 V ∧ Blk V W.heap.size 139 #[.int .i64 4, .int .i64 a, .int .i64 b]) ⟨H.out.alloc _, heap1_0 W _⟩ ?_
 clear H
 intro V hV
 have HV := Lib.hid hV.1
 have zs := hV.2.cells
 have zb := (hV.1.blk.cells (1 + b.toNat)).trans (ccells_reg c _ _ _ _ b hb0 hb4)
 clear hV
 go_wp2_with fail
 have S0 : (fun V : World => (∀ o, V.cell? ⟨W.heap.size, o, none⟩ = (#[.int .i64 4, .int .i64 a, .int .i64 b] : Array Value)[o]?) ∧ V.cell? ⟨cb, 1 + b.toNat, none⟩ = some (.int .i64 (reg c b))) V.drew := ⟨zs, zb⟩
 refine Last2.region_last [10] (fun V : World => (∀ o, V.cell? ⟨W.heap.size, o, none⟩ = (#[.int .i64 4, .int .i64 a, .int .i64 b] : Array Value)[o]?) ∧ V.cell? ⟨cb, 1 + b.toNat, none⟩ = some (.int .i64 (reg c b))) (by kernel_rfl) ?_
 refine tk 0 61 (.pointer (some ⟨mb, 0, none⟩)) S0 ?_
 simp only [Act.put, Last2.s]
 refine tk 1 62 (.pointer (some ⟨cb, 0, none⟩)) S0 ?_
 simp only [Act.put, Last2.s]
 refine tk 2 63 (.pointer (some ⟨W.heap.size, 1, none⟩)) S0 ?_
 simp only [Act.put, Last2.s]
 refine tk 3 64 (.int .i64 a) S0 ?_
 simp only [Act.put, Last2.s]
 refine tk 4 65 (.pointer (some ⟨cb, 1, none⟩)) S0 ?_
 simp only [Act.put, Last2.s]
 refine tk 5 66 (.pointer (some ⟨W.heap.size, 2, none⟩)) S0 ?_
 simp only [Act.put, Last2.s]
 refine tk 6 67 (.int .i64 b) S0 ?_
 simp only [Act.put, Last2.s]
 refine tk 7 68 (.pointer (some ⟨cb, 1, none⟩)) S0 ?_
 simp only [Act.put, Last2.s]
 refine tk 8 69 (.pointer (some ⟨cb, 1 + b.toNat, none⟩)) S0 ?_
 simp only [Act.put, Last2.s]
 refine tk 9 70 (.int .i64 (reg c b)) S0 ?_
 simp only [Act.put, Last2.s]
 refine Last2.last_one (i := 10) (o := { dst := some 71, op := .call { callee := .value (.func 148), args := #[.tmp 61, .tmp 62, .tmp 64, .tmp 70], argTypes := #[102, 183, 3, 3] }, type := _, pos := _, after := _, guard := none }) (by kernel_rfl) rfl rfl (fun K9 hK9 => ?_)
 go_simp
 refine (HC.out _ HV.out.drew).mono ?_
 rintro e W1 ⟨h1, h2⟩
 cases hs : r.1.spent with
 | true =>
  obtain ⟨⟨older, rfl, ho⟩, tv1, op1, g⟩ := h1 hs
  exact ⟨rfl, fun _ => ⟨⟨older, rfl, ho⟩, tv1, op1, g⟩, fun hx => (by rw [show (r.1, innerEnd c r.2 (nx - 1)).1 = r.1 from rfl, hs] at hx; cases hx)⟩
 | false =>
  obtain ⟨tv1, i1, e1, e2⟩ := h2 hs
  obtain ⟨v1, v2, v3⟩ := HV9.out hs
  have I1 := Lib.hid i1
  by_cases h3 : r.2.kind = 1
  ·obtain rfl := e1 h3
   have H3 := Lib.hid h3
   have HS := Lib.hid hs
   clear h1 h2 e1 e2 hs v1 v2 v3 h3 i1 S0 zs zb
   refine hK9.out _ _ (fun h => (h (by decide)).elim) ?_
   clear hK9 K9
   refine Last2.last_done (by kernel_rfl) ?_ _
   go_wp2_with fail
   go_ret
   have hx2 : (innerEnd c r.2 (nx - 1)).2 = nx := by unfold innerEnd; rw [if_pos H3.out]; show nx - 1 + 1 = nx; omega
   refine ⟨fun hx => (by rw [show (r.1, innerEnd c r.2 (nx - 1)).1 = r.1 from rfl, HS.out] at hx; cases hx), fun _ => ⟨tv1, dv, ?_, fun _ => ?_, fun hx => ?_, fun hx => ?_⟩⟩
   ·show Ist w lo mb cb (.slice Ap np cp) fuel tv0 rd tv1 dv D r.1 (innerEnd c r.2 (nx - 1)).1 0 0 W1
    rw [innerEnd_fst]
    exact I1.out
   ·show Ending.returned (.int .i64 nx) = .returned (.int .i64 (innerEnd c r.2 (nx - 1)).2)
    rw [hx2]
   ·have hx' : (innerEnd c r.2 (nx - 1)).2 = -1 := hx
    omega
   ·have hx' : (innerEnd c r.2 (nx - 1)).2 = -1 := hx
    omega
  ·obtain rfl := e2 h3
   have hk2 : (innerEnd c r.2 (nx - 1)).2 = -1 := innerEnd_neg h3
   have hk3 : (innerEnd c r.2 (nx - 1)).1.kind ≠ 1 := innerEnd_kind (by omega)
   refine ⟨rfl, fun hx => (by rw [show (r.1, innerEnd c r.2 (nx - 1)).1 = r.1 from rfl, hs] at hx; cases hx), fun _ => ⟨tv1, dv, ?_, fun hx => absurd hk2 hx, fun _ hx => absurd hx hk3, fun _ _ => ?_⟩⟩
   ·show Ist w lo mb cb (.slice Ap np cp) fuel tv0 rd tv1 dv D r.1 (innerEnd c r.2 (nx - 1)).1 0 0 W1
    rw [innerEnd_fst]
    exact i1
   ·show Ending.panicked [{ v := endV (innerEnd c r.2 0).1.kind (endVal (innerEnd c r.2 0).1), recovered := false }] = .panicked [{ v := endV (innerEnd c r.2 (nx - 1)).1.kind (endVal (innerEnd c r.2 (nx - 1)).1), recovered := false }]
    rw [innerEnd_fst c r.2 (nx - 1)]
theorem stepI_ret {e : Ending} {W' : World} {r : M × Fr × Int} {tv dv : Value} (hs : r.1.spent = false) (hi : Ist w lo mb cb (.slice Ap np cp) fuel tv0 rd tv dv D r.1 r.2.1 0 0 W') (hn : r.2.2 ≠ -1) (he : e = .returned (.int .i64 r.2.2)) : StepI w lo mb cb (.slice Ap np cp) fuel tv0 rd D r e W' :=
 ⟨fun hx => (by rw [hs] at hx; cases hx), fun _ => ⟨tv, dv, hi, fun _ => he, fun h => absurd h hn, fun h => absurd h hn⟩⟩
theorem stepI_end {e : Ending} {W' : World} {r : M × Fr × Int} {tv dv : Value} (hs : r.1.spent = false) (hi : Ist w lo mb cb (.slice Ap np cp) fuel tv0 rd tv dv D r.1 r.2.1 0 0 W') (hn : r.2.2 = -1) (hk : r.2.1.kind = 1) (he : e = .returned (.int .i64 8)) : StepI w lo mb cb (.slice Ap np cp) fuel tv0 rd D r e W' :=
 ⟨fun hx => (by rw [hs] at hx; cases hx), fun _ => ⟨tv, dv, hi, fun h => absurd hn h, fun _ _ => he, fun _ h => absurd hk h⟩⟩
theorem stepI_pan {e : Ending} {W' : World} {r : M × Fr × Int} {tv dv : Value} (hs : r.1.spent = false) (hi : Ist w lo mb cb (.slice Ap np cp) fuel tv0 rd tv dv D r.1 r.2.1 0 0 W') (hn : r.2.2 = -1) (hk : r.2.1.kind ≠ 1) (he : e = .panicked [{ v := endV r.2.1.kind (endVal r.2.1), recovered := false }]) : StepI w lo mb cb (.slice Ap np cp) fuel tv0 rd D r e W' :=
 ⟨fun hx => (by rw [hs] at hx; cases hx), fun _ => ⟨tv, dv, hi, fun h => absurd hn h, fun _ h => absurd h hk, fun _ _ => he⟩⟩
theorem step_any (OK : OkI lo mb Ap np cp p fuel (D + 1) inner) (hLv : LvC inner) (h : Ist w lo mb cb (.slice Ap np cp) fuel tv0 rd tv dv D (m) (c) 0 0 W) (s : Tr) (x : Int) (hx0 : 0 ≤ x)
  (hs : okStep np s = true) (hi : s.1 = 4 → Inv np fuel K m (newFrame s.2.1 (D + 1) (reg c s.2.2))) (hc : WfF np c) (hl : m.trace.length ≤ 100000) (hdl : c.defers.length ≤ 100000) (hK : K ≤ 5000) (hsp : m.spent = false) (hrd : RdP w.w lo Ap p) (hlv : c.leaving = false) (hk : c.kind = 1) (hD : c.depth = D) :
  Calls Try.prog 146 #[.pointer (some ⟨mb, 0, none⟩), .pointer (some ⟨cb, 0, none⟩), .agg #[.int .i64 s.1, .int .i64 s.2.1, .int .i64 s.2.2], .int .i64 (x + 1)] W (StepI w lo mb cb (.slice Ap np cp) fuel tv0 rd D (mk inner m c x s)) := by
 obtain ⟨k, a, b⟩ := s
 dsimp only at hi ⊢
 have hsk : k = 1 ∨ k = 2 ∨ k = 3 ∨ k = 4 ∨ k = 5 ∨ k = 6 ∨ k = 7 ∨ k = 8 ∨ k = 9 ∨ k = 10 ∨ k = 11 ∨ k = 12 ∨ k = 13 := by
  unfold okStep at hs
  dsimp only at hs
  repeat' split at hs
  all_goals first | omega | (simp at hs)
 have hx1 : x + 1 ≠ -1 := by omega
 have R : ∀ {i : Int}, isReg i = true → 0 ≤ i ∧ i < 4 := fun h => by have := isReg_iff h; omega
 rcases hsk with rfl | rfl | rfl | rfl | rfl | rfl | rfl | rfl | rfl | rfl | rfl | rfl | rfl
 ·have hs' : isReg a = true ∧ isNum b = true := by simpa [okStep] using hs
  refine (step1 h a b (x + 1) (R hs'.1).1 (R hs'.1).2).mono fun e W' h' => ?_
  exact stepI_ret hsp h'.2 hx1 h'.1
 ·have hs' : isReg a = true ∧ isReg b = true := by simpa [okStep] using hs
  refine (step2 h a b (x + 1) (R hs'.1).1 (R hs'.1).2 (R hs'.2).1 (R hs'.2).2 (reg_N hc a) (reg_N hc b)).mono fun e W' h' => ?_
  exact stepI_ret hsp h'.2 hx1 h'.1
 ·have hs' : isReg a = true ∧ b = 0 := by simpa [okStep] using hs
  refine (step3 h a b (x + 1) (R hs'.1).1 (R hs'.1).2 hl).mono fun e W' h' => ?_
  obtain ⟨tv1, he, h1⟩ := h'
  exact stepI_ret hsp h1 hx1 he
 ·have hs' : (0 ≤ a ∧ a < np) ∧ isReg b = true := by simpa [okStep] using hs
  have := step4 OK hLv h a b (x + 1) (R hs'.2).1 (R hs'.2).2 (hi rfl) hK hsp hrd hlv hk hD (by omega)
  rwa [show x + 1 - 1 = x by omega] at this
 ·have hs' : (0 ≤ a ∧ a < np) ∧ isReg b = true := by simpa [okStep] using hs
  refine (step5 h a b (x + 1) (R hs'.2).1 (R hs'.2).2 hl hdl).mono fun e W' h' => ?_
  obtain ⟨tv1, dv1, he, h1⟩ := h'
  exact stepI_ret hsp h1 hx1 he
 ·have hs' : isReg a = true ∧ b = 0 := by simpa [okStep] using hs
  refine (step6 h a b (x + 1) (R hs'.1).1 (R hs'.1).2 hl).mono fun e W' h' => ?_
  obtain ⟨tv1, he, h1⟩ := h'
  exact stepI_pan hsp (h1.as (c' := { c with kind := 2, value := reg c a }) rfl rfl ⟨rfl, rfl, rfl⟩ rfl) rfl (by show (2 : Int) ≠ 1; decide) he
 ·have hs' : isReg a = true ∧ b = 0 := by simpa [okStep] using hs
  by_cases hp : (c.panicking && !c.recovered) = true
  ·have hp' : c.panicking = true ∧ c.recovered = false := by simpa using hp
   have hm : mk inner m c x (7, a, b) = (PL.tell m 6 c.f c.panic, setReg (setReg { c with recovered := true } a c.panic) 3 1, x + 1) := by
    show ((simple m c (7, a, b)).1, (simple m c (7, a, b)).2, x + 1) = _
    have : simple m c (7, a, b) = (PL.tell m 6 c.f c.panic, setReg (setReg { c with recovered := true } a c.panic) 3 1) := by
     show (if (c.panicking && !c.recovered) = true then _ else _) = _
     rw [if_pos hp]
    rw [this]
   rw [hm]
   refine (step7y h a b (x + 1) (R hs'.1).1 (R hs'.1).2 hl hp'.1 hp'.2).mono fun e W' h' => ?_
   obtain ⟨tv1, he, h1⟩ := h'
   exact stepI_ret hsp h1 hx1 he
  ·have hm : mk inner m c x (7, a, b) = (m, setReg (setReg c a 0) 3 0, x + 1) := by
    show ((simple m c (7, a, b)).1, (simple m c (7, a, b)).2, x + 1) = _
    have : simple m c (7, a, b) = (m, setReg (setReg c a 0) 3 0) := by
     show (if (c.panicking && !c.recovered) = true then _ else _) = _
     rw [if_neg hp]
    rw [this]
   rw [hm]
   refine (step7n h a b (x + 1) (R hs'.1).1 (R hs'.1).2 (by simpa using hp)).mono fun e W' h' => ?_
   exact stepI_ret hsp h'.2 hx1 h'.1
 ·have hs' : isReg a = true ∧ b = 0 := by simpa [okStep] using hs
  refine (step8 h a b (x + 1) (R hs'.1).1 (R hs'.1).2).mono fun e W' h' => ?_
  exact stepI_end hsp h'.2 rfl hk h'.1
 ·have hs' : isReg a = true ∧ b = 0 := by simpa [okStep] using hs
  cases hd : c.deferred with
  | true =>
   have hm : mk inner m c x (9, a, b) = (m, { c with outer := reg c a }, x + 1) := by
    show (m, (if c.deferred = true then { c with outer := reg c a } else c), x + 1) = _
    rw [if_pos hd]
   rw [hm]
   refine (step9y h a b (x + 1) (R hs'.1).1 (R hs'.1).2 hd).mono fun e W' h' => ?_
   exact stepI_ret hsp h'.2 hx1 h'.1
  | false =>
   have hm : mk inner m c x (9, a, b) = (m, c, x + 1) := by
    show (m, (if c.deferred = true then { c with outer := reg c a } else c), x + 1) = _
    rw [if_neg (by rw [hd]; decide)]
   rw [hm]
   refine (step9n h a b (x + 1) (R hs'.1).1 (R hs'.1).2 hd).mono fun e W' h' => ?_
   exact stepI_ret hsp h'.2 hx1 h'.1
 ·refine (step10 h a b (x + 1)).mono fun e W' h' => ?_
  exact stepI_pan hsp (h'.2.as (c' := { c with kind := 3, leaving := true }) rfl rfl ⟨rfl, rfl, rfl⟩ rfl) rfl (by show (3 : Int) ≠ 1; decide) h'.1
 ·have hs' : (0 ≤ a ∧ a ≤ 8) ∧ isReg b = true := by simpa [okStep] using hs
  by_cases hp : reg c b > 0
  ·have hm : mk inner m c x (11, a, b) = (m, c, a) := by
    show (m, c, (if reg c b > 0 then a else x + 1)) = _
    rw [if_pos hp]
   rw [hm]
   refine (step11y h a b (x + 1) (R hs'.2).1 (R hs'.2).2 hp).mono fun e W' h' => ?_
   exact stepI_ret hsp h'.2 (by show a ≠ -1; omega) h'.1
  ·have hm : mk inner m c x (11, a, b) = (m, c, x + 1) := by
    show (m, c, (if reg c b > 0 then a else x + 1)) = _
    rw [if_neg hp]
   rw [hm]
   refine (step11n h a b (x + 1) (R hs'.2).1 (R hs'.2).2 hp).mono fun e W' h' => ?_
   exact stepI_ret hsp h'.2 hx1 h'.1
 ·have hs' : isReg a = true ∧ b = 0 := by simpa [okStep] using hs
  refine (step12 h a b (x + 1) (R hs'.1).1 (R hs'.1).2).mono fun e W' h' => ?_
  exact stepI_ret hsp h'.2 hx1 h'.1
 ·have hs' : isReg a = true ∧ b = 0 := by simpa [okStep] using hs
  refine (step13 h a b (x + 1) (R hs'.1).1 (R hs'.1).2).mono fun e W' h' => ?_
  exact stepI_ret hsp h'.2 hx1 h'.1
end
end Go.Proofs.Ythejnpignlhgiaa.Imk

namespace Go.Proofs.Ythejnpignlhgiaa.Isteps
open Lib (hid)
open Go.ChangeShapes Go.WideShapes Go.ChangeAt Go.RowKit
open PL Mem Srun Sst Imem Itell Irec Icall Istep1 Istep2 Istep3 Leav Imk
def BodyI (w : Bs) (lo mb cb : Nat) (vp : Value) (fuel : Int) (tv0 : Value) (rd : Option RD) (D : Int) (R : M × Fr) (e : Ending) (W' : World) : Prop :=
 (R.1.spent = true → SpentE e ∧ ∃ tv op', Ilf w lo mb vp fuel tv0 rd tv op' R.1 W') ∧
 (R.1.spent = false → ∃ tv dv, Ist w lo mb cb vp fuel tv0 rd tv dv D R.1 R.2 0 0 W' ∧ (R.2.kind = 1 → e = .returned (.tuple #[])) ∧
  (R.2.kind ≠ 1 → e = .panicked [{ v := endV R.2.kind (endVal R.2), recovered := false }]))
section
variable {inner : PL.Call} {b : List Tr} {fuel a : Int} {k : Nat} {m : M} {c : Fr} {s : Tr}
theorem body_stop (h : a < 0 ∨ (b.length : Int) ≤ a) : body inner b fuel k m c a = (m, c) := by
 cases k with
 | zero => rfl
 | succ k =>
  unfold body
  by_cases h0 : 0 ≤ a
  ·rw [if_pos h0, List.getElem?_eq_none (by omega)]
  ·rw [if_neg h0]
theorem body_full' (h0 : 0 ≤ a) (hs : b[a.toNat]? = some s) (he : m.made = fuel) : body inner b fuel (k + 1) m c a = ({ m with spent := true }, c) := by
 unfold body
 rw [if_pos h0, hs]
 simp only [if_pos he]
theorem body_go' (h0 : 0 ≤ a) (hs : b[a.toNat]? = some s) (he : m.made ≠ fuel) : body inner b fuel (k + 1) m c a =
  if (mk inner (count m c.f a) c a s).1.spent then ((mk inner (count m c.f a) c a s).1, (mk inner (count m c.f a) c a s).2.1) else body inner b fuel k (mk inner (count m c.f a) c a s).1 (mk inner (count m c.f a) c a s).2.1 (mk inner (count m c.f a) c a s).2.2 := by
 rw [body, if_pos h0, hs]
 simp only [if_neg he]
end
section
variable {w : Bs} {W : World} {lo mb cb : Nat} {Ap : Option Addr} {np cp : Nat} {fuel : Int} {tv0 : Value} {rd : Option RD} {tv dv : Value} {D K : Int} {m : M} {c : Fr} {p : Pg} {inner : PL.Call}
set_option maxRecDepth 100000 in
set_option maxHeartbeats 4000000 in
theorem steps_any (OK : OkI lo mb Ap np cp p fuel (D + 1) inner) (hLv : LvC inner) (hG : PL.Good np fuel (D + 1) inner) (hp : okProg p = true) (hn : p.length = np) (h : Ist w lo mb cb (.slice Ap np cp) fuel tv0 rd tv dv D m c 0 0 W)
  (hi : Inv np fuel (K + 1) m c) (hK : K ≤ 5000) (hsp : m.spent = false) (hrd : RdP w.w lo Ap p) (hlv : c.leaving = false) (hk : c.kind = 1) (hD : c.depth = D) :
  Calls Try.prog 144 #[.pointer (some ⟨mb, 0, none⟩), .pointer (some ⟨cb, 0, none⟩)] W (BodyI w lo mb cb (.slice Ap np cp) fuel tv0 rd D (body inner (p.getD c.f.toNat []) fuel (fuel.toNat + 1) m c 0)) := by
 have hf0 : 0 ≤ c.f := hi.c.f0
 have hf1 : c.f < np := hi.c.f1
 obtain ⟨j, hj⟩ := Int.eq_ofNat_of_zero_le hf0
 have hjn : j < p.length := by omega
 obtain ⟨xs, hx⟩ : ∃ xs, p[j]? = some xs := ⟨_, List.getElem?_eq_getElem hjn⟩
 have hxb := okProg_body hp hx
 have hget : p.getD c.f.toNat [] = xs := by rw [hj, Int.toNat_natCast, List.getD_eq_getElem?_getD, hx]; rfl
 obtain ⟨ad, Ai, ci, rfl, hadb, hcell, hrow⟩ := hrd j xs hx
 obtain ⟨R, hR⟩ : ∃ R, body inner xs fuel (fuel.toNat + 1) m c 0 = R := ⟨_, rfl⟩
 rw [hget, hR]
 have H := hid h
 have HR := hid hR
 have HI := hid hi
 have HX := hid hxb
 have HROW := hid hrow
 have HRD := hid hrd
 have OKH := hid OK
 have LVH := hid hLv
 have GH := hid hG
 have HP := hid hp
 have HK := hid hK
 have x0 : W.cell? ⟨mb, 0, none⟩ = some (.slice (some ad) np cp) := h.l.mach.cells 0
 have x1 : W.cell? ⟨cb, 0, none⟩ = some (.int .i64 j) := (h.blk.cells 0).trans (congrArg (fun x => some (Value.int .i64 x)) hj)
 have hc5 : W.cell? (ad.add j) = some (.slice Ai xs.length ci) := (h.below.cell (by rw [block_of_add]; exact hadb)).trans hcell
 have hj0 : (0 : Int) ≤ (j : Int) := by omega
 have hj1 : (j : Int) < (np : Int) := by omega
 have hj2 : j < np := by omega
 have HJ := hid hj
 have HN := hid hn
 have HLV := hid hlv
 have HKD := hid hk
 have HDD := hid hD
 have HSP := hid hsp
 clear h hR hi hxb hrow hrd OK hLv hG hp hK hj hn hlv hk hD hsp hget hx hcell hf0 hf1 hjn
 go_enter Try.func144, Try.ntmps144
 go_wp2_with fail
 go_quiet (fail)
 clear x0 x1 hc5
 change (fun V => Exit.then _ _ _ _ V) _
 refine gen_world (X := fun V => Ist w lo mb cb (.slice (some ad) np cp) fuel tv0 rd tv dv D m c 0 0 V) (ist_drewN H.out _) ?_
 intro V hV
 have HV := hid hV
 clear hV H
 go_wp2_with fail
 go_loopg [5] (fuel.toNat + 1) (fun k v wr => ∃ (a : Int) (m' : M) (c' : Fr) (tv' dv' : Value), v = .int .i64 a ∧ Ist w lo mb cb (.slice (some ad) np cp) fuel tv0 rd tv' dv' D m' c' 0 0 wr ∧ Inv np fuel (K + 1) m' c' ∧ Same c c' ∧ c'.kind = 1 ∧ c'.leaving = false ∧ m'.spent = false ∧ 0 ≤ a ∧ a ≤ 8 ∧ body inner xs fuel k m' c' a = R ∧ fuel - m'.made < k)
 case atStart =>
  have := HI.out.m.made0
  exact ⟨0, m, c, tv, dv, rfl, HV.out, HI.out, Same.refl _, HKD.out, HLV.out, HSP.out, by omega, by omega, HR.out, by omega⟩
 case round =>
  obtain ⟨a, m', c', tv', dv', rfl, q, iv, sm, kd, lv, sp, a0, a8, hb, hf⟩ := hrel
  obtain ⟨k, rfl⟩ : ∃ k, gk = k + 1 := ⟨gk - 1, by have := iv.m.made1; omega⟩
  have Q := hid q
  have IV := hid iv
  have SM := hid sm
  have KD := hid kd
  have LV := hid lv
  have SP := hid sp
  have HB := hid hb
  have HF := hid hf
  clear q iv sm kd lv sp hb hf
  by_cases hin : a < xs.length
  ·obtain ⟨aN, rfl⟩ := Int.eq_ofNat_of_zero_le a0
   have hlt : aN < xs.length := by omega
   obtain ⟨s, hs⟩ : ∃ s, xs[aN]? = some s := ⟨_, List.getElem?_eq_getElem hlt⟩
   have z1 : wr.cell? ⟨mb, 1, none⟩ = some (.int .i64 fuel) := Q.out.l.mach.cells 1
   have HS := hid hs
   clear hs
   by_cases hfu : m'.made = fuel
   ·have hRR := hid (show R = ({ m' with spent := true }, c') by rw [← HB.out, body_full' (Int.natCast_nonneg aN) (by rw [Int.toNat_natCast]; exact HS.out) hfu])
    have z2 : wr.cell? ⟨mb, 2, none⟩ = some (.int .i64 fuel) := (Q.out.l.mach.cells 2).trans (congrArg (fun x => some (Value.int .i64 x)) hfu)
    clear hfu
    go_wp2_with fail
    go_quiet (fail)
    go_wp2_with fail
    refine ⟨rfl, fun _ => ⟨⟨[], rfl, fun x hx => by cases hx⟩, tv', D, ?_⟩, fun hx => (by rw [hRR.out] at hx; cases hx)⟩
    rw [hRR.out]
    exact (Ist.asm (m' := { m' with spent := true }) (ist_drewN Q.out _) rfl rfl rfl).l
   ·have hne : (m'.made == fuel) = false := by simpa using hfu
    have hm0 : 0 ≤ m'.made := IV.out.m.made0
    have hm1 : m'.made ≤ 200 := by have := IV.out.m.made1; have := IV.out.m.fuel1; omega
    have HFU := hid hfu
    have z2 : wr.cell? ⟨mb, 2, none⟩ = some (.int .i64 m'.made) := Q.out.l.mach.cells 2
    clear hfu
    go_wp2_with fail
    go_quiet (fail)
    clear z1 z2 hne
    change (fun V => Exit.then _ _ _ _ V) _
    refine gen_world (X := fun V => Ist w lo mb cb (.slice (some ad) np cp) fuel tv0 rd tv' dv' D m' c' 0 0 V) (ist_drewN Q.out _) ?_
    intro V2 hV2
    have z2 : V2.cell? ⟨mb, 2, none⟩ = some (.int .i64 m'.made) := hV2.l.mach.cells 2
    have f0 := hV2.l.mach.frozen
    have Q6 := hid (hV2.putm (m' := count m' c'.f aN) (op' := D) 2 (.int .i64 (m'.made + 1)) rfl rfl)
    clear hV2 Q
    go_upto_region 6 with fail
    clear z2 f0
    generalize V2.setCell ⟨mb, 2, none⟩ (.int .i64 (m'.made + 1)) = V6 at *
    obtain ⟨a2, hA2, ha2, x0, x1, x2⟩ := (HROW.out.below Q6.out.below) aN s HS.out
    subst hA2
    have hpot := IV.out.m.pot
    have hwc : WfM fuel (K + 1 - 2 * (c'.defers.length : Int) - 3) (count m' c'.f aN) := count_wf IV.out.m c'.f aN HFU.out
    have hok : okStep np s = true := by have := HX.out.2 aN s HS.out; rwa [HN.out] at this
    have hst := hid (step_any (K := K + 1 - 2 * (c'.defers.length : Int) - 3) OKH.out LVH.out Q6.out s aN (by omega) hok (fun h4 => ⟨by show WfM fuel (K + 1 - 2 * (c'.defers.length : Int) - 3 - 2 * ((([] : List (Int × Int)).length : Nat) : Int)) (count m' c'.f aN); simpa using hwc, (by
      obtain ⟨k4, a4, b4⟩ := s
      dsimp only at h4
      subst h4
      have hs' : (0 ≤ a4 ∧ a4 < np) ∧ isReg b4 = true := by simpa [okStep] using hok
      exact newFrame_wf _ _ _ hs'.1.1 hs'.1.2 (reg_N IV.out.c _))⟩) IV.out.c
     (by have := hwc.pot; have := hwc.made1; have := HK.out; omega) (by have := IV.out.m.made1; have := HK.out; omega) (by have := HK.out; omega) SP.out HRD.out LV.out KD.out (SM.out.1.trans HDD.out))
    have hmi := mk_inv (K := K + 1) GH.out (m := count m' c'.f aN) (c := c') ⟨hwc.up (by omega), IV.out.c⟩ (SM.out.1.trans HDD.out) aN ⟨by omega, by have := HX.out.1; omega⟩ s hok
    have hml := mk_lv LVH.out (m := count m' c'.f aN) KD.out LV.out aN (by omega) s (fun h11 => by
      unfold okStep at hok
      simp only [h11] at hok
      simp at hok
      exact hok.1.1)
    have HBG := hid (show R = if (mk inner (count m' c'.f aN) c' aN s).1.spent then ((mk inner (count m' c'.f aN) c' aN s).1, (mk inner (count m' c'.f aN) c' aN s).2.1) else body inner xs fuel k (mk inner (count m' c'.f aN) c' aN s).1 (mk inner (count m' c'.f aN) c' aN s).2.1 (mk inner (count m' c'.f aN) c' aN s).2.2 from HB.out.symm.trans (body_go' (Int.natCast_nonneg aN) (by rw [Int.toNat_natCast]; exact HS.out) HFU.out))
    have hmd : (count m' c'.f aN).made = m'.made + 1 := rfl
    generalize mk inner (count m' c'.f aN) c' aN s = r at *
    rw [hmd] at hmi
    have HMI := hid hmi
    have HML := hid hml
    have hk0 : (0 : Int) ≤ (aN : Int) := by omega
    have hk1 : (aN : Int) < (xs.length : Int) := by omega
    clear hpot hwc hok hmi hml hmd Q6 hm0 hm1
    go_wp2_with fail
    refine hst.out.mono ?_
    rintro e W2 ⟨h1, h2⟩
    cases hs1 : r.1.spent with
    | true =>
     obtain ⟨⟨older, rfl, ho⟩, tv2, op2, g⟩ := h1 hs1
     have hRR := HBG.out
     rw [if_pos hs1] at hRR
     refine ⟨rfl, fun _ => ⟨⟨older, rfl, ho⟩, tv2, op2, by rw [hRR]; exact g⟩, fun hx => (by rw [hRR] at hx; rw [show (r.1, r.2.1).1 = r.1 from rfl, hs1] at hx; cases hx)⟩
    | false =>
     obtain ⟨tv2, dv2, i2, e1, e2, e3⟩ := h2 hs1
     obtain ⟨m1, m2, m3, m4, m5⟩ := HMI.out
     obtain ⟨n1, n2, n3⟩ := HML.out hs1
     have hRR := HBG.out
     rw [if_neg (by rw [hs1]; decide)] at hRR
     by_cases h9 : r.2.2 = -1
     ·rw [h9, body_stop (.inl (by decide))] at hRR
      by_cases h1k : r.2.1.kind = 1
      ·obtain rfl := e2 h9 h1k
       have REL := hid (show ∃ (a : Int) (m' : M) (c' : Fr) (tv' dv' : Value), Value.int .i64 8 = .int .i64 a ∧ Ist w lo mb cb (.slice (some ad) np cp) fuel tv0 rd tv' dv' D m' c' 0 0 W2 ∧ Inv np fuel (K + 1) m' c' ∧ Same c c' ∧ c'.kind = 1 ∧ c'.leaving = false ∧ m'.spent = false ∧ 0 ≤ a ∧ a ≤ 8 ∧ body inner xs fuel k m' c' a = R ∧ fuel - m'.made < k from
        ⟨8, r.1, r.2.1, tv2, dv2, rfl, i2, m1, SM.out.trans m2, h1k, n3 h1k, hs1, by omega, by omega, by rw [body_stop (.inr (by have := HX.out.1; omega)), hRR], by have := HF.out; omega⟩)
       clear h1 h2 e1 e2 e3 i2 m1 m2 m3 m4 m5 n1 n2 n3 hRR h9 h1k hs1 hst x0 x1 x2
       go_wp2_with fail
       go_roundg k
       case measure => omega
       case rel => exact REL.out
      ·obtain rfl := e3 h9 h1k
       refine ⟨rfl, fun hx => (by rw [hRR] at hx; rw [show (r.1, r.2.1).1 = r.1 from rfl, hs1] at hx; cases hx), fun _ => ⟨tv2, dv2, by rw [hRR]; exact i2, fun hx => absurd (by rw [hRR] at hx; exact hx) h1k, fun _ => by rw [hRR]⟩⟩
     ·obtain rfl := e1 h9
      have REL := hid (show ∃ (a : Int) (m' : M) (c' : Fr) (tv' dv' : Value), Value.int .i64 r.2.2 = .int .i64 a ∧ Ist w lo mb cb (.slice (some ad) np cp) fuel tv0 rd tv' dv' D m' c' 0 0 W2 ∧ Inv np fuel (K + 1) m' c' ∧ Same c c' ∧ c'.kind = 1 ∧ c'.leaving = false ∧ m'.spent = false ∧ 0 ≤ a ∧ a ≤ 8 ∧ body inner xs fuel k m' c' a = R ∧ fuel - m'.made < k from
       ⟨r.2.2, r.1, r.2.1, tv2, dv2, rfl, i2, m1, SM.out.trans m2, (n2 h9).1, (n2 h9).2, hs1, by omega, by omega, hRR.symm, by have := HF.out; omega⟩)
      clear h1 h2 e1 e2 e3 i2 m1 m2 m3 m4 m5 n1 n2 n3 hRR h9 hs1 hst x0 x1 x2
      go_wp2_with fail
      go_roundg k
      case measure => omega
      case rel => exact REL.out
  ·have hRR := hid (show R = (m', c') by rw [← HB.out, body_stop (by omega)])
   go_wp2_with fail
   go_end0
   refine ⟨fun hx => (by rw [hRR.out] at hx; rw [show (m', c').1 = m' from rfl, SP.out] at hx; cases hx), fun _ => ⟨tv', dv', by rw [hRR.out]; exact Q.out, fun _ => rfl, fun hx => absurd (by rw [hRR.out]; exact KD.out) hx⟩⟩
end
end Go.Proofs.Ythejnpignlhgiaa.Isteps

namespace Go.Proofs.Ythejnpignlhgiaa.Ieob
open Lib (hid)
open Go.ChangeShapes Go.WideShapes Go.ChangeAt Go.RowKit
open PL Mem Srun Sst Imem Itell Irec Icall Istep1 Istep2 Istep3 Leav Imk Isteps
theorem ta_end (k v : Int) (w : World) : (Instr.typeAssert (.iface 162 (.agg #[.int .i64 k, .int .i64 v])) 20 162 true).run Try.prog w = .ok (.tuple #[.agg #[.int .i64 k, .int .i64 v], .bool true]) w := by kernel_rfl
theorem ta_spent (w : World) : (Instr.typeAssert (.iface 181 (.agg #[])) 20 162 true).run Try.prog w = .ok (.tuple #[.agg #[.int .i64 0, .int .i64 0], .bool false]) w := by kernel_rfl
theorem catch_idle (p : Addr) (w : World) :
  CallsD Try.prog 143 #[.pointer (some p)] .returning w fun e u' w' => e = .returned (.tuple #[]) ∧ u' = .returning ∧ w' = w := by
 refine callsD_of_wpS Try.func143 rfl fun c₀ cs hu => ?_
 apply wpS_seq
 apply wpS_region
 simp [wpOpsS, go_sem, recoverD, hu, Try.ntmps143, Exit.thenS]
 refine wpS_of_wp ?_
 go_wp2_with fail
 cases c₀
 simp_all [bodyPostS, results, Try.results143]
set_option maxRecDepth 100000 in
set_option maxHeartbeats 1000000 in
theorem catch_end (g : Nat) (k v x y : Int) (older : List PanicEntry) (w : World) (hb : Blk w g 162 #[.int .i64 x, .int .i64 y]) :
  CallsD Try.prog 143 #[.pointer (some ⟨g, 0, none⟩)] (.panicking ({ v := endV k v, recovered := false } :: older)) w fun e u' w' =>
   e = .returned (.tuple #[]) ∧ u' = .panicking ({ v := endV k v, recovered := true } :: older) ∧ Chg (fun b => b = g) w w' ∧ Blk w' g 162 #[.int .i64 k, .int .i64 v] := by
 have hc := hb.cells
 have hz := hb.frozen
 have hc2 : ∀ o o', (w.alloc o).cell? ⟨g, o', none⟩ = (#[.int .i64 x, .int .i64 y] : Array Value)[o']? := fun o o' => (hb.alloc o).cells o'
 have hz2 : ∀ o o', (w.alloc o).frozen? ⟨g, o', none⟩ = false := fun o o' => (hb.alloc o).frozen o'
 have hta := ta_end k v
 have hgl := hb.lt
 have HB := hid hb
 refine callsD_of_wpS Try.func143 rfl fun c₀ cs hu => ?_
 unfold endV at hu
 apply wpS_seq
 apply wpS_region
 simp [wpOpsS, go_sem, recoverD, hu, Try.ntmps143, Exit.thenS]
 refine wpS_of_wp ?_
 rw [show (#[Value.pointer (some ⟨g, 0, none⟩)] ++ (Array.replicate 10 undef).setIfInBounds 3 (.iface 162 (.agg #[.int .i64 k, .int .i64 v]))) = #[Value.pointer (some ⟨g, 0, none⟩), undef, undef, undef, .iface 162 (.agg #[.int .i64 k, .int .i64 v]), undef, undef, undef, undef, undef, undef] from rfl]
 clear hb
 go_upto_region 6 with fail
 clear hta
 go_wp2_with fail
 refine ⟨rfl, _, rfl, .tuple #[], by simp [results, Try.results143, go_sem], rfl, rfl, (((Chg.refl (fun b => b = g) w).put ⟨g, 0, none⟩ _ (.inr rfl)).put ⟨g, 1, none⟩ _ (.inr rfl)).new _, ?_⟩
 have := ((HB.out.put 0 (.int .i64 k)).put 1 (.int .i64 v)).alloc (.cells #[.int .i64 k, .int .i64 v] 162)
 simpa only [List.setIfInBounds_toArray, List.set_cons_zero, List.set_cons_succ] using this
set_option maxRecDepth 100000 in
theorem catch_spent (g : Nat) (older : List PanicEntry) (w : World) :
  CallsD Try.prog 143 #[.pointer (some ⟨g, 0, none⟩)] (.panicking ({ v := spentV, recovered := false } :: older)) w fun e u' w' =>
   e = .panicked [{ v := spentV, recovered := false }] ∧ u' = .panicking ({ v := spentV, recovered := true } :: older) ∧ w' = w := by
 refine callsD_of_wpS Try.func143 rfl fun c₀ cs hu => ?_
 unfold spentV at hu
 have hta := ta_spent
 apply wpS_seq
 apply wpS_region
 simp [wpOpsS, go_sem, recoverD, hu, Try.ntmps143, Exit.thenS]
 refine wpS_of_wp ?_
 go_wp2_with fail
 exact ⟨rfl, _, rfl, rfl, rfl, rfl⟩
def bodyVal (c : Fr) : Int := if c.kind = 2 then c.value else 0
def EobI (w : Bs) (lo mb cb : Nat) (vp : Value) (fuel : Int) (tv0 : Value) (rd : Option RD) (D : Int) (R : M × Fr) (e : Ending) (W' : World) : Prop :=
 (R.1.spent = true → SpentE e ∧ ∃ tv op', Ilf w lo mb vp fuel tv0 rd tv op' R.1 W') ∧
 (R.1.spent = false → ∃ tv dv, Ist w lo mb cb vp fuel tv0 rd tv dv D R.1 R.2 0 0 W' ∧ e = .returned (.agg #[.int .i64 R.2.kind, .int .i64 (bodyVal R.2)]))
section
variable {w : Bs} {W W' : World} {lo mb cb : Nat} {Ap : Option Addr} {np cp : Nat} {vp : Value} {fuel : Int} {tv0 : Value} {rd : Option RD} {tv dv : Value} {D K op : Int} {m : M} {c : Fr} {p : Pg} {inner : PL.Call} {k v : Int} {g : Nat} {cs cs' : Array Value}
theorem ist_box (h : Ist w lo mb cb vp fuel tv0 rd tv dv op m c k v W) (hb : Blk W g 162 cs) (hg : w.w.heap.size ≤ g) (hch : Chg (fun b => b = g) W W') : Ist w lo mb cb vp fuel tv0 rd tv dv op m c k v W' :=
 ⟨⟨own_chg h.l.tre hch (fun x hx e => blk_apart h.l.tre hb (by decide) (e ▸ hx)), h.l.mach.chg hch (ne_blk h.l.mach hb (by decide)), h.l.chg.trans hch (fun x hx e => by omega), h.l.ft⟩, h.b, own_chg h.dfs hch (fun x hx e => blk_apart h.dfs hb (by decide) (e ▸ hx)), h.fd,
  h.blk.chg hch (ne_blk h.blk hb (by decide)), h.h0, h.nr, fun d hd => (h.runB d hd).chg hch (ne_blk (h.runB d hd) hb (by decide)), h.runF⟩
theorem box_stays (h : Ist w lo mb cb vp fuel tv0 rd tv dv op m c k v W) {tv' : Value} {op' : Int} {m' : M} (l : Ilf (own2 cb dv W) lo mb vp fuel tv rd tv' op' m' W') (hb : Blk W g 162 cs) : Blk W' g 162 cs :=
 hb.chg l.chg (fun hc => by
  rcases hc with e | e | ⟨d, hd, e⟩ | e | e
  ·exact ne_blk hb h.l.mach (by decide) e
  ·exact blk_apart h.l.tre hb (by decide) e
  ·exact ne_blk hb (h.runB d hd) (by decide) e
  ·exact ne_blk hb h.blk (by decide) e
  ·exact blk_apart h.dfs hb (by decide) e)
set_option maxRecDepth 100000 in
set_option maxHeartbeats 4000000 in
theorem eob_any (OK : OkI lo mb Ap np cp p fuel (D + 1) inner) (hLv : LvC inner) (hG : PL.Good np fuel (D + 1) inner) (hp : okProg p = true) (hn : p.length = np) (h : Ist w lo mb cb (.slice Ap np cp) fuel tv0 rd tv dv D m c 0 0 W)
  (hi : Inv np fuel (K + 1) m c) (hK : K ≤ 5000) (hsp : m.spent = false) (hrd : RdP w.w lo Ap p) (hlv : c.leaving = false) (hk : c.kind = 1) (hD : c.depth = D) :
  Calls Try.prog 137 #[.pointer (some ⟨mb, 0, none⟩), .pointer (some ⟨cb, 0, none⟩)] W (EobI w lo mb cb (.slice Ap np cp) fuel tv0 rd D (body inner (p.getD c.f.toNat []) fuel (fuel.toNat + 1) m c 0)) := by
 have hc : ∀ V, Ist (own2 cb dv V) lo mb cb (.slice Ap np cp) fuel tv rd tv dv D m c 0 0 V → RdP V lo Ap p → Calls Try.prog 144 #[.pointer (some ⟨mb, 0, none⟩), .pointer (some ⟨cb, 0, none⟩)] V (BodyI (own2 cb dv V) lo mb cb (.slice Ap np cp) fuel tv rd D (body inner (p.getD c.f.toNat []) fuel (fuel.toNat + 1) m c 0)) :=
  fun V hV hr => steps_any OK hLv hG hp hn hV hi hK hsp hr hlv hk hD
 have hLvR : (body inner (p.getD c.f.toNat []) fuel (fuel.toNat + 1) m c 0).1.spent = false → Lv (body inner (p.getD c.f.toNat []) fuel (fuel.toNat + 1) m c 0).2 := by
  refine body_lv hLv ?_ _ m c 0 hk hlv (by decide)
  intro j s hs h11
  have hx : ∃ b, p[c.f.toNat]? = some b ∧ p.getD c.f.toNat [] = b := by
   cases hb : p[c.f.toNat]? with
   | none => rw [List.getD_eq_getElem?_getD, hb] at hs; simp at hs
   | some b => exact ⟨b, rfl, by rw [List.getD_eq_getElem?_getD, hb]; rfl⟩
  obtain ⟨b, hb, hg⟩ := hx
  rw [hg] at hs
  have := (okProg_body hp hb).2 j s hs
  unfold okStep at this
  simp only [h11] at this
  simp at this
  exact this.1.1
 generalize body inner (p.getD c.f.toNat []) fuel (fuel.toNat + 1) m c 0 = R at *
 have H := hid h
 have HC := hid hc
 have HRD := hid hrd
 have HLV := hid hLvR
 have hmf : ∀ (fn : Fn) (first cap : Array Value) (w : World), (Instr.makeFunc fn first cap).run Try.prog w = .ok (.func fn first cap) w := fun _ _ _ _ => rfl
 have H1 := hid (h.alloc (.cells #[.int .i64 0, .int .i64 0] 162))
 have B1 := hid (heap1_0 W (.cells #[.int .i64 0, .int .i64 0] 162))
 clear h hc OK hLv hG hp hn hi hK hsp hrd hlv hk hD hLvR
 go_enter_defers Try.func137, Try.ntmps137
 go_wp2_with fail
 refine (HC.out _ H1.out.here ((HRD.out.below H1.out.below))).mono ?_
 rintro e W1 ⟨h1, h2⟩
 cases hs : R.1.spent with
 | true =>
  obtain ⟨⟨older, rfl, ho⟩, tv1, op1, g⟩ := h1 hs
  have G := hid (H1.out.lback g)
  have HS := hid hs
  clear h1 h2 hs g
  refine leaves_cons (f := 143) (args := #[.pointer (some ⟨W.heap.size, 0, none⟩)]) (by simp) (by simp [go_sem]) ?_
  refine (catch_spent W.heap.size older W1).mono ?_
  rintro e u' w'' ⟨rfl, rfl, rfl⟩
  refine ⟨fun _ => ⟨⟨{ v := spentV, recovered := true } :: older, rfl, fun x hx => ?_⟩, tv1, op1, G.out⟩, fun hx => (by rw [HS.out] at hx; cases hx)⟩
  rcases List.mem_cons.1 hx with rfl | hx
  ·rfl
  ·exact ho x hx
 | false =>
  obtain ⟨tv1, dv1, i1, e1, e2⟩ := h2 hs
  have I1 := hid (H1.out.back i1)
  have HS := hid hs
  have K1 := hid (HLV.out hs)
  have BX := hid (box_stays H1.out i1.l B1.out)
  have hsz := H.out.size
  by_cases h3 : R.2.kind = 1
  ·obtain rfl := e1 h3
   have H3 := hid h3
   have b0 := BX.out.cells
   have bz := BX.out.frozen
   clear h1 h2 e1 e2 i1 hs h3
   go_wp2_with fail
   refine leaves_cons (f := 143) (args := #[.pointer (some ⟨W.heap.size, 0, none⟩)]) (by simp) (by simp [go_sem]) ?_
   refine (catch_idle ⟨W.heap.size, 0, none⟩ _).mono ?_
   rintro e u' w'' ⟨rfl, rfl, rfl⟩
   have B2 := (BX.out.put 0 (.int .i64 1)).put 1 (.int .i64 0)
   simp only [List.setIfInBounds_toArray, List.set_cons_zero, List.set_cons_succ] at B2
   have b2 := B2.cells
   refine ⟨.agg #[.int .i64 1, .int .i64 0], by simp [results, Try.results137, go_sem, b2], fun hx => (by rw [HS.out] at hx; cases hx), fun _ => ⟨tv1, dv1, ?_, by unfold bodyVal; rw [H3.out]; rfl⟩⟩
   exact ist_box I1.out BX.out hsz (((Chg.refl (fun b => b = W.heap.size) W1).put ⟨W.heap.size, 0, none⟩ _ (.inr rfl)).put ⟨W.heap.size, 1, none⟩ _ (.inr rfl))
  ·obtain rfl := e2 h3
   have H3 := hid h3
   have hev : endVal R.2 = bodyVal R.2 := by
    unfold endVal bodyVal
    rw [if_neg h3]
   rw [hev]
   clear h1 h2 e1 e2 i1 hs h3
   refine leaves_cons (f := 143) (args := #[.pointer (some ⟨W.heap.size, 0, none⟩)]) (by simp) (by simp [go_sem]) ?_
   refine (catch_end W.heap.size R.2.kind (bodyVal R.2) 0 0 [] W1 BX.out).mono ?_
   rintro e u' w'' ⟨rfl, rfl, ch, B2⟩
   have b2 := B2.cells
   refine ⟨.agg #[.int .i64 R.2.kind, .int .i64 (bodyVal R.2)], by simp [results, Try.results137, go_sem, b2], fun hx => (by rw [HS.out] at hx; cases hx), fun _ => ⟨tv1, dv1, ist_box I1.out BX.out hsz ch, rfl⟩⟩
end
end Go.Proofs.Ythejnpignlhgiaa.Ieob
