import Derived.Test.YthejnpignlhgiaaSep
import Derived.Test.YthejnpignlhgiaaFri
import Derived.Test.YthejnpignlhgiaaSays
import Derived.Test.YthejnpignlhgiaaM3
import Derived.Deep.Cut
set_option linter.all false
namespace Go.Proofs.Ythejnpignlhgiaa.Sit
open Last2 (tk)
open Lib (hid)
open Go.ChangeShapes Go.WideShapes Go.ChangeAt Go.RowKit
open PL Mem To Srun Sst IntsP OwnS AskP Res Swhole Sout StS Frp Fri Sep SaysP
theorem info3 : (Try.prog.info? 3).map (fun i => (i.zero, i.size, i.bytes)) = some (some (.int .i64 0), 1, 8) := by kernel_rfl
def Apt (v u : Value) : Prop := ∀ k, v.ownBlock = some k → u.ownBlock ≠ some k
structure Sit (W1 : World) (g n c : Nat) (A : Option Addr) (fuel mode : Int) (s : Sen) (v1 v2 v3 : Value) (W : World) : Prop where
 blk : Blk W g 116 #[.slice A n c, .int .i64 fuel, .int .i64 mode, .int .i64 s.shared, .int .i64 s.code, v1, v2, v3]
 j : OwnI W W1.heap.size v1 s.jobs
 h : OwnI W W1.heap.size v2 s.hooks
 y : OwnI W W1.heap.size v3 s.says
 a12 : Apt v1 v2
 a13 : Apt v1 v3
 a23 : Apt v2 v3
 chg : Chg (fun x => x = g) W1 W
section
variable {W1 : World} {g n c : Nat} {A : Option Addr} {fuel mode : Int} {s : Sen} {v1 v2 v3 : Value} {W W' : World}
theorem Sit.below (h : Sit W1 g n c A fuel mode s v1 v2 v3 W) (b : Below W.heap.size W W') : Sit W1 g n c A fuel mode s v1 v2 v3 W' :=
 ⟨h.blk.below b h.blk.lt, own_below h.j b (Nat.le_refl _), own_below h.h b (Nat.le_refl _), own_below h.y b (Nat.le_refl _), h.a12, h.a13, h.a23, h.chg.trans (Chg.of_below (C := fun _ => False) b) (fun _ _ h => h.elim)⟩
theorem Sit.set (h : Sit W1 g n c A fuel mode s v1 v2 v3 W) (i : Nat) (u : Value) {s' : Sen} {v1' v2' v3' : Value} (hb : Blk (W.setCell ⟨g, i, none⟩ u) g 116 #[.slice A n c, .int .i64 fuel, .int .i64 mode, .int .i64 s'.shared, .int .i64 s'.code, v1', v2', v3'])
  (hj : OwnI W W1.heap.size v1' s'.jobs) (hh : OwnI W W1.heap.size v2' s'.hooks) (hy : OwnI W W1.heap.size v3' s'.says) (a12 : Apt v1' v2') (a13 : Apt v1' v3') (a23 : Apt v2' v3') :
  Sit W1 g n c A fuel mode s' v1' v2' v3' (W.setCell ⟨g, i, none⟩ u) :=
 ⟨hb, own_far hj _ _ (blk_apart hj h.blk (by decide)), own_far hh _ _ (blk_apart hh h.blk (by decide)), own_far hy _ _ (blk_apart hy h.blk (by decide)), a12, a13, a23, h.chg.put ⟨g, i, none⟩ _ (.inr rfl)⟩
theorem Sit.share (h : Sit W1 g n c A fuel mode s v1 v2 v3 W) (z : Int) : Sit W1 g n c A fuel mode { s with shared := z } v1 v2 v3 (W.setCell ⟨g, 3, none⟩ (.int .i64 z)) :=
 h.set 3 _ (by have := h.blk.put 3 (.int .i64 z); simpa only [Last2.s] using this) h.j h.h h.y h.a12 h.a13 h.a23
theorem Sit.coded (h : Sit W1 g n c A fuel mode s v1 v2 v3 W) (z : Int) : Sit W1 g n c A fuel mode { s with code := z } v1 v2 v3 (W.setCell ⟨g, 4, none⟩ (.int .i64 z)) :=
 h.set 4 _ (by have := h.blk.put 4 (.int .i64 z); simpa only [Last2.s] using this) h.j h.h h.y h.a12 h.a13 h.a23
theorem apt_grow {v v' u : Value} {W : World} {lo e sz m : Nat} {xs : List Value} (h : Apt v u) (ht : v'.ownBlock = v.ownBlock ∨ ∃ x, v'.ownBlock = some x ∧ W.heap.size ≤ x) (hu : W.ownsRow lo e sz u m xs) : Apt v' u := by
 intro k hk hk'
 rcases ht with e' | ⟨x, e', hx⟩
 ·exact h k (e' ▸ hk) hk'
 ·have := (World.ownsRow.lt hu k hk').2
  rw [e'] at hk
  have : x = k := by simpa using hk
  omega
theorem Apt.symm {v u : Value} (h : Apt v u) : Apt u v := fun k h1 h2 => h k h2 h1
theorem Sit.said {V : World} {t : List Int} {v' : Value} (h : Sit W1 g n c A fuel mode s v1 v2 v3 W) (ho : OwnI V W1.heap.size v' (s.says ++ t)) (ch : Chg (fun x => v3.ownBlock = some x) W V) (tt : v'.ownBlock = v3.ownBlock ∨ ∃ x, v'.ownBlock = some x ∧ W.heap.size ≤ x) :
  Sit W1 g n c A fuel mode { s with says := s.says ++ t } v1 v2 v' (V.setCell ⟨g, 7, none⟩ v') := by
 have hb := h.blk.chg ch (fun hc => blk_apart h.y h.blk (by decide) hc)
 have hb2 := hb.put 7 v'
 simp only [Last2.s] at hb2
 have n1 := blk_apart ho hb (by decide)
 exact ⟨hb2, own_far (own_chg h.j ch (fun x hx e => h.a13 x hx e)) _ _ (blk_apart h.j h.blk (by decide)), own_far (own_chg h.h ch (fun x hx e => h.a23 x hx e)) _ _ (blk_apart h.h h.blk (by decide)), own_far ho _ _ n1,
  h.a12, (apt_grow h.a13.symm tt h.j).symm, (apt_grow h.a23.symm tt h.h).symm, (h.chg.trans ch (fun x hx e => by have := (World.ownsRow.lt h.y x e).1; omega)).put ⟨g, 7, none⟩ _ (.inr rfl)⟩
theorem Sit.job {V : World} {z : Int} {v' : Value} (h : Sit W1 g n c A fuel mode s v1 v2 v3 W) (ho : OwnI V W1.heap.size v' (s.jobs ++ [z])) (ch : Chg (fun x => v1.ownBlock = some x) W V) (tt : v'.ownBlock = v1.ownBlock ∨ ∃ x, v'.ownBlock = some x ∧ W.heap.size ≤ x) :
  Sit W1 g n c A fuel mode { s with jobs := s.jobs ++ [z] } v' v2 v3 (V.setCell ⟨g, 5, none⟩ v') := by
 have hb := h.blk.chg ch (fun hc => blk_apart h.j h.blk (by decide) hc)
 have hb2 := hb.put 5 v'
 simp only [Last2.s] at hb2
 have n1 := blk_apart ho hb (by decide)
 exact ⟨hb2, own_far ho _ _ n1, own_far (own_chg h.h ch (fun x hx e => h.a12 x e hx)) _ _ (blk_apart h.h h.blk (by decide)), own_far (own_chg h.y ch (fun x hx e => h.a13 x e hx)) _ _ (blk_apart h.y h.blk (by decide)),
  apt_grow h.a12 tt h.h, apt_grow h.a13 tt h.y, h.a23, (h.chg.trans ch (fun x hx e => by have := (World.ownsRow.lt h.j x e).1; omega)).put ⟨g, 5, none⟩ _ (.inr rfl)⟩
theorem Sit.hook {V : World} {z : Int} {v' : Value} (h : Sit W1 g n c A fuel mode s v1 v2 v3 W) (ho : OwnI V W1.heap.size v' (s.hooks ++ [z])) (ch : Chg (fun x => v2.ownBlock = some x) W V) (tt : v'.ownBlock = v2.ownBlock ∨ ∃ x, v'.ownBlock = some x ∧ W.heap.size ≤ x) :
  Sit W1 g n c A fuel mode { s with hooks := s.hooks ++ [z] } v1 v' v3 (V.setCell ⟨g, 6, none⟩ v') := by
 have hb := h.blk.chg ch (fun hc => blk_apart h.h h.blk (by decide) hc)
 have hb2 := hb.put 6 v'
 simp only [Last2.s] at hb2
 have n1 := blk_apart ho hb (by decide)
 exact ⟨hb2, own_far (own_chg h.j ch (fun x hx e => h.a12 x hx e)) _ _ (blk_apart h.j h.blk (by decide)), own_far ho _ _ n1, own_far (own_chg h.y ch (fun x hx e => h.a23 x e hx)) _ _ (blk_apart h.y h.blk (by decide)),
  (apt_grow h.a12.symm tt h.j).symm, h.a13, apt_grow h.a23 tt h.y, (h.chg.trans ch (fun x hx e => by have := (World.ownsRow.lt h.h x e).1; omega)).put ⟨g, 6, none⟩ _ (.inr rfl)⟩
end
theorem Sit.far4 {W1 W : World} {g n c b t : Nat} {A : Option Addr} {fuel mode : Int} {s : Sen} {v1 v2 v3 : Value} {cs : Array Value} (h : Sit W1 g n c A fuel mode s v1 v2 v3 W) (hb : Blk W b t cs) (hne : 3 ≠ t ∧ 116 ≠ t ∧ W1.heap.size ≤ b) (u0 u1 u2 u3 : Value) :
  Sit W1 g n c A fuel mode s v1 v2 v3 ((((W.setCell ⟨b, 0, none⟩ u0).setCell ⟨b, 1, none⟩ u1).setCell ⟨b, 2, none⟩ u2).setCell ⟨b, 3, none⟩ u3) := by
 have n1 := blk_apart h.j hb hne.1
 have n2 := blk_apart h.h hb hne.1
 have n3 := blk_apart h.y hb hne.1
 have n4 := Frs.ne_blkF h.blk hb hne.2.1
 refine ⟨?_, ?_, ?_, ?_, h.a12, h.a13, h.a23, ?_⟩
 ·iterate 4 refine Blk.far ?_ _ _ n4
  exact h.blk
 ·iterate 4 refine own_far ?_ _ _ n1
  exact h.j
 ·iterate 4 refine own_far ?_ _ _ n2
  exact h.h
 ·iterate 4 refine own_far ?_ _ _ n3
  exact h.y
 ·iterate 4 refine Chg.put ?_ _ _ (.inl hne.2.2)
  exact h.chg
structure Env (w0 W1 : World) (g lo0 n c : Nat) (A : Option Addr) (p : Pg) : Prop where
 own : OwnP w0 lo0 (.slice A n c) p
 b01 : Below w0.heap.size w0 W1
 g0 : w0.heap.size ≤ g
 g1 : g < W1.heap.size
 hn : n ≤ 9223372036854775807
 hl : p.length = n
 hsm : Small p 9223372036854775807
theorem Env.below {w0 W1 W : World} {g lo0 n c : Nat} {A : Option Addr} {p : Pg} (E : Env w0 W1 g lo0 n c A p) (h : Chg (fun x => x = g) W1 W) : Below w0.heap.size w0 W := E.b01.trans (h.below E.b01.size (fun x hx e => by have := E.g0; omega))
def RunV (W1 : World) (g n c : Nat) (A : Option Addr) (fuel mode : Int) (s' : Sen) (o : Out) (v1 v2 : Value) (e : Ending) (W' : World) : Prop :=
 ∃ A' c' v3', e = .returned (outval o (.slice A' o.trace.length c')) ∧ Sit W1 g n c A fuel mode s' v1 v2 v3' W'
set_option maxRecDepth 100000 in
set_option maxHeartbeats 8000000 in
theorem sitRun_any {w0 W1 : World} {g lo0 n c : Nat} {A : Option Addr} {p : Pg} (E : Env w0 W1 g lo0 n c A p) (fuel mode f arg : Int) (s : Sen) (v1 v2 v3 : Value) (ha : asks p f arg fuel = true) (hw : WfS 12 12 s) (W : World) (h : Sit W1 g n c A fuel mode s v1 v2 v3 W) :
  Calls Try.prog 140 #[.pointer (some ⟨g, 0, none⟩), .int .i64 f, .int .i64 arg] W (RunV W1 g n c A fuel mode (oneS p fuel mode s f arg) (oneR p fuel mode s f arg) v1 v2) := by
 obtain ⟨i0, hi, hz0, hz1, hz2⟩ := info_parts info3
 have hsn : N16 (sharedAt mode s) := sharedAt_n hw.shared
 have hnum : isNum (sharedAt mode s) = true := by unfold isNum; unfold N16 at hsn; simp only [Bool.and_eq_true, decide_eq_true_eq]; omega
 have hru0 := fun W (b : Below w0.heap.size w0 W) => fromI_any lo0 n c A p f arg fuel (sharedAt mode s) E.hn E.hl E.hsm W (E.own.below b)
 rw [fromR_yes ha hnum] at hru0
 have hlen := frm_len (p := p) (f := f) (arg := arg) (fuel := fuel) ha hsn
 have hsl := hw.says
 have HE := hid (show oneS p fuel mode s f arg = { s with shared := (frm p f arg fuel (sharedAt mode s)).1.shared, says := s.says ++ saids (told (frm p f arg fuel (sharedAt mode s))).trace } from rfl)
 have HR := hid (show oneR p fuel mode s f arg = told (frm p f arg fuel (sharedAt mode s)) from rfl)
 obtain ⟨sh, hsh⟩ : ∃ sh, sharedAt mode s = sh := ⟨_, rfl⟩
 have hm3 : mode = 3 ∧ sh = 0 ∨ mode ≠ 3 ∧ sh = s.shared := by
  unfold sharedAt at hsh
  by_cases hm : mode = 3
  ·rw [if_pos hm] at hsh; exact .inl ⟨hm, hsh.symm⟩
  ·rw [if_neg hm] at hsh; exact .inr ⟨hm, hsh.symm⟩
 rw [hsh] at hru0 hlen HE HR
 unfold OutF at hru0
 dsimp only at hru0
 generalize (frm p f arg fuel sh).1.shared = lf at *
 generalize told (frm p f arg fuel sh) = oc at *
 obtain ⟨k, v, t, sp⟩ := oc
 obtain ⟨N, hN⟩ : ∃ N, t.length = N := ⟨_, rfl⟩
 dsimp only at hru0 hlen HE
 rw [hN] at hru0 hlen
 have HN := hid hN
 have hru := hid hru0
 have EB := hid (fun (W : World) (hc : Chg (fun x => x = g) W1 W) => E.below hc)
 have HE1 := hid E.g1
 clear hru0 hN hnum ha hsh hw
 rw [HE.out, HR.out]
 have HW1 := hid h.chg.size
 have hal : Below W.heap.size W (W.alloc (.cells #[.int .i64 0, .int .i64 0, .slice none 0 0, .int .i64 0] 56)) := (Below.refl _ _).alloc (Nat.le_refl _) _
 have H1 := hid (h.below hal)
 have HX := hid (show Blk (W.alloc (.cells #[.int .i64 0, .int .i64 0, .slice none 0 0, .int .i64 0] 56)) W.heap.size 56 #[.int .i64 0, .int .i64 0, .slice none 0 0, .int .i64 0] from heap1_0 W (.cells #[.int .i64 0, .int .i64 0, .slice none 0 0, .int .i64 0] 56))
 have key : ∀ (m3 : Bool), (mode == 3) = m3 → (m3 = true → sh = 0) → (m3 = false → sh = s.shared) → Calls Try.prog 140 #[.pointer (some ⟨g, 0, none⟩), .int .i64 f, .int .i64 arg] W (RunV W1 g n c A fuel mode { s with shared := lf, says := s.says ++ saids t } { kind := k, value := v, trace := t, spent := sp } v1 v2) := by
  intro m3 hm he0 he1
  have hg1 := (H1.out).blk.cells
  have gf := (H1.out).blk.frozen
  have hgl := h.blk.lt
  have H0 := hid h
  have He0 := hid he0
  have He1 := hid he1
  clear h he0 he1 hm3
  go_enter Try.func140, Try.ntmps140
  go_upto_if 14 with fail
  go_cut [] from 10 to 17 (fun wx => Blk wx W.heap.size 56 #[.int .i64 0, .int .i64 0, .slice none 0 0, .int .i64 0] ∧ Sit W1 g n c A fuel mode { s with shared := sh } v1 v2 v3 wx)
  case first =>
   cases m3 with
   | true =>
    have hs0 := He0.out rfl
    go_wp2_with fail
    go_meet
    refine ⟨Frs.new_at (by simp [World.setCell]), ?_⟩
    rw [hs0]
    exact (H0.out.share 0).below ((Below.refl _ _).alloc (Nat.le_refl _) _)
   | false =>
    have hs0 := He1.out rfl
    go_wp2_with fail
    go_meet
    refine ⟨HX.out, ?_⟩
    rw [hs0]
    exact H1.out
  case rest =>
   obtain ⟨hx2, hs2⟩ := hcut
   have hgx : g ≠ W.heap.size := by omega
   have X2 := hid hx2
   have S2 := hid hs2
   clear hx2 hs2 hg1 gf H0 H1 HX He0 He1 hm
   generalize wc = W2 at *
   have BB := hid (EB.out W2 S2.out.chg)
   have HO := hid (fun (V : World) (b : Below W2.heap.size W2 V) => (show (fun V : World => V.cell? ⟨g, 0, none⟩ = some (.slice A n c) ∧ V.cell? ⟨g, 1, none⟩ = some (.int .i64 fuel) ∧ V.cell? ⟨g, 3, none⟩ = some (.int .i64 sh)) V from ⟨(S2.out.blk.below b S2.out.blk.lt).cells 0, (S2.out.blk.below b S2.out.blk.lt).cells 1, (S2.out.blk.below b S2.out.blk.lt).cells 3⟩))
   have bD : Below W2.heap.size W2 W2.drew := (Below.refl _ _).drew
   have S0 := HO.out W2.drew bD
   go_upto_region 3 with fail
   go_cut [7, 8, 9] from 18 to 36 (fun s7 s8 s9 wx => ∃ b7 A2 c2, s7 = .pointer (some ⟨b7, 0, none⟩) ∧ s8 = .int .i64 lf ∧ s9 = .bool true ∧ W2.heap.size ≤ b7 ∧ Blk wx b7 56 #[.int .i64 k, .int .i64 v, .slice A2 N c2, .int .i64 sp] ∧ wx.ownsRow W2.heap.size 94 3 (.slice A2 N c2) N (cells3 t) ∧ Below W2.heap.size W2 wx)
   case first =>
    refine Last2.region_last [] (fun V : World => V.cell? ⟨g, 0, none⟩ = some (.slice A n c) ∧ V.cell? ⟨g, 1, none⟩ = some (.int .i64 fuel) ∧ V.cell? ⟨g, 3, none⟩ = some (.int .i64 sh)) (by kernel_rfl) ?_
    refine tk 0 19 (.pointer (some ⟨g, 0, none⟩)) S0 ?_
    simp only [Act.put, Last2.s]
    refine tk 1 20 (.pointer (some ⟨g, 0, none⟩)) S0 ?_
    simp only [Act.put, Last2.s]
    refine tk 2 21 (.pointer (some ⟨g, 0, none⟩)) S0 ?_
    simp only [Act.put, Last2.s]
    refine tk 3 22 (.agg #[.slice A n c]) S0 ?_
    simp only [Act.put, Last2.s]
    refine tk 4 23 (.int .i64 f) S0 ?_
    simp only [Act.put, Last2.s]
    refine tk 5 24 (.int .i64 arg) S0 ?_
    simp only [Act.put, Last2.s]
    refine tk 6 25 (.pointer (some ⟨g, 0, none⟩)) S0 ?_
    simp only [Act.put, Last2.s]
    refine tk 7 26 (.pointer (some ⟨g, 0, none⟩)) S0 ?_
    simp only [Act.put, Last2.s]
    refine tk 8 27 (.pointer (some ⟨g, 1, none⟩)) S0 ?_
    simp only [Act.put, Last2.s]
    refine tk 9 28 (.int .i64 fuel) S0 ?_
    simp only [Act.put, Last2.s]
    refine tk 10 29 (.pointer (some ⟨g, 0, none⟩)) S0 ?_
    simp only [Act.put, Last2.s]
    refine tk 11 30 (.pointer (some ⟨g, 0, none⟩)) S0 ?_
    simp only [Act.put, Last2.s]
    refine tk 12 31 (.pointer (some ⟨g, 3, none⟩)) S0 ?_
    simp only [Act.put, Last2.s]
    refine tk 13 32 (.int .i64 sh) S0 ?_
    simp only [Act.put, Last2.s]
    refine Last2.last_two (i := 14) (j := 19) (oi := { dst := some 33, op := .call { callee := .value (.func 34), args := #[.tmp 22, .tmp 23, .tmp 24, .tmp 28, .tmp 32], argTypes := #[35, 3, 3, 3, 3] }, type := _, pos := _, after := _, guard := _ }) (oj := { dst := some 7, op := .alloc 56, type := _, pos := _, after := _, guard := none }) (by kernel_rfl) rfl rfl rfl rfl (fun K hK => ?_) (fun K hK => ?_)
    ·go_simp
     refine (hru.out _ (BB.out.trans (bD.mono BB.out.size))).mono ?_
     rintro e wq ⟨A2, c2, rfl, ht, bq⟩
     unfold outval
     unfold Tre at ht
     rw [HN.out] at ht
     have bq2 : Below W2.heap.size W2 wq := bD.trans (bq.mono bD.size)
     have SQ : (fun V : World => V.cell? ⟨g, 0, none⟩ = some (.slice A n c) ∧ V.cell? ⟨g, 1, none⟩ = some (.int .i64 fuel) ∧ V.cell? ⟨g, 3, none⟩ = some (.int .i64 sh)) wq := HO.out _ bq2
     refine hK.out _ _ (fun _ => SQ) ?_
     clear hK K
     try simp only [Act.put, Last2.s]
     refine Last2.last_take (i := 15) (d := some 18) (v := .tuple #[.agg #[.int .i64 k, .int .i64 v, .slice A2 N c2, .int .i64 sp], .int .i64 lf, .bool true]) rfl rfl (by kernel_rfl) (by kernel_rfl) (by kernel_rfl) (fun _ _ _ h => h) rfl (by kernel_rfl) (by kernel_rfl) rfl ?_ SQ ?_
     ·(intro V hV; (try dsimp only at hV); go_simp; try with_reducible rfl)
     simp only [Act.put, Last2.s]
     refine Last2.last_take (i := 16) (d := some 34) (v := .agg #[.int .i64 k, .int .i64 v, .slice A2 N c2, .int .i64 sp]) rfl rfl (by kernel_rfl) (by kernel_rfl) (by kernel_rfl) (fun _ _ _ h => h) rfl (by kernel_rfl) (by kernel_rfl) rfl ?_ SQ ?_
     ·(intro V hV; (try dsimp only at hV); go_simp; try with_reducible rfl)
     simp only [Act.put, Last2.s]
     refine Last2.last_take (i := 17) (d := some 35) (v := .int .i64 lf) rfl rfl (by kernel_rfl) (by kernel_rfl) (by kernel_rfl) (fun _ _ _ h => h) rfl (by kernel_rfl) (by kernel_rfl) rfl ?_ SQ ?_
     ·(intro V hV; (try dsimp only at hV); go_simp; try with_reducible rfl)
     simp only [Act.put, Last2.s]
     refine Last2.last_take (i := 18) (d := some 36) (v := .bool true) rfl rfl (by kernel_rfl) (by kernel_rfl) (by kernel_rfl) (fun _ _ _ h => h) rfl (by kernel_rfl) (by kernel_rfl) rfl ?_ SQ ?_
     ·(intro V hV; (try dsimp only at hV); go_simp; try with_reducible rfl)
     simp only [Act.put, Last2.s]
     refine Last2.last_one (i := 19) (o := { dst := some 7, op := .alloc 56, type := _, pos := _, after := _, guard := none }) (by kernel_rfl) rfl rfl (fun K hK => ?_)
     go_simp
     have bal : Below W2.heap.size W2 (wq.alloc (.cells #[.int .i64 0, .int .i64 0, .slice none 0 0, .int .i64 0] 56)) := bq2.alloc bq2.size _
     have xal := heap1_0 wq (.cells #[.int .i64 0, .int .i64 0, .slice none 0 0, .int .i64 0] 56)
     have zal := Blk.cells xal
     have fal := Blk.frozen xal
     have SA : (fun V : World => V.cell? ⟨g, 0, none⟩ = some (.slice A n c) ∧ V.cell? ⟨g, 1, none⟩ = some (.int .i64 fuel) ∧ V.cell? ⟨g, 3, none⟩ = some (.int .i64 sh)) (wq.alloc (.cells #[.int .i64 0, .int .i64 0, .slice none 0 0, .int .i64 0] 56)) := HO.out _ bal
     refine hK.out _ _ (fun _ => SA) ?_
     clear hK K
     try simp only [Act.put, Last2.s]
     refine Last2.last_one (i := 20) (o := { dst := none, op := .store 56 (.tmp 7) (.tmp 34), type := _, pos := _, after := _, guard := none }) (by kernel_rfl) rfl rfl (fun K hK => ?_)
     go_simp
     have hset : Below W2.heap.size W2 (wq.alloc (.cells #[.int .i64 k, .int .i64 v, .slice A2 N c2, .int .i64 sp] 56)) := bq2.alloc bq2.size _
     have SF : (fun V : World => V.cell? ⟨g, 0, none⟩ = some (.slice A n c) ∧ V.cell? ⟨g, 1, none⟩ = some (.int .i64 fuel) ∧ V.cell? ⟨g, 3, none⟩ = some (.int .i64 sh)) (wq.alloc (.cells #[.int .i64 k, .int .i64 v, .slice A2 N c2, .int .i64 sp] 56)) := HO.out _ hset
     refine hK.out _ _ (fun _ => SF) ?_
     clear hK K
     try simp only [Act.put, Last2.s]
     refine Last2.last_take (i := 21) (d := some 8) (v := .int .i64 lf) rfl rfl (by kernel_rfl) (by kernel_rfl) (by kernel_rfl) (fun _ _ _ h => h) rfl (by kernel_rfl) (by kernel_rfl) rfl ?_ SF ?_
     ·(intro V hV; (try dsimp only at hV); go_simp; try with_reducible rfl)
     simp only [Act.put, Last2.s]
     refine Last2.last_take (i := 22) (d := some 9) (v := .bool true) rfl rfl (by kernel_rfl) (by kernel_rfl) (by kernel_rfl) (fun _ _ _ h => h) rfl (by kernel_rfl) (by kernel_rfl) rfl ?_ SF ?_
     ·(intro V hV; (try dsimp only at hV); go_simp; try with_reducible rfl)
     simp only [Act.put, Last2.s]
     refine Last2.last_done (by kernel_rfl) ?_ _
     (try go_wp2_with fail)
     go_meet
     exact ⟨wq.heap.size, A2, c2, rfl, rfl, rfl, bq2.size, heap1_0 wq _, own_mono (World.ownsRow.alloc ht _) bD.size, hset⟩
    ·go_simp
     have bal : Below W2.heap.size W2 (W2.drew.alloc (.cells #[.int .i64 0, .int .i64 0, .slice none 0 0, .int .i64 0] 56)) := bD.alloc bD.size _
     have xal : Blk (W2.drew.alloc (.cells #[.int .i64 0, .int .i64 0, .slice none 0 0, .int .i64 0] 56)) W2.heap.size 56 #[.int .i64 0, .int .i64 0, .slice none 0 0, .int .i64 0] := heap1_0 W2.drew (.cells #[.int .i64 0, .int .i64 0, .slice none 0 0, .int .i64 0] 56)
     have SA : (fun V : World => V.cell? ⟨g, 0, none⟩ = some (.slice A n c) ∧ V.cell? ⟨g, 1, none⟩ = some (.int .i64 fuel) ∧ V.cell? ⟨g, 3, none⟩ = some (.int .i64 sh)) (W2.drew.alloc (.cells #[.int .i64 0, .int .i64 0, .slice none 0 0, .int .i64 0] 56)) := HO.out _ bal
     refine hK.out _ _ (fun _ => SA) ?_
     clear hK K
     try simp only [Act.put, Last2.s]
     refine Last2.last_one (i := 14) (o := { dst := some 33, op := .call { callee := .value (.func 34), args := #[.tmp 22, .tmp 23, .tmp 24, .tmp 28, .tmp 32], argTypes := #[35, 3, 3, 3, 3] }, type := _, pos := _, after := _, guard := _ }) (by kernel_rfl) rfl rfl (fun K hK => ?_)
     go_simp
     refine (hru.out _ (BB.out.trans (bal.mono BB.out.size))).mono ?_
     rintro e wq ⟨A2, c2, rfl, ht, bq⟩
     unfold outval
     unfold Tre at ht
     rw [HN.out] at ht
     have bq2 : Below W2.heap.size W2 wq := bal.trans (bq.mono bal.size)
     have xaq := Blk.below xal bq (Blk.lt xal)
     have zal := Blk.cells xaq
     have fal := Blk.frozen xaq
     have SQ : (fun V : World => V.cell? ⟨g, 0, none⟩ = some (.slice A n c) ∧ V.cell? ⟨g, 1, none⟩ = some (.int .i64 fuel) ∧ V.cell? ⟨g, 3, none⟩ = some (.int .i64 sh)) wq := HO.out _ bq2
     refine hK.out _ _ (fun _ => SQ) ?_
     clear hK K
     try simp only [Act.put, Last2.s]
     refine Last2.last_take (i := 15) (d := some 18) (v := .tuple #[.agg #[.int .i64 k, .int .i64 v, .slice A2 N c2, .int .i64 sp], .int .i64 lf, .bool true]) rfl rfl (by kernel_rfl) (by kernel_rfl) (by kernel_rfl) (fun _ _ _ h => h) rfl (by kernel_rfl) (by kernel_rfl) rfl ?_ SQ ?_
     ·(intro V hV; (try dsimp only at hV); go_simp; try with_reducible rfl)
     simp only [Act.put, Last2.s]
     refine Last2.last_take (i := 16) (d := some 34) (v := .agg #[.int .i64 k, .int .i64 v, .slice A2 N c2, .int .i64 sp]) rfl rfl (by kernel_rfl) (by kernel_rfl) (by kernel_rfl) (fun _ _ _ h => h) rfl (by kernel_rfl) (by kernel_rfl) rfl ?_ SQ ?_
     ·(intro V hV; (try dsimp only at hV); go_simp; try with_reducible rfl)
     simp only [Act.put, Last2.s]
     refine Last2.last_take (i := 17) (d := some 35) (v := .int .i64 lf) rfl rfl (by kernel_rfl) (by kernel_rfl) (by kernel_rfl) (fun _ _ _ h => h) rfl (by kernel_rfl) (by kernel_rfl) rfl ?_ SQ ?_
     ·(intro V hV; (try dsimp only at hV); go_simp; try with_reducible rfl)
     simp only [Act.put, Last2.s]
     refine Last2.last_take (i := 18) (d := some 36) (v := .bool true) rfl rfl (by kernel_rfl) (by kernel_rfl) (by kernel_rfl) (fun _ _ _ h => h) rfl (by kernel_rfl) (by kernel_rfl) rfl ?_ SQ ?_
     ·(intro V hV; (try dsimp only at hV); go_simp; try with_reducible rfl)
     simp only [Act.put, Last2.s]
     refine Last2.last_one (i := 20) (o := { dst := none, op := .store 56 (.tmp 7) (.tmp 34), type := _, pos := _, after := _, guard := none }) (by kernel_rfl) rfl rfl (fun K hK => ?_)
     go_simp
     have hset : Below W2.heap.size W2 (((((wq).setCell ⟨W2.heap.size, 0, none⟩ (.int .i64 k)).setCell ⟨W2.heap.size, 1, none⟩ (.int .i64 v)).setCell ⟨W2.heap.size, 2, none⟩ (.slice A2 N c2)).setCell ⟨W2.heap.size, 3, none⟩ (.int .i64 sp)) := by
      exact (((bq2.setCell (p := ⟨W2.heap.size, 0, none⟩) (Nat.le_refl _) _).setCell (p := ⟨W2.heap.size, 1, none⟩) (Nat.le_refl _) _).setCell (p := ⟨W2.heap.size, 2, none⟩) (Nat.le_refl _) _).setCell (p := ⟨W2.heap.size, 3, none⟩) (Nat.le_refl _) _
     have SF : (fun V : World => V.cell? ⟨g, 0, none⟩ = some (.slice A n c) ∧ V.cell? ⟨g, 1, none⟩ = some (.int .i64 fuel) ∧ V.cell? ⟨g, 3, none⟩ = some (.int .i64 sh)) (((((wq).setCell ⟨W2.heap.size, 0, none⟩ (.int .i64 k)).setCell ⟨W2.heap.size, 1, none⟩ (.int .i64 v)).setCell ⟨W2.heap.size, 2, none⟩ (.slice A2 N c2)).setCell ⟨W2.heap.size, 3, none⟩ (.int .i64 sp)) := HO.out _ hset
     refine hK.out _ _ (fun _ => SF) ?_
     clear hK K
     try simp only [Act.put, Last2.s]
     refine Last2.last_take (i := 21) (d := some 8) (v := .int .i64 lf) rfl rfl (by kernel_rfl) (by kernel_rfl) (by kernel_rfl) (fun _ _ _ h => h) rfl (by kernel_rfl) (by kernel_rfl) rfl ?_ SF ?_
     ·(intro V hV; (try dsimp only at hV); go_simp; try with_reducible rfl)
     simp only [Act.put, Last2.s]
     refine Last2.last_take (i := 22) (d := some 9) (v := .bool true) rfl rfl (by kernel_rfl) (by kernel_rfl) (by kernel_rfl) (fun _ _ _ h => h) rfl (by kernel_rfl) (by kernel_rfl) rfl ?_ SF ?_
     ·(intro V hV; (try dsimp only at hV); go_simp; try with_reducible rfl)
     simp only [Act.put, Last2.s]
     refine Last2.last_done (by kernel_rfl) ?_ _
     (try go_wp2_with fail)
     go_meet
     exact ⟨W2.heap.size, A2, c2, rfl, rfl, rfl, Nat.le_refl _, Blk.set4 xaq _ _ _ _, (by
      have n2 := blk_apart ht xaq (by decide)
      iterate 4 refine own_far ?_ _ _ n2
      exact own_mono ht bal.size), hset⟩
   case rest =>
    obtain ⟨b7, A2, c2, rfl, rfl, rfl, hb7, x7, ht, b2⟩ := hcut
    have S3 := hid (S2.out.below b2)
    have zc := S3.out.blk.cells
    have fc := S3.out.blk.frozen
    have hne7 : b7 ≠ g := Frs.ne_blkF x7 S3.out.blk (by decide)
    have hlw : W.heap.size < W2.heap.size := X2.out.lt
    have XR := hid (X2.out.below b2 X2.out.lt)
    have X7 := hid x7
    have HT := hid ht
    have hsz2 := S3.out.chg.size
    clear x7 ht b2 S2 X2 S0 bD HO BB hru
    go_upto_region 5 with fail
    change (fun V => Code.wp _ _ _ _ V) _
    refine gen_world (X := fun V => Sit W1 g n c A fuel mode { s with shared := lf } v1 v2 v3 V ∧ Blk V b7 56 #[.int .i64 k, .int .i64 v, .slice A2 N c2, .int .i64 sp] ∧ Blk V W.heap.size 56 #[.int .i64 0, .int .i64 0, .slice none 0 0, .int .i64 0] ∧ V.ownsRow W2.heap.size 94 3 (.slice A2 N c2) N (cells3 t)) ⟨S3.out.share lf, X7.out.far ⟨g, 3, none⟩ _ hne7, XR.out.far ⟨g, 3, none⟩ _ (by show W.heap.size ≠ g; omega), own_far HT.out _ _ (blk_apart HT.out S3.out.blk (by decide))⟩ ?_
    clear zc fc S3 X7 XR HT hsz2
    rintro V ⟨q1, q2, q3, q4⟩
    have S4 := hid q1
    have X7 := hid q2
    have XR := hid q3
    have HT := hid q4
    clear q1 q2 q3 q4
    have hsz1 : W1.heap.size ≤ V.heap.size := S4.out.chg.size
    have HO := hid (fun (U : World) (b : Below V.heap.size V U) => (show (fun V : World => V.cell? ⟨g, 7, none⟩ = some v3 ∧ V.cell? ⟨b7, 2, none⟩ = some (.slice A2 N c2)) U from ⟨(S4.out.blk.below b S4.out.blk.lt).cells 7, (X7.out.below b X7.out.lt).cells 2⟩))
    have S50 := HO.out V.drew (Below.refl _ _).drew
    go_wp2_with fail
    refine Last2.region_last [11] (fun V : World => V.cell? ⟨g, 7, none⟩ = some v3 ∧ V.cell? ⟨b7, 2, none⟩ = some (.slice A2 N c2)) (by kernel_rfl) ?_
    refine Last2.last_take (i := 0) (d := some 41) (v := .pointer (some ⟨g, 0, none⟩)) rfl rfl (by kernel_rfl) (by kernel_rfl) (by kernel_rfl) (fun _ _ _ h => h) rfl (by kernel_rfl) (by kernel_rfl) rfl ?_ S50 ?_
    ·(intro V hV; (try dsimp only at hV); go_simp; try with_reducible rfl)
    simp only [Act.put, Last2.s]
    refine Last2.last_take (i := 1) (d := some 42) (v := .pointer (some ⟨g, 0, none⟩)) rfl rfl (by kernel_rfl) (by kernel_rfl) (by kernel_rfl) (fun _ _ _ h => h) rfl (by kernel_rfl) (by kernel_rfl) rfl ?_ S50 ?_
    ·(intro V hV; (try dsimp only at hV); go_simp; try with_reducible rfl)
    simp only [Act.put, Last2.s]
    refine Last2.last_take (i := 2) (d := some 43) (v := .pointer (some ⟨g, 0, none⟩)) rfl rfl (by kernel_rfl) (by kernel_rfl) (by kernel_rfl) (fun _ _ _ h => h) rfl (by kernel_rfl) (by kernel_rfl) rfl ?_ S50 ?_
    ·(intro V hV; (try dsimp only at hV); go_simp; try with_reducible rfl)
    simp only [Act.put, Last2.s]
    refine Last2.last_take (i := 3) (d := some 44) (v := .pointer (some ⟨g, 7, none⟩)) rfl rfl (by kernel_rfl) (by kernel_rfl) (by kernel_rfl) (fun _ _ _ h => h) rfl (by kernel_rfl) (by kernel_rfl) rfl ?_ S50 ?_
    ·(intro V hV; (try dsimp only at hV); go_simp; try with_reducible rfl)
    simp only [Act.put, Last2.s]
    refine Last2.last_take (i := 4) (d := some 45) (v := v3) rfl rfl (by kernel_rfl) (by kernel_rfl) (by kernel_rfl) (fun _ _ _ h => h) rfl (by kernel_rfl) (by kernel_rfl) rfl ?_ S50 ?_
    ·(intro V hV; (try dsimp only at hV); go_simp; try with_reducible rfl)
    simp only [Act.put, Last2.s]
    refine Last2.last_take (i := 5) (d := some 46) (v := .pointer (some ⟨b7, 2, none⟩)) rfl rfl (by kernel_rfl) (by kernel_rfl) (by kernel_rfl) (fun _ _ _ h => h) rfl (by kernel_rfl) (by kernel_rfl) rfl ?_ S50 ?_
    ·(intro V hV; (try dsimp only at hV); go_simp; try with_reducible rfl)
    simp only [Act.put, Last2.s]
    refine Last2.last_take (i := 6) (d := some 47) (v := .slice A2 N c2) rfl rfl (by kernel_rfl) (by kernel_rfl) (by kernel_rfl) (fun _ _ _ h => h) rfl (by kernel_rfl) (by kernel_rfl) rfl ?_ S50 ?_
    ·(intro V hV; (try dsimp only at hV); go_simp; try with_reducible rfl)
    simp only [Act.put, Last2.s]
    refine Last2.last_one (i := 7) (o := { dst := some 48, op := .call { callee := .value (.func 145), args := #[.tmp 47], argTypes := #[54] }, type := _, pos := _, after := _, guard := none }) (by kernel_rfl) rfl rfl (fun K hK => ?_)
    go_simp
    refine (saidIn_any V.heap.size N c2 A2 t HN.out (by omega) V.drew (rd_own HT.out) (Nat.le_refl _)).mono ?_
    rintro e w5 ⟨A5, c5, rfl, o5, b5⟩
    have b5' : Below V.heap.size V w5 := (Below.refl _ _).drew.trans b5
    have S5 := hid (S4.out.below b5')
    have O5 := hid (show w5.ownsRow V.heap.size 3 1 (.slice A5 (saids t).length c5) (saids t).length (cellsI (saids t)) from o5)
    have X75 := hid (X7.out.below b5' X7.out.lt)
    have XR5 := hid (XR.out.below b5' XR.out.lt)
    have S51 := HO.out w5 b5'
    refine hK.out _ _ (fun _ => S51) ?_
    clear hK K o5 b5 S50
    try simp only [Act.put, Last2.s]
    have hsl2 : ({ s with shared := lf } : Sen).says.length ≤ 14448 := hsl
    have hls : (saids t).length ≤ 602 := by have := SaysP.saids_len t; rw [HN.out] at this; omega
    have hone : ∀ u ∈ cellsI (saids t), u.oneCell' = true := by
     intro u hu
     simp only [cellsI, List.mem_map] at hu
     obtain ⟨z, _, rfl⟩ := hu
     rfl
    refine Last2.last_one (i := 8) (o := { dst := some 49, op := .call { callee := .builtin .append, args := #[.tmp 45, .tmp 48], argTypes := #[26, 26] }, type := _, pos := _, after := _, guard := none }) (by kernel_rfl) rfl rfl (fun K hK => ?_)
    refine App.row_wp _ (.tmp 45) (.tmp 48) 26 rfl W1.heap.size V.heap.size 3 i0 _ 1 8 Try.underlying26 hi hz0 hz1 hz2 rfl (by decide) _ _ _ rfl S5.out.y _ (saids t).length (cellsI (saids t)) rfl O5.out hone (by unfold maxLen; omega) (by omega) (Nat.le_trans hsz1 b5'.size) ?_
    intro v' w6 o6 g6 t6
    obtain ⟨A6, c6, rfl⟩ := own_slice o6
    have ch : Chg (fun x => v3.ownBlock = some x) w5 w6 := (Chg.of_grown g6).mono (fun x _ hx => hx.symm)
    have S6 := hid (S5.out.said (t := saids t) (by unfold OwnI; rw [List.length_append, cellsI_append]; exact o6) ch (t6.imp id (fun h => ⟨_, h, Nat.le_refl _⟩)))
    have hap7 : v3.ownBlock ≠ some b7 := blk_apart S5.out.y X75.out (by decide)
    have hapR : v3.ownBlock ≠ some W.heap.size := blk_apart S5.out.y XR5.out (by decide)
    have hapg : v3.ownBlock ≠ some g := blk_apart S5.out.y S5.out.blk (by decide)
    have X76 := hid (X75.out.chg ch hap7)
    have XR6 := hid (XR5.out.chg ch hapR)
    have BG6 := hid (S5.out.blk.chg ch hapg)
    have S52 : (fun V : World => V.cell? ⟨g, 7, none⟩ = some v3 ∧ V.cell? ⟨b7, 2, none⟩ = some (.slice A2 N c2)) w6 := ⟨BG6.out.cells 7, X76.out.cells 2⟩
    have k7 : w6.cell? ⟨g, 7, none⟩ = some v3 := S52.1
    have f7 : w6.frozen? ⟨g, 7, none⟩ = false := BG6.out.frozen 7
    refine hK.out _ _ (fun _ => S52) ?_
    clear hK K o6 g6 t6 ch S51 b5' hone
    try simp only [Act.put, Last2.s]
    refine Last2.last_one (i := 9) (o := { dst := some 50, op := .nilCheck (.tmp 41), type := _, pos := _, after := _, guard := none }) (by kernel_rfl) rfl rfl (fun K hK => ?_)
    go_simp
    refine hK.out _ _ (fun _ => S52) ?_
    clear hK K
    try simp only [Act.put, Last2.s]
    refine Last2.last_one (i := 10) (o := { dst := some 51, op := .fieldAddr 116 (.tmp 50) 7, type := _, pos := _, after := _, guard := none }) (by kernel_rfl) rfl rfl (fun K hK => ?_)
    go_simp
    refine hK.out _ _ (fun _ => S52) ?_
    clear hK K
    try simp only [Act.put, Last2.s]
    refine Last2.last_one (i := 11) (o := { dst := none, op := .store 26 (.tmp 51) (.tmp 49), type := _, pos := _, after := _, guard := none }) (by kernel_rfl) rfl rfl (fun K hK => ?_)
    go_simp
    refine hK.out _ _ (fun h => (h (by decide)).elim) ?_
    clear hK K
    try simp only [Act.put, Last2.s]
    refine Last2.last_done (by kernel_rfl) ?_ _
    have X77 := X76.out.far ⟨g, 7, none⟩ (.slice A6 (({ s with shared := lf } : Sen).says.length + (saids t).length) c6) hne7
    have XR7 := XR6.out.far ⟨g, 7, none⟩ (.slice A6 (({ s with shared := lf } : Sen).says.length + (saids t).length) c6) (by show W.heap.size ≠ g; omega)
    clear S52 k7 f7 BG6 X76 XR6 S5 O5 X75 XR5 S4 X7 XR HT HO
    change (fun V => Exit.then _ _ _ _ V) _
    refine gen_world (X := fun V => Sit W1 g n c A fuel mode { s with shared := lf, says := s.says ++ saids t } v1 v2 (.slice A6 (({ s with shared := lf } : Sen).says.length + (saids t).length) c6) V ∧ Blk V b7 56 #[.int .i64 k, .int .i64 v, .slice A2 N c2, .int .i64 sp] ∧ Blk V W.heap.size 56 #[.int .i64 0, .int .i64 0, .slice none 0 0, .int .i64 0]) ⟨S6.out, X77, XR7⟩ ?_
    clear X77 XR7 S6
    rintro U ⟨q1, q2, q3⟩
    have z7 := q2.cells
    have zr := q3.cells
    have fr := q3.frozen
    have SU := hid q1
    have XU := hid q3
    clear q1 q2 q3
    go_wp2_with fail
    refine gen_post (X := fun V => Blk V W.heap.size 56 #[.int .i64 k, .int .i64 v, .slice A2 N c2, .int .i64 sp] ∧ Sit W1 g n c A fuel mode { s with shared := lf, says := s.says ++ saids t } v1 v2 (.slice A6 (({ s with shared := lf } : Sen).says.length + (saids t).length) c6) V) ⟨Blk.set4 XU.out _ _ _ _, ?_⟩ ?_
    ·exact SU.out.far4 XU.out ⟨by decide, by decide, HW1.out⟩ _ _ _ _
    clear z7 zr fr SU XU
    rintro U ⟨q1, q2⟩
    have V1 := q1.cells
    have HV := hid q2
    clear q1 q2
    exact bodyPost_ret (v := .agg #[.int .i64 k, .int .i64 v, .slice A2 N c2, .int .i64 sp]) (by simp [results, Try.results140, go_sem, V1]) rfl ⟨A2, c2, _, by unfold outval; rw [HN.out], HV.out⟩
 rcases hm3 with ⟨h1, h2⟩ | ⟨h1, h2⟩
 ·exact key true (by simpa using h1) (fun _ => h2) (fun h => by cases h)
 ·exact key false (by simpa using h1) (fun h => by cases h) (fun _ => h2)
end Go.Proofs.Ythejnpignlhgiaa.Sit
-- squeezed
