import Derived.Test.YtikdcnlbjpabjabM14
import Derived.Test.YtikdcnlbjpabjabM2
import Derived.Test.YtikdcnlbjpabjabM1
import Derived.Test.YtikdcnlbjpabjabM3
import Derived.BigRegion
import Derived.Deep.RegionHeld3
import Derived.Deep.Cut
import Derived.Deep.RegionLaw
import Derived.Recover
set_option linter.all false
namespace Go.Proofs.Ytikdcnlbjpabjab.RowC
open Go.ChangeShapes Go.WideShapes Go.ChangeAt Go.RowKit
open PL Mem IntsP
def c5 (s : CI) : List Value := [.int .i64 s.f, .int .i64 s.par, .bool s.dfr, .int .i64 s.fin, .int .i64 s.val]
def cells5 (l : List CI) : List Value := l.flatMap c5
theorem cells5_nil : cells5 [] = [] := rfl
theorem cells5_cons (s : CI) (l : List CI) : cells5 (s :: l) = c5 s ++ cells5 l := by simp [cells5]
theorem cells5_append (a b : List CI) : cells5 (a ++ b) = cells5 a ++ cells5 b := by simp [cells5]
theorem c5_length (s : CI) : (c5 s).length = 5 := rfl
theorem cells5_length (l : List CI) : (cells5 l).length = l.length * 5 := by
 induction l with
 | nil => rfl
 | cons s l ih => rw [cells5_cons, List.length_append, c5_length, List.length_cons, ih]; omega
theorem cells5_at : ∀ (l : List CI) (j : Nat) (s : CI) (o : Nat), l[j]? = some s → o < 5 → (cells5 l)[j * 5 + o]? = (c5 s)[o]?
 | [], j, s, o, h, _ => by simp at h
 | a :: l, 0, s, o, h, ho => by
  obtain rfl : a = s := by simpa using h
  rw [cells5_cons, Nat.zero_mul, Nat.zero_add, List.getElem?_append_left (by rw [c5_length]; exact ho)]
 | a :: l, j + 1, s, o, h, ho => by
  have := cells5_at l j s o (by simpa using h) ho
  rw [cells5_cons, List.getElem?_append_right (by rw [c5_length]; omega), c5_length, show (j + 1) * 5 + o - 5 = j * 5 + o by omega]
  exact this
theorem cells5_put : ∀ (l : List CI) (j : Nat) (c c' : CI) (o : Nat) (u : Value), l[j]? = some c → o < 5 → (c5 c).set o u = c5 c' → (cells5 l).set (j * 5 + o) u = cells5 (l.set j c')
 | [], j, c, c', o, u, h, _, _ => by simp at h
 | a :: l, 0, c, c', o, u, h, ho, he => by
  obtain rfl : a = c := by simpa using h
  rw [cells5_cons, Nat.zero_mul, Nat.zero_add, List.set_append_left _ _ (by rw [c5_length]; exact ho), he, List.set_cons_zero, cells5_cons]
 | a :: l, j + 1, c, c', o, u, h, ho, he => by
  have := cells5_put l j c c' o u (by simpa using h) ho he
  rw [cells5_cons, List.set_append_right _ _ (by rw [c5_length]; omega), c5_length, show (j + 1) * 5 + o - 5 = j * 5 + o by omega, this, List.set_cons_succ, cells5_cons]
def RdC (w : World) (B : Nat) (A : Option Addr) (xs : List CI) : Prop :=
 ∀ j s, xs[j]? = some s → ∃ ad, A = some ad ∧ ad.block < B ∧ w.cell? (ad.add (j * 5)) = some (.int .i64 s.f) ∧
  w.cell? ⟨(ad.add (j * 5)).block, (ad.add (j * 5)).off + 1, none⟩ = some (.int .i64 s.par) ∧ w.cell? ⟨(ad.add (j * 5)).block, (ad.add (j * 5)).off + 2, none⟩ = some (.bool s.dfr) ∧
  w.cell? ⟨(ad.add (j * 5)).block, (ad.add (j * 5)).off + 3, none⟩ = some (.int .i64 s.fin) ∧ w.cell? ⟨(ad.add (j * 5)).block, (ad.add (j * 5)).off + 4, none⟩ = some (.int .i64 s.val)
theorem RdC.keep {w w' : World} {B : Nat} {A : Option Addr} {xs : List CI} (h : RdC w B A xs) (hk : ∀ p : Addr, p.block < B → w'.cell? p = w.cell? p) : RdC w' B A xs :=
 fun j s hs => by
  obtain ⟨ad, e, hb, h0, h1, h2, h3, h4⟩ := h j s hs
  have hb' : (ad.add (j * 5)).block < B := by rw [block_of_add]; exact hb
  exact ⟨ad, e, hb, (hk _ hb').trans h0, (hk ⟨_, _, none⟩ hb').trans h1, (hk ⟨_, _, none⟩ hb').trans h2, (hk ⟨_, _, none⟩ hb').trans h3, (hk ⟨_, _, none⟩ hb').trans h4⟩
theorem RdC.below {w w' : World} {B : Nat} {A : Option Addr} {xs : List CI} (h : RdC w B A xs) (hb : Below B w w') : RdC w' B A xs := h.keep fun _ hp => hb.cell hp
theorem RdC.more {w : World} {B B' : Nat} {A : Option Addr} {xs : List CI} (h : RdC w B A xs) (hB : B ≤ B') : RdC w B' A xs :=
 fun j s hs => by
  obtain ⟨ad, e, hb, r⟩ := h j s hs
  exact ⟨ad, e, by omega, r⟩
def OwnC (w : World) (lo : Nat) (v : Value) (xs : List CI) : Prop := w.ownsRow lo 54 5 v xs.length (cells5 xs)
theorem infoC : (Try.prog.info? 54).map (fun i => (i.zero, i.size, i.bytes)) = some (some (.agg #[.int .i64 0, .int .i64 0, .bool false, .int .i64 0, .int .i64 0]), 5, 40) := by kernel_rfl
theorem rdC_own {w : World} {B n c e : Nat} {A : Option Addr} {xs : List CI} (h : w.ownsRow B e 5 (.slice A n c) n (cells5 xs)) : RdC w w.heap.size A xs := by
 intro j s hs
 have hn : xs.length = n := by have := h.1; rw [cells5_length] at this; omega
 have hj : j < xs.length := (List.getElem?_eq_some_iff.1 hs).1
 rcases own_form h with ⟨h0, _⟩ | ⟨_, g, cap, hv, _, hg⟩
 ·omega
 ·simp only [Value.slice.injEq, true_and] at hv
  obtain ⟨rfl, rfl⟩ := hv
  have hat := fun o ho => cells5_at xs j s o hs ho
  refine ⟨_, rfl, hg, ?_, ?_, ?_, ?_, ?_⟩ <;> rw [add_own]
  ·rw [h.cellAt _ (by omega)]; exact hat 0 (by omega)
  ·show w.cell? ⟨g, j * 5 + 1, none⟩ = _; rw [h.cellAt _ (by omega)]; exact hat 1 (by omega)
  ·show w.cell? ⟨g, j * 5 + 2, none⟩ = _; rw [h.cellAt _ (by omega)]; exact hat 2 (by omega)
  ·show w.cell? ⟨g, j * 5 + 3, none⟩ = _; rw [h.cellAt _ (by omega)]; exact hat 3 (by omega)
  ·show w.cell? ⟨g, j * 5 + 4, none⟩ = _; rw [h.cellAt _ (by omega)]; exact hat 4 (by omega)
theorem OwnC.rd {w : World} {lo n c : Nat} {A : Option Addr} {xs : List CI} (h : OwnC w lo (.slice A n c) xs) (hn : xs.length = n) : RdC w w.heap.size A xs := by
 unfold OwnC at h
 rw [hn] at h
 exact rdC_own h
theorem own_cell5 {w : World} {B e n g c : Nat} {xs : List CI} (h : w.ownsRow B e 5 (.slice (some ⟨g, 0, none⟩) n c) n (cells5 xs)) {j : Nat} {s : CI} (hs : xs[j]? = some s) :
  w.cell? ⟨g, j * 5, none⟩ = some (.int .i64 s.f) ∧ w.cell? ⟨g, j * 5 + 1, none⟩ = some (.int .i64 s.par) ∧ w.cell? ⟨g, j * 5 + 2, none⟩ = some (.bool s.dfr) ∧
   w.cell? ⟨g, j * 5 + 3, none⟩ = some (.int .i64 s.fin) ∧ w.cell? ⟨g, j * 5 + 4, none⟩ = some (.int .i64 s.val) := by
 have hn : xs.length = n := by have := h.1; rw [cells5_length] at this; omega
 have hj : j < xs.length := (List.getElem?_eq_some_iff.1 hs).1
 have hat := fun o ho => cells5_at xs j s o hs ho
 exact ⟨(h.cellAt _ (by omega)).trans (hat 0 (by omega)), (h.cellAt _ (by omega)).trans (hat 1 (by omega)), (h.cellAt _ (by omega)).trans (hat 2 (by omega)), (h.cellAt _ (by omega)).trans (hat 3 (by omega)), (h.cellAt _ (by omega)).trans (hat 4 (by omega))⟩
theorem own_put5 {w : World} {B e n g cap : Nat} {xs : List CI} (h : w.ownsRow B e 5 (.slice (some ⟨g, 0, none⟩) n cap) n (cells5 xs)) {j : Nat} {s : CI} (hs : xs[j]? = some s) (o : Nat) (u : Value) (s' : CI) (ho : o < 5) (he : (c5 s).set o u = c5 s') :
  (w.setCell ⟨g, j * 5 + o, none⟩ u).ownsRow B e 5 (.slice (some ⟨g, 0, none⟩) n cap) n (cells5 (xs.set j s')) := by
 have := (h.stored (j * 5 + o) u).1
 rwa [cells5_put xs j s s' o u hs ho he] at this
end Go.Proofs.Ytikdcnlbjpabjab.RowC

namespace Go.Proofs.Ytikdcnlbjpabjab.AccP
open Last2 (tk)
open Lib (hid)
open Go.ChangeShapes Go.WideShapes Go.ChangeAt Go.RowKit
open PL Mem Srun Sst IntsP RowC
def acells (k v s : Int) (tv cv ov : Value) (cur : Int) : Array Value := #[.int .i64 k, .int .i64 v, tv, .int .i64 s, cv, ov, .int .i64 cur]
structure Acc (g : Nat) (k v s : Int) (tv cv ov : Value) (cs : List CI) (os : List Int) (cur : Int) (W : World) : Prop where
 blk : Blk W g 88 (acells k v s tv cv ov cur)
 calls : OwnC W g cv cs
 owners : OwnI W g ov os
section
variable {g : Nat} {k v s : Int} {tv cv ov : Value} {cs : List CI} {os : List Int} {cur : Int} {W W' : World}
theorem Acc.below (h : Acc g k v s tv cv ov cs os cur W) (hb : Below W.heap.size W W') : Acc g k v s tv cv ov cs os cur W' :=
 ⟨h.blk.below hb h.blk.lt, own_below h.calls hb (Nat.le_refl _), own_below h.owners hb (Nat.le_refl _)⟩
theorem Acc.lt (h : Acc g k v s tv cv ov cs os cur W) : g < W.heap.size := h.blk.lt
theorem Acc.nc (h : Acc g k v s tv cv ov cs os cur W) : cv.ownBlock ≠ some g := blk_apart h.calls h.blk (by decide)
theorem Acc.no (h : Acc g k v s tv cv ov cs os cur W) : ov.ownBlock ≠ some g := blk_apart h.owners h.blk (by decide)
theorem Acc.putCur (h : Acc g k v s tv cv ov cs os cur W) (u : Int) : Acc g k v s tv cv ov cs os u (W.setCell ⟨g, 6, none⟩ (.int .i64 u)) :=
 ⟨h.blk.put 6 _, own_far h.calls _ _ h.nc, own_far h.owners _ _ h.no⟩
theorem Acc.putOwn {w1 : World} {ov' : Value} {os' : List Int} (h : Acc g k v s tv cv ov cs os cur W) (hch : Chg (fun x => ov.ownBlock = some x) W w1) (ho : OwnI w1 g ov' os') :
  Acc g k v s tv cv ov' cs os' cur (w1.setCell ⟨g, 5, none⟩ ov') :=
 have hb := h.blk.chg hch h.no
 have hc : OwnC w1 g cv cs := own_chg h.calls hch (fun x hx => apart h.calls h.owners (by decide) x hx)
 ⟨hb.put 5 _, own_far hc _ _ h.nc, own_far ho _ _ (blk_apart ho hb (by decide))⟩
theorem Acc.putCalls {w1 : World} {cv' : Value} {cs' : List CI} (h : Acc g k v s tv cv ov cs os cur W) (hch : Chg (fun x => cv.ownBlock = some x) W w1) (hc : OwnC w1 g cv' cs') :
  Acc g k v s tv cv' ov cs' os cur (w1.setCell ⟨g, 4, none⟩ cv') :=
 have hb := h.blk.chg hch h.nc
 have ho : OwnI w1 g ov os := own_chg h.owners hch (fun x hx => apart h.owners h.calls (by decide) x hx)
 ⟨hb.put 4 _, own_far hc _ _ (blk_apart hc hb (by decide)), own_far ho _ _ h.no⟩
theorem Acc.putCall {b cap : Nat} {c c' : CI} {j o : Nat} {u : Value} (h : Acc g k v s tv (.slice (some ⟨b, 0, none⟩) cs.length cap) ov cs os cur W) (hj : cs[j]? = some c) (ho : o < 5) (he : (c5 c).set o u = c5 c') :
  Acc g k v s tv (.slice (some ⟨b, 0, none⟩) cs.length cap) ov (cs.set j c') os cur (W.setCell ⟨b, j * 5 + o, none⟩ u) := by
 have hb : g ≠ b := fun e => h.nc (by rw [e]; rfl)
 refine ⟨h.blk.far _ _ hb, ?_, own_far h.owners _ _ (fun e => apart h.owners h.calls (by decide) b e rfl)⟩
 have := own_put5 h.calls hj o u c' ho he
 unfold OwnC
 rwa [List.length_set]
theorem five_own {V : World} {g e : Nat} {x y z u v : Value} (h : V.heap[g]? = some (.cells #[x, y, z, u, v] e)) : V.ownsRow 0 e 5 (.slice (some ⟨g, 0, none⟩) 1 1) 1 [x, y, z, u, v] :=
 ⟨by simp, .inr ⟨g, 1, #[x, y, z, u, v], rfl, Nat.zero_le _, h, Nat.le_refl _, by decide, by simp, by simp⟩⟩
theorem ev_field0 (a b c : Int) (w : World) : (Instr.field 103 (.agg #[.int .i64 a, .int .i64 b, .int .i64 c]) 0).run Try.prog w = .ok (.int .i64 a) w := by kernel_rfl
theorem ev_field2 (a b c : Int) (w : World) : (Instr.field 103 (.agg #[.int .i64 a, .int .i64 b, .int .i64 c]) 2).run Try.prog w = .ok (.int .i64 c) w := by kernel_rfl
theorem chg_below {C : Nat → Prop} {a b : World} (h : Chg C a b) (hg : g ≤ a.heap.size) (hC : ∀ x, x < g → ¬ C x) : Below g a b := h.below hg hC
end
section
variable {g : Nat} {k v s : Int} {tv cv ov : Value} {cs : List CI} {os : List Int} {cur : Int} {W : World}
theorem resume_any (h : Acc g k v s tv cv ov cs os cur W) (u : Int) :
  Calls Try.prog 126 #[.pointer (some ⟨g, 0, none⟩), .int .i64 u] W fun e W' => e = .returned (.tuple #[]) ∧ Acc g k v s tv cv ov cs os u W' ∧ Below g W W' := by
 have H := hid h
 have f1 := h.blk.frozen
 have z6 : W.cell? ⟨g, 6, none⟩ = some (.int .i64 cur) := h.blk.cells 6
 clear h
 go_enter Try.func126, Try.ntmps126
 go_wp2_with fail
 go_end0
 exact ⟨rfl, H.out.putCur u, ((Chg.refl (fun x => x = g) W).put _ _ (.inr rfl)).below (Nat.le_of_lt H.out.lt) (fun x hx hc => by omega)⟩
theorem resume_d (h : Acc g k v s tv cv ov cs os cur W) (u : Int) (md : FrameMode) :
  CallsD Try.prog 126 #[.pointer (some ⟨g, 0, none⟩), .int .i64 u] md W fun e u' W' => u' = md ∧ (e = .returned (.tuple #[]) ∧ Acc g k v s tv cv ov cs os u W' ∧ Below g W W') := by
 have H := hid h
 have f1 := h.blk.frozen
 have z6 : W.cell? ⟨g, 6, none⟩ = some (.int .i64 cur) := h.blk.cells 6
 clear h
 go_enter_d Try.func126, Try.ntmps126
 go_wp2_with fail
 go_end0
 exact ⟨rfl, H.out.putCur u, ((Chg.refl (fun x => x = g) W).put _ _ (.inr rfl)).below (Nat.le_of_lt H.out.lt) (fun x hx hc => by omega)⟩
theorem next_any {At : Option Addr} {N ct : Nat} {t : List Tr} {e : Tr} (h : Acc g k v s (.slice At N ct) cv ov cs os cur W) (hr : Rd3 W g At t) (hN : t.length = N) (he : t[os.length]? = some e) :
  Calls Try.prog 128 #[.pointer (some ⟨g, 0, none⟩)] W fun e' W' => e' = .returned (.agg #[.int .i64 e.1, .int .i64 e.2.1, .int .i64 e.2.2]) ∧ Below W.heap.size W W' := by
 obtain ⟨e0, e1, e2⟩ := e
 have hlt : os.length < N := by rw [← hN]; exact (List.getElem?_eq_some_iff.1 he).1
 obtain ⟨m, hm⟩ : ∃ m, os.length = m := ⟨_, rfl⟩
 rw [hm] at hlt he
 obtain ⟨Ao, co, rfl⟩ := own_slice h.owners
 have hb : Below W.heap.size W (W.alloc (.cells #[.int .i64 0, .int .i64 0, .int .i64 0] 103)) := (Below.refl _ _).alloc (Nat.le_refl _) _
 have hb' := hb.mono (Nat.le_of_lt h.lt)
 obtain ⟨ad, rfl, hab, h0, h1, h2⟩ := (hr.below hb') m _ he
 have z2 : (W.alloc (.cells #[.int .i64 0, .int .i64 0, .int .i64 0] 103)).cell? ⟨g, 2, none⟩ = some (.slice (some ad) N ct) := (h.below hb).blk.cells 2
 have z5 : (W.alloc (.cells #[.int .i64 0, .int .i64 0, .int .i64 0] 103)).cell? ⟨g, 5, none⟩ = some (.slice Ao m co) := hm ▸ (h.below hb).blk.cells 5
 have x0 : Blk (W.alloc (.cells #[.int .i64 0, .int .i64 0, .int .i64 0] 103)) W.heap.size 103 #[.int .i64 0, .int .i64 0, .int .i64 0] := heap1_0 W _
 have HB := hid hb
 dsimp only at h0 h1 h2
 go_enter Try.func128, Try.ntmps128
 go_upto_region 1 with fail
 generalize W.alloc (.cells #[.int .i64 0, .int .i64 0, .int .i64 0] 103) = V at *
 have xc := x0.cells
 have xf := x0.frozen
 clear h hr hb hb' he
 go_wp2_with fail
 go_region
 all_goals
  go_wp2_with fail
  have hf := ((x0.put 0 (.int .i64 e0)).put 1 (.int .i64 e1)).put 2 (.int .i64 e2)
  simp only [Last2.s] at hf
  have hc : ∀ o, (((V.setCell ⟨W.heap.size, 0, none⟩ (.int .i64 e0)).setCell ⟨W.heap.size, 1, none⟩ (.int .i64 e1)).setCell ⟨W.heap.size, 2, none⟩ (.int .i64 e2)).drew.cell? ⟨W.heap.size, o, none⟩ = (#[.int .i64 e0, .int .i64 e1, .int .i64 e2] : Array Value)[o]? := hf.cells
  refine bodyPost_ret (v := .agg #[.int .i64 e0, .int .i64 e1, .int .i64 e2]) (by simp [results, Try.results128, go_sem, hc]) rfl ⟨rfl, ?_⟩
  refine Below.drew ?_
  exact ((((Chg.of_below HB.out : Chg (fun _ => False) W V).put _ _ (.inl (Nat.le_refl _))).put _ _ (.inl (Nat.le_refl _))).put _ _ (.inl (Nat.le_refl _))).below (Nat.le_refl _) (fun _ _ h => h)
set_option maxRecDepth 100000 in
theorem own_any (h : Acc g k v s tv cv ov cs os cur W) (hl : os.length ≤ 100000) :
  Calls Try.prog 130 #[.pointer (some ⟨g, 0, none⟩)] W fun e W' => ∃ ov', e = .returned (.tuple #[]) ∧ Acc g k v s tv cv ov' cs (os ++ [cur]) cur W' ∧ Below g W W' := by
 obtain ⟨i0, hi, hz0, hz1, hz2⟩ := info_parts info3
 obtain ⟨Ao, co, rfl⟩ := own_slice h.owners
 have H := hid h
 have hlt := h.lt
 have z5 : W.cell? ⟨g, 5, none⟩ = some (.slice Ao os.length co) := h.blk.cells 5
 have z6 : W.cell? ⟨g, 6, none⟩ = some (.int .i64 cur) := h.blk.cells 6
 clear h
 go_enter Try.func130, Try.ntmps130
 go_wp2_with fail
 have S0 : (fun V : World => V.cell? ⟨g, 5, none⟩ = some (.slice Ao os.length co) ∧ V.cell? ⟨g, 6, none⟩ = some (.int .i64 cur)) W.drew := ⟨z5, z6⟩
 refine Last2.region_last [13] (fun V : World => V.cell? ⟨g, 5, none⟩ = some (.slice Ao os.length co) ∧ V.cell? ⟨g, 6, none⟩ = some (.int .i64 cur)) (by kernel_rfl) ?_
 refine tk 0 2 (.pointer (some ⟨g, 0, none⟩)) S0 ?_
 simp only [Act.put, Last2.s]
 refine tk 1 3 (.pointer (some ⟨g, 0, none⟩)) S0 ?_
 simp only [Act.put, Last2.s]
 refine tk 2 4 (.pointer (some ⟨g, 0, none⟩)) S0 ?_
 simp only [Act.put, Last2.s]
 refine tk 3 5 (.pointer (some ⟨g, 5, none⟩)) S0 ?_
 simp only [Act.put, Last2.s]
 refine tk 4 6 (.slice Ao os.length co) S0 ?_
 simp only [Act.put, Last2.s]
 refine tk 5 7 (.pointer (some ⟨g, 0, none⟩)) S0 ?_
 simp only [Act.put, Last2.s]
 refine tk 6 8 (.pointer (some ⟨g, 0, none⟩)) S0 ?_
 simp only [Act.put, Last2.s]
 refine tk 7 9 (.pointer (some ⟨g, 6, none⟩)) S0 ?_
 simp only [Act.put, Last2.s]
 refine tk 8 10 (.int .i64 cur) S0 ?_
 simp only [Act.put, Last2.s]
 refine Last2.last_one (i := 9) (o := { dst := some 11, op := .buildSlice 26 1 #[(0, .tmp 10)], type := _, pos := _, after := _, guard := none }) (by kernel_rfl) rfl rfl (fun K hK => ?_)
 go_simp
 have HA := hid (H.out.below (W' := W.alloc (.cells #[.int .i64 cur] 3)) ((Below.refl _ _).alloc (Nat.le_refl _) _))
 have S1 : (fun V : World => V.cell? ⟨g, 5, none⟩ = some (.slice Ao os.length co) ∧ V.cell? ⟨g, 6, none⟩ = some (.int .i64 cur)) (W.alloc (.cells #[.int .i64 cur] 3)).drew := ⟨HA.out.blk.cells 5, HA.out.blk.cells 6⟩
 refine hK.out _ _ (fun _ => S1) ?_
 clear hK K S0 z5 z6
 try simp only [Act.put, Last2.s]
 have o0 := World.ownsRow.alloc H.out.owners (.cells #[.int .i64 cur] 3)
 have p0 := App.one_own (heap1_0 W (.cells #[.int .i64 cur] 3))
 refine Last2.last_one (i := 10) (o := { dst := some 12, op := .call { callee := .builtin .append, args := #[.tmp 6, .tmp 11], argTypes := #[26, 26] }, type := _, pos := _, after := _, guard := none }) (by kernel_rfl) rfl rfl (fun K hK => ?_)
 refine App.row_wp _ (.tmp 6) (.tmp 11) 26 rfl g 0 3 i0 _ 1 8 Try.underlying26 hi hz0 hz1 hz2 rfl (by decide) _ _ _ rfl o0 _ 1 [.int .i64 cur] rfl p0 (by intro u hu; simp at hu; rcases hu with rfl; rfl) (by unfold maxLen; omega) (by omega) (by show g ≤ (W.alloc _).heap.size; rw [World.size_alloc]; omega) ?_
 intro v1 w1 o1 g1 t1
 have ch : Chg (fun x => (Value.slice Ao os.length co).ownBlock = some x) W w1 := Chg.trans (b := (W.alloc (.cells #[.int .i64 cur] 3)).drew) (Chg.trans (Chg.alloc _ W _) (Chg.drew (fun _ => False) _) (fun _ _ h => h.elim)) (Chg.of_grown g1) (fun x _ hx => hx.symm)
 have b1 := H.out.blk.chg ch H.out.no
 have S2 : (fun V : World => V.cell? ⟨g, 5, none⟩ = some (.slice Ao os.length co) ∧ V.cell? ⟨g, 6, none⟩ = some (.int .i64 cur)) w1 := ⟨b1.cells 5, b1.cells 6⟩
 refine hK.out _ _ (fun _ => S2) ?_
 clear hK K o0 p0 S1
 obtain ⟨A1, c1, rfl⟩ := own_slice o1
 have k5 : w1.cell? ⟨g, 5, none⟩ = some (.slice Ao os.length co) := b1.cells 5
 have f5 : w1.frozen? ⟨g, 5, none⟩ = false := b1.frozen 5
 have O1 := hid o1
 have CH := hid ch
 have SH := hid S2
 clear o1 g1 t1 ch b1 S2 HA
 try simp only [Act.put, Last2.s]
 refine Last2.last_one (i := 11) (o := { dst := some 13, op := .nilCheck (.tmp 2), type := _, pos := _, after := _, guard := none }) (by kernel_rfl) rfl rfl (fun K hK => ?_)
 go_simp
 refine hK.out _ _ (fun _ => SH.out) ?_
 clear hK K
 refine Last2.last_one (i := 12) (o := { dst := some 14, op := .fieldAddr 88 (.tmp 13) 2, type := _, pos := _, after := _, guard := none }) (by kernel_rfl) rfl rfl (fun K hK => ?_)
 go_simp
 refine hK.out _ _ (fun _ => SH.out) ?_
 clear hK K
 refine Last2.last_one (i := 13) (o := { dst := none, op := .store 26 (.tmp 14) (.tmp 12), type := _, pos := _, after := _, guard := none }) (by kernel_rfl) rfl rfl (fun K hK => ?_)
 go_simp
 refine hK.out _ _ (fun h => (h (by decide)).elim) ?_
 clear hK K
 refine Last2.last_done (by kernel_rfl) ?_ _
 go_wp2_with fail
 go_end0
 have ho : OwnI w1 g (.slice A1 (os.length + 1) c1) (os ++ [cur]) := by
  unfold OwnI
  rw [List.length_append, List.length_singleton, cellsI_append]
  exact O1.out
 have hB : Below g W (w1.setCell ⟨g, 5, none⟩ (.slice A1 (os.length + 1) c1)) := ((CH.out.mono (D := fun x => x = g ∨ (Value.slice Ao os.length co).ownBlock = some x) (fun _ _ h => .inr h)).put _ _ (.inr (.inl rfl))).below (Nat.le_of_lt H.out.lt) (fun x hx hc => by
  rcases hc with rfl | hc
  ·omega
  ·have := (World.ownsRow.lt H.out.owners x hc).1
   omega)
 exact ⟨rfl, ⟨_, H.out.putOwn CH.out ho⟩, hB⟩
set_option maxRecDepth 100000 in
theorem begin_any {At : Option Addr} {N ct : Nat} {t : List Tr} {e : Tr} (h : Acc g k v s (.slice At N ct) cv ov cs os cur W) (hr : Rd3 W g At t) (hN : t.length = N) (he : t[os.length]? = some e) (hl : os.length ≤ 100000) (hl2 : cs.length ≤ 100000) :
  Calls Try.prog 127 #[.pointer (some ⟨g, 0, none⟩)] W fun e' W' => ∃ cv' ov', e' = .returned (.tuple #[]) ∧ Acc g k v s (.slice At N ct) cv' ov' (cs ++ [⟨e.2.1, cur, e.1 == 3, 4, 0⟩]) (os ++ [(cs.length : Int)]) cs.length W' ∧ Below g W W' := by
 obtain ⟨i0, hi, hz0, hz1, hz2⟩ := info_parts infoC
 have hnx := hid (next_any h hr hN he)
 have H := hid h
 have hlt := h.lt
 obtain ⟨Ac, cc, rfl⟩ := own_slice h.calls
 obtain ⟨e0, e1, e2⟩ := e
 dsimp only at hnx ⊢
 clear h hr he
 go_enter Try.func127, Try.ntmps127
 go_wp2_with fail
 refine hnx.out.mono ?_
 rintro e' W1 ⟨rfl, b1⟩
 have H1 := hid (H.out.below b1)
 have B1 := hid (b1.mono (Nat.le_of_lt hlt))
 clear b1 H hnx
 go_upto_region 1 with fail
 change (fun V => Code.wp _ _ _ _ V) _
 refine gen_world (X := fun V => Blk V W1.heap.size 103 #[.int .i64 e0, .int .i64 e1, .int .i64 e2] ∧ Below W1.heap.size W1 V) ⟨heap1_0 W1 _, (Below.refl _ _).alloc (Nat.le_refl _) _⟩ ?_
 rintro W2 ⟨x2, b2⟩
 have H2 := hid (H1.out.below b2)
 have B2 := hid (B1.out.trans (b2.mono (Nat.le_of_lt H1.out.lt)))
 have z4 : W2.cell? ⟨g, 4, none⟩ = some (.slice Ac cs.length cc) := H2.out.blk.cells 4
 have z6 : W2.cell? ⟨g, 6, none⟩ = some (.int .i64 cur) := H2.out.blk.cells 6
 have hlt2 := H2.out.lt
 have hgb : g ≤ W1.heap.size := Nat.le_of_lt H1.out.lt
 generalize W1.heap.size = bx at *
 have y0 : W2.cell? ⟨bx, 0, none⟩ = some (.int .i64 e0) := x2.cells 0
 have y1 : W2.cell? ⟨bx, 1, none⟩ = some (.int .i64 e1) := x2.cells 1
 have X2 := hid x2
 clear H1 B1 b2 x2
 have S0 : (fun V : World => V.cell? ⟨g, 4, none⟩ = some (.slice Ac cs.length cc) ∧ V.cell? ⟨g, 6, none⟩ = some (.int .i64 cur) ∧ V.cell? ⟨bx, 0, none⟩ = some (.int .i64 e0) ∧ V.cell? ⟨bx, 1, none⟩ = some (.int .i64 e1)) W2.drew := ⟨z4, z6, y0, y1⟩
 refine Last2.region_last [19] (fun V : World => V.cell? ⟨g, 4, none⟩ = some (.slice Ac cs.length cc) ∧ V.cell? ⟨g, 6, none⟩ = some (.int .i64 cur) ∧ V.cell? ⟨bx, 0, none⟩ = some (.int .i64 e0) ∧ V.cell? ⟨bx, 1, none⟩ = some (.int .i64 e1)) (by kernel_rfl) ?_
 refine tk 0 5 (.pointer (some ⟨g, 0, none⟩)) S0 ?_
 simp only [Act.put, Last2.s]
 refine tk 1 6 (.pointer (some ⟨g, 0, none⟩)) S0 ?_
 simp only [Act.put, Last2.s]
 refine tk 2 7 (.pointer (some ⟨g, 0, none⟩)) S0 ?_
 simp only [Act.put, Last2.s]
 refine tk 3 8 (.pointer (some ⟨g, 4, none⟩)) S0 ?_
 simp only [Act.put, Last2.s]
 refine tk 4 9 (.slice Ac cs.length cc) S0 ?_
 simp only [Act.put, Last2.s]
 refine tk 5 10 (.pointer (some ⟨bx, 1, none⟩)) S0 ?_
 simp only [Act.put, Last2.s]
 refine tk 6 11 (.int .i64 e1) S0 ?_
 simp only [Act.put, Last2.s]
 refine tk 7 12 (.pointer (some ⟨g, 0, none⟩)) S0 ?_
 simp only [Act.put, Last2.s]
 refine tk 8 13 (.pointer (some ⟨g, 0, none⟩)) S0 ?_
 simp only [Act.put, Last2.s]
 refine tk 9 14 (.pointer (some ⟨g, 6, none⟩)) S0 ?_
 simp only [Act.put, Last2.s]
 refine tk 10 15 (.int .i64 cur) S0 ?_
 simp only [Act.put, Last2.s]
 refine tk 11 16 (.pointer (some ⟨bx, 0, none⟩)) S0 ?_
 simp only [Act.put, Last2.s]
 refine tk 12 17 (.int .i64 e0) S0 ?_
 simp only [Act.put, Last2.s]
 refine tk 13 18 (.bool (e0 == 3)) S0 ?_
 simp only [Act.put, Last2.s]
 refine tk 14 19 (.agg #[.int .i64 e1, .int .i64 cur, .bool (e0 == 3), .int .i64 4, .int .i64 0]) S0 ?_
 simp only [Act.put, Last2.s]
 refine Last2.last_one (i := 15) (o := { dst := some 20, op := .buildSlice 47 1 #[(0, .tmp 19)], type := _, pos := _, after := _, guard := none }) (by kernel_rfl) rfl rfl (fun K hK => ?_)
 go_simp
 have HA := hid (H2.out.below (W' := W2.alloc (.cells #[.int .i64 e1, .int .i64 cur, .bool (e0 == 3), .int .i64 4, .int .i64 0] 54)) ((Below.refl _ _).alloc (Nat.le_refl _) _))
 have XA := hid (X2.out.alloc (.cells #[.int .i64 e1, .int .i64 cur, .bool (e0 == 3), .int .i64 4, .int .i64 0] 54))
 have S1 : (fun V : World => V.cell? ⟨g, 4, none⟩ = some (.slice Ac cs.length cc) ∧ V.cell? ⟨g, 6, none⟩ = some (.int .i64 cur) ∧ V.cell? ⟨bx, 0, none⟩ = some (.int .i64 e0) ∧ V.cell? ⟨bx, 1, none⟩ = some (.int .i64 e1)) (W2.alloc (.cells #[.int .i64 e1, .int .i64 cur, .bool (e0 == 3), .int .i64 4, .int .i64 0] 54)).drew := ⟨HA.out.blk.cells 4, HA.out.blk.cells 6, XA.out.cells 0, XA.out.cells 1⟩
 refine hK.out _ _ (fun _ => S1) ?_
 clear hK K S0 z4 z6 y0 y1
 try simp only [Act.put, Last2.s]
 have o0 := World.ownsRow.alloc H2.out.calls (.cells #[.int .i64 e1, .int .i64 cur, .bool (e0 == 3), .int .i64 4, .int .i64 0] 54)
 have p0 := five_own (heap1_0 W2 (.cells #[.int .i64 e1, .int .i64 cur, .bool (e0 == 3), .int .i64 4, .int .i64 0] 54))
 refine Last2.last_one (i := 16) (o := { dst := some 21, op := .call { callee := .builtin .append, args := #[.tmp 9, .tmp 20], argTypes := #[47, 47] }, type := _, pos := _, after := _, guard := none }) (by kernel_rfl) rfl rfl (fun K hK => ?_)
 refine App.row_wp _ (.tmp 9) (.tmp 20) 47 rfl g 0 54 i0 _ 5 40 Try.underlying47 hi hz0 hz1 hz2 rfl (by decide) _ _ _ rfl o0 _ 1 [.int .i64 e1, .int .i64 cur, .bool (e0 == 3), .int .i64 4, .int .i64 0] rfl p0 (by intro u hu; simp at hu; rcases hu with rfl | rfl | rfl | rfl | rfl <;> rfl) (by unfold maxLen; omega) (by omega) (by show g ≤ (W2.alloc _).heap.size; rw [World.size_alloc]; omega) ?_
 intro v1 w1 o1 g1 t1
 have ch : Chg (fun x => (Value.slice Ac cs.length cc).ownBlock = some x) W2 w1 := Chg.trans (b := (W2.alloc (.cells #[.int .i64 e1, .int .i64 cur, .bool (e0 == 3), .int .i64 4, .int .i64 0] 54)).drew) (Chg.trans (Chg.alloc _ W2 _) (Chg.drew (fun _ => False) _) (fun _ _ h => h.elim)) (Chg.of_grown g1) (fun x _ hx => hx.symm)
 have b1 := H2.out.blk.chg ch H2.out.nc
 have x1 := X2.out.chg ch (blk_apart H2.out.calls X2.out (by decide))
 have S2 : (fun V : World => V.cell? ⟨g, 4, none⟩ = some (.slice Ac cs.length cc) ∧ V.cell? ⟨g, 6, none⟩ = some (.int .i64 cur) ∧ V.cell? ⟨bx, 0, none⟩ = some (.int .i64 e0) ∧ V.cell? ⟨bx, 1, none⟩ = some (.int .i64 e1)) w1 := ⟨b1.cells 4, b1.cells 6, x1.cells 0, x1.cells 1⟩
 refine hK.out _ _ (fun _ => S2) ?_
 clear hK K o0 p0 S1
 obtain ⟨A1, c1, rfl⟩ := own_slice o1
 have k4 : w1.cell? ⟨g, 4, none⟩ = some (.slice Ac cs.length cc) := b1.cells 4
 have f4 : w1.frozen? ⟨g, 4, none⟩ = false := b1.frozen 4
 have O1 := hid o1
 have CH := hid ch
 have SH := hid S2
 clear o1 g1 t1 ch b1 S2 HA x1 XA X2
 try simp only [Act.put, Last2.s]
 refine Last2.last_one (i := 17) (o := { dst := some 22, op := .nilCheck (.tmp 5), type := _, pos := _, after := _, guard := none }) (by kernel_rfl) rfl rfl (fun K hK => ?_)
 go_simp
 refine hK.out _ _ (fun _ => SH.out) ?_
 clear hK K
 refine Last2.last_one (i := 18) (o := { dst := some 23, op := .fieldAddr 88 (.tmp 22) 1, type := _, pos := _, after := _, guard := none }) (by kernel_rfl) rfl rfl (fun K hK => ?_)
 go_simp
 refine hK.out _ _ (fun _ => SH.out) ?_
 clear hK K
 refine Last2.last_one (i := 19) (o := { dst := none, op := .store 47 (.tmp 23) (.tmp 21), type := _, pos := _, after := _, guard := none }) (by kernel_rfl) rfl rfl (fun K hK => ?_)
 go_simp
 refine hK.out _ _ (fun h => (h (by decide)).elim) ?_
 clear hK K
 refine Last2.last_done (by kernel_rfl) ?_ _
 have ho : OwnC w1 g (.slice A1 (cs.length + 1) c1) (cs ++ [⟨e1, cur, e0 == 3, 4, 0⟩]) := by
  unfold OwnC
  rw [List.length_append, List.length_singleton, cells5_append]
  exact O1.out
 have hB : Below g W2 (w1.setCell ⟨g, 4, none⟩ (.slice A1 (cs.length + 1) c1)) := ((CH.out.mono (D := fun x => x = g ∨ (Value.slice Ac cs.length cc).ownBlock = some x) (fun _ _ h => .inr h)).put _ _ (.inr (.inl rfl))).below (Nat.le_of_lt H2.out.lt) (fun x hx hc => by
  rcases hc with rfl | hc
  ·omega
  ·have := (World.ownsRow.lt H2.out.calls x hc).1
   omega)
 have H3 := hid (H2.out.putCalls CH.out ho)
 have B3 := hid (B2.out.trans hB)
 clear ho hB O1 CH SH k4 f4 B2 H2
 change (fun V => Exit.then _ _ Exit.normal _ V) _
 refine gen_world (X := fun V => Acc g k v s (.slice At N ct) (.slice A1 (cs.length + 1) c1) ov (cs ++ [⟨e1, cur, e0 == 3, 4, 0⟩]) os cur V ∧ Below g W V) ⟨H3.out, B3.out⟩ ?_
 clear H3 B3
 rintro W3 ⟨h3, b3⟩
 have z4 : W3.cell? ⟨g, 4, none⟩ = some (.slice A1 (cs.length + 1) c1) := h3.blk.cells 4
 have f3 := h3.blk.frozen
 have H3 := hid h3
 have B3 := hid b3
 have z6 : W3.cell? ⟨g, 6, none⟩ = some (.int .i64 cur) := h3.blk.cells 6
 clear h3 b3
 go_wp2_with fail
 refine (own_any (H3.out.putCur _) hl).mono ?_
 rintro e' W4 ⟨ov', rfl, h4, b4⟩
 have hB4 : Below g W3 (W3.setCell ⟨g, 6, none⟩ (.int .i64 (cs.length : Int))) := ((Chg.refl (fun x => x = g) W3).put _ _ (.inr rfl)).below (Nat.le_of_lt H3.out.lt) (fun x hx hc => by omega)
 have H4 := hid h4
 have B4 := hid (B3.out.trans (hB4.trans b4))
 clear h4 b4
 go_wp2_with fail
 go_end0
 first | exact ⟨_, _, rfl, H4.out, B4.out⟩ | exact ⟨rfl, ⟨_, _, H4.out⟩, B4.out⟩ | exact ⟨_, rfl, ⟨_, H4.out⟩, B4.out⟩
set_option maxRecDepth 100000 in
theorem end_any {At : Option Addr} {N ct : Nat} {t : List Tr} {e : Tr} {j : Nat} {c : CI} (h : Acc g k v s (.slice At N ct) cv ov cs os j W) (hr : Rd3 W g At t) (hN : t.length = N) (he : t[os.length]? = some e) (hl : os.length ≤ 100000) (hj : cs[j]? = some c) (hl2 : cs.length ≤ 100000) (kd : Int) :
  Calls Try.prog 129 #[.pointer (some ⟨g, 0, none⟩), .int .i64 kd] W fun e' W' => ∃ cv' ov', e' = .returned (.tuple #[]) ∧ Acc g k v s (.slice At N ct) cv' ov' (cs.set j ⟨c.f, c.par, c.dfr, kd, e.2.2⟩) (os ++ [(j : Int)]) j W' ∧ Below g W W' := by
 obtain ⟨e0, e1, e2⟩ := e
 dsimp only
 have H := hid h
 have hlt := h.lt
 have hjl : j < cs.length := (List.getElem?_eq_some_iff.1 hj).1
 obtain ⟨b, cap, rfl⟩ : ∃ b cap, cv = .slice (some ⟨b, 0, none⟩) cs.length cap := by
  rcases own_form h.calls with ⟨h0, _⟩ | ⟨_, b, cap, rfl, _⟩
  ·omega
  ·exact ⟨b, cap, rfl⟩
 have z4 : W.cell? ⟨g, 4, none⟩ = some (.slice (some ⟨b, 0, none⟩) cs.length cap) := h.blk.cells 4
 have z6 : W.cell? ⟨g, 6, none⟩ = some (.int .i64 j) := h.blk.cells 6
 have HC := hid h.calls
 have HR := hid hr
 have HE := hid he
 have HJ := hid hj
 clear h hr he hj
 go_enter Try.func129, Try.ntmps129
 go_wp2_with fail
 go_region
 all_goals
  change (fun V => Exit.then _ _ Exit.normal _ V) _
  refine gen_world (X := fun V => Acc g k v s (.slice At N ct) (.slice (some ⟨b, 0, none⟩) cs.length cap) ov cs os j V ∧ Below W.heap.size W V) ⟨H.out.below ((Below.refl _ _).drew), (Below.refl _ _).drew⟩ ?_
  clear H HC z4 z6
  rintro V ⟨h1, b1⟩
  obtain ⟨q0, q1, q2, q3, q4⟩ := own_cell5 h1.calls HJ.out
  have fz := h1.calls.frozenAt
  have H1 := hid (h1.putCall (c' := ⟨c.f, c.par, c.dfr, kd, c.val⟩) (u := .int .i64 kd) (o := 3) HJ.out (by decide) rfl)
  have hB1 : Below g V (V.setCell ⟨b, j * 5 + 3, none⟩ (.int .i64 kd)) := ((Chg.refl (fun x => x = b) V).put _ _ (.inr rfl)).below (Nat.le_of_lt h1.lt) (fun x hx hc => by have := (World.ownsRow.lt h1.calls b rfl).1; omega)
  have B1 := hid ((b1.mono (Nat.le_of_lt hlt)).trans hB1)
  have HR1 := hid ((HR.out.below (b1.mono (Nat.le_of_lt hlt))).below hB1)
  clear h1 b1 hB1 HR
  go_upto_region 2 with fail
  change (fun V => Code.wp _ _ _ _ V) _
  refine gen_world (X := fun V => Acc g k v s (.slice At N ct) (.slice (some ⟨b, 0, none⟩) (cs.set j ⟨c.f, c.par, c.dfr, kd, c.val⟩).length cap) ov (cs.set j ⟨c.f, c.par, c.dfr, kd, c.val⟩) os j V ∧ Below g W V ∧ Rd3 V g At t) ⟨by rw [List.length_set]; exact H1.out, B1.out, HR1.out⟩ ?_
  clear H1 B1 HR1 q0 q1 q2 q3 q4 fz
  rintro W2 ⟨h2, b2, r2⟩
  have HJ2 := hid (show (cs.set j ⟨c.f, c.par, c.dfr, kd, c.val⟩)[j]? = some ⟨c.f, c.par, c.dfr, kd, c.val⟩ from List.getElem?_set_self hjl)
  have hnx := hid (next_any h2 r2 hN HE.out)
  have hss : (cs.set j ⟨c.f, c.par, c.dfr, kd, c.val⟩).set j ⟨c.f, c.par, c.dfr, kd, e2⟩ = cs.set j ⟨c.f, c.par, c.dfr, kd, e2⟩ := List.set_set _
  have HSS := hid hss
  generalize cs.set j ⟨c.f, c.par, c.dfr, kd, c.val⟩ = cs2 at *
  have H2 := hid h2
  have B2 := hid b2
  clear h2 b2 r2 hss
  go_wp2_with fail
  refine hnx.out.mono ?_
  rintro e' W3 ⟨rfl, b3⟩
  have h3 := H2.out.below b3
  obtain ⟨q0, q1, q2, q3, q4⟩ := own_cell5 h3.calls HJ2.out
  have fz := h3.calls.frozenAt
  have H3 := hid (h3.putCall (c' := ⟨c.f, c.par, c.dfr, kd, e2⟩) (u := .int .i64 e2) (o := 4) HJ2.out (by decide) rfl)
  have hB3 : Below g W3 (W3.setCell ⟨b, j * 5 + 4, none⟩ (.int .i64 e2)) := ((Chg.refl (fun x => x = b) W3).put _ _ (.inr rfl)).below (Nat.le_of_lt h3.lt) (fun x hx hc => by have := (World.ownsRow.lt h3.calls b rfl).1; omega)
  have B3 := hid ((B2.out.trans (b3.mono (Nat.le_of_lt H2.out.lt))).trans hB3)
  clear h3 b3 hB3 H2 hnx B2
  have HS3 := hid (HSS.out ▸ H3.out)
  have hfld := ev_field2 e0 e1 e2
  clear H3
  go_wp2_with fail
  refine (own_any HS3.out hl).mono ?_
  rintro e' W5 ⟨ov', rfl, h5, b5⟩
  have H5 := hid h5
  have B5 := hid (B3.out.trans b5)
  clear h5 b5
  go_wp2_with fail
  go_end0
  first | exact ⟨_, _, rfl, H5.out, B5.out⟩ | exact ⟨rfl, ⟨_, _, H5.out⟩, B5.out⟩ | exact ⟨_, rfl, ⟨_, H5.out⟩, B5.out⟩
end
end Go.Proofs.Ytikdcnlbjpabjab.AccP
