import Derived.Test.YtdmcgkcpclepfaaMem
set_option linter.all false
namespace Go.Proofs.Ytdmcgkcpclepfaa.To
open Lib (hid)
open Go.ChangeShapes Go.WideShapes Go.ChangeAt Go.RowKit
open PL Mem
theorem toStep_any (k a b : Int) (w : World) :
  Calls Try.prog 134 #[.agg #[.int .i64 k, .int .i64 a, .int .i64 b]] w fun e w' => e = .returned (.agg #[.int .i64 k, .int .i64 a, .int .i64 b]) ∧ Below w.heap.size w w' := by
 go_enter Try.func134, Try.ntmps134
 go_wp2
 exact bodyPost_ret (v := .agg #[.int .i64 k, .int .i64 a, .int .i64 b]) (by simp [results, Try.results134, go_sem]) rfl ⟨rfl, (((Below.refl _ _).alloc (Nat.le_refl _) _).alloc (by simp) _).alloc (by simp; omega) _⟩
theorem own_cell3 {w : World} {B e n g c : Nat} {xs : List Tr} (h : w.ownsRow B e 3 (.slice (some ⟨g, 0, none⟩) n c) n (cells3 xs)) {j : Nat} (hj : j < n) :
  ∃ u0 u1 u2, w.cell? ⟨g, j * 3, none⟩ = some u0 ∧ w.cell? ⟨g, j * 3 + 1, none⟩ = some u1 ∧ w.cell? ⟨g, j * 3 + 2, none⟩ = some u2 := by
 have hn : xs.length = n := by have := h.1; rw [cells3_length] at this; omega
 obtain ⟨s, hs⟩ : ∃ s, xs[j]? = some s := ⟨_, List.getElem?_eq_getElem (by omega)⟩
 obtain ⟨c0, c1, c2⟩ := cells3_at xs j s hs
 exact ⟨_, _, _, (h.cellAt _ (by omega)).trans c0, (h.cellAt _ (by omega)).trans c1, (h.cellAt _ (by omega)).trans c2⟩
theorem own_set3 {w : World} {B e n g c : Nat} {xs : List Tr} (h : w.ownsRow B e 3 (.slice (some ⟨g, 0, none⟩) n c) n (cells3 xs)) {j : Nat} (hj : j < n) (s : Tr) :
  (((w.setCell ⟨g, j * 3, none⟩ (.int .i64 s.1)).setCell ⟨g, j * 3 + 1, none⟩ (.int .i64 s.2.1)).setCell ⟨g, j * 3 + 2, none⟩ (.int .i64 s.2.2)).ownsRow B e 3 (.slice (some ⟨g, 0, none⟩) n c) n (cells3 (xs.set j s)) := by
 have hn : xs.length = n := by have := h.1; rw [cells3_length] at this; omega
 have := (((h.stored (j * 3) (.int .i64 s.1)).1.stored (j * 3 + 1) (.int .i64 s.2.1)).1.stored (j * 3 + 2) (.int .i64 s.2.2)).1
 rwa [cells3_set xs j s (by omega)] at this
theorem set_prefix {α : Type} (xs : List α) (z s : α) (k n : Nat) (hn : xs.length = n) (hs : xs[k]? = some s) :
  (xs.take k ++ List.replicate (n - k) z).set k s = xs.take (k + 1) ++ List.replicate (n - (k + 1)) z := by
 have hk : k < xs.length := (List.getElem?_eq_some_iff.1 hs).1
 have hl : (xs.take k).length = k := by simp; omega
 rw [List.set_append_right _ _ (by omega), hl, Nat.sub_self, show n - k = n - (k + 1) + 1 by omega, List.replicate_succ, List.set_cons_zero, List.take_add_one, hs]
 simp
theorem toStepS_any (B : Nat) (A : Option Addr) (n c : Nat) (xs : List Tr) (hn : n ≤ 2000000) (hl : xs.length = n) (w : World) (hr : Rd3 w B A xs) (hB : B ≤ w.heap.size) :
  Calls Try.prog 104 #[.slice A n c] w fun e w' => e = .returned (.slice (some ⟨w.heap.size, 0, none⟩) n n) ∧
   w'.ownsRow w.heap.size 58 3 (.slice (some ⟨w.heap.size, 0, none⟩) n n) n (cells3 xs) ∧ Below w.heap.size w w' := by
 obtain ⟨i0, hi, hz0, hz1, hz2⟩ := info_parts infoStep
 have hmk := fun W => run_make_rowN (P := Try.prog) 59 58 i0 _ Try.underlying59 hi hz0 .i64 .i64 n n (Nat.le_refl _) (by rw [hz2]; omega) (by omega) W
 have hR := hid hr
 have hL := hid hl
 clear hi hz0 hz2 hr hl
 rw [hz1] at hmk
 go_enter Try.func104, Try.ntmps104
 go_wp2
 go_loopw [4] (fun i wr => ∃ k : Nat, k ≤ n ∧ i = .int .i64 k ∧ wr.ownsRow w.heap.size 58 3 (.slice (some ⟨w.heap.size, 0, none⟩) n n) n (cells3 (xs.take k ++ List.replicate (n - k) (0, 0, 0))) ∧ Below w.heap.size w wr) (fun i _ => n - (intOf i).toNat)
 case atStart =>
  refine ⟨0, Nat.zero_le _, rfl, ?_, (Below.refl _ _).alloc (Nat.le_refl _) _⟩
  have := World.ownsRow_lit (base := w.heap.size) (e := 58) (size := 3) w (madeCells #[Value.int .i64 0, Value.int .i64 0, Value.int .i64 0] (n * 3)) n (Nat.le_refl _) (by unfold maxLen; omega) (size_madeCells _ _)
  rw [made3] at this
  simpa using this
 case round =>
  obtain ⟨k, hk, rfl, hown, hb⟩ := hrel
  by_cases hlt : k < n
  ·obtain ⟨⟨s0, s1, s2⟩, hs⟩ : ∃ s, xs[k]? = some s := ⟨_, List.getElem?_eq_getElem (by rw [hL.out]; exact hlt)⟩
   obtain ⟨ad, rfl, hab, h0, h1, h2⟩ := (hR.out.below (hb.mono hB)) k _ hs
   have hS := hid hs
   have hO := hid hown
   have hsz := hb.size
   clear hs hown
   dsimp only at h0 h1 h2
   go_wp2_with (go_at_call 134; refine (toStep_any _ _ _ _).mono ?_; rintro e w1 ⟨rfl, hb1⟩; obtain ⟨u0, u1, u2, g0, g1, g2⟩ := own_cell3 (own_below hO.out hb1 (Nat.le_refl _)) hlt; have f := (own_below hO.out hb1 (Nat.le_refl _)).frozenAt)
   go_roundw
   case rel =>
    refine ⟨k + 1, by omega, by go_num, ?_, ?_⟩
    ·rw [← set_prefix xs (0, 0, 0) (s0, s1, s2) k n hL.out hS.out]
     exact own_set3 (own_below hO.out hb1 (Nat.le_refl _)) hlt (s0, s1, s2)
    ·exact (((hb.trans (hb1.mono hsz)).setCell (p := ⟨w.heap.size, k * 3, none⟩) (Nat.le_refl _) _).setCell (p := ⟨w.heap.size, k * 3 + 1, none⟩) (Nat.le_refl _) _).setCell (p := ⟨w.heap.size, k * 3 + 2, none⟩) (Nat.le_refl _) _
   case measure => simp [intOf]; omega
  ·obtain rfl : k = n := by omega
   have hO := hid hown
   clear hown
   go_wp2
   go_ret
   refine ⟨rfl, ?_, hb⟩
   have := hO.out
   rwa [List.take_of_length_le (by rw [hL.out]; omega), Nat.sub_self, List.replicate_zero, List.append_nil] at this
def RowsAt (w : World) (lo k : Nat) (vals : List Value) (p : Pg) : Prop :=
 vals.length = k ∧ (∀ (i : Nat) (xs : List Tr), i < k → p[i]? = some xs → ∃ u, vals[i]? = some u ∧ w.ownsRow lo 58 3 u xs.length (cells3 xs)) ∧
  (∀ (i : Nat) (u : Value) (h : Nat), vals[i]? = some u → u.ownBlock = some h → h < w.heap.size) ∧
  ∀ (i j : Nat) (u u' : Value) (h : Nat), vals[i]? = some u → vals[j]? = some u' → u.ownBlock = some h → u'.ownBlock = some h → i = j
theorem RowsAt.zero (w : World) (lo : Nat) (p : Pg) : RowsAt w lo 0 [] p := ⟨rfl, fun _ _ h => absurd h (by omega), fun i u h hu => by simp at hu, fun i j u u' h hu => by simp at hu⟩
theorem RowsAt.chg {C : Nat → Prop} {w w' : World} {lo k : Nat} {vals : List Value} {p : Pg} (h : RowsAt w lo k vals p) (hb : Chg C w w') (hC : ∀ x, lo ≤ x → x < w.heap.size → ¬ C x) : RowsAt w' lo k vals p := by
 obtain ⟨hl, hr, hs, hd⟩ := h
 refine ⟨hl, fun i xs hi hx => ?_, fun i u x hu hx => Nat.lt_of_lt_of_le (hs i u x hu hx) hb.size, hd⟩
 obtain ⟨u, hu, ho⟩ := hr i xs hi hx
 exact ⟨u, hu, own_chg ho hb (fun x hx => hC x (ho.lt x hx).1 (ho.lt x hx).2)⟩
theorem RowsAt.push {w w' : World} {lo k : Nat} {vals : List Value} {p : Pg} (h : RowsAt w lo k vals p) (hb : Below w.heap.size w w') {xs : List Tr} {u : Value} (hx : p[k]? = some xs)
  (ho : w'.ownsRow lo 58 3 u xs.length (cells3 xs)) (hn : ∀ x, u.ownBlock = some x → w.heap.size ≤ x) : RowsAt w' lo (k + 1) (vals ++ [u]) p := by
 obtain ⟨hl, hr, hs, hd⟩ := h
 have at_ : ∀ (i : Nat) (v : Value), (vals ++ [u])[i]? = some v → (i < k ∧ vals[i]? = some v) ∨ (i = k ∧ v = u) := by
  intro i v hv
  rcases Nat.lt_trichotomy i k with hi | hi | hi
  ·rw [List.getElem?_append_left (by omega)] at hv
   exact .inl ⟨hi, hv⟩
  ·subst hi
   rw [List.getElem?_append_right (by omega), hl, Nat.sub_self] at hv
   exact .inr ⟨rfl, by simpa using hv.symm⟩
  ·rw [List.getElem?_eq_none (by simp; omega)] at hv
   cases hv
 refine ⟨by simp [hl], fun i ys hi hy => ?_, fun i v x hv hvx => ?_, fun i j v v' x hv hv' hx1 hx2 => ?_⟩
 ·rcases Nat.lt_or_ge i k with hik | hik
  ·obtain ⟨v, hv, hov⟩ := hr i ys hik hy
   exact ⟨v, by rw [List.getElem?_append_left (by omega)]; exact hv, own_below hov hb (Nat.le_refl _)⟩
  ·obtain rfl : i = k := by omega
   rw [hx] at hy
   obtain rfl : xs = ys := by simpa using hy
   exact ⟨u, by rw [List.getElem?_append_right (by omega), hl, Nat.sub_self]; rfl, ho⟩
 ·rcases at_ i v hv with ⟨hi, h1⟩ | ⟨rfl, rfl⟩
  ·exact Nat.lt_of_lt_of_le (hs i v x h1 hvx) hb.size
  ·exact (ho.lt x hvx).2
 ·rcases at_ i v hv with ⟨hi, h1⟩ | ⟨rfl, rfl⟩ <;> rcases at_ j v' hv' with ⟨hj, h2⟩ | ⟨rfl, rfl⟩
  ·exact hd i j v v' x h1 h2 hx1 hx2
  ·have := hs i v x h1 hx1; have := hn x hx2; omega
  ·have := hs j v' x h2 hx2; have := hn x hx1; omega
  ·rfl
theorem RowsAt.own {w : World} {lo lo' : Nat} {v : Value} {vals : List Value} {p : Pg} (h : RowsAt w lo p.length vals p) (hlo : lo' ≤ lo) (ho : w.ownsRow lo' 59 1 v p.length vals) : OwnP w lo' v p := by
 obtain ⟨hl, hr, _, hd⟩ := h
 refine ⟨vals, hl, ho, fun i xs hx => ?_, hd⟩
 obtain ⟨u, hu, hou⟩ := hr i xs (List.getElem?_eq_some_iff.1 hx).1 hx
 exact ⟨u, hu, own_mono hou hlo⟩
theorem madeNil (n : Nat) : (madeCells #[Value.slice none 0 0] (n * 1)).toList = List.replicate n (.slice none 0 0) := by
 apply List.ext_getElem?
 intro i
 by_cases h : i < n
 ·simp [madeCells, h, Nat.mod_one]
 ·simp [madeCells, h]
theorem toStepSS_any (B : Nat) (A : Option Addr) (n c : Nat) (p : Pg) (hn : n ≤ 2000000) (hl : p.length = n) (hsm : Small p 2000000) (w : World) (hr : RdP w B A p) (hB : B ≤ w.heap.size) :
  Calls Try.prog 54 #[.slice A n c] w fun e w' => e = .returned (.slice (some ⟨w.heap.size, 0, none⟩) n n) ∧
   OwnP w' w.heap.size (.slice (some ⟨w.heap.size, 0, none⟩) n n) p ∧ Below w.heap.size w w' := by
 obtain ⟨i0, hi, hz0, hz1, hz2⟩ := info_parts infoSteps
 have hmk := fun W => run_make_rowN (P := Try.prog) 29 59 i0 _ Try.underlying29 hi hz0 .i64 .i64 n n (Nat.le_refl _) (by rw [hz2]; omega) (by omega) W
 have hR := hid hr
 have hL := hid hl
 have hS := hid hsm
 clear hi hz0 hz2 hr hl hsm
 rw [hz1] at hmk
 go_enter Try.func54, Try.ntmps54
 go_wp2
 go_loopw [4] (fun i wr => ∃ (k : Nat) (vals : List Value), k ≤ n ∧ i = .int .i64 k ∧ wr.ownsRow w.heap.size 59 1 (.slice (some ⟨w.heap.size, 0, none⟩) n n) n (vals ++ List.replicate (n - k) (.slice none 0 0)) ∧
   RowsAt wr (w.heap.size + 1) k vals p ∧ w.heap.size + 1 ≤ wr.heap.size ∧ Below w.heap.size w wr) (fun i _ => n - (intOf i).toNat)
 case atStart =>
  refine ⟨0, [], Nat.zero_le _, rfl, ?_, RowsAt.zero _ _ _, by simp, (Below.refl _ _).alloc (Nat.le_refl _) _⟩
  have := World.ownsRow_lit (base := w.heap.size) (e := 59) (size := 1) w (madeCells #[Value.slice none 0 0] (n * 1)) n (Nat.le_refl _) (by unfold maxLen; omega) (size_madeCells _ _)
  rw [madeNil] at this
  simpa using this
 case round =>
  obtain ⟨k, vals, hk, rfl, hown, hrows, hsz, hb⟩ := hrel
  by_cases hlt : k < n
  ·obtain ⟨xs, hs⟩ : ∃ s, p[k]? = some s := ⟨_, List.getElem?_eq_getElem (by rw [hL.out]; exact hlt)⟩
   obtain ⟨ad, Ai, ci, rfl, hab, h0, h1⟩ := (hR.out.below (hb.mono hB)) k _ hs
   have hH := hid hs
   have hO := hid hown
   have hW := hid hrows
   have hxn := hS.out k xs hs
   clear hs hown hrows
   go_wp2_with fail
   refine (toStepS_any B Ai xs.length ci xs hxn rfl _ h1 (by omega)).mono ?_
   rintro e w1 ⟨rfl, ho1, hb1⟩
   have c1 := ((own_below hO.out hb1 (Nat.le_refl _)).cellAt k (by omega))
   have f1 := (own_below hO.out hb1 (Nat.le_refl _)).frozenAt k
   have hget : (vals ++ List.replicate (n - k) (Value.slice none 0 0))[k]? = some (.slice none 0 0) := by
    rw [List.getElem?_append_right (by rw [hW.out.1]; omega), hW.out.1, Nat.sub_self, show n - k = n - (k + 1) + 1 by omega, List.replicate_succ]; rfl
   rw [hget] at c1
   have O1 := hid ho1
   clear ho1 hget
   go_wp2_with fail
   go_roundw
   case rel =>
    have hset : (vals ++ List.replicate (n - k) (Value.slice none 0 0)).set k (.slice (some ⟨wr.heap.size, 0, none⟩) xs.length xs.length) = (vals ++ [.slice (some ⟨wr.heap.size, 0, none⟩) xs.length xs.length]) ++ List.replicate (n - (k + 1)) (.slice none 0 0) := by
     rw [List.set_append_right _ _ (by rw [hW.out.1]; omega), hW.out.1, Nat.sub_self, show n - k = n - (k + 1) + 1 by omega, List.replicate_succ, List.set_cons_zero]; simp
    have st := ((own_below hO.out hb1 (Nat.le_refl _)).stored k (.slice (some ⟨wr.heap.size, 0, none⟩) xs.length xs.length)).1
    rw [hset] at st
    refine ⟨k + 1, _, by omega, by go_num, st, ?_, ?_, ?_⟩
    ·have := (hW.out.push hb1 hH.out (own_mono O1.out (by omega)) (fun x hx => by simp [Value.ownBlock] at hx; omega))
     exact this.chg (Chg.set _ _ _) (fun x hx _ => by show ¬ x = w.heap.size; omega)
    ·have := hb1.size; simp [World.setCell]; omega
    ·exact (hb.trans (hb1.mono (by omega))).setCell (p := ⟨w.heap.size, k, none⟩) (Nat.le_refl _) _
   case measure => simp [intOf]; omega
  ·obtain rfl : k = n := by omega
   have hO := hid hown
   have hW := hid hrows
   clear hown hrows
   go_wp2
   go_ret
   refine ⟨rfl, ?_, hb⟩
   have hO' := hO.out
   have hW' := hW.out
   rw [Nat.sub_self, List.replicate_zero, List.append_nil] at hO'
   rw [← hL.out] at hO' hW' ⊢
   exact hW'.own (by omega) hO'
theorem toProgram_any (B : Nat) (A : Option Addr) (n c : Nat) (p : Pg) (hn : n ≤ 2000000) (hl : p.length = n) (hsm : Small p 2000000) (w : World) (hr : RdP w B A p) (hB : B ≤ w.heap.size) :
  Calls Try.prog 17 #[.agg #[.slice A n c]] w fun e w' => ∃ g, e = .returned (.agg #[.slice (some ⟨g, 0, none⟩) n n]) ∧
   OwnP w' w.heap.size (.slice (some ⟨g, 0, none⟩) n n) p ∧ Below w.heap.size w w' := by
 have hR := hid hr
 have hL := hid hl
 have hS := hid hsm
 clear hr hl hsm
 go_enter Try.func17, Try.ntmps17
 go_wp2_with fail
 refine (toStepSS_any B A n c p hn hL.out hS.out _ ((hR.out.below (((Below.refl _ _).alloc hB _).alloc (by simp; omega) _)).below ((Below.refl _ _).alloc (by simp; omega) _)) (by simp; omega)).mono ?_
 rintro e w1 ⟨rfl, ho1, hb1⟩
 have O1 := hid ho1
 have s1 := hb1.size
 have c0 : w1.cell? ⟨w.heap.size + 1 + 1, 0, none⟩ = some (.slice none 0 0) := (hb1.cell (p := ⟨w.heap.size + 1 + 1, 0, none⟩) (by simp)).trans (by simp [go_sem])
 have f0 : w1.frozen? ⟨w.heap.size + 1 + 1, 0, none⟩ = false := (hb1.frozen (p := ⟨w.heap.size + 1 + 1, 0, none⟩) (by simp)).trans (by simp [go_sem])
 have c2 : w1.cell? ⟨w.heap.size + 1, 0, none⟩ = some (.slice none 0 0) := (hb1.cell (p := ⟨w.heap.size + 1, 0, none⟩) (by simp)).trans (by simp [go_sem])
 have f2 : w1.frozen? ⟨w.heap.size + 1, 0, none⟩ = false := (hb1.frozen (p := ⟨w.heap.size + 1, 0, none⟩) (by simp)).trans (by simp [go_sem])
 clear ho1
 go_wp2_with fail
 refine bodyPost_ret (v := .agg #[.slice (some ⟨w.heap.size + 1 + 1 + 1, 0, none⟩) n n]) (by simp [results, Try.results17, go_sem, c2]) rfl ⟨_, rfl, ?_, ?_⟩
 ·have o := O1.out
  simp only [World.size_alloc] at o
  exact ((o.chg (Chg.set _ ⟨w.heap.size + 1 + 1, 0, none⟩ _) (fun k hk _ => by show ¬ k = w.heap.size + 1 + 1; omega)).chg (Chg.set _ ⟨w.heap.size + 1, 0, none⟩ _) (fun k hk _ => by show ¬ k = w.heap.size + 1; omega)).mono (by omega)
 ·exact (((((Below.refl w.heap.size w).alloc (Nat.le_refl _) _).alloc (by simp) _).alloc (by simp; omega) _).trans (hb1.mono (by simp; omega))).setCell (p := ⟨w.heap.size + 1 + 1, 0, none⟩) (by show w.heap.size ≤ w.heap.size + 1 + 1; omega) _ |>.setCell (p := ⟨w.heap.size + 1, 0, none⟩) (by show w.heap.size ≤ w.heap.size + 1; omega) _
end Go.Proofs.Ytdmcgkcpclepfaa.To
-- squeezed
