import Derived.Test.YtdmcgkcpclepfaaRno
import Derived.Test.YtdmcgkcpclepfaaNur
set_option linter.all false
namespace Go.Proofs.Ytdmcgkcpclepfaa.Rni
open Lib (hid)
open Go.ChangeShapes Go.WideShapes Go.ChangeAt Go.RowKit
open PL Mem Srun Sst To StpS MarkP OwnS Res Prg PrgS IntsP SlotP DeferP DropI CalP ReaP SetM SortP Nup Nus Nur Krp Rnp Rno
def usU (vals : List Value) (tn : List Int) (n : Nat) : Nat → List Value
 | 0 => List.replicate n (.slice none 0 0)
 | k + 1 => match tn[k]?, vals[k]? with
  | some t, some u => (usU vals tn n k).set t.toNat u
  | _, _ => usU vals tn n k
theorem usU_next {vals : List Value} {tn : List Int} {n k : Nat} {t : Int} {u : Value} (h1 : tn[k]? = some t) (h2 : vals[k]? = some u) : usU vals tn n (k + 1) = (usU vals tn n k).set t.toNat u := by rw [usU, h1, h2]
theorem usU_len (vals : List Value) (tn : List Int) (n : Nat) : ∀ k, (usU vals tn n k).length = n
 | 0 => by simp [usU]
 | k + 1 => by
  have ih := usU_len vals tn n k
  rw [usU]
  split
  ·rw [List.length_set]; exact ih
  ·exact ih
theorem us_num {vals : List Value} {p : Pg} {tn : List Int} {n : Nat} (hp : p.length = n) (hv : vals.length = n) (ht : tn.length = n) (hr : ∀ (i : Nat) (t : Int), tn[i]? = some t → 0 ≤ t ∧ t < n) (i : Nat) (hi : i < n) : ∀ k, k ≤ n →
  (∃ (j : Nat) (u : Value) (xs : List Tr), j < k ∧ tn[j]? = some (i : Int) ∧ vals[j]? = some u ∧ p[j]? = some xs ∧ (usU vals tn n k)[i]? = some u ∧ (numU p tn n k)[i]? = some (numB tn xs)) ∨ ((usU vals tn n k)[i]? = some (.slice none 0 0) ∧ (numU p tn n k)[i]? = some [])
 | 0, _ => .inr ⟨by rw [usU, List.getElem?_replicate, if_pos hi], by rw [numU, List.getElem?_replicate, if_pos hi]⟩
 | k + 1, hk => by
  have ih := us_num hp hv ht hr i hi k (by omega)
  have h1 := List.getElem?_eq_getElem (show k < tn.length by omega)
  have h2 := List.getElem?_eq_getElem (show k < vals.length by omega)
  have h3 := List.getElem?_eq_getElem (show k < p.length by omega)
  generalize tn[k] = t at *
  generalize vals[k] = u at *
  generalize p[k] = xs at *
  obtain ⟨t0, t1⟩ := hr k t h1
  rw [usU_next h1 h2, numU_yes h1 t0 h3]
  by_cases hti : t.toNat = i
  ·refine .inl ⟨k, u, xs, by omega, by rw [h1]; congr 1; omega, h2, h3, ?_, ?_⟩
   ·rw [hti, List.getElem?_set_self (by rw [usU_len]; exact hi)]
   ·rw [hti, List.getElem?_set_self (by rw [numU_len]; exact hi)]
  ·rw [List.getElem?_set_ne hti, List.getElem?_set_ne hti]
   rcases ih with ⟨j, u', xs', hj, a, b, c, d, e⟩ | h
   ·exact .inl ⟨j, u', xs', by omega, a, b, c, d, e⟩
   ·exact .inr h
structure RW (w : World) (gf lo n : Nat) (Ac : Option Addr) (cc : Nat) (p : Pg) (tn : List Int) (vals : List Value) (k : Nat) (wr : World) : Prop where
 cop : wr.ownsRow lo 59 1 (.slice Ac n cc) n vals
 rows : ∀ (i : Nat) (xs : List Tr), p[i]? = some xs → ∃ u, vals[i]? = some u ∧ wr.ownsRow lo 58 3 u xs.length (cells3 (if i < k then numB tn xs else xs))
 fns : wr.ownsRow gf 59 1 (.slice (some ⟨gf, 0, none⟩) n n) n (usU vals tn n k)
 bel : Below w.heap.size w wr
 siz : lo ≤ wr.heap.size
theorem numB_len (tn : List Int) (xs : List Tr) : (numB tn xs).length = xs.length := by unfold numB; rw [List.length_map]
theorem RW.next {w : World} {gf lo n : Nat} {Ac : Option Addr} {cc : Nat} {p : Pg} {tn : List Int} {vals : List Value} {k : Nat} {V W : World} {u : Value} {xs : List Tr} {t : Nat} (h : RW w gf lo n Ac cc p tn vals k V) (hgl : gf < lo) (hwg : w.heap.size ≤ gf)
  (hd : ∀ (i j : Nat) (u u' : Value) (x : Nat), vals[i]? = some u → vals[j]? = some u' → u.ownBlock = some x → u'.ownBlock = some x → i = j)
  (hp : p[k]? = some xs) (hu : vals[k]? = some u) (ht : tn[k]? = some (t : Int)) (ho : W.ownsRow lo 58 3 u xs.length (cells3 (numB tn xs))) (ch : Chg (fun b => u.ownBlock = some b) V W) :
  RW w gf lo n Ac cc p tn vals (k + 1) (W.setCell ⟨gf, t, none⟩ u) := by
 obtain ⟨u2, hu2, hrow⟩ := h.rows k xs hp
 obtain rfl : u = u2 := by rw [hu] at hu2; exact Option.some.inj hu2
 have hlo : ∀ x, u.ownBlock = some x → lo ≤ x := fun x hx => (World.ownsRow.lt hrow x hx).1
 have c1 : W.ownsRow lo 59 1 (.slice Ac n cc) n vals := own_chg h.cop ch (fun x hx hc => App.own_ne h.cop hrow (by decide) hx hc)
 have f1 : W.ownsRow gf 59 1 (.slice (some ⟨gf, 0, none⟩) n n) n (usU vals tn n k) := own_chg h.fns ch (fun x hx hc => by have h1 := hlo x hc; have h2 : gf = x := (by simpa [Value.ownBlock] using hx); omega)
 refine ⟨own_far c1 _ _ (fun e => by have := (World.ownsRow.lt c1 gf e).1; omega), fun i ys hy => ?_, ?_, ?_, ?_⟩
 ·by_cases hik : i = k
  ·subst hik
   obtain rfl : xs = ys := by rw [hp] at hy; exact Option.some.inj hy
   refine ⟨u, hu, ?_⟩
   rw [if_pos (by omega)]
   exact own_far ho _ _ (fun e => by have := hlo gf e; omega)
  ·obtain ⟨v, hv, hrv⟩ := h.rows i ys hy
   refine ⟨v, hv, ?_⟩
   have e : (i < k + 1) = (i < k) := by rw [eq_iff_iff]; omega
   simp only [e]
   have r1 := own_chg hrv ch (fun x hx hc => hik (hd i k v u x hv hu hx hc))
   exact own_far r1 _ _ (fun e => by have := (World.ownsRow.lt r1 gf e).1; omega)
 ·have := (f1.stored t u).1
  rw [usU_next ht hu, Int.toNat_natCast]
  exact this
 ·exact (h.bel.trans (ch.below h.bel.size (fun x hx hc => by have := hlo x hc; omega))).setCell (p := ⟨gf, t, none⟩) hwg _
 ·have := ch.size
  have := h.siz
  simp only [World.setCell]
  first | (simp; omega) | omega
theorem RW.own {w : World} {gf lo n : Nat} {Ac : Option Addr} {cc : Nat} {p : Pg} {tn : List Int} {vals : List Value} {V : World} (h : RW w gf lo n Ac cc p tn vals n V) (hgl : gf < lo) (hp : p.length = n) (hv : vals.length = n) (ht : tn.length = n)
  (hr : ∀ (i : Nat) (t : Int), tn[i]? = some t → 0 ≤ t ∧ t < n) (hd : ∀ (i j : Nat) (u u' : Value) (x : Nat), vals[i]? = some u → vals[j]? = some u' → u.ownBlock = some x → u'.ownBlock = some x → i = j) :
  OwnP V gf (.slice (some ⟨gf, 0, none⟩) n n) (numU p tn n n) := by
 refine ⟨usU vals tn n n, by rw [usU_len, numU_len], by rw [numU_len]; exact h.fns, fun i xs hx => ?_, fun i i' u u' x hu hu' hx hx' => ?_⟩
 ·have hi := (List.getElem?_eq_some_iff.1 hx).1
  rw [numU_len] at hi
  rcases us_num hp hv ht hr i hi n (Nat.le_refl _) with ⟨j, u, ys, hj, a, b, c, d, e⟩ | ⟨d, e⟩
  ·rw [e] at hx
   obtain rfl := Option.some.inj hx
   obtain ⟨u2, hu2, hrow⟩ := h.rows j ys c
   obtain rfl : u = u2 := by rw [b] at hu2; exact Option.some.inj hu2
   rw [if_pos (by omega)] at hrow
   exact ⟨u, d, by rw [numB_len]; exact own_mono hrow (by omega)⟩
  ·rw [e] at hx
   obtain rfl := Option.some.inj hx
   exact ⟨_, d, rfl, .inl ⟨rfl, rfl⟩⟩
 ·have hi := (List.getElem?_eq_some_iff.1 hu).1
  have hi' := (List.getElem?_eq_some_iff.1 hu').1
  rw [usU_len] at hi hi'
  rcases us_num hp hv ht hr i hi n (Nat.le_refl _) with ⟨j, v, ys, hj, a, b, c, d, e⟩ | ⟨d, e⟩
  ·rcases us_num hp hv ht hr i' hi' n (Nat.le_refl _) with ⟨j', v', ys', hj', a', b', c', d', e'⟩ | ⟨d', e'⟩
   ·rw [d] at hu
    rw [d'] at hu'
    obtain rfl := Option.some.inj hu
    obtain rfl := Option.some.inj hu'
    obtain rfl := hd j j' v v' x b b' hx hx'
    rw [a] at a'
    have := Option.some.inj a'
    omega
   ·rw [d'] at hu'
    obtain rfl := Option.some.inj hu'
    cases hx'
  ·rw [d] at hu
   obtain rfl := Option.some.inj hu
   cases hx
theorem prog_field0 (v : Value) (w : World) : (Instr.field 31 (.agg #[v]) 0).run Try.prog w = .ok v w := by kernel_rfl
set_option maxHeartbeats 8000000 in
set_option maxRecDepth 100000 in
theorem renI_any (lo n c N ct : Nat) (A At : Option Addr) (p : Pg) (tn : List Int) (hn : n ≤ 2000000) (hl : p.length = n) (hsm : Small p 2000000) (hto : tn.length = N) (hN : N ≤ 2000000) (w : World) (ho : OwnP w lo (.slice A n c) p) (hrt : RdI w w.heap.size At tn)
  (hord : ∀ W, Below w.heap.size w W → n ≤ 6 → Calls Try.prog 79 #[.slice At N ct, .int .i64 n] W fun e w' => e = .returned (.bool (ordB tn n)) ∧ Below W.heap.size W w') :
  Calls Try.prog 35 #[.agg #[.slice A n c], .slice At N ct] w (ProgR (renR p tn) w) := by
 have hF := hid (fun w hr hB => isProgram_any w.heap.size A n c p (by omega) hl (hsm.mono (by omega)) w hr hB)
 have hO := hid ho
 have HRT := hid (fun (V : World) (b : Below w.heap.size w V) => (show RdI V w.heap.size At tn from hrt.below b))
 clear ho hrt
 cases hok : okProg p with
 | false =>
  have hs := hid (renR_no (p := p) (tn := tn) (by rw [hok]; rfl))
  rw [hok] at hF
  clear hok hl hsm hto hord
  go_enter Try.func35, Try.ntmps35
  go_wp2_with fail
  refine (hF.out _ (hO.out.below (two_below n c A w)).rd (Nat.le_refl _)).mono ?_
  rintro e w1 ⟨rfl, b1⟩
  obtain ⟨d0, d1, bb1, s1⟩ := two_facts b1
  have z0 : w1.cell? ⟨w.heap.size, 0, none⟩ = some (.slice A n c) := d0.cells 0
  have z1 : w1.cell? ⟨w.heap.size + 1, 0, none⟩ = some (.slice none 0 0) := d1.cells 0
  have f1 := d1.frozen 0
  clear d0 d1 b1
  go_wp2_with fail
  exact bodyPost_ret (v := .tuple #[.agg #[.slice none 0 0], .bool false]) (by simp [results, Try.results35, go_sem, z1]) rfl (by rw [hs.out]; exact ⟨none, 0, rfl, own_nil _ _, bb1.setCell (by show w.heap.size ≤ w.heap.size + 1; omega) _⟩)
 | true =>
  rw [hok] at hF
  obtain ⟨hn1, hn6, hsm8⟩ := okProg_parts hok
  rw [hl] at hn1 hn6
  have HOR := hid (fun W b => hord W b hn6)
  cases hor : ordB tn n with
  | false =>
   have hs := hid (renR_no (p := p) (tn := tn) (by rw [hok, hl, hor]; rfl))
   rw [hor] at HOR
   clear hok hl hsm hto hor hn1 hn6 hsm8 hord
   go_enter Try.func35, Try.ntmps35
   go_wp2_with fail
   refine (hF.out _ (hO.out.below (two_below n c A w)).rd (Nat.le_refl _)).mono ?_
   rintro e w1 ⟨rfl, b1⟩
   obtain ⟨d0, d1, bb1, s1⟩ := two_facts b1
   have z0 : w1.cell? ⟨w.heap.size, 0, none⟩ = some (.slice A n c) := d0.cells 0
   clear b1 d0
   go_wp2_with fail
   refine (HOR.out _ bb1).mono ?_
   rintro e w3 ⟨rfl, b3⟩
   have e1 := d1.below b3 d1.lt
   have z1 : w3.cell? ⟨w.heap.size + 1, 0, none⟩ = some (.slice none 0 0) := e1.cells 0
   have f1 := e1.frozen 0
   have bb3 : Below w.heap.size w w3 := bb1.trans (b3.mono bb1.size)
   clear d1 e1 b3 z0
   go_wp2_with fail
   exact bodyPost_ret (v := .tuple #[.agg #[.slice none 0 0], .bool false]) (by simp [results, Try.results35, go_sem, z1]) rfl (by rw [hs.out]; exact ⟨none, 0, rfl, own_nil _ _, bb3.setCell (by show w.heap.size ≤ w.heap.size + 1; omega) _⟩)
  | true =>
   have hs := hid (renR_yes hok hl hor)
   obtain ⟨ho1, ho2, ho3⟩ := ordB_iff.1 hor
   obtain rfl : N = n := by omega
   have HLN := hid (numU_len p tn N N)
   have HRG : Hid (∀ (i : Nat) (t : Int), tn[i]? = some t → 0 ≤ t ∧ t < N) := hid (fun i t h => ho3 t (List.mem_of_getElem? h))
   have HTO := hid hto
   have HPL := hid hl
   have HST := hid (fun (i : Nat) (xs : List Tr) (h : p[i]? = some xs) => (show xs.length ≤ 8 ∧ ∀ (k : Nat) (s : Tr), xs[k]? = some s → s.1 = 4 ∨ s.1 = 5 → 0 ≤ s.2.1 ∧ s.2.1 < N from by
    refine ⟨okProg_row hok h, fun k s hs hk => ?_⟩
    have h3 := okProg_step hok h (List.mem_of_getElem? hs)
    unfold okStep at h3
    rw [if_neg (by omega), if_neg (by omega), if_pos hk, Bool.and_eq_true, Bool.and_eq_true, decide_eq_true_eq, decide_eq_true_eq] at h3
    exact ⟨h3.1.1, by omega⟩))
   have HCP := hid (fun (W : World) (b : Below w.heap.size w W) => CopyP.copyProgram_any lo N c A p (by omega) hl (fun i xs h => Nat.le_trans (hsm8 i xs h).1 (by omega)) W (hO.out.below b))
   rw [hor] at HOR
   obtain ⟨i1, hj, hy0, hy1, hy2⟩ := info_parts infoSteps
   have hmkF := fun W => run_make_rowN (P := Try.prog) 29 59 i1 _ Try.underlying29 hj hy0 .i64 .i64 N N (Nat.le_refl _) (by rw [hy2]; omega) (by omega) W
   rw [hy1] at hmkF
   clear hok hl hsm hto hor hsm8 ho1 ho2 ho3 hord hj hy0 hy2
   go_enter Try.func35, Try.ntmps35
   go_wp2_with fail
   refine (hF.out _ (hO.out.below (two_below N c A w)).rd (Nat.le_refl _)).mono ?_
   rintro e w1 ⟨rfl, b1⟩
   obtain ⟨d0, d1, bb1, s1⟩ := two_facts b1
   have z0 : w1.cell? ⟨w.heap.size, 0, none⟩ = some (.slice A N c) := d0.cells 0
   clear b1
   go_wp2_with fail
   refine (HOR.out _ bb1).mono ?_
   rintro e w3 ⟨rfl, b3⟩
   have E0 := hid (d0.below b3 d0.lt)
   have E1 := hid (d1.below b3 d1.lt)
   have z0 : w3.cell? ⟨w.heap.size, 0, none⟩ = some (.slice A N c) := (d0.below b3 d0.lt).cells 0
   have BB3 := hid (bb1.trans (b3.mono bb1.size))
   clear d1 d0 b3 bb1 s1
   go_upto_region 4 with fail
   change (fun V => Code.wp _ _ _ _ V) _
   refine gen_world (X := fun V => V.ownsRow w3.heap.size 59 1 (.slice (some ⟨w3.heap.size, 0, none⟩) N N) N (List.replicate N (.slice none 0 0)) ∧ Below w3.heap.size w3 V ∧ w3.heap.size < V.heap.size) ⟨?mk, (Below.refl _ _).alloc (Nat.le_refl _) _, by simp⟩ ?_
   case mk =>
    have := World.ownsRow_lit (base := w3.heap.size) (e := 59) (size := 1) w3 (madeCells #[Value.slice none 0 0] (N * 1)) N (Nat.le_refl _) (by unfold maxLen; omega) (size_madeCells _ _)
    rw [madeNil] at this
    simpa using this
   rintro w4 ⟨o4, b4, l4⟩
   have O4 := hid o4
   have B4 := hid b4
   have F0 := hid (E0.out.below b4 E0.out.lt)
   have F1 := hid (E1.out.below b4 E1.out.lt)
   have z0 : w4.cell? ⟨w.heap.size, 0, none⟩ = some (.slice A N c) := (E0.out.below b4 E0.out.lt).cells 0
   have lg := E1.out.lt
   have bw4 : Below w.heap.size w w4 := BB3.out.trans (b4.mono BB3.out.size)
   have HC4 := hid (HCP.out w4 bw4)
   have BW4 := hid bw4
   unfold OwnS.Res at HC4
   clear o4 b4 bw4 E0 E1 hmkF
   generalize w3.heap.size = gf at *
   go_wp2_with fail
   refine HC4.out.mono ?_
   rintro e w5 ⟨Ac, cc, rfl, o5, b5⟩
   obtain ⟨vals, hvl, hown, hrows, hdist⟩ := o5
   have hvn : vals.length = N := by rw [hvl, HPL.out]
   rw [HPL.out] at hown
   have HVN := hid hvn
   have HD := hid hdist
   have lg5 := b5.size
   have BW5 := hid (BW4.out.trans (b5.mono BW4.out.size))
   have X0 := hid (show RW w gf w4.heap.size N Ac cc p tn vals 0 w5 from ⟨hown, fun i xs h => (hrows i xs h), own_below (B' := w4.heap.size) O4.out b5 (Nat.le_refl _), BW5.out, b5.size⟩)
   have G1 := hid (F1.out.below b5 F1.out.lt)
   clear hvl hvn hown hrows hdist b5 O4 B4 F0 F1 HC4 HCP z0
   have hlg : gf < w4.heap.size := l4
   have pf0 := prog_field0 (.slice Ac N cc)
   have hwg : w.heap.size + 1 < gf := lg
   generalize w4.heap.size = lo4 at *
   go_wp2_with fail
   go_loopw [28] (fun i wr => ∃ k : Nat, k ≤ N ∧ i = .int .i64 k ∧ RW w gf lo4 N Ac cc p tn vals k wr ∧ Blk wr (w.heap.size + 1) 31 #[.slice none 0 0]) (fun i _ => N - (intOf i).toNat)
   case atStart => exact ⟨0, Nat.zero_le _, rfl, X0.out, G1.out⟩
   case round =>
    obtain ⟨k, hk, rfl, hX, hG⟩ := hrel
    clear X0 G1
    have X := hid hX
    have G := hid hG
    have hsz := hX.bel.size
    have hsl := hX.siz
    by_cases hkN : k < N
    ·obtain ⟨xs, hpk⟩ : ∃ xs, p[k]? = some xs := ⟨_, List.getElem?_eq_getElem (by rw [HPL.out]; exact hkN)⟩
     obtain ⟨t, htk⟩ : ∃ t, tn[k]? = some t := ⟨_, List.getElem?_eq_getElem (by rw [HTO.out]; exact hkN)⟩
     obtain ⟨t0, t1⟩ := HRG.out k t htk
     obtain ⟨tt, rfl⟩ := Int.eq_ofNat_of_zero_le t0
     obtain ⟨h8, hcl⟩ := HST.out k xs hpk
     obtain ⟨u, hvk, hrow⟩ := hX.rows k xs hpk
     rw [if_neg (Nat.lt_irrefl k)] at hrow
     obtain ⟨Ai, ci, rfl⟩ := own_slice hrow
     obtain ⟨ad, rfl, hab, h0⟩ := (HRT.out wr hX.bel) k _ htk
     obtain ⟨gc, hgc, hck⟩ : ∃ gc, Ac = some ⟨gc, 0, none⟩ ∧ wr.cell? ⟨gc, k, none⟩ = some (.slice Ai xs.length ci) := by
      rcases own_form hX.cop with ⟨h9, _⟩ | ⟨_, g, cap, hv, _, _⟩
      ·omega
      ·simp only [Value.slice.injEq] at hv
       obtain ⟨rfl, -, rfl⟩ := hv
       exact ⟨g, rfl, (hX.cop.cellAt (g := g) k (by omega)).trans hvk⟩
     subst hgc
     obtain ⟨m, hm⟩ : ∃ m, xs.length = m := ⟨_, rfl⟩
     have HM := hid hm
     have HROW := hid hrow
     have HREN := hid (ren_any lo4 m ci N ct 0 Ai (some ad) xs tn (by omega) hm HTO.out (by omega) hcl wr (by rw [hm] at hrow; exact hrow) ((HRT.out wr hX.bel).more hsz) (fun x hx ad2 e => by
      cases e
      rw [← hm] at hx
      have := (World.ownsRow.lt hrow x hx).1
      omega))
     rw [hm] at hck
     have HPK := hid hpk
     have HVK := hid hvk
     have HTK := hid htk
     clear hX hG hpk hvk htk h8 hcl hm hrow
     go_wp2_with fail
     refine HREN.out.mono ?_
     rintro e wz ⟨rfl, orow, ch⟩
     have hlo : ∀ x, (Value.slice Ai m ci).ownBlock = some x → lo4 ≤ x := fun x hx => by
      rw [← HM.out] at hx
      exact (World.ownsRow.lt HROW.out x hx).1
     have htz : wz.cell? (ad.add k) = some (.int .i64 tt) := (ch.cell (by rw [block_of_add]; omega) (fun hc => by rw [block_of_add] at hc; have := hlo _ hc; omega)).trans h0
     have f1 : wz.ownsRow gf 59 1 (.slice (some ⟨gf, 0, none⟩) N N) N (usU vals tn N k) := own_chg X.out.fns ch (fun x hx hc => by have h1 := hlo x hc; have h2 : gf = x := (by simpa [Value.ownBlock] using hx); omega)
     have fz := f1.frozenAt tt
     obtain ⟨uo, huo⟩ : ∃ uo, wz.cell? ⟨gf, tt, none⟩ = some uo := ⟨_, (f1.cellAt (g := gf) tt (by omega)).trans (List.getElem?_eq_getElem (by rw [usU_len]; omega))⟩
     have NX := hid (show RW w gf lo4 N (some ⟨gc, 0, none⟩) cc p tn vals (k + 1) (wz.setCell ⟨gf, tt, none⟩ (.slice Ai m ci)) from by
      have h1 := HVK.out
      rw [HM.out] at h1
      exact X.out.next hlg (by omega) HD.out HPK.out h1 HTK.out (by rw [HM.out]; exact orow) ch)
     have NG := hid (show Blk (wz.setCell ⟨gf, tt, none⟩ (.slice Ai m ci)) (w.heap.size + 1) 31 #[.slice none 0 0] from (G.out.chg ch (fun hc => by have := hlo _ hc; omega)).far _ _ (by show w.heap.size + 1 ≠ gf; omega))
     clear orow ch hlo f1 h0 hck HROW HREN
     go_wp2_with fail
     go_roundw
     case rel => exact ⟨k + 1, by omega, by go_num, NX.out, NG.out⟩
     case measure => simp [intOf]; omega
    ·obtain rfl : k = N := by omega
     have z1 : wr.cell? ⟨w.heap.size + 1, 0, none⟩ = some (.slice none 0 0) := hG.cells 0
     have f1 := hG.frozen 0
     have hlt := hG.lt
     clear hX hG
     go_wp2_with fail
     refine bodyPost_ret (v := .tuple #[.agg #[.slice (some ⟨gf, 0, none⟩) k k], .bool true]) (by simp [results, Try.results35, go_sem, z1]) rfl ?_
     rw [hs.out]
     have fin := X.out.own hlg HPL.out HVN.out HTO.out HRG.out HD.out
     refine ⟨some ⟨gf, 0, none⟩, k, by rw [HLN.out], ?_, X.out.bel.setCell (p := ⟨w.heap.size + 1, 0, none⟩) (by show w.heap.size ≤ w.heap.size + 1; omega) _⟩
     rw [HLN.out]
     exact (fin.chg (Chg.set wr ⟨w.heap.size + 1, 0, none⟩ _) (fun x hx _ he => by have h9 : x = w.heap.size + 1 := he; omega)).mono (by omega)
end Go.Proofs.Ytdmcgkcpclepfaa.Rni
-- squeezed
