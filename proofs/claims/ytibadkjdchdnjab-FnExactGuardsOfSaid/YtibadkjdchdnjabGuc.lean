import Derived.Test.YtibadkjdchdnjabGub
import Derived.Deep.AppendLies
set_option linter.all false
namespace Go.Proofs.Ytibadkjdchdnjab.Guc
open Lib (hid)
open Go.ChangeShapes Go.WideShapes Go.ChangeAt Go.RowKit
open PL Mem Sst To AskP StpS Res PrgS IntsP LawI SetM Gua Gub 
theorem isFn_row {p : Pg} {f : Int} (h : isFn p f = true) : ∃ (nf : Nat) (b : List Tr), f = nf ∧ p[nf]? = some b ∧ b.length ≤ 8 ∧ nf < p.length ∧ p.length ≤ 6 ∧ okProg p = true := by
 unfold isFn at h
 simp only [Bool.and_eq_true, decide_eq_true_eq] at h
 obtain ⟨⟨h1, h2⟩, h3⟩ := h
 obtain ⟨nf, rfl⟩ : ∃ nf : Nat, f = nf := ⟨f.toNat, by omega⟩
 have hlt : nf < p.length := by omega
 obtain ⟨-, h6, h8⟩ := okProg_parts h1
 exact ⟨nf, _, rfl, List.getElem?_eq_getElem hlt, (h8 nf _ (List.getElem?_eq_getElem hlt)).1, hlt, h6, h1⟩
def hasR (p : Pg) (g : Int) : Bool := decide (0 < (recL (p.getD g.toNat [])).length)
def guaL (p : Pg) (f : Nat) : List Int := (defL p f).filter (hasR p)
def guardsR (p : Pg) (f : Int) : List Int × Bool := if isFn p f = true then (guaL p f.toNat, true) else ([], false)
def rng (k : Nat) : List Int := (List.range k).map (fun i : Nat => (i : Int))
theorem rng_succ (k : Nat) : rng (k + 1) = rng k ++ [(k : Int)] := by unfold rng; rw [List.range_succ, List.map_append]; rfl
def guaI (p : Pg) (xs : List Tr) (k : Nat) : List Int := (rng k).filter fun g => xs.any (isD g) && hasR p g
theorem guaI_yes {p : Pg} {xs : List Tr} {k : Nat} (h : xs.any (isD k) = true) (h' : hasR p k = true) : guaI p xs (k + 1) = guaI p xs k ++ [(k : Int)] := by
 unfold guaI
 rw [rng_succ, List.filter_append]
 simp [h, h']
theorem guaI_no {p : Pg} {xs : List Tr} {k : Nat} (h : (xs.any (isD k) && hasR p k) = false) : guaI p xs (k + 1) = guaI p xs k := by
 unfold guaI
 rw [rng_succ, List.filter_append]
 simp only [List.filter_cons, List.filter_nil, h]
 simp
theorem guaI_len (p : Pg) (xs : List Tr) (k : Nat) : (guaI p xs k).length ≤ k := by
 have h1 : (guaI p xs k).length ≤ (rng k).length := List.length_filter_le _ _
 have h2 : (rng k).length = k := by unfold rng; simp
 omega
theorem rawD_mem {b : List Tr} {x : Int} : ∀ j, x ∈ rawD b j ↔ ∃ i s, i < j ∧ b[i]? = some s ∧ s.1 = 5 ∧ x = s.2.1
 | 0 => by simp [rawD]
 | j + 1 => by
  have ih := rawD_mem (b := b) (x := x) j
  constructor
  ·intro h
   cases hs : b[j]? with
   | none =>
    rw [rawD, hs] at h
    obtain ⟨i, s, h1, h2⟩ := ih.1 h
    exact ⟨i, s, by omega, h2⟩
   | some s =>
    by_cases hk : s.1 = 5
    ·rw [rawD_yes hs hk] at h
     rcases List.mem_append.1 h with h | h
     ·obtain ⟨i, s, h1, h2⟩ := ih.1 h
      exact ⟨i, s, by omega, h2⟩
     ·exact ⟨j, s, by omega, hs, hk, List.mem_singleton.1 h⟩
    ·rw [rawD_no hs hk] at h
     obtain ⟨i, s, h1, h2⟩ := ih.1 h
     exact ⟨i, s, by omega, h2⟩
  ·rintro ⟨i, s, h1, h2, h3, h4⟩
   by_cases hij : i = j
   ·subst hij
    rw [rawD_yes h2 h3, h4]
    exact List.mem_append.2 (.inr (List.mem_singleton.2 rfl))
   ·have hm := ih.2 ⟨i, s, by omega, h2, h3, h4⟩
    cases hs : b[j]? with
    | none => rw [rawD, hs]; exact hm
    | some s' =>
     by_cases hk : s'.1 = 5
     ·rw [rawD_yes hs hk]; exact List.mem_append.2 (.inl hm)
     ·rw [rawD_no hs hk]; exact hm
theorem any_isD {xs : List Tr} {x : Int} : xs.any (isD x) = true ↔ x ∈ rawD xs xs.length := by
 rw [rawD_mem, List.any_eq_true]
 constructor
 ·rintro ⟨s, hs, h⟩
  unfold isD at h
  simp only [Bool.and_eq_true, beq_iff_eq] at h
  obtain ⟨i, hi, rfl⟩ := List.getElem_of_mem hs
  exact ⟨i, _, hi, List.getElem?_eq_getElem hi, h.1, h.2.symm⟩
 ·rintro ⟨i, s, h1, h2, h3, h4⟩
  refine ⟨s, List.mem_of_getElem? h2, ?_⟩
  unfold isD
  simp only [Bool.and_eq_true, beq_iff_eq]
  exact ⟨h3, h4.symm⟩
theorem def_rng {p : Pg} {nf : Nat} {xs : List Tr} (hp : okProg p = true) (hx : p[nf]? = some xs) {x : Int} (h : x ∈ rawD xs xs.length) : 0 ≤ x ∧ x < p.length := by
 obtain ⟨i, s, h1, h2, h3, rfl⟩ := (rawD_mem _).1 h
 have hs := ((okProg_parts hp).2.2 nf xs hx).2 s (List.mem_of_getElem? h2)
 unfold okStep at hs
 rw [if_neg (by omega), if_neg (by omega), if_pos (.inr h3)] at hs
 simp only [Bool.and_eq_true, decide_eq_true_eq] at hs
 exact ⟨hs.1.1, hs.1.2⟩
theorem rng_asc (k : Nat) : Asc (rng k) := by
 unfold rng Asc
 rw [List.pairwise_map]
 exact List.pairwise_lt_range.imp (fun h => by omega)
theorem defL_at {p : Pg} {nf : Nat} {xs : List Tr} (hx : p[nf]? = some xs) : defL p nf = setS (rawD xs xs.length) := by unfold defL; rw [List.getD_eq_getElem?_getD, hx]; rfl
theorem guaI_all {p : Pg} {nf : Nat} {xs : List Tr} (hp : okProg p = true) (hx : p[nf]? = some xs) : guaI p xs p.length = guaL p nf := by
 unfold guaI guaL
 rw [defL_at hx]
 refine asc_eq ((rng_asc _).filter _) ((setS_asc _).filter _) fun x => ?_
 rw [List.mem_filter, List.mem_filter, setS_mem, Bool.and_eq_true, any_isD]
 constructor
 ·rintro ⟨-, h1, h2⟩
  exact ⟨h1, h2⟩
 ·rintro ⟨h1, h2⟩
  obtain ⟨h3, h4⟩ := def_rng hp hx h1
  refine ⟨?_, h1, h2⟩
  unfold rng
  rw [List.mem_map]
  exact ⟨x.toNat, List.mem_range.2 (by omega), by omega⟩
theorem guardsR_len (p : Pg) (f : Int) : (guardsR p f).1.length ≤ 100000 := by
 unfold guardsR
 split
 ·rename_i h
  obtain ⟨nf, b, rfl, hb, h8, _, h6, hp⟩ := isFn_row h
  show (guaL p nf).length ≤ 100000
  rw [← guaI_all hp hb]
  have := guaI_len p b p.length
  omega
 ·simp
theorem hasR_at {p : Pg} {g : Nat} {ys : List Tr} (h : p[g]? = some ys) : hasR p g = decide (0 < (recL ys).length) := by
 unfold hasR
 rw [show ((g : Int)).toNat = g by omega, List.getD_eq_getElem?_getD, h]
 rfl
set_option maxRecDepth 100000 in
set_option maxHeartbeats 8000000 in
theorem guaI_any (lo n c : Nat) (A : Option Addr) (p : Pg) (f : Int) (hn : n ≤ 9223372036854775807) (hl : p.length = n) (hsm : Small p 9223372036854775807) (w : World) (ho : OwnP w lo (.slice A n c) p) :
  Calls Try.prog 12 #[.agg #[.slice A n c], .int .i64 f] w (IntsR (guardsR p f) w) := by
 obtain ⟨i0, hi, hz0, hz1, hz2⟩ := info_parts infoInt
 have hF := hid (fun W (h : Below w.heap.size w W) => isFunction_any w.heap.size A n c p f hn hl hsm W (ho.rd.below h) h.size)
 have hRD := hid (fun W (h : Below w.heap.size w W) => ho.rd.below h)
 have hr : guardsR p f = if isFn p f = true then (guaL p f.toNat, true) else ([], false) := rfl
 have hrow : isFn p f = true → _ := isFn_row
 have HALL := hid (fun (nf : Nat) (xs : List Tr) (h : okProg p = true) (h' : p[nf]? = some xs) => guaI_all h h')
 have HROWS := hid (fun (h : okProg p = true) (g : Nat) (hg : g < n) => (show ∃ ys, p[g]? = some ys ∧ ys.length ≤ 8 from ⟨_, List.getElem?_eq_getElem (by omega), ((okProg_parts h).2.2 g _ (List.getElem?_eq_getElem (by omega))).1⟩))
 have HAR := hid (fun (g : Nat) (ys : List Tr) (h : p[g]? = some ys) => hasR_at h)
 rw [hl] at hrow HALL
 generalize isFn p f = R at *
 have HR := hid hr
 clear ho hsm hr
 go_enter Try.func12, Try.ntmps12
 go_upto_region 2 with fail
 change (fun V => Code.wp _ _ _ _ V) _
 refine gen_world (X := fun V => Blk V w.heap.size 31 #[.slice A n c] ∧ OwnI V (w.heap.size + 1) (.slice (some ⟨w.heap.size + 1, 0, none⟩) 0 0) [] ∧ Below w.heap.size w V ∧ w.heap.size + 2 ≤ V.heap.size) ⟨heap2_0 w _ _, App.empty_own (heap2_1 w _ _) (Nat.le_refl _), ((Below.refl _ _).alloc (Nat.le_refl _) _).alloc (by simp) _, by simp⟩ ?_
 rintro w1 ⟨x1, o1, b1, l1⟩
 have z1 : w1.cell? ⟨w.heap.size, 0, none⟩ = some (.slice A n c) := x1.cells 0
 have X1 := hid x1
 have O1 := hid o1
 have B1 := hid b1
 clear x1 b1 o1
 cases R with
 | false =>
  clear hrow
  go_wp2_with fail
  refine (hF.out _ B1.out).mono ?_
  rintro e w2 ⟨rfl, b2⟩
  have O2 := hid (own_below (B' := w1.heap.size) O1.out b2 (Nat.le_refl _))
  have B2 := hid (B1.out.trans (b2.mono B1.out.size))
  clear b2
  go_wp2_with fail
  go_ret2
  exact ⟨_, _, by rw [HR.out] <;> rfl, by rw [HR.out]; exact own_mono O2.out (Nat.le_succ _), B2.out⟩
 | true =>
  obtain ⟨nf, xs, rfl, hx, h8, hnf, hn6, hp⟩ := hrow rfl
  have HRES := hid (show guaI p xs n = guaL p nf from HALL.out nf xs hp hx)
  have HRO := hid (HROWS.out hp)
  obtain ⟨ad, Ai, ci, rfl, hab, h0, h1⟩ := hRD.out w (Below.refl _ _) nf xs hx
  have HRX := hid (fun (V : World) (b : Below w.heap.size w V) => (show V.cell? (ad.add nf) = some (.slice Ai xs.length ci) ∧ Rd3 V w.heap.size Ai xs from ⟨(b.cell (by rw [block_of_add]; exact hab)).trans h0, h1.below b⟩))
  clear h0 h1 HALL HROWS
  obtain ⟨m, hm⟩ : ∃ m, xs.length = m := ⟨_, rfl⟩
  have HM := hid hm
  have HLE := hid (fun j => guaI_len p xs j)
  rw [hm] at h8 HRX
  clear hrow hx hm
  go_wp2_with fail
  refine (hF.out _ B1.out).mono ?_
  rintro e w2 ⟨rfl, b2⟩
  have X2 := hid (X1.out.below b2 (by omega))
  have O2 := hid (own_below (B' := w1.heap.size) O1.out b2 (Nat.le_refl _))
  have B2 := hid (B1.out.trans (b2.mono B1.out.size))
  have z2 : w2.cell? ⟨w.heap.size, 0, none⟩ = some (.slice (some ad) n c) := X2.out.cells 0
  have l2 : w.heap.size + 2 ≤ w2.heap.size := Nat.le_trans l1 b2.size
  clear b2 z1 X1 O1 B1
  go_wp2_with fail
  go_loopw [6, 18] (fun v i wr => ∃ (j : Nat) (A' : Option Addr) (c' : Nat), j ≤ n ∧ i = .int .i64 j ∧ v = .slice A' (guaI p xs j).length c' ∧ OwnI wr (w.heap.size + 1) (.slice A' (guaI p xs j).length c') (guaI p xs j) ∧ Below w.heap.size w wr ∧ Blk wr w.heap.size 31 #[.slice (some ad) n c]) (fun _ i _ => n - (intOf i).toNat)
  case atStart => exact ⟨0, _, _, Nat.zero_le _, rfl, rfl, O2.out, B2.out, X2.out⟩
  case round =>
   obtain ⟨j, A', c', hj, rfl, rfl, hown, hb, hx⟩ := hrel
   clear O2 B2 X2 z2 l2
   have hlo := hb.size
   have hxl := hx.lt
   have hle := HLE.out j
   by_cases hlt : j < n
   ·obtain ⟨ys, hys, hy8⟩ := HRO.out j hlt
    obtain ⟨h0, h1⟩ := HRX.out wr hb
    obtain ⟨ad', Ag, cg, e1, _, k0, k1⟩ := hRD.out wr hb j ys hys
    cases e1
    have HHR := hid (HAR.out j ys hys)
    have HDF := hid (defers_any j m ci Ai xs HM.out (by omega) w.heap.size wr hlo h1)
    obtain ⟨my, hmy⟩ : ∃ my, ys.length = my := ⟨_, rfl⟩
    rw [hmy] at k0 hy8
    have HRE := hid (fun (V : World) (b : Below wr.heap.size wr V) => recoversIn_any my cg Ag ys hmy hy8 w.heap.size V (Nat.le_trans hlo b.size) (k1.below (b.mono hlo)))
    have z0 : wr.cell? ⟨w.heap.size, 0, none⟩ = some (.slice (some ad) n c) := hx.cells 0
    have X := hid hx
    have O := hid hown
    have HB := hid hb
    have HYES := hid (fun (h : xs.any (isD j) = true) (h' : hasR p j = true) => guaI_yes h h')
    have HNO := hid (fun (h : (xs.any (isD j) && hasR p j) = false) => guaI_no h)
    clear hx hown hb k1 h1 hys hmy
    generalize hasR p j = hr at *
    generalize xs.any (isD j) = an at *
    generalize guaI p xs j = q at *
    generalize recL ys = rl at *
    go_wp2_with fail
    refine HDF.out.mono ?_
    rintro e w3 ⟨rfl, b3⟩
    have HRE3 := hid (HRE.out w3 b3)
    replace X := hid (X.out.below b3 hxl)
    replace O := hid (own_below (B' := wr.heap.size) O.out b3 (Nat.le_refl _))
    replace HB := hid (HB.out.trans (b3.mono hlo))
    have hlo3 := HB.out.size
    have hxl3 := X.out.lt
    clear b3 HRE HDF z0 h0 k0
    cases an with
    | false =>
     have HX := hid (HNO.out (by simp))
     go_wp2_with fail
     go_roundw
     case rel => exact ⟨j + 1, A', c', by omega, by go_num, by rw [HX.out], by rw [HX.out]; exact O.out, HB.out, X.out⟩
     case measure => simp [intOf]; omega
    | true =>
     go_wp2_with fail
     refine HRE3.out.mono ?_
     rintro e w4 ⟨A4, c4, rfl, o4, b4⟩
     replace X := hid (X.out.below b4 hxl3)
     replace O := hid (own_below (B' := w3.heap.size) O.out b4 (Nat.le_refl _))
     replace HB := hid (HB.out.trans (b4.mono hlo3))
     have hlo4 := HB.out.size
     have hxl4 := X.out.lt
     clear b4 o4 HRE3
     cases hr with
     | false =>
      have HX := hid (HNO.out (by simp))
      have hgt : ¬ 0 < rl.length := by simpa using HHR.out.symm
      go_wp2_with fail
      go_roundw
      case rel => exact ⟨j + 1, A', c', by omega, by go_num, by rw [HX.out], by rw [HX.out]; exact O.out, HB.out, X.out⟩
      case measure => simp [intOf]; omega
     | true =>
      have HX := hid (HYES.out (by simp) (by simp))
      have hgt : 0 < rl.length := by simpa using HHR.out.symm
      go_wp2_with (at_builtin; refine wpList_append_lies _ rfl _ _ 26 rfl (w.heap.size + 1) 3 i0 _ 1 8 Try.underlying26 hi hz0 hz1 hz2 rfl (by decide) _ _ _ rfl (World.ownsRow.alloc O.out _) ⟨w4.heap.size, 0, none⟩ 1 1 [.int .i64 j] rfl rfl ?cn ?co (by decide) ?c63 ?cb ?cl (w4.heap.size + 1) ?cH ?next)
      (try (case cn => exact World.news_of_block (cs := #[.int .i64 j]) (t := 3) (fr := (0, 0)) (heap_alloc_new _ _)))
      case co => first | (intro u hu; simp at hu; rcases hu with rfl; rfl) | simp [Value.oneCell']
      case c63 => first | (unfold maxLen; omega) | omega
      case cb => omega
      case cl => first | (simp; omega) | omega
      (try (case cH => simp))
      case next =>
       intro g2 cap2 w2' hown2 hgrow2 hat2 hlt2
       have c2' : Chg (fun y => (Value.slice A' q.length c').ownBlock = some y) w4 w2' := (Chg.alloc _ w4 _).trans (Chg.of_grown hgrow2) (fun x _ hx => hx.symm)
       have B2' := hid (HB.out.trans (c2'.below hlo4 (fun x hx e => by have := (World.ownsRow.lt O.out x e).1; omega)))
       have X2' := hid (X.out.chg c2' (fun e => by have := (World.ownsRow.lt O.out _ e).1; omega))
       have O2 := hid hown2
       clear hown2 hgrow2 hat2 c2'
       go_wp2_with fail
       go_roundw
       case rel =>
        refine ⟨j + 1, some ⟨g2, 0, none⟩, cap2, by omega, by go_num, ?_, ?_, B2'.out, X2'.out⟩
        ·rw [HX.out, List.length_append, List.length_singleton]
        ·rw [HX.out]
         unfold OwnI
         rw [List.length_append, List.length_singleton, cellsI_append]
         exact O2.out
       case measure => simp [intOf]; omega
   ·obtain rfl : j = n := by omega
    have HB := hid hb
    have O := hid hown
    clear hb hown
    go_wp2_with fail
    go_ret2
    refine ⟨A', c', ?_, ?_, HB.out⟩
    ·rw [HR.out, if_pos trivial, Int.toNat_natCast, ← HRES.out] <;> rfl
    ·rw [HR.out, if_pos trivial, Int.toNat_natCast, ← HRES.out]
     exact own_mono O.out (Nat.le_succ _)
end Go.Proofs.Ytibadkjdchdnjab.Guc
-- squeezed
