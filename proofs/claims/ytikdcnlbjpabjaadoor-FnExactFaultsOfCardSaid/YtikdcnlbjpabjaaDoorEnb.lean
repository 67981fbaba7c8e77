/- spec.l7Drop and spec.l7Read: the open resources and the faults of a list. -/
import Derived.Test.YtikdcnlbjpabjaaDoorEna
namespace Go.Proofs.YtikdcnlbjpabjaaDoor.EntS
set_option linter.unusedVariables false
set_option linter.unusedSimpArgs false
open Go.ChangeShapes Go.WideShapes Go.ChangeAt Go.RowKit
open Mem IntsP LiP EntP GrwP

theorem dropT_yes {n : Int} {l : List Int} {k : Nat} {x : Int} (h : l[k]? = some x) (hx : x ≠ n) : dropI n (l.take (k + 1)) = dropI n (l.take k) ++ [x] := by
  rw [take_snoc h, dropI_snoc, if_neg hx]
theorem dropT_no {n : Int} {l : List Int} {k : Nat} {x : Int} (h : l[k]? = some x) (hx : x = n) : dropI n (l.take (k + 1)) = dropI n (l.take k) := by
  rw [take_snoc h, dropI_snoc, if_pos hx]
/-- A list of the call's own is returned. -/
def OneR (xs : List Int) (w : World) (e : Ending) (w' : World) : Prop :=
  ∃ A c, e = .returned (.slice A xs.length c) ∧ OwnI w' w.heap.size (.slice A xs.length c) xs ∧ Below w.heap.size w w'
set_option maxRecDepth 100000 in
set_option maxHeartbeats 2000000 in
theorem drop_any (B : Nat) (A : Option Addr) (n c : Nat) (xs : List Int) (x : Int) (hn : n ≤ 2000000) (hl : xs.length = n) (w : World) (hr : RdI w B A xs) (hB : B ≤ w.heap.size) :
    Calls Tryd.prog 45 #[.slice A n c, .int .i64 x] w (OneR (dropI x xs) w) := by
  have HL := Lib.hid hl
  have HR := Lib.hid hr
  obtain ⟨i0, hi, hz0, hz1, hz2⟩ := info_parts info3
  clear hl hr
  go_enter Tryd.func45, Tryd.ntmps45
  go_wp2_with fail
  obtain ⟨w1, hw1⟩ : ∃ w1, w.alloc (.cells #[] 3) = w1 := ⟨_, rfl⟩
  have HB1 := Lib.hid (show Below w.heap.size w w1 by rw [← hw1]; exact (Below.refl _ _).alloc (Nat.le_refl _) _)
  have s1 : w1.heap.size = w.heap.size + 1 := by rw [← hw1]; simp
  have HG1 := Lib.hid (show Grow w1 w.heap.size w.heap.size (.slice (some ⟨w.heap.size, 0, none⟩) 0 0) (dropI x (xs.take 0)) w1 by
    rw [← hw1]; exact ⟨App.empty_own (heap1_0 w _) (Nat.le_refl _), fun k hk => .inl (by simpa [Value.ownBlock] using hk.symm), Chg.refl _ _⟩)
  rw [hw1]
  clear hw1
  generalize hlo : w.heap.size = lo at *
  go_loopw [5, 6] (fun v i wr => ∃ (k m : Nat) (Ag : Option Addr) (cg : Nat), k ≤ n ∧ i = .int .i64 k ∧ v = .slice Ag m cg ∧ m ≤ k ∧ Grow w1 lo lo (.slice Ag m cg) (dropI x (xs.take k)) wr) (fun _ i _ => n - (intOf i).toNat)
  case atStart => exact ⟨0, 0, _, _, Nat.zero_le _, rfl, rfl, Nat.le_refl _, HG1.out⟩
  case round =>
    obtain ⟨k, m, Ag, cg, hk, rfl, rfl, hmk, hG⟩ := hrel
    have hm : (dropI x (xs.take k)).length = m := by
      rcases hG.own.2 with ⟨h1, h2⟩ | ⟨_, _, _, h1, _⟩
      · simp only [Value.slice.injEq] at h1; omega
      · simp only [Value.slice.injEq] at h1; omega
    have G := Lib.hid hG
    have HM := Lib.hid hm
    have hbl : Below lo w wr := HB1.out.trans (hG.chg.below (by omega) (fun b hb => by omega))
    have HRr := Lib.hid (HR.out.below (hbl.mono hB))
    have szr := hG.chg.size
    have HBL := Lib.hid hbl
    clear hG hm hbl
    by_cases hlt : k < n
    · obtain ⟨z, hz⟩ : ∃ z, xs[k]? = some z := ⟨_, List.getElem?_eq_getElem (by rw [HL.out]; exact hlt)⟩
      obtain ⟨ad, rfl, hab, h0⟩ := HRr.out k z hz
      have HZ := Lib.hid hz
      clear hz
      by_cases hzx : z = x
      · have hN := Lib.hid (dropT_no HZ.out hzx)
        have hzx' : (z != x) = false := by simp [hzx]
        clear hzx
        go_wp2_with fail
        go_roundw
        case rel => exact ⟨k + 1, m, _, _, by omega, by go_num, rfl, by omega, by rw [hN.out]; exact G.out⟩
        case measure => simp [intOf]; omega
      · have hN := Lib.hid (dropT_yes HZ.out hzx)
        have hzx' : (z != x) = true := by simp [hzx]
        have hown : wr.ownsRow lo 3 1 (.slice Ag m cg) m (cellsI (dropI x (xs.take k))) := by have := G.out.own; rwa [HM.out] at this
        have HOW := Lib.hid hown
        clear hown hzx
        go_wp2_with (at_builtin; refine App.row_list _ rfl (.tmp 20) (.tmp 25) 22 rfl lo 0 3 i0 _ 1 8 Tryd.underlying22 hi hz0 hz1 hz2 rfl (by decide) (.slice Ag m cg) m (cellsI (dropI x (xs.take k))) rfl (own_alloc HOW.out _) (.slice (some ⟨wr.heap.size, 0, none⟩) 1 1) 1 [.int .i64 z] rfl (App.one_own (heap1_0 wr _)) (by intro u hu; simp at hu; rw [hu]; rfl) (by unfold maxLen; omega) (by omega) (by simp; omega) ?_)
        intro v1 w3 o1 g1 t1
        have hp := G.out.push (z := z) (v' := v1) (w' := w3) (.cells #[.int .i64 z] 3) rfl (by rw [HM.out]; exact o1) g1 (by simpa using t1)
        rw [← hN.out] at hp
        have HP := Lib.hid hp
        obtain ⟨A1, c1', rfl⟩ := own_slice o1
        clear o1 g1 t1 hp
        go_wp2_with fail
        go_roundw
        case rel => exact ⟨k + 1, m + 1, _, _, by omega, by go_num, rfl, by omega, HP.out⟩
        case measure => simp [intOf]; omega
    · obtain rfl : k = n := by omega
      have ht : xs.take k = xs := List.take_of_length_le (by rw [HL.out]; omega)
      go_wp2_with fail
      go_ret
      rw [ht] at G HM
      refine ⟨Ag, cg, by simp only [HM.out]; rfl, ?_, by rw [hlo]; exact HBL.out⟩
      simp only [OwnI]
      rw [hlo, HM.out]
      have := G.out.own
      rw [HM.out] at this
      exact this

/-- Two lists of the call's own, in blocks of their own. -/
structure Two (w0 : World) (vo vf : Value) (os fs : List Int) (wr : World) : Prop where
  o : wr.ownsRow w0.heap.size 3 1 vo os.length (cellsI os)
  f : wr.ownsRow w0.heap.size 3 1 vf fs.length (cellsI fs)
  ne : ∀ k, vo.ownBlock = some k → vf.ownBlock ≠ some k
  b : Below w0.heap.size w0 wr
theorem own_lt {w : World} {B e sz n : Nat} {v : Value} {xs : List Value} (h : w.ownsRow B e sz v n xs) {k : Nat} (hk : v.ownBlock = some k) : B ≤ k ∧ k < w.heap.size := World.ownsRow.lt h k hk
section
variable {w0 wr w' : World} {vo vf v' : Value} {os fs : List Int} {z : Int}
theorem Two.below (h : Two w0 vo vf os fs wr) (b : Below wr.heap.size wr w') : Two w0 vo vf os fs w' :=
  ⟨own_below h.o b (Nat.le_refl _), own_below h.f b (Nat.le_refl _), h.ne, h.b.trans (b.mono h.b.size)⟩
theorem Two.swap (h : Two w0 vo vf os fs wr) : Two w0 vf vo fs os wr := ⟨h.f, h.o, fun k hk hc => h.ne k hc hk, h.b⟩
theorem Two.pushO (h : Two w0 vo vf os fs wr) (ob : Obj) (ho : w'.ownsRow w0.heap.size 3 1 v' (os.length + 1) (cellsI os ++ [.int .i64 z])) (hg : (wr.alloc ob).grownBy w' vo.ownBlock)
    (ha : v'.ownBlock = vo.ownBlock ∨ v'.ownBlock = some (wr.alloc ob).heap.size) : Two w0 v' vf (os ++ [z]) fs w' := by
  have hA : Two w0 vo vf os fs (wr.alloc ob) := h.below ((Below.refl _ _).alloc (Nat.le_refl _) _)
  have sz := hA.b.size
  have hc : Chg (fun k => some k = vo.ownBlock) (wr.alloc ob) w' := Chg.of_grown hg
  refine ⟨by rw [List.length_append, List.length_singleton, cellsI_append]; exact ho, ?_, fun k hk hc' => ?_, ?_⟩
  · exact own_chg hA.f hc (fun k hk hc => hA.ne k hc.symm hk)
  · rcases ha with ha | ha
    · exact hA.ne k (by rw [← ha]; exact hk) hc'
    · rw [ha] at hk
      have h1 := (own_lt hA.f hc').2
      injection hk with hk
      omega
  · exact hA.b.trans (hc.below sz (fun x hx hcx => by have := (own_lt hA.o hcx.symm).1; omega))
theorem Two.newO {ys : List Int} (h : Two w0 vo vf os fs wr) (ho : OwnI w' wr.heap.size v' ys) (b : Below wr.heap.size wr w') : Two w0 v' vf ys fs w' := by
  have sz := h.b.size
  refine ⟨own_mono ho sz, own_below h.f b (Nat.le_refl _), fun k hk hc => ?_, h.b.trans (b.mono sz)⟩
  have h1 := (own_lt ho hk).1
  have h2 := (own_lt h.f hc).2
  omega
end
theorem Two.len {w0 wr : World} {A : Option Addr} {m c : Nat} {vf : Value} {os fs : List Int} (h : Two w0 (.slice A m c) vf os fs wr) : os.length = m := by
  rcases h.o.2 with ⟨h1, h2⟩ | ⟨_, _, _, h1, _⟩
  · simp only [Value.slice.injEq] at h1; omega
  · simp only [Value.slice.injEq] at h1; omega
theorem Two.rdO {w0 wr : World} {A : Option Addr} {m c : Nat} {vf : Value} {os fs : List Int} (h : Two w0 (.slice A m c) vf os fs wr) : RdI wr wr.heap.size A os := by
  have := h.o
  rw [h.len] at this
  exact rdI_own this
theorem two_new (w : World) : Two w (.slice (some ⟨w.heap.size, 0, none⟩) 0 0) (.slice (some ⟨w.heap.size + 1, 0, none⟩) 0 0) [] [] ((w.alloc (.cells #[] 3)).alloc (.cells #[] 3)) :=
  ⟨App.empty_own (heap2_0 w _ _) (Nat.le_refl _), App.empty_own (heap2_1 w _ _) (Nat.le_succ _), fun k hk hc => by simp [Value.ownBlock] at hk hc; omega, ((Below.refl _ _).alloc (Nat.le_refl _) _).alloc (by simp) _⟩
/-- The open resources and the faults are returned. -/
def TwoR (os fs : List Int) (w : World) (e : Ending) (w' : World) : Prop :=
  ∃ A c A' c', e = .returned (.tuple #[.slice A os.length c, .slice A' fs.length c']) ∧ Two w (.slice A os.length c) (.slice A' fs.length c') os fs w'
theorem stepO_zero (o : List Int) : stepO o 0 = o := by simp [stepO]
theorem stepO_up {o : List Int} {x : Int} (h : 0 < x) : stepO o x = dropI x o ++ [x] := by unfold stepO; rw [if_neg (by omega), if_pos h]
theorem stepO_down {o : List Int} {x : Int} (h : x < 0) : stepO o x = dropI (-x) o := by unfold stepO; rw [if_neg (by omega), if_neg (by omega)]
set_option maxRecDepth 100000 in
set_option maxHeartbeats 4000000 in
set_option profiler true in
theorem read_any (B : Nat) (A : Option Addr) (n c : Nat) (xs : List Int) (hn : n ≤ 2000000) (hl : xs.length = n) (hg : goodK xs n) (w : World) (hr : RdI w B A xs) (hB : B ≤ w.heap.size) :
    Calls Tryd.prog 29 #[.slice A n c] w (TwoR (openK xs n) (faultsK xs n) w) := by
  have HL := Lib.hid hl
  have HR := Lib.hid hr
  have HGd := Lib.hid hg
  obtain ⟨i0, hi, hz0, hz1, hz2⟩ := info_parts info3
  clear hl hr hg
  go_enter Tryd.func29, Tryd.ntmps29
  go_wp2_with fail
  have HT1 := Lib.hid (two_new w)
  generalize (w.alloc (.cells #[] 3)).alloc (.cells #[] 3) = w1 at *
  go_loopw [4, 5, 6] (fun v u i wr => ∃ (k m q : Nat) (Ao Af : Option Addr) (co cf : Nat), k ≤ n ∧ i = .int .i64 k ∧ v = .slice Ao m co ∧ u = .slice Af q cf ∧ m ≤ k ∧ q ≤ k ∧ Two w (.slice Ao m co) (.slice Af q cf) (openK xs k) (faultsK xs k) wr) (fun _ _ i _ => n - (intOf i).toNat)
  case atStart =>
    refine ⟨0, 0, 0, some ⟨w.heap.size, 0, none⟩, some ⟨w.heap.size + 1, 0, none⟩, 0, 0, Nat.zero_le _, rfl, rfl, rfl, Nat.le_refl _, Nat.le_refl _, ?_⟩
    rw [openK_zero, faultsK_zero]
    exact HT1.out
  case round =>
    obtain ⟨k, m, q, Ao, Af, co, cf, hk, rfl, rfl, rfl, hmk, hqk, hT⟩ := hrel
    have HT := Lib.hid hT
    have HM := Lib.hid hT.len
    have HQ := Lib.hid hT.swap.len
    have hbl := hT.b
    have HRr := Lib.hid (HR.out.below (hbl.mono hB))
    have HBL := Lib.hid hbl
    clear hT hbl
    by_cases hlt : k < n
    · obtain ⟨z, hz⟩ : ∃ z, xs[k]? = some z := ⟨_, List.getElem?_eq_getElem (by rw [HL.out]; exact hlt)⟩
      obtain ⟨ad, rfl, hab, h0⟩ := HRr.out k z hz
      obtain ⟨hz1', hz2'⟩ := HGd.out k z hlt hz
      have HZ := Lib.hid hz
      clear hz
      -- ROUND
      rcases Int.lt_trichotomy z 0 with hs | hs | hs
      · have hmx : max z (-z) = (-z) := by omega
        have hmost : ∀ W, Calls Tryd.prog 39 #[.int .i64 z, .int .i64 (-z)] W fun e w' => e = .returned (.int .i64 (-z)) ∧ w' = W := by
          intro W
          refine (l1Most_any z (-z) W).mono ?_
          rintro e w2 ⟨rfl, rfl⟩
          exact ⟨by rw [hmx], rfl⟩
        clear hmx
        go_wp2_with fail
        go_quiet (first | (go_at_call 39; exact Calls.quiet_of_same (hmost _)))
        have HT2 := Lib.hid (HT.out.below (below_drewN (Below.refl _ _) nq))
        have h2 : (wr.drewN nq).cell? (ad.add k) = some (.int .i64 z) := h0
        have HR2 := Lib.hid (HRr.out.below (below_drewN (Below.refl _ _) nq))
        clear hmost h0 HT HRr
        generalize wr.drewN nq = w2 at *
        have hN1 := Lib.hid (openK_succ HZ.out)
        have hN3 := Lib.hid (stepO_down hs (o := openK xs k))
        have hd : decide ((0 : Int) < z) = false := by simpa using Int.le_of_lt hs
        by_cases hm : (-z) ∈ openK xs k
        · have hhas : ∀ W, Below w2.heap.size w2 W → Calls Tryd.prog 43 #[.slice Ao m co, .int .i64 (-z)] W fun e w' => e = .returned (.bool true) ∧ w' = W := by
            intro W hb
            refine (has_any w2.heap.size Ao m co (openK xs k) (-z) (by omega) HM.out W (HT2.out.rdO.below hb)).mono ?_
            rintro e w3 ⟨rfl, rfl⟩
            exact ⟨by rw [show (openK xs k).contains (-z) = true by simpa using hm], rfl⟩
          have hf := Lib.hid (faultsK_no HZ.out (show fltB (openK xs k) z = false by rw [fltB_neg hs]; simpa using hm))
          go_wp2_with fail
          go_quiet (first | (go_at_call 43; exact Calls.quiet_of_same (hhas _ (below_drewN (Below.refl _ _) _))))
          have HT3' := Lib.hid (HT2.out.below (below_drewN (Below.refl _ _) nq))
          have h3' : (w2.drewN nq).cell? (ad.add k) = some (.int .i64 z) := h2
          clear hhas h2 HT2 hm
          generalize w2.drewN nq = w2b at *
          rw [← hf.out] at HT3'
          obtain ⟨w3, hw3⟩ : ∃ w3, w3 = w2b := ⟨_, rfl⟩
          subst hw3
          have HT3 := HT3'
          have h3 := h3'
          clear HT3' h3' hf
          have HD := Lib.hid (drop_any w3.heap.size Ao m co (openK xs k) (-z) (by omega) HM.out w3 HT3.out.rdO (Nat.le_refl _))
          go_wp2_with fail
          refine HD.out.mono ?_
          rintro e w4 ⟨A4, c4, rfl, o4, b4⟩
          have h4 : w4.cell? (ad.add k) = some (.int .i64 z) := (b4.cell (by rw [block_of_add]; have := HT3.out.b.size; omega)).trans h3
          have HT4 := Lib.hid (HT3.out.newO o4 b4)
          obtain ⟨d4, hd4⟩ : ∃ d4, (dropI (-z) (openK xs k)).length = d4 := ⟨_, rfl⟩
          have HD4 := Lib.hid hd4
          have ld4 : d4 ≤ k := by rw [← hd4]; exact Nat.le_trans (dropI_len (-z) _) (openK_len xs k)
          rw [hd4] at HT4 ⊢
          clear o4 b4 HT3 h3 HD hd4
          go_wp2_with fail
          go_roundw
          case rel =>
            refine ⟨k + 1, d4, q, A4, Af, c4, cf, by omega, by go_num, rfl, rfl, by omega, by omega, ?_⟩
            rw [hN1.out, hN3.out]
            exact HT4.out
          case measure => simp [intOf]; omega
        · have hhas : ∀ W, Below w2.heap.size w2 W → Calls Tryd.prog 43 #[.slice Ao m co, .int .i64 (-z)] W fun e w' => e = .returned (.bool false) ∧ w' = W := by
            intro W hb
            refine (has_any w2.heap.size Ao m co (openK xs k) (-z) (by omega) HM.out W (HT2.out.rdO.below hb)).mono ?_
            rintro e w3 ⟨rfl, rfl⟩
            exact ⟨by rw [show (openK xs k).contains (-z) = false by simpa using hm], rfl⟩
          have hf := Lib.hid (faultsK_yes HZ.out (show fltB (openK xs k) z = true by rw [fltB_neg hs]; simpa using hm))
          go_wp2_with fail
          go_quiet (first | (go_at_call 43; exact Calls.quiet_of_same (hhas _ (below_drewN (Below.refl _ _) _))))
          have HT3' := Lib.hid (HT2.out.below (below_drewN (Below.refl _ _) nq))
          have h3' : (w2.drewN nq).cell? (ad.add k) = some (.int .i64 z) := h2
          clear hhas h2 HT2 hm
          generalize w2.drewN nq = w2b at *
          go_wp2_with (at_builtin; refine App.row_list _ rfl (.tmp 40) (.tmp 42) 22 rfl w.heap.size 0 3 i0 _ 1 8 Tryd.underlying22 hi hz0 hz1 hz2 rfl (by decide) (.slice Af q cf) q (cellsI (faultsK xs k)) rfl (own_alloc (by have := HT3'.out.f; rw [HQ.out] at this; exact this) _) (.slice (some ⟨w2b.heap.size, 0, none⟩) 1 1) 1 [.int .i64 (k : Int)] rfl (App.one_own (heap1_0 w2b _)) (by intro u hu; simp at hu; rw [hu]; rfl) (by unfold maxLen; omega) (by omega) (by have := HT3'.out.b.size; simp; omega) ?_)
          intro v6 w3 o6 g6 t6
          have h3 : w3.cell? (ad.add k) = some (.int .i64 z) := (((Chg.of_grown g6).cell (by rw [block_of_add, World.size_alloc]; have := HT3'.out.b.size; omega) (by rw [block_of_add]; intro hc; have := (own_lt HT3'.out.f hc.symm).1; omega)).trans (World.cell?_alloc_lt _ _ _ (by rw [block_of_add]; have := HT3'.out.b.size; omega))).trans h3'
          have HT6 := (HT3'.out.swap.pushO (z := (k : Int)) (v' := v6) (w' := w3) (.cells #[.int .i64 (k : Int)] 3) (by rw [HQ.out]; exact o6) g6 (by simpa using t6)).swap
          obtain ⟨A6, c6, rfl⟩ := own_slice o6
          rw [← hf.out] at HT6
          have HT3 := Lib.hid HT6
          clear o6 g6 t6 HT6 HT3' h3' hf
          have HD := Lib.hid (drop_any w3.heap.size Ao m co (openK xs k) (-z) (by omega) HM.out w3 HT3.out.rdO (Nat.le_refl _))
          go_wp2_with fail
          refine HD.out.mono ?_
          rintro e w4 ⟨A4, c4, rfl, o4, b4⟩
          have h4 : w4.cell? (ad.add k) = some (.int .i64 z) := (b4.cell (by rw [block_of_add]; have := HT3.out.b.size; omega)).trans h3
          have HT4 := Lib.hid (HT3.out.newO o4 b4)
          obtain ⟨d4, hd4⟩ : ∃ d4, (dropI (-z) (openK xs k)).length = d4 := ⟨_, rfl⟩
          have HD4 := Lib.hid hd4
          have ld4 : d4 ≤ k := by rw [← hd4]; exact Nat.le_trans (dropI_len (-z) _) (openK_len xs k)
          rw [hd4] at HT4 ⊢
          clear o4 b4 HT3 h3 HD hd4
          go_wp2_with fail
          go_roundw
          case rel =>
            refine ⟨k + 1, d4, q + 1, A4, A6, c4, c6, by omega, by go_num, rfl, rfl, by omega, by omega, ?_⟩
            rw [hN1.out, hN3.out]
            exact HT4.out
          case measure => simp [intOf]; omega
      · have hmx : max z (-z) = 0 := by omega
        have hS := Lib.hid hs
        clear hs
        have hmost : ∀ W, Calls Tryd.prog 39 #[.int .i64 z, .int .i64 (-z)] W fun e w' => e = .returned (.int .i64 0) ∧ w' = W := by
          intro W
          refine (l1Most_any z (-z) W).mono ?_
          rintro e w2 ⟨rfl, rfl⟩
          exact ⟨by rw [hmx], rfl⟩
        clear hmx
        go_wp2_with fail
        go_quiet (first | (go_at_call 39; exact Calls.quiet_of_same (hmost _)))
        have HT2 := Lib.hid (HT.out.below (below_drewN (Below.refl _ _) nq))
        have h2 : (wr.drewN nq).cell? (ad.add k) = some (.int .i64 z) := h0
        have HR2 := Lib.hid (HRr.out.below (below_drewN (Below.refl _ _) nq))
        clear hmost h0 HT HRr
        generalize wr.drewN nq = w2 at *
        have hs := hS.out
        have hN1 := Lib.hid (openK_succ HZ.out)
        have hN2 := Lib.hid (faultsK_no HZ.out (show fltB (openK xs k) z = false by rw [hs]; exact fltB_zero _))
        have hN3 := Lib.hid (show stepO (openK xs k) z = openK xs k by rw [hs]; exact stepO_zero _)
        have hz0' : (z == 0) = true := by simp [hs]
        clear hs
        go_wp2_with fail
        go_roundw
        case rel =>
          refine ⟨k + 1, m, q, Ao, Af, co, cf, by omega, by go_num, rfl, rfl, by omega, by omega, ?_⟩
          rw [hN1.out, hN2.out, hN3.out]
          exact HT2.out
        case measure => simp [intOf]; omega
      · have hmx : max z (-z) = z := by omega
        have hmost : ∀ W, Calls Tryd.prog 39 #[.int .i64 z, .int .i64 (-z)] W fun e w' => e = .returned (.int .i64 z) ∧ w' = W := by
          intro W
          refine (l1Most_any z (-z) W).mono ?_
          rintro e w2 ⟨rfl, rfl⟩
          exact ⟨by rw [hmx], rfl⟩
        clear hmx
        go_wp2_with fail
        go_quiet (first | (go_at_call 39; exact Calls.quiet_of_same (hmost _)))
        have HT2 := Lib.hid (HT.out.below (below_drewN (Below.refl _ _) nq))
        have h2 : (wr.drewN nq).cell? (ad.add k) = some (.int .i64 z) := h0
        have HR2 := Lib.hid (HRr.out.below (below_drewN (Below.refl _ _) nq))
        clear hmost h0 HT HRr
        generalize wr.drewN nq = w2 at *
        have hN1 := Lib.hid (openK_succ HZ.out)
        have hN3 := Lib.hid (stepO_up hs (o := openK xs k))
        have hd : decide ((0 : Int) < z) = true := by simpa using hs
        by_cases hm : z ∈ openK xs k
        · have hhas : ∀ W, Below w2.heap.size w2 W → Calls Tryd.prog 43 #[.slice Ao m co, .int .i64 z] W fun e w' => e = .returned (.bool true) ∧ w' = W := by
            intro W hb
            refine (has_any w2.heap.size Ao m co (openK xs k) z (by omega) HM.out W (HT2.out.rdO.below hb)).mono ?_
            rintro e w3 ⟨rfl, rfl⟩
            exact ⟨by rw [show (openK xs k).contains z = true by simpa using hm], rfl⟩
          have hf := Lib.hid (faultsK_yes HZ.out (show fltB (openK xs k) z = true by rw [fltB_pos hs]; simpa using hm))
          go_wp2_with fail
          go_quiet (first | (go_at_call 43; exact Calls.quiet_of_same (hhas _ (below_drewN (Below.refl _ _) _))))
          have HT3' := Lib.hid (HT2.out.below (below_drewN (Below.refl _ _) nq))
          have h3' : (w2.drewN nq).cell? (ad.add k) = some (.int .i64 z) := h2
          clear hhas h2 HT2 hm
          generalize w2.drewN nq = w2b at *
          go_wp2_with (at_builtin; refine App.row_list _ rfl (.tmp 40) (.tmp 42) 22 rfl w.heap.size 0 3 i0 _ 1 8 Tryd.underlying22 hi hz0 hz1 hz2 rfl (by decide) (.slice Af q cf) q (cellsI (faultsK xs k)) rfl (own_alloc (by have := HT3'.out.f; rw [HQ.out] at this; exact this) _) (.slice (some ⟨w2b.heap.size, 0, none⟩) 1 1) 1 [.int .i64 (k : Int)] rfl (App.one_own (heap1_0 w2b _)) (by intro u hu; simp at hu; rw [hu]; rfl) (by unfold maxLen; omega) (by omega) (by have := HT3'.out.b.size; simp; omega) ?_)
          intro v6 w3 o6 g6 t6
          have h3 : w3.cell? (ad.add k) = some (.int .i64 z) := (((Chg.of_grown g6).cell (by rw [block_of_add, World.size_alloc]; have := HT3'.out.b.size; omega) (by rw [block_of_add]; intro hc; have := (own_lt HT3'.out.f hc.symm).1; omega)).trans (World.cell?_alloc_lt _ _ _ (by rw [block_of_add]; have := HT3'.out.b.size; omega))).trans h3'
          have HT6 := (HT3'.out.swap.pushO (z := (k : Int)) (v' := v6) (w' := w3) (.cells #[.int .i64 (k : Int)] 3) (by rw [HQ.out]; exact o6) g6 (by simpa using t6)).swap
          obtain ⟨A6, c6, rfl⟩ := own_slice o6
          rw [← hf.out] at HT6
          have HT3 := Lib.hid HT6
          clear o6 g6 t6 HT6 HT3' h3' hf
          have HD := Lib.hid (drop_any w3.heap.size Ao m co (openK xs k) z (by omega) HM.out w3 HT3.out.rdO (Nat.le_refl _))
          go_wp2_with fail
          refine HD.out.mono ?_
          rintro e w4 ⟨A4, c4, rfl, o4, b4⟩
          have h4 : w4.cell? (ad.add k) = some (.int .i64 z) := (b4.cell (by rw [block_of_add]; have := HT3.out.b.size; omega)).trans h3
          have HT4 := Lib.hid (HT3.out.newO o4 b4)
          obtain ⟨d4, hd4⟩ : ∃ d4, (dropI z (openK xs k)).length = d4 := ⟨_, rfl⟩
          have HD4 := Lib.hid hd4
          have ld4 : d4 ≤ k := by rw [← hd4]; exact Nat.le_trans (dropI_len z _) (openK_len xs k)
          rw [hd4] at HT4 ⊢
          clear o4 b4 HT3 h3 HD hd4
          go_wp2_with (at_builtin; refine App.row_list _ rfl (.tmp 52) (.tmp 54) 22 rfl w.heap.size 0 3 i0 _ 1 8 Tryd.underlying22 hi hz0 hz1 hz2 rfl (by decide) (.slice A4 d4 c4) d4 (cellsI (dropI z (openK xs k))) rfl (own_alloc (by have := HT4.out.o; rw [HD4.out] at this; exact this) _) (.slice (some ⟨w4.heap.size, 0, none⟩) 1 1) 1 [.int .i64 z] rfl (App.one_own (heap1_0 w4 _)) (by intro u hu; simp at hu; rw [hu]; rfl) (by unfold maxLen; omega) (by omega) (by have := HT4.out.b.size; simp; omega) ?_)
          intro v5 w5 o5 g5 t5
          have HT5 := HT4.out.pushO (z := z) (v' := v5) (w' := w5) (.cells #[.int .i64 z] 3) (by rw [HD4.out]; exact o5) g5 (by simpa using t5)
          obtain ⟨A5, c5, rfl⟩ := own_slice o5
          rw [← hN3.out, ← hN1.out] at HT5
          have HT5' := Lib.hid HT5
          clear o5 g5 t5 HT5
          go_wp2_with fail
          go_roundw
          case rel =>
            refine ⟨k + 1, d4 + 1, q + 1, A5, A6, c5, c6, by omega, by go_num, rfl, rfl, by omega, by omega, ?_⟩
            exact HT5'.out
          case measure => simp [intOf]; omega
        · have hhas : ∀ W, Below w2.heap.size w2 W → Calls Tryd.prog 43 #[.slice Ao m co, .int .i64 z] W fun e w' => e = .returned (.bool false) ∧ w' = W := by
            intro W hb
            refine (has_any w2.heap.size Ao m co (openK xs k) z (by omega) HM.out W (HT2.out.rdO.below hb)).mono ?_
            rintro e w3 ⟨rfl, rfl⟩
            exact ⟨by rw [show (openK xs k).contains z = false by simpa using hm], rfl⟩
          have hf := Lib.hid (faultsK_no HZ.out (show fltB (openK xs k) z = false by rw [fltB_pos hs]; simpa using hm))
          go_wp2_with fail
          go_quiet (first | (go_at_call 43; exact Calls.quiet_of_same (hhas _ (below_drewN (Below.refl _ _) _))))
          have HT3' := Lib.hid (HT2.out.below (below_drewN (Below.refl _ _) nq))
          have h3' : (w2.drewN nq).cell? (ad.add k) = some (.int .i64 z) := h2
          clear hhas h2 HT2 hm
          generalize w2.drewN nq = w2b at *
          rw [← hf.out] at HT3'
          obtain ⟨w3, hw3⟩ : ∃ w3, w3 = w2b := ⟨_, rfl⟩
          subst hw3
          have HT3 := HT3'
          have h3 := h3'
          clear HT3' h3' hf
          have HD := Lib.hid (drop_any w3.heap.size Ao m co (openK xs k) z (by omega) HM.out w3 HT3.out.rdO (Nat.le_refl _))
          go_wp2_with fail
          refine HD.out.mono ?_
          rintro e w4 ⟨A4, c4, rfl, o4, b4⟩
          have h4 : w4.cell? (ad.add k) = some (.int .i64 z) := (b4.cell (by rw [block_of_add]; have := HT3.out.b.size; omega)).trans h3
          have HT4 := Lib.hid (HT3.out.newO o4 b4)
          obtain ⟨d4, hd4⟩ : ∃ d4, (dropI z (openK xs k)).length = d4 := ⟨_, rfl⟩
          have HD4 := Lib.hid hd4
          have ld4 : d4 ≤ k := by rw [← hd4]; exact Nat.le_trans (dropI_len z _) (openK_len xs k)
          rw [hd4] at HT4 ⊢
          clear o4 b4 HT3 h3 HD hd4
          go_wp2_with (at_builtin; refine App.row_list _ rfl (.tmp 52) (.tmp 54) 22 rfl w.heap.size 0 3 i0 _ 1 8 Tryd.underlying22 hi hz0 hz1 hz2 rfl (by decide) (.slice A4 d4 c4) d4 (cellsI (dropI z (openK xs k))) rfl (own_alloc (by have := HT4.out.o; rw [HD4.out] at this; exact this) _) (.slice (some ⟨w4.heap.size, 0, none⟩) 1 1) 1 [.int .i64 z] rfl (App.one_own (heap1_0 w4 _)) (by intro u hu; simp at hu; rw [hu]; rfl) (by unfold maxLen; omega) (by omega) (by have := HT4.out.b.size; simp; omega) ?_)
          intro v5 w5 o5 g5 t5
          have HT5 := HT4.out.pushO (z := z) (v' := v5) (w' := w5) (.cells #[.int .i64 z] 3) (by rw [HD4.out]; exact o5) g5 (by simpa using t5)
          obtain ⟨A5, c5, rfl⟩ := own_slice o5
          rw [← hN3.out, ← hN1.out] at HT5
          have HT5' := Lib.hid HT5
          clear o5 g5 t5 HT5
          go_wp2_with fail
          go_roundw
          case rel =>
            refine ⟨k + 1, d4 + 1, q, A5, Af, c5, cf, by omega, by go_num, rfl, rfl, by omega, by omega, ?_⟩
            exact HT5'.out
          case measure => simp [intOf]; omega
    · obtain rfl : k = n := by omega
      go_wp2_with fail
      go_ret2
      refine ⟨Ao, co, Af, cf, by rw [HM.out, HQ.out]; rfl, ?_⟩
      rw [HM.out, HQ.out]
      exact HT.out
end Go.Proofs.YtikdcnlbjpabjaaDoor.EntS
