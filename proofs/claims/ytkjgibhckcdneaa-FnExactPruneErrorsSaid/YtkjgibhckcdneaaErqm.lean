/- impl.PruneErrors returns the errors that are in the walk of an error, numbered anew. -/
import Derived.Test.YtkjgibhckcdneaaErqi
namespace Go.Proofs.Ytkjgibhckcdneaa.ErQ
set_option linter.unusedVariables false
set_option linter.unusedSimpArgs false
open Go.ChangeShapes Go.WideShapes Go.ChangeAt Go.RowKit
open Mem IntsP ErP ErM ErT ErA ErU ErD ErW ErL ErF

/-- A list that grows in a box. -/
structure Gb (w2 : World) (lo h0 bb : Nat) (v : Value) (ys : List Int) (wr : World) : Prop where
  own : wr.ownsRow lo 3 1 v ys.length (cellsI ys)
  box : Blk wr bb 33 #[v]
  at_ : ∀ k, v.ownBlock = some k → k = h0 ∨ w2.heap.size ≤ k
  chg : Chg (fun b => b = bb ∨ b = h0) w2 wr
theorem Gb.push {w2 wr w' : World} {lo h0 bb : Nat} {v v' : Value} {ys : List Int} {z : Int} (h : Gb w2 lo h0 bb v ys wr) (hb2 : bb < w2.heap.size) (o : Obj)
    (ho : w'.ownsRow lo 3 1 v' (ys.length + 1) (cellsI ys ++ [.int .i64 z])) (hg : (wr.alloc o).grownBy w' v.ownBlock) (ha : v'.ownBlock = v.ownBlock ∨ v'.ownBlock = some (wr.heap.size + 1)) : Gb w2 lo h0 bb v' (ys ++ [z]) (w'.setCell ⟨bb, 0, none⟩ v') := by
  have sz := h.chg.size
  have hbl := h.box.lt
  have hvb : v.ownBlock ≠ some bb := App.own_blk_ne h.own h.box (by decide)
  have hv2 : v'.ownBlock ≠ some bb := by
    rcases ha with ha | ha
    · rw [ha]; exact hvb
    · rw [ha]; intro e; have : wr.heap.size + 1 = bb := by simpa using e
      omega
  have h1 : Chg (fun b => b = bb ∨ b = h0) w2 (wr.alloc o) := h.chg.new o
  have h2 : Chg (fun b => v.ownBlock = some b) (wr.alloc o) w' := App.Chg.of_grown' hg (fun k hk => hk)
  have h3 : Chg (fun b => v.ownBlock = some b) wr w' := (Chg.alloc (fun b => v.ownBlock = some b) wr o).trans h2 (fun _ _ h => h)
  refine ⟨by rw [List.length_append, List.length_singleton, cellsI_append]; exact own_far ho ⟨bb, 0, none⟩ _ hv2, (h.box.chg h3 (by intro e; exact hvb e)).put 0 v', fun k hk => ?_, ?_⟩
  · rcases ha with ha | ha
    · exact h.at_ k (by rw [← ha]; exact hk)
    · rw [ha] at hk
      have : wr.heap.size + 1 = k := by simpa using hk
      omega
  · refine Chg.put (h.chg.trans h3 (fun x hx hx2 => ?_)) ⟨bb, 0, none⟩ v' (.inr (.inl rfl))
    rcases h.at_ x hx2 with h4 | h4
    · exact .inr h4
    · omega
theorem Fs.none {w3 : World} {lo h0 bm : Nat} (hb : Blk w3 bm 29 #[.slice none 0 0]) : Fs w3 lo h0 bm (.slice none 0 0) [] w3 :=
  ⟨OwnE.nil _ _, hb, fun k hk => by simp [Value.ownBlock] at hk, Chg.refl _ _⟩
def prJ (e : Er) (a : List Int) (n j : Nat) : Er := ((keptE a n).take j).map (fun z => nodeG (newE a) (nodeE e z.toNat))
theorem prJ_next {e : Er} {a : List Int} {n j i : Nat} {s : En} (h : (keptE a n)[j]? = some (i : Int)) (hs : e[i]? = some s) : prJ e a n (j + 1) = prJ e a n j ++ [nodeG (newE a) s] := by
  unfold prJ; rw [List.take_add_one, h]; simp [nodeE_at hs]
theorem prJ_len {e : Er} {a : List Int} {n j : Nat} (h : j ≤ rkE a n) : (prJ e a n j).length = j := by
  unfold prJ; rw [List.length_map, List.length_take, kept_len]; omega
theorem prJ_all (e : Er) (a : List Int) (n : Nat) : prJ e a n (rkE a n) = prunedE e a n := by
  unfold prJ prunedE
  rw [List.take_of_length_le (by rw [kept_len]; exact Nat.le_refl _)]
  unfold keptE
  rw [List.map_map]
  rfl
set_option maxRecDepth 100000 in
set_option maxHeartbeats 8000000 in
theorem pruI_any (lo n c : Nat) (A : Option Addr) (p : Er) (x : Int) (hn : n ≤ 2000000) (hl : p.length = n) (hsm : SmallE p 2000000) (w : World) (ho : OwnE w lo (.slice A n c) p) :
    Calls Try.prog 42 #[.agg #[.slice A n c], .int .i64 x] w (ErrR (pruneR p x) w) := by
  have hF := Lib.hid (fun w hr hB => isErrorOf_any w.heap.size A n c p x (by omega) hl (hsm.mono (by omega)) w hr hB)
  have b2 : ∀ o o' : Obj, Below w.heap.size w ((w.alloc o).alloc o') := fun o o' => ((Below.refl _ _).alloc (Nat.le_refl _) _).alloc (by simp) _
  have B2 := Lib.hid b2
  have hO := Lib.hid ho
  have hL := Lib.hid hl
  have hRd := Lib.hid ho.rd
  clear ho hl b2
  cases hfn : oneE p x with
  | false =>
    have hs := Lib.hid (show pruneR p x = ([], false) by unfold pruneR; rw [hfn]; rfl)
    rw [hfn] at hF
    clear hfn
    go_enter Try.func42, Try.ntmps42
    go_wp2_with fail
    refine (hF.out _ (hO.out.below (B2.out _ _)).rd (Nat.le_refl _)).mono ?_
    rintro e w1 ⟨rfl, b⟩
    have bb := Lib.hid ((B2.out (.cells #[.slice A n c] 29) (.cells #[.slice none 0 0] 29)).trans (b.mono (by simp; omega)))
    have x1 : Blk w1 (w.heap.size + 1) 29 #[.slice none 0 0] := Blk.below (heap2_1 w _ _) b (by simp)
    have y1 : w1.cell? ⟨w.heap.size + 1, 0, none⟩ = some (.slice none 0 0) := x1.cells 0
    have f1 : w1.frozen? ⟨w.heap.size + 1, 0, none⟩ = false := x1.frozen 0
    clear b x1
    go_wp2_with fail
    refine bodyPost_ret (v := .tuple #[.agg #[.slice none 0 0], .bool false]) (by simp [results, Try.results42, go_sem, y1]) rfl ?_
    rw [hs.out]
    exact ⟨none, 0, rfl, OwnE.nil _ _, bb.out.setCell (p := ⟨w.heap.size + 1, 0, none⟩) (by show w.heap.size ≤ w.heap.size + 1; omega) _⟩
  | true =>
    obtain ⟨x0, sx, rfl, hxn, hxx, hok, hn12⟩ := oneE_at hfn
    have hs := Lib.hid (show pruneR p x0 = (prunedE p (waysE p x0) n, true) by unfold pruneR; rw [hfn, Int.toNat_natCast, hL.out]; rfl)
    rw [hL.out] at hxn hn12
    have HOK := Lib.hid hok
    have hW := Lib.hid (fun W (hr : RdE W W.heap.size A p) => ways_any n c A p x0 hL.out hok hxn W hr)
    have hWP := Lib.hid (fun (i j : Nat) (s : En) (z : Int) (h1 : p[i]? = some s) (h2 : s.2.2[j]? = some z) (h3 : 0 < getI (waysE p x0) i) => ways_part hok (by rw [hL.out]; exact hxn) h1 h2 h3)
    rw [hfn] at hF
    obtain ⟨i0, hi, hz0, hz1, hz2⟩ := info_parts info3
    obtain ⟨i5, hi5, hy0, hy1, hy2⟩ := info_parts infoNode
    clear hfn hxx hok hsm
    go_enter Try.func42, Try.ntmps42
    go_wp2_with fail
    refine (hF.out _ (hO.out.below (B2.out _ _)).rd (Nat.le_refl _)).mono ?_
    rintro e w1 ⟨rfl, b⟩
    have bb := Lib.hid ((B2.out (.cells #[.slice A n c] 29) (.cells #[.slice none 0 0] 29)).trans (b.mono (by simp; omega)))
    have x1 : Blk w1 (w.heap.size + 1) 29 #[.slice none 0 0] := Blk.below (heap2_1 w _ _) b (by simp)
    have x0b : Blk w1 w.heap.size 29 #[.slice A n c] := Blk.below (heap2_0 w _ _) b (by simp; omega)
    have z1 : ∀ o o' : Obj, ((w1.alloc o).alloc o').cell? ⟨w.heap.size, 0, none⟩ = some (.slice A n c) := fun o o' => ((x0b.alloc o).alloc o').cells 0
    have X1 := Lib.hid x1
    have X0 := Lib.hid x0b
    have lw1 := x1.lt
    clear b x1 x0b
    go_wp2_with fail
    refine (hW.out _ (hO.out.below ((bb.out.alloc bb.out.size _).alloc (by have := bb.out.size; simp; omega) _)).rd).mono ?_
    rintro e w2 ⟨g, rfl, hg1, hg2, hA, b3⟩
    obtain ⟨h0, hh0⟩ : ∃ h0, w1.heap.size = h0 := ⟨_, rfl⟩
    obtain ⟨bk, hbk⟩ : ∃ bk, w1.heap.size + 1 = bk := ⟨_, rfl⟩
    have hbk2 := hbk
    simp only [World.size_alloc] at hg1
    have xk : Blk w2 bk 33 #[.slice (some ⟨w1.heap.size, 0, none⟩) 0 0] := by rw [← hbk]; exact Blk.below (heap2_1 w1 _ _) b3 (by simp)
    have xh : w2.heap[h0]? = some (.cells #[] 3) := by rw [← hh0]; exact (b3.block _ (by simp; omega)).trans (heap2_0 w1 _ _)
    have X12 : Hid (Blk w2 (w.heap.size + 1) 29 #[.slice none 0 0]) := Lib.hid (((X1.out.alloc _).alloc _).below b3 ((X1.out.alloc _).alloc _).lt)
    have X02 : Hid (Blk w2 w.heap.size 29 #[.slice A n c]) := Lib.hid (((X0.out.alloc _).alloc _).below b3 ((X0.out.alloc _).alloc _).lt)
    have bb2 := Lib.hid (((bb.out.alloc bb.out.size (.cells #[] 3)).alloc (by have := bb.out.size; simp; omega) (.cells #[.slice (some ⟨w1.heap.size, 0, none⟩) 0 0] 33)).trans (b3.mono (by have := bb.out.size; simp; omega)))
    have R2 := Lib.hid (hRd.out.below bb2.out)
    have HA := Lib.hid hA
    rw [hbk]
    have lh : w.heap.size + 1 < h0 := by rw [← hh0]; exact lw1
    rw [hh0] at *
    have lk : h0 < bk := by omega
    have lg : bk < g := by omega
    have lg2 : g < w2.heap.size := hg2
    have hgb : Gb w2 h0 h0 bk (.slice (some ⟨h0, 0, none⟩) 0 0) (keptE (waysE p x0) 0) w2 := ⟨App.empty_own xh (Nat.le_refl _), xk, fun b hb => .inl (by simpa [Value.ownBlock] using hb.symm), Chg.refl _ _⟩
    have HGB := Lib.hid hgb
    clear hgb xk xh b3 hA z1 bb X0 X1 hW hF hbk2 hbk hg1 hg2 hh0 lw1
    have hal := ways_len p x0
    rw [hL.out] at hal
    have HAL := Lib.hid hal
    generalize waysE p x0 = a at *
    clear hal
    have hmf : ∀ (fn : Fn) (first cap : Array Value) (w : World), (Instr.makeFunc fn first cap).run Try.prog w = .ok (.func fn first cap) w := fun _ _ _ _ => rfl
    go_wp2_with fail
    go_loopw [23] (fun i wr => ∃ (k m : Nat) (Av : Option Addr) (cv : Nat), k ≤ n ∧ i = .int .i64 k ∧ m ≤ k ∧ Hid (rkE a k = m) ∧ Gb w2 h0 h0 bk (.slice Av m cv) (keptE a k) wr) (fun i _ => n - (intOf i).toNat)
    case atStart => exact ⟨0, 0, _, _, Nat.zero_le _, rfl, Nat.le_refl _, Lib.hid rfl, HGB.out⟩
    case round =>
      obtain ⟨k, m, Av, cv, hk, rfl, hmk, HM, hG⟩ := hrel
      have G := Lib.hid hG
      have A2 := Lib.hid (HA.out.chg hG.chg (by omega))
      have zb : wr.cell? ⟨bk, 0, none⟩ = some (.slice Av m cv) := hG.box.cells 0
      have fb : wr.frozen? ⟨bk, 0, none⟩ = false := hG.box.frozen 0
      have sz := hG.chg.size
      have lbk := hG.box.lt
      clear hG
      by_cases hlt : k < n
      · obtain ⟨e1, e2⟩ := A2.out.at hlt
        by_cases h1 : 0 < getI a k
        case neg =>
          have hN := Lib.hid (kept_no h1)
          have hM := Lib.hid (rk_no h1)
          generalize getI a k = z at *
          go_wp2_with fail
          go_roundw
          case rel => exact ⟨k + 1, m, Av, cv, by omega, by go_num, by omega, Lib.hid (by rw [hM.out, HM.out]), by rw [hN.out]; exact G.out⟩
          case measure => simp [intOf]; omega
        case pos =>
        have hN := Lib.hid (kept_yes h1)
        have hM := Lib.hid (rk_yes h1)
        generalize getI a k = z at *
        have hown : wr.ownsRow h0 3 1 (.slice Av m cv) m (cellsI (keptE a k)) := by have := G.out.own; rwa [kept_len, HM.out] at this
        have hvb : (Value.slice Av m cv).ownBlock ≠ some bk := App.own_blk_ne hown G.out.box (by decide)
        have HOW := Lib.hid hown
        have HVB := Lib.hid hvb
        clear hown hvb
        go_wp2_with (at_builtin; refine App.row_list _ rfl (.tmp 30) (.tmp 32) 33 rfl h0 0 3 i0 _ 1 8 Try.underlying33 hi hz0 hz1 hz2 rfl (by decide) (.slice Av m cv) m (cellsI (keptE a k)) rfl (own_alloc HOW.out _) (.slice (some ⟨wr.heap.size, 0, none⟩) 1 1) 1 [.int .i64 (k : Int)] rfl (App.one_own (heap1_0 wr _)) (by intro u hu; simp at hu; rw [hu]; rfl) (by unfold maxLen; omega) (by omega) (by simp; omega) ?_)
        intro v1 w3 o1 g1 t1
        have hp := G.out.push (z := (k : Int)) (v' := v1) (w' := w3) (by omega) (.cells #[.int .i64 (k : Int)] 3) (by rw [kept_len, HM.out]; exact o1) g1 (by simpa using t1)
        rw [← hN.out] at hp
        have HP := Lib.hid hp
        have xb3 : Blk w3 bk 33 #[.slice Av m cv] := (G.out.box.alloc (.cells #[.int .i64 (k : Int)] 3)).chg (App.Chg.of_grown' (C := fun b => (Value.slice Av m cv).ownBlock = some b) g1 (fun k hk => hk)) (by intro e; exact HVB.out e)
        have zb3 : w3.cell? ⟨bk, 0, none⟩ = some (.slice Av m cv) := xb3.cells 0
        have fb3 : w3.frozen? ⟨bk, 0, none⟩ = false := xb3.frozen 0
        obtain ⟨A1, c1', rfl⟩ := own_slice o1
        clear o1 g1 t1 hp xb3
        go_wp2_with fail
        go_roundw
        case rel => exact ⟨k + 1, m + 1, A1, c1', by omega, by go_num, by omega, Lib.hid (by rw [hM.out, HM.out]), HP.out⟩
        case measure => simp [intOf]; omega
      · obtain rfl : k = n := by omega
        have hown : wr.ownsRow h0 3 1 (.slice Av m cv) m (cellsI (keptE a k)) := by have := G.out.own; rwa [kept_len, HM.out] at this
        have RK := Lib.hid (rdI_own hown)
        have BK := Lib.hid G.out.box
        have R3 := Lib.hid (rdE_chg R2.out G.out.chg (by omega) (fun b hb => by omega))
        have X13 := Lib.hid (X12.out.chg G.out.chg (by omega))
        have X03 := Lib.hid (X02.out.chg G.out.chg (by omega))
        have bb3 := Lib.hid (bb2.out.trans (G.out.chg.below bb2.out.size (fun b hb h => by omega)))
        have zba : ∀ o, (wr.alloc o).cell? ⟨bk, 0, none⟩ = some (.slice Av m cv) := fun o => (G.out.box.alloc o).cells 0
        clear hown A2
        go_wp2_with fail
        obtain ⟨wo, rfl⟩ : ∃ wo, wo = wr := ⟨_, rfl⟩
        obtain ⟨bm, hbm⟩ : ∃ bm, wo.heap.size = bm := ⟨_, rfl⟩
        obtain ⟨w5, hw5⟩ : ∃ w5, wo.alloc (.cells #[.slice none 0 0] 29) = w5 := ⟨_, rfl⟩
        have b5 : Below wo.heap.size wo w5 := by rw [← hw5]; exact (Below.refl _ _).alloc (Nat.le_refl _) _
        have x5 : Blk w5 bm 29 #[.slice none 0 0] := by rw [← hw5, ← hbm]; exact heap1_0 _ _
        have K5 := Lib.hid (RK.out.below b5)
        have BK5 := Lib.hid (BK.out.below b5 BK.out.lt)
        have R5 := Lib.hid (R3.out.below (b5.mono (by omega)))
        have X15 := Lib.hid (X13.out.below b5 X13.out.lt)
        have X05 := Lib.hid (X03.out.below b5 X03.out.lt)
        have bb5 := Lib.hid (bb3.out.trans (b5.mono bb3.out.size))
        have HFs := Lib.hid (Fs.none (lo := w.heap.size + 2) (h0 := bm) x5)
        have lm : bk < bm := by rw [← hbm]; exact lbk
        have lm2 : g < bm := by rw [← hbm]; omega
        have l5 : bm < w5.heap.size := x5.lt
        rw [hw5]
        rw [hbm] at *
        clear hw5 hbm b5 x5 RK BK R3 X13 X03 bb3 zba zb fb G sz
        go_loopw [39] (fun i' wr => ∃ (j : Nat) (Ap : Option Addr) (cp : Nat), j ≤ m ∧ i' = .int .i64 j ∧ Fs w5 (w.heap.size + 2) bm bm (.slice Ap j cp) (prJ p a k j) wr) (fun i' _ => m - (intOf i').toNat)
        case atStart => exact ⟨0, _, _, Nat.zero_le _, rfl, HFs.out⟩
        case round =>
          obtain ⟨j, Ap, cp, hj, rfl, hG⟩ := hrel
          have G := Lib.hid hG
          have szr := hG.chg.size
          clear hG
          by_cases hjm : j < m
          · obtain ⟨zi, hzi⟩ : ∃ z, (keptE a k)[j]? = some z := ⟨_, List.getElem?_eq_getElem (by rw [kept_len, HM.out]; exact hjm)⟩
            obtain ⟨i, rfl, hik, hai⟩ := kept_lt (List.mem_of_getElem? hzi)
            obtain ⟨⟨t0, t1, t2⟩, hsx⟩ : ∃ s, p[i]? = some s := ⟨_, List.getElem?_eq_getElem (by rw [hL.out]; exact hik)⟩
            have KR := Lib.hid (rdI_chg K5.out G.out.chg (by omega) (fun b hb => by omega))
            have RR := Lib.hid (rdE_chg R5.out G.out.chg (by omega) (fun b hb => by omega))
            obtain ⟨ak, hak, _, d0⟩ := KR.out j _ hzi
            obtain ⟨ad, Ai, ci, hAd, hab, c0, c1, c2, c3⟩ := RR.out i _ hsx
            have zr : wr.cell? ⟨w.heap.size, 0, none⟩ = some (.slice A k c) := (X05.out.chg G.out.chg (by omega)).cells 0
            have zm : wr.cell? ⟨bm, 0, none⟩ = some (.slice Ap j cp) := G.out.box.cells 0
            have BKr := Lib.hid (BK5.out.chg G.out.chg (by omega))
            have HT := Lib.hid (prJ_next (e := p) hzi hsx)
            have HS := Lib.hid hsx
            have C3 := Lib.hid c3
            have hql : (prJ p a k j).length = j := prJ_len (by rw [HM.out]; omega)
            have HQL := Lib.hid hql
            have HWi := Lib.hid (fun (q : Nat) (z : Int) (hz : t2[q]? = some z) => (show ∃ r : Nat, z = r ∧ r < k ∧ 0 < getI a r by
              obtain ⟨r, rfl, h1, h2⟩ := ok_part (s := (t0, t1, t2)) HOK.out hsx hz
              have := hWP.out i q (t0, t1, t2) _ hsx hz hai
              rw [Int.toNat_natCast] at this
              exact ⟨r, rfl, by rw [← hL.out]; exact h2, this⟩))
            have h12 : t2.length ≤ 12 := ok_many HOK.out HS.out
            have HMr := Lib.hid HM.out
            subst hak
            rw [hAd] at zr
            dsimp only at c0 c1 c2
            clear hsx c3 hql hzi
            go_wp2_with fail
            have vne : ∀ b, (Value.slice Ap j cp).ownBlock = some b → b ≠ bm := by
              intro b hb e
              obtain ⟨vals, hvl, hvo, _, _⟩ := G.out.own
              exact App.own_blk_ne hvo G.out.box (by decide) (by rw [hb, e])
            have VNE := Lib.hid vne
            have S0 : (fun V : World => V.cell? ⟨bm, 0, none⟩ = some (.slice Ap j cp) ∧ V.cell? ⟨w.heap.size, 0, none⟩ = some (.slice (some ad) k c) ∧ V.cell? (ad.add (i * 3)) = some (.int .i64 t0) ∧ V.cell? ⟨(ad.add (i * 3)).block, (ad.add (i * 3)).off + 1, none⟩ = some (.int .i64 t1) ∧ V.cell? ⟨(ad.add (i * 3)).block, (ad.add (i * 3)).off + 2, none⟩ = some (.slice Ai t2.length ci)) wr.drew := ⟨zm, zr, c0, c1, c2⟩
            refine Last2.region_last [12] (fun V : World => V.cell? ⟨bm, 0, none⟩ = some (.slice Ap j cp) ∧ V.cell? ⟨w.heap.size, 0, none⟩ = some (.slice (some ad) k c) ∧ V.cell? (ad.add (i * 3)) = some (.int .i64 t0) ∧ V.cell? ⟨(ad.add (i * 3)).block, (ad.add (i * 3)).off + 1, none⟩ = some (.int .i64 t1) ∧ V.cell? ⟨(ad.add (i * 3)).block, (ad.add (i * 3)).off + 2, none⟩ = some (.slice Ai t2.length ci)) (by kernel_rfl) ?_
            refine Last2.last_take (i := 0) (d := some 43) (v := .pointer (some ⟨bm, 0, none⟩)) rfl rfl (by kernel_rfl) (by kernel_rfl) (by kernel_rfl) (fun _ _ _ h => h) rfl (by kernel_rfl) (by kernel_rfl) rfl ?_ S0 ?_
            · (intro V hV; (try dsimp only at hV); go_simp; try with_reducible rfl)
            simp only [Act.put, List.setIfInBounds_toArray, List.set_cons_zero, List.set_cons_succ]
            refine Last2.last_take (i := 1) (d := some 44) (v := .slice Ap j cp) rfl rfl (by kernel_rfl) (by kernel_rfl) (by kernel_rfl) (fun _ _ _ h => h) rfl (by kernel_rfl) (by kernel_rfl) rfl ?_ S0 ?_
            · (intro V hV; (try dsimp only at hV); go_simp; try with_reducible rfl)
            simp only [Act.put, List.setIfInBounds_toArray, List.set_cons_zero, List.set_cons_succ]
            refine Last2.last_take (i := 2) (d := some 45) (v := .pointer (some ⟨w.heap.size, 0, none⟩)) rfl rfl (by kernel_rfl) (by kernel_rfl) (by kernel_rfl) (fun _ _ _ h => h) rfl (by kernel_rfl) (by kernel_rfl) rfl ?_ S0 ?_
            · (intro V hV; (try dsimp only at hV); go_simp; try with_reducible rfl)
            simp only [Act.put, List.setIfInBounds_toArray, List.set_cons_zero, List.set_cons_succ]
            refine Last2.last_take (i := 3) (d := some 46) (v := .slice (some ad) k c) rfl rfl (by kernel_rfl) (by kernel_rfl) (by kernel_rfl) (fun _ _ _ h => h) rfl (by kernel_rfl) (by kernel_rfl) rfl ?_ S0 ?_
            · (intro V hV; (try dsimp only at hV); go_simp; try with_reducible rfl)
            simp only [Act.put, List.setIfInBounds_toArray, List.set_cons_zero, List.set_cons_succ]
            refine Last2.last_take (i := 4) (d := some 47) (v := .int .i64 (i : Int)) rfl rfl (by kernel_rfl) (by kernel_rfl) (by kernel_rfl) (fun _ _ _ h => h) rfl (by kernel_rfl) (by kernel_rfl) rfl ?_ S0 ?_
            · (intro V hV; (try dsimp only at hV); go_simp; try with_reducible rfl)
            simp only [Act.put, List.setIfInBounds_toArray, List.set_cons_zero, List.set_cons_succ]
            refine Last2.last_take (i := 5) (d := some 48) (v := .pointer (some (ad.add (i * 3)))) rfl rfl (by kernel_rfl) (by kernel_rfl) (by kernel_rfl) (fun _ _ _ h => h) rfl (by kernel_rfl) (by kernel_rfl) rfl ?_ S0 ?_
            · (intro V hV; (try dsimp only at hV); go_simp; try with_reducible rfl)
            simp only [Act.put, List.setIfInBounds_toArray, List.set_cons_zero, List.set_cons_succ]
            refine Last2.last_take (i := 6) (d := some 49) (v := .agg #[.int .i64 t0, .int .i64 t1, .slice Ai t2.length ci]) rfl rfl (by kernel_rfl) (by kernel_rfl) (by kernel_rfl) (fun _ _ _ h => h) rfl (by kernel_rfl) (by kernel_rfl) rfl ?_ S0 ?_
            · (intro V hV; (try dsimp only at hV); go_simp; try with_reducible rfl)
            simp only [Act.put, List.setIfInBounds_toArray, List.set_cons_zero, List.set_cons_succ]
            refine Last2.last_take (i := 7) (d := some 50) (v := .func (.func 66) #[] #[.pointer (some ⟨bk, 0, none⟩)]) rfl rfl (by kernel_rfl) (by kernel_rfl) (by kernel_rfl) (fun _ _ _ h => h) rfl (by kernel_rfl) (by kernel_rfl) rfl ?_ S0 ?_
            · (intro V hV; (try dsimp only at hV); go_simp; try with_reducible rfl)
            simp only [Act.put, List.setIfInBounds_toArray, List.set_cons_zero, List.set_cons_succ]
            have HPT := Lib.hid (partsG_any w.heap.size t0 t1 Ai t2.length ci t2 (by omega) rfl a k bk (some ak) m cv (by omega) HMr.out HWi.out wr.drew ((KR.out.more (B' := wr.drew.heap.size) (by show bm ≤ wr.heap.size; omega)).keep (fun _ _ => rfl)) BKr.out (C3.out.keep (fun _ _ => rfl)) (by show w.heap.size ≤ wr.heap.size; omega))
            have FD : Fs w5 (w.heap.size + 2) bm bm (.slice Ap j cp) (prJ p a k j) wr.drew := ⟨G.out.own.below ((Below.refl _ _).drew), G.out.box.below ((Below.refl _ _).drew) G.out.box.lt, G.out.at_, chg_drew G.out.chg⟩
            have lW3 : w5.heap.size ≤ wr.drew.heap.size := FD.chg.size
            have hSB : ∀ V, Below wr.drew.heap.size wr.drew V → (fun V : World => V.cell? ⟨bm, 0, none⟩ = some (.slice Ap j cp) ∧ V.cell? ⟨w.heap.size, 0, none⟩ = some (.slice (some ad) k c) ∧ V.cell? (ad.add (i * 3)) = some (.int .i64 t0) ∧ V.cell? ⟨(ad.add (i * 3)).block, (ad.add (i * 3)).off + 1, none⟩ = some (.int .i64 t1) ∧ V.cell? ⟨(ad.add (i * 3)).block, (ad.add (i * 3)).off + 2, none⟩ = some (.slice Ai t2.length ci)) V := fun V b => ⟨(FD.box.below b FD.box.lt).cells 0, (b.cell (p := ⟨w.heap.size, 0, none⟩) (by show w.heap.size < wr.heap.size; omega)).trans zr, (b.cell (by rw [block_of_add]; show ad.block < wr.heap.size; omega)).trans c0, (b.cell (by show (ad.add _).block < wr.heap.size; rw [block_of_add]; omega)).trans c1, (b.cell (by show (ad.add _).block < wr.heap.size; rw [block_of_add]; omega)).trans c2⟩
            have HSB := Lib.hid hSB
            have HFD := Lib.hid FD
            clear S0 hSB FD zm zr c0 c1 c2 C3 KR RR BKr d0 G vne
            generalize wr.drew = U at *
            refine Last2.last_one (i := 8) (o := { dst := some 51, op := .call { callee := .value (.func 68), args := #[.tmp 49, .tmp 50], argTypes := _ }, type := _, pos := _, after := _, guard := none }) (by kernel_rfl) rfl rfl (fun K hK => ?_)
            go_simp
            refine HPT.out.mono ?_
            rintro e w4 ⟨gp, rfl, hgp, op, b4⟩
            refine hK.out _ _ (fun _ => HSB.out _ b4) ?_
            clear hK K
            try simp only [Act.put, List.setIfInBounds_toArray, List.set_cons_zero, List.set_cons_succ]
            refine Last2.last_one (i := 9) (o := { dst := some 52, op := .buildSlice 27 1 #[(0, .tmp 51)], type := _, pos := _, after := _, guard := none }) (by kernel_rfl) rfl rfl (fun K hK => ?_)
            go_simp
            have b5 : Below U.heap.size U (w4.alloc (.cells #[.int .i64 t0, .int .i64 t1, .slice (some ⟨gp, 0, none⟩) t2.length t2.length] 55)) := b4.alloc b4.size _
            refine hK.out _ _ (fun _ => HSB.out _ b5) ?_
            clear hK K
            try simp only [Act.put, List.setIfInBounds_toArray, List.set_cons_zero, List.set_cons_succ]
            obtain ⟨vals, v1, v2, v3, v4⟩ := HFD.out.own
            rw [HQL.out] at v2
            have HV2 := Lib.hid v2
            have HV := Lib.hid (And.intro v1 (And.intro v3 v4))
            have hone : ∀ u ∈ ([.int .i64 t0, .int .i64 t1, .slice (some ⟨gp, 0, none⟩) t2.length t2.length] : List Value), u.oneCell' = true := by intro u hu; simp at hu; rcases hu with rfl | rfl | rfl <;> rfl
            have OR := Lib.hid (own_below v2 b5 (Nat.le_refl _))
            have PR := Lib.hid (node_own (heap1_0 w4 (.cells #[.int .i64 t0, .int .i64 t1, .slice (some ⟨gp, 0, none⟩) t2.length t2.length] 55)))
            have hsz5 : w.heap.size + 2 ≤ (w4.alloc (.cells #[.int .i64 t0, .int .i64 t1, .slice (some ⟨gp, 0, none⟩) t2.length t2.length] 55)).heap.size := by have := b5.size; omega
            have OP := Lib.hid (own_alloc op (.cells #[.int .i64 t0, .int .i64 t1, .slice (some ⟨gp, 0, none⟩) t2.length t2.length] 55))
            have B5 := Lib.hid b5
            have s4 := b4.size
            clear v1 v2 v3 v4 op b4 b5
            refine Last2.last_one (i := 10) (o := { dst := some 53, op := .call { callee := .builtin .append, args := #[.tmp 44, .tmp 52], argTypes := #[27, 27] }, type := _, pos := _, after := _, guard := none }) (by kernel_rfl) rfl rfl (fun K hK => ?_)
            refine App.row_wp _ (.tmp 44) (.tmp 52) 27 rfl (w.heap.size + 2) 0 55 i5 _ 3 40 Try.underlying27 hi5 hy0 hy1 hy2 rfl (by decide) _ _ _ rfl OR.out _ 1 [.int .i64 t0, .int .i64 t1, .slice (some ⟨gp, 0, none⟩) t2.length t2.length] rfl PR.out hone (by unfold maxLen; omega) (by omega) hsz5 ?_
            intro v2 w6 o6 g6 t6
            obtain ⟨A6, c6, rfl⟩ := own_slice o6
            have c56 : Chg (fun b => (Value.slice Ap j cp).ownBlock = some b) U w6 := (Chg.of_below (C := fun b => (Value.slice Ap j cp).ownBlock = some b) B5.out).trans (App.Chg.of_grown' (C := fun b => (Value.slice Ap j cp).ownBlock = some b) g6 (fun k hk => hk)) (fun _ _ h => h)
            have vlo := Lib.hid (fun b hb => (HV2.out.lt b hb).1)
            have key : ∀ q : Addr, q.block ≤ w.heap.size → w6.cell? q = U.cell? q := fun q hq => c56.cell (by omega) (fun h => by
              have h5 := vlo.out q.block h
              omega)
            have hadb : ∀ q, (ad.add q).block ≤ w.heap.size := fun q => by rw [block_of_add]; omega
            have hu0 := HSB.out U (Below.refl _ _)
            have S6 : (fun V : World => V.cell? ⟨bm, 0, none⟩ = some (.slice Ap j cp) ∧ V.cell? ⟨w.heap.size, 0, none⟩ = some (.slice (some ad) k c) ∧ V.cell? (ad.add (i * 3)) = some (.int .i64 t0) ∧ V.cell? ⟨(ad.add (i * 3)).block, (ad.add (i * 3)).off + 1, none⟩ = some (.int .i64 t1) ∧ V.cell? ⟨(ad.add (i * 3)).block, (ad.add (i * 3)).off + 2, none⟩ = some (.slice Ai t2.length ci)) w6 := ⟨(HFD.out.box.chg c56 (fun h => VNE.out bm h rfl)).cells 0, (key ⟨w.heap.size, 0, none⟩ (Nat.le_refl _)).trans hu0.2.1, (key _ (hadb _)).trans hu0.2.2.1, (key ⟨(ad.add (i * 3)).block, (ad.add (i * 3)).off + 1, none⟩ (hadb _)).trans hu0.2.2.2.1, (key ⟨(ad.add (i * 3)).block, (ad.add (i * 3)).off + 2, none⟩ (hadb _)).trans hu0.2.2.2.2⟩
            clear key hadb hu0
            have u6 : w6.ownsRow (w.heap.size + 2) 3 1 (.slice (some ⟨gp, 0, none⟩) t2.length t2.length) t2.length (cellsI (t2.map (newE a))) := own_mono (own_chg OP.out (App.Chg.of_grown' (C := fun b => (Value.slice Ap j cp).ownBlock = some b) g6 (fun k hk => hk)) (fun k hk hk2 => App.own_ne OR.out OP.out (by decide) hk2 hk)) (by omega)
            have hgpk : ∀ b, (Value.slice (some ⟨gp, 0, none⟩) t2.length t2.length).ownBlock = some b → U.heap.size ≤ b := by
              intro b hb
              have e : gp = b := by simpa [Value.ownBlock] using hb
              omega
            have FP := Fs.push (s := nodeG (newE a) (t0, t1, t2)) (u := .slice (some ⟨gp, 0, none⟩) t2.length t2.length) (v2 := .slice A6 (j + 1) c6) HFD.out HV.out.1 (by rw [HQL.out]; exact HV2.out) HV.out.2.1 HV.out.2.2 c56 (by
                rcases t6 with t6 | t6
                · exact .inl t6
                · exact .inr ⟨_, t6, by simp; omega⟩) l5 (by rw [HQL.out, cellsN_append]; exact o6) (by simp only [nodeG, List.length_map]; exact u6) hgpk
            rw [← HT.out] at FP
            have bx6 := HFD.out.box.chg c56 (fun h => VNE.out bm h rfl)
            have zm6 : w6.cell? ⟨bm, 0, none⟩ = some (.slice Ap j cp) := bx6.cells 0
            have fm6 : w6.frozen? ⟨bm, 0, none⟩ = false := bx6.frozen 0
            have HFP := Lib.hid FP
            refine hK.out _ _ (fun _ => S6) ?_
            clear hK K o6 g6 t6 c56 u6 FP bx6 OP OR PR hone HV HV2 B5 vlo
            try simp only [Act.put, List.setIfInBounds_toArray, List.set_cons_zero, List.set_cons_succ]
            refine Last2.last_one (i := 11) (o := { dst := some 54, op := .fieldAddr 29 (.tmp 10) 0, type := _, pos := _, after := _, guard := none }) (by kernel_rfl) rfl rfl (fun K hK => ?_)
            go_simp
            refine hK.out _ _ (fun _ => S6) ?_
            clear hK K S6
            try simp only [Act.put, List.setIfInBounds_toArray, List.set_cons_zero, List.set_cons_succ]
            refine Last2.last_one (i := 12) (o := { dst := none, op := .store 27 (.tmp 54) (.tmp 53), type := _, pos := _, after := _, guard := none }) (by kernel_rfl) rfl rfl (fun K hK => ?_)
            go_simp
            refine hK.out _ _ (fun h => (h (by decide)).elim) ?_
            clear hK K
            try simp only [Act.put, List.setIfInBounds_toArray, List.set_cons_zero, List.set_cons_succ]
            refine Last2.last_done (by kernel_rfl) ?_ _
            generalize w6.setCell ⟨bm, 0, none⟩ (.slice A6 (j + 1) c6) = w7 at *
            clear zm6 fm6
            go_wp2_with fail
            go_roundw
            case rel => first | exact ⟨j + 1, A6, c6, by omega, by go_num, HFP.out⟩ | exact ⟨j + 1, by omega, by go_num, A6, c6, HFP.out⟩
            case measure => simp [intOf]; omega
          · obtain rfl : j = m := by omega
            have hE : prJ p a k j = prunedE p a k := by rw [← HM.out]; exact prJ_all p a k
            have hlE := Lib.hid (show (prunedE p a k).length = j by rw [pruned_len, HM.out])
            rw [hE] at G
            have y4 : wr.cell? ⟨w.heap.size + 1, 0, none⟩ = some (.slice none 0 0) := (X15.out.chg G.out.chg (by omega)).cells 0
            have f4 : wr.frozen? ⟨w.heap.size + 1, 0, none⟩ = false := (X15.out.chg G.out.chg (by omega)).frozen 0
            have zm : wr.cell? ⟨bm, 0, none⟩ = some (.slice Ap j cp) := G.out.box.cells 0
            have bb6 := Lib.hid (bb5.out.trans (G.out.chg.below bb5.out.size (fun b hb h => by omega)))
            clear hE
            go_wp2_with fail
            refine bodyPost_ret (v := .tuple #[.agg #[.slice Ap j cp], .bool true]) (by simp [results, Try.results42, go_sem, y4]) rfl ?_
            rw [hs.out]
            refine ⟨Ap, cp, by simp only [hlE.out], ?_, bb6.out.setCell (p := ⟨w.heap.size + 1, 0, none⟩) (by show w.heap.size ≤ w.heap.size + 1; omega) _⟩
            simp only [hlE.out]
            exact (G.out.own.chg (Chg.set _ ⟨w.heap.size + 1, 0, none⟩ _) (fun b hb _ => by show ¬ b = w.heap.size + 1; omega)).mono (by omega)
end Go.Proofs.Ytkjgibhckcdneaa.ErQ
