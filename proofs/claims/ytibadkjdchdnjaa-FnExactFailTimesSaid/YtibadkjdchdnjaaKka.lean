import Derived.Test.YtibadkjdchdnjaaKkp
set_option linter.all false
namespace Go.Proofs.Ytibadkjdchdnjaa.Kka
open Lib (hid)
open Go.ChangeShapes Go.WideShapes Go.ChangeAt Go.RowKit
open PL Mem Srun Sst To OwnS AskP StpS Res Swhole Sout IntsP LawI LawN PArgP Kpp Kfg Kkp
theorem keepGo_cons {r : Int → Out} {li sp z : Int} {js : List Int} {s : KS} : keepGo r li sp (z :: js) s = if li < (kstep sp (r z) s).most then kstep sp (r z) s else keepGo r li sp js (kstep sp (r z) s) := rfl
theorem drop_cons {js : List Int} {q : Nat} {z : Int} (h : js[q]? = some z) : js.drop q = z :: js.drop (q + 1) := by
 obtain ⟨hq, rfl⟩ := List.getElem?_eq_some_iff.1 h
 exact List.drop_eq_getElem_cons hq
set_option maxRecDepth 100000 in
set_option maxHeartbeats 8000000 in
theorem runAll_any (B kb g n c : Nat) (A : Option Addr) (js : List Int) (li sp : Int) (r : Int → Out) (hn : n ≤ 20) (hl : js.length = n) (hli : 0 ≤ li ∧ li ≤ 20) (hsp : 0 ≤ sp ∧ sp ≤ 1000) (w : World) (hB : B ≤ w.heap.size) (hBk : B ≤ kb)
  (hrun : ∀ (i : Nat) (z : Int) (W : World), js[i]? = some z → Below B w W → Calls Try.prog 97 #[.int .i64 z, .pointer (some ⟨g, 0, none⟩), .pointer (some ⟨g + 1, 0, none⟩), .pointer (some ⟨g + 2, 0, none⟩)] W (RunR (r z) W))
  (ht : ∀ (i : Nat) (z : Int), js[i]? = some z → Tells (r z))
  (hbk : Blk w kb 123 (kc g li sp k0 (.slice none 0 0) (.slice none 0 0))) (hjs : RdI w B A js) :
  Calls Try.prog 108 #[.pointer (some ⟨kb, 0, none⟩), .slice A n c] w fun e w' => e = .returned (.tuple #[]) ∧ ∃ vk vf, Kp w kb g li sp (keepGo r li sp js k0) vk vf w' := by
 obtain ⟨i0, hi, hz0, hz1, hz2⟩ := info_parts info3
 have HR := hid hrun
 have HT := hid ht
 have HJ := hid hjs
 have HL := hid hl
 have hlt0 := hbk.lt
 have K0 := hid (show Kp w kb g li sp k0 (.slice none 0 0) (.slice none 0 0) w from ⟨hbk, ⟨World.ownsRow_nil _ _ _ _, World.ownsRow_nil _ _ _ _, fun k hk => by simp [Value.ownBlock] at hk⟩, Chg.refl _ _⟩)
 obtain ⟨R, hR⟩ : ∃ R, keepGo r li sp js k0 = R := ⟨_, rfl⟩
 have HRR := hid (show keepGo r li sp (js.drop 0) k0 = R from hR)
 rw [hR]
 clear hrun ht hbk hjs hl hR
 go_enter Try.func108, Try.ntmps108
 go_step3
 go_wp2_with fail
 go_step3
 go_wp2_with fail
 go_loopw [9] (fun i wr => ∃ (q : Nat) (s : KS) (vk vf : Value), q ≤ n ∧ i = .int .i64 q ∧ KIn q s ∧ s.most ≤ li ∧ keepGo r li sp (js.drop q) s = R ∧ Kp w kb g li sp s vk vf wr) (fun i _ => n - (intOf i).toNat)
 case atStart => exact ⟨0, k0, _, _, Nat.zero_le _, rfl, KIn.zero, hli.1, HRR.out, K0.out⟩
 case round =>
  obtain ⟨q, s, vk, vf, hq, rfl, hin, hms, hgo, hK⟩ := hrel
  clear K0 HRR
  by_cases hlt : q < n
  ·obtain ⟨z, hz⟩ : ∃ z, js[q]? = some z := ⟨_, List.getElem?_eq_getElem (by rw [HL.out]; exact hlt)⟩
   have hb := hK.chg.below hB (fun x hx e => by omega)
   have hrz := hid (HR.out q z wr hz hb)
   obtain ⟨ad, had, hab, d0⟩ := (HJ.out.below hb) q z hz
   subst had
   have HTz := HT.out q z hz
   have ho0 := HTz.spent0
   have ho1 := HTz.spent1
   rw [drop_cons hz, keepGo_cons] at hgo
   have HIN := hin.step HTz sp
   have HG := hid hgo
   have HI2 := hid HIN
   have i1 : s.kinds.length ≤ 20 := by have := hin.kinds; omega
   have i2 := hin.fails
   have i3 := hin.clock0
   have i4 := hin.clock1
   have i5 := hin.most0
   have i6 := hin.most1
   have HKD := hid HTz.kind
   have z0 : wr.cell? ⟨kb, 0, none⟩ = some (runV g) := hK.blk.cells 0
   unfold runV at z0
   have K1 := hid hK
   clear hz hb hgo hK hin HIN HTz
   generalize r z = o at *
   obtain ⟨k1, v1, t1, s1⟩ := o
   dsimp only at ho0 ho1
   go_wp2_with fail
   refine hrz.out.mono ?_
   rintro e w2 ⟨A2, c2, rfl, t2, b2⟩
   unfold outval
   have K2 := hid (K1.out.below b2)
   clear t2 b2 z0 d0 K1 hrz
   dsimp only
   go_upto_region 4 with fail
   change (fun V => Code.wp _ _ _ _ V) _
   refine gen_world (X := fun V => Blk V w2.heap.size 39 #[.int .i64 k1, .int .i64 v1, .slice A2 t1.length c2, .int .i64 s1] ∧ Kp w kb g li sp s vk vf V ∧ w2.heap.size < V.heap.size ∧ w.heap.size ≤ w2.heap.size ∧ kb < w2.heap.size) ⟨heap1_0 w2 _, K2.out.alloc _, by simp, K2.out.chg.size, K2.out.blk.lt⟩ ?_
   clear K2
   rintro W ⟨hob, hK3, hl1, hl2, hl3⟩
   generalize w2.heap.size = ob at *
   obtain ⟨Ak, ck, rfl⟩ := own_slice hK3.two.kinds
   have H := hid hK3
   have OB := hid hob
   have z4 : W.cell? ⟨kb, 4, none⟩ = some (.slice Ak s.kinds.length ck) := hK3.blk.cells 4
   have y0 : W.cell? ⟨ob, 0, none⟩ = some (.int .i64 k1) := hob.cells 0
   clear hob hK3
   have S0 : (fun V : World => V.cell? ⟨kb, 4, none⟩ = some (.slice Ak s.kinds.length ck) ∧ V.cell? ⟨ob, 0, none⟩ = some (.int .i64 k1)) W.drew := ⟨z4, y0⟩
   refine Last2.region_last [11] (fun V : World => V.cell? ⟨kb, 4, none⟩ = some (.slice Ak s.kinds.length ck) ∧ V.cell? ⟨ob, 0, none⟩ = some (.int .i64 k1)) (by kernel_rfl) ?_
   refine Last2.tk 0 19 (.pointer (some ⟨kb, 0, none⟩)) S0 ?_
   simp only [Act.put, Last2.s]
   refine Last2.tk 1 20 (.pointer (some ⟨kb, 0, none⟩)) S0 ?_
   simp only [Act.put, Last2.s]
   refine Last2.tk 2 21 (.pointer (some ⟨kb, 0, none⟩)) S0 ?_
   simp only [Act.put, Last2.s]
   refine Last2.tk 3 22 (.pointer (some ⟨kb, 4, none⟩)) S0 ?_
   simp only [Act.put, Last2.s]
   refine Last2.tk 4 23 (.slice Ak s.kinds.length ck) S0 ?_
   simp only [Act.put, Last2.s]
   refine Last2.tk 5 24 (.pointer (some ⟨ob, 0, none⟩)) S0 ?_
   simp only [Act.put, Last2.s]
   refine Last2.tk 6 25 (.int .i64 k1) S0 ?_
   simp only [Act.put, Last2.s]
   refine Last2.last_one (i := 7) (o := { dst := some 26, op := .buildSlice 28 1 #[(0, .tmp 25)], type := _, pos := _, after := _, guard := none }) (by kernel_rfl) rfl rfl (fun K hK => ?_)
   go_simp
   have hal : Below W.heap.size W (W.alloc (.cells #[.int .i64 k1] 3)) := (Below.refl _ _).alloc (Nat.le_refl _) _
   have S1 : (fun V : World => V.cell? ⟨kb, 4, none⟩ = some (.slice Ak s.kinds.length ck) ∧ V.cell? ⟨ob, 0, none⟩ = some (.int .i64 k1)) (W.alloc (.cells #[.int .i64 k1] 3)).drew := ⟨(H.out.blk.below hal H.out.blk.lt).cells 4, (OB.out.below hal OB.out.lt).cells 0⟩
   refine hK.out _ _ (fun _ => S1) ?_
   clear hK K S0
   try simp only [Act.put, Last2.s]
   have o0 := World.ownsRow.alloc H.out.two.kinds (.cells #[.int .i64 k1] 3)
   have p0 := App.one_own (heap1_0 W (.cells #[.int .i64 k1] 3))
   refine Last2.last_one (i := 8) (o := { dst := some 27, op := .call { callee := .builtin .append, args := #[.tmp 23, .tmp 26], argTypes := #[28, 28] }, type := _, pos := _, after := _, guard := none }) (by kernel_rfl) rfl rfl (fun K hK => ?_)
   refine App.row_wp _ (.tmp 23) (.tmp 26) 28 rfl w.heap.size 0 3 i0 _ 1 8 Try.underlying28 hi hz0 hz1 hz2 rfl (by decide) _ _ _ rfl o0 _ 1 [.int .i64 k1] rfl p0 (by intro u hu; simp at hu; rcases hu with rfl; rfl) (by unfold maxLen; omega) (by omega) (by show w.heap.size ≤ (W.alloc _).heap.size; rw [World.size_alloc]; omega) ?_
   intro v1 w1 o1 g1 t1
   have ch : Chg (fun x => (Value.slice Ak s.kinds.length ck).ownBlock = some x) W w1 := Chg.trans (b := (W.alloc (.cells #[.int .i64 k1] 3)).drew) (Chg.trans (Chg.alloc _ W _) (Chg.drew (fun _ => False) _) (fun _ _ h => h.elim)) (Chg.of_grown g1) (fun x _ hx => hx.symm)
   have tt : v1.ownBlock = (Value.slice Ak s.kinds.length ck).ownBlock ∨ ∃ x, v1.ownBlock = some x ∧ W.heap.size ≤ x := t1.imp id (fun h => ⟨_, h, by show W.heap.size ≤ (W.alloc (.cells #[.int .i64 k1] 3)).heap.size; rw [World.size_alloc]; omega⟩)
   have b1 := H.out.blk.chg ch (blk_apart H.out.two.kinds H.out.blk (by decide))
   have S2 : (fun V : World => V.cell? ⟨kb, 4, none⟩ = some (.slice Ak s.kinds.length ck) ∧ V.cell? ⟨ob, 0, none⟩ = some (.int .i64 k1)) w1 := ⟨(H.out.blk.chg ch (blk_apart H.out.two.kinds H.out.blk (by decide))).cells 4, (OB.out.chg ch (blk_apart H.out.two.kinds OB.out (by decide))).cells 0⟩
   refine hK.out _ _ (fun _ => S2) ?_
   clear hK K o0 p0 S1 hal
   obtain ⟨A1, c1, rfl⟩ := own_slice o1
   have k5 : w1.cell? ⟨kb, 4, none⟩ = some (.slice Ak s.kinds.length ck) := S2.1
   have f5 : w1.frozen? ⟨kb, 4, none⟩ = false := b1.frozen _
   have O1 := hid o1
   have CH := hid ch
   have TT := hid tt
   have SH := hid S2
   clear o1 g1 t1 tt ch b1 S2
   try simp only [Act.put, Last2.s]
   refine Last2.last_one (i := 9) (o := { dst := some 28, op := .nilCheck (.tmp 19), type := _, pos := _, after := _, guard := none }) (by kernel_rfl) rfl rfl (fun K hK => ?_)
   go_simp
   refine hK.out _ _ (fun _ => SH.out) ?_
   clear hK K
   refine Last2.last_one (i := 10) (o := { dst := some 29, op := .fieldAddr 123 (.tmp 28) 3, type := _, pos := _, after := _, guard := none }) (by kernel_rfl) rfl rfl (fun K hK => ?_)
   go_simp
   refine hK.out _ _ (fun _ => SH.out) ?_
   clear hK K
   refine Last2.last_one (i := 11) (o := { dst := none, op := .store 28 (.tmp 29) (.tmp 27), type := _, pos := _, after := _, guard := none }) (by kernel_rfl) rfl rfl (fun K hK => ?_)
   go_simp
   refine hK.out _ _ (fun h => (h (by decide)).elim) ?_
   clear hK K
   refine Last2.last_done (by kernel_rfl) ?_ _
   first | change (fun V => Exit.then _ _ _ _ V) _ | change (fun V => Code.wp _ _ _ _ V) _
   refine gen_world (X := fun V => Blk V ob 39 #[.int .i64 k1, .int .i64 v1, .slice A2 t1.length c2, .int .i64 s1] ∧ Kp w kb g li sp { s with kinds := s.kinds ++ [k1] } (.slice A1 (s.kinds.length + 1) c1) vf V) ⟨(OB.out.chg CH.out (blk_apart H.out.two.kinds OB.out (by decide))).far _ _ (by show ¬ ob = kb; omega), H.out.pushK CH.out O1.out TT.out⟩ ?_
   clear z4 y0 k5 f5 O1 CH TT SH H OB
   rintro W3 ⟨hob, hK3⟩
   have OB := hid hob
   have H := hid hK3
   have z3 : W3.cell? ⟨kb, 3, none⟩ = some (.int .i64 s.clock) := hK3.blk.cells 3
   have f3 := hK3.blk.frozen
   have y3 : W3.cell? ⟨ob, 3, none⟩ = some (.int .i64 s1) := hob.cells 3
   clear hob hK3
   go_wp2_with fail
   go_region
   first | change (fun V => Exit.then _ _ _ _ V) _ | change (fun V => Code.wp _ _ _ _ V) _
   refine gen_world (X := fun V => Blk V ob 39 #[.int .i64 k1, .int .i64 v1, .slice A2 t1.length c2, .int .i64 s1] ∧ Kp w kb g li sp (goodK ⟨k1, v1, t1, s1⟩ s) (.slice A1 (s.kinds.length + 1) c1) vf V) ⟨blk_drew (OB.out.far _ _ (by show ¬ ob = kb; omega)), (H.out.put (s' := goodK ⟨k1, v1, t1, s1⟩ s) (by simp [kc, goodK]) rfl rfl).drew⟩ ?_
   clear z3 f3 y3 H OB
   rintro W4 ⟨hob, hK3⟩
   have H := hid hK3
   have y0 : W4.cell? ⟨ob, 0, none⟩ = some (.int .i64 k1) := hob.cells 0
   clear hob hK3
   by_cases he : k1 = 2 ∨ k1 = 4
   ·have hen : ends ⟨k1, v1, t1, s1⟩ = false := by unfold ends; rcases he with rfl | rfl <;> rfl
    have hst := hid (show kstep sp ⟨k1, v1, t1, s1⟩ s = failS sp (goodK ⟨k1, v1, t1, s1⟩ s) by unfold kstep; rw [if_neg (by rw [hen]; decide)]; rfl)
    have hfa := hid (fun W (h : Kp w kb g li sp (goodK ⟨k1, v1, t1, s1⟩ s) (.slice A1 (s.kinds.length + 1) c1) vf W) => fail_any h hsp (by show 0 ≤ s.clock + s1 ∧ s.clock + s1 ≤ 100000; omega) (by show s.fails.length ≤ 1000; omega) (by show 0 ≤ s.most ∧ s.most ≤ 1000; omega))
    have HG2 := HG.out
    rw [hst.out] at HG2
    have HI3 := HI2.out
    rw [hst.out] at HI3
    have HI4 := hid HI3
    have HG3 := hid HG2
    clear HG2 HI3 hen hst HG HI2
    have hend : ∀ Wx, Kp w kb g li sp (goodK ⟨k1, v1, t1, s1⟩ s) (.slice A1 (s.kinds.length + 1) c1) vf Wx → Calls Try.prog 118 #[.pointer (some ⟨kb, 0, none⟩)] Wx fun e W' => e = .returned (.tuple #[]) ∧ ∃ vf', Kp w kb g li sp (failS sp (goodK ⟨k1, v1, t1, s1⟩ s)) (.slice A1 (s.kinds.length + 1) c1) vf' W' :=
     fun Wx h => (hfa.out Wx h).mono fun e W' h' => ⟨h'.1, by obtain ⟨A, c, hk⟩ := h'.2; exact ⟨_, hk⟩⟩
    have HE := hid hend
    clear hend hfa
    generalize failS sp (goodK ⟨k1, v1, t1, s1⟩ s) = sf at *
    by_cases hgv : li < sf.most
    ·have HF := hid (show sf = R by rw [← HG3.out, if_pos hgv])
     have hgd : decide (li < sf.most) = true := decide_eq_true hgv
     clear hgv HG3 HI4
     rcases he with rfl | rfl
     ·go_wp2_with fail
      refine (HE.out _ H.out).mono ?_
      rintro e W5 ⟨rfl, vf', h5⟩
      have hg5 := hid (given_any h5)
      rw [hgd] at hg5
      clear h5 hgd
      go_wp2_with fail
      refine hg5.out.mono ?_
      rintro e W6 ⟨rfl, h6⟩
      go_wp2_with fail
      first | go_end0 | (rw [Exit.noGoto_normal]; go_end0)
      exact ⟨rfl, _, vf', by rw [← HF.out]; exact h6⟩
     ·go_wp2_with fail
      refine (HE.out _ H.out).mono ?_
      rintro e W5 ⟨rfl, vf', h5⟩
      have hg5 := hid (given_any h5)
      rw [hgd] at hg5
      clear h5 hgd
      go_wp2_with fail
      refine hg5.out.mono ?_
      rintro e W6 ⟨rfl, h6⟩
      go_wp2_with fail
      first | go_end0 | (rw [Exit.noGoto_normal]; go_end0)
      exact ⟨rfl, _, vf', by rw [← HF.out]; exact h6⟩
    ·have HF := hid (show keepGo r li sp (js.drop (q + 1)) sf = R by rw [← HG3.out, if_neg hgv])
     have hgd : decide (li < sf.most) = false := decide_eq_false hgv
     have hml := hid (show sf.most ≤ li by omega)
     clear hgv HG3
     rcases he with rfl | rfl
     ·go_wp2_with fail
      refine (HE.out _ H.out).mono ?_
      rintro e W5 ⟨rfl, vf', h5⟩
      have hg5 := hid (given_any h5)
      rw [hgd] at hg5
      clear h5 hgd
      go_wp2_with fail
      refine hg5.out.mono ?_
      rintro e W6 ⟨rfl, h6⟩
      go_wp2_with fail
      go_roundw
      case rel => exact ⟨q + 1, sf, _, vf', by omega, by go_num, HI4.out, hml.out, HF.out, h6⟩
      case measure => simp [intOf]; omega
     ·go_wp2_with fail
      refine (HE.out _ H.out).mono ?_
      rintro e W5 ⟨rfl, vf', h5⟩
      have hg5 := hid (given_any h5)
      rw [hgd] at hg5
      clear h5 hgd
      go_wp2_with fail
      refine hg5.out.mono ?_
      rintro e W6 ⟨rfl, h6⟩
      go_wp2_with fail
      go_roundw
      case rel => exact ⟨q + 1, sf, _, vf', by omega, by go_num, HI4.out, hml.out, HF.out, h6⟩
      case measure => simp [intOf]; omega
   ·have hb2 : (k1 == 2) = false := by simp only [beq_eq_false_iff_ne]; omega
    have hb4 : (k1 == 4) = false := by simp only [beq_eq_false_iff_ne]; omega
    have hen : ends ⟨k1, v1, t1, s1⟩ = true := by
     unfold ends
     rcases HKD.out with h | h | h | h <;> dsimp only at h ⊢ <;> subst h <;> first | rfl | (exfalso; omega)
    have hst : kstep sp ⟨k1, v1, t1, s1⟩ s = goodK ⟨k1, v1, t1, s1⟩ s := by unfold kstep; rw [if_pos hen]
    have HG2 := HG.out
    rw [hst, if_neg (by show ¬ li < s.most; omega)] at HG2
    have HI3 := HI2.out
    rw [hst] at HI3
    have HI4 := hid HI3
    have HG3 := hid HG2
    have hml := hid (show (goodK ⟨k1, v1, t1, s1⟩ s).most ≤ li from hms)
    clear HG2 HI3 hen hst HG HI2 he
    generalize goodK ⟨k1, v1, t1, s1⟩ s = sf at *
    go_wp2_with fail
    go_roundw
    case rel => exact ⟨q + 1, sf, _, vf, by omega, by go_num, HI4.out, hml.out, HG3.out, H.out⟩
    case measure => simp [intOf]; omega
  ·have hqn : q = n := by omega
   have hsR := hid (show s = R by rw [← hgo, List.drop_of_length_le (by rw [HL.out]; omega)]; rfl)
   have hcb : decide (q < n) = false := by simpa using hlt
   have K1 := hid hK
   clear hgo hK hqn
   go_wp2_with fail
   first | go_end0 | (rw [Exit.noGoto_normal]; go_end0)
   exact ⟨rfl, vk, vf, by rw [← hsR.out]; exact K1.out⟩
end Go.Proofs.Ytibadkjdchdnjaa.Kka
-- squeezed
