import Derived.Test.YtdmcgkcpclepfaaIdf
import Derived.Test.YtdmcgkcpclepfaaRea
import Derived.Deep.AppendLies
set_option linter.all false
namespace Go.Proofs.Ytdmcgkcpclepfaa.Idi
open Lib (hid)
open Go.ChangeShapes Go.WideShapes Go.ChangeAt Go.RowKit
open PL Mem Sst To AskP StpS Res PrgS IntsP LawI SetM Gua Gub RowA LawA Idp Idf ReaP
theorem infoPr : (Try.prog.info? 85).map (fun i => (i.zero, i.size, i.bytes)) = some (some (.agg #[.int .i64 0, .int .i64 0]), 2, 16) := by kernel_rfl
theorem idleR_eq (p : Pg) (f : Int) : idleR p f = (idleU p (reachR p f).1 (reachR p f).1.length, (reachR p f).2) := by
 unfold idleR reachR
 cases isFn p f <;> rfl
structure GP (w : World) (lo n c m cl : Nat) (A Al : Option Addr) (l : List Int) (A' : Option Addr) (c' : Nat) (q : List Pr) (wr : World) : Prop where
 own : OwnA wr (w.heap.size + 1) (.slice A' q.length c') q
 lst : wr.ownsRow lo 3 1 (.slice Al m cl) m (cellsI l)
 box : Blk wr w.heap.size 31 #[.slice A n c]
 bel : Below w.heap.size w wr
theorem GP.below {w V W : World} {lo n c m cl : Nat} {A Al : Option Addr} {l : List Int} {A' : Option Addr} {c' : Nat} {q : List Pr} (h : GP w lo n c m cl A Al l A' c' q V) (b : Below V.heap.size V W) : GP w lo n c m cl A Al l A' c' q W :=
 ⟨own_below (B' := V.heap.size) h.own b (Nat.le_refl _), own_below (B' := V.heap.size) h.lst b (Nat.le_refl _), h.box.below b h.box.lt, h.bel.trans (b.mono h.bel.size)⟩
theorem GP.push {w V W : World} {lo n c m cl : Nat} {A Al : Option Addr} {l : List Int} {A' : Option Addr} {c' : Nat} {q q' : List Pr} {A2 : Option Addr} {c2 : Nat} (h : GP w lo n c m cl A Al l A' c' q V)
  (ch : Chg (fun y => (Value.slice A' q.length c').ownBlock = some y) V W) (ho : OwnA W (w.heap.size + 1) (.slice A2 q'.length c2) q') : GP w lo n c m cl A Al l A2 c2 q' W :=
 ⟨ho, own_chg h.lst ch (fun k hk hc => App.own_ne h.lst h.own (by decide) hk hc), h.box.chg ch (App.own_blk_ne h.own h.box (by decide)), h.bel.trans (ch.below h.bel.size (fun x hx e => by have := (World.ownsRow.lt h.own x e).1; omega))⟩
set_option maxRecDepth 100000 in
set_option maxHeartbeats 8000000 in
theorem idlI_any (lo n c : Nat) (A : Option Addr) (p : Pg) (f : Int) (hn : n ≤ 9223372036854775807) (hl : p.length = n) (hsm : Small p 9223372036854775807) (w : World) (ho : OwnP w lo (.slice A n c) p) :
  Calls Try.prog 41 #[.agg #[.slice A n c], .int .i64 f] w (PrsR (idleR p f) w) := by
 obtain ⟨i0, hi, hz0, hz1, hz2⟩ := info_parts infoPr
 have hq := hid (fun W (h : Below w.heap.size w W) => ReaP.reaI_any lo n c A p f hn hl hsm W (ho.below h))
 have hr := hid (idleR_eq p f)
 have hrow : RowsOk p (reachR p f).1 := by
  unfold reachR
  split
  ·rename_i h
   obtain ⟨nf, b, rfl, hb, h8, hlt, h6, hp⟩ := Guc.isFn_row h
   intro j x hx
   exact reach_row hp hlt (by simpa using hx)
  ·intro j x hx
   cases hx
 have hnum : ∀ (j : Nat) (x : Int), (reachR p f).1[j]? = some x → n ≤ 6 ∧ (reachR p f).1.length ≤ 6 ∧ okProg p = true := by
  unfold reachR
  split
  ·rename_i h
   obtain ⟨nf, b, rfl, hb, h8, hlt, h6, hp⟩ := Guc.isFn_row h
   intro j x hx
   exact ⟨by omega, by simpa using reach_six hp h6 hlt, hp⟩
  ·intro j x hx
   cases hx
 have HRP := hid (fun (V : World) (b : Below w.heap.size w V) => (show RdP V w.heap.size A p from ho.rd.below b))
 unfold IntsR at hq
 generalize reachR p f = r at *
 obtain ⟨l, k0⟩ := r
 dsimp only at hq hrow hnum
 have HR := hid hrow
 have HN6 := hid hnum
 obtain ⟨m, hm⟩ : ∃ m, l.length = m := ⟨_, rfl⟩
 have HM := hid hm
 rw [hm] at hq
 have hl' := hid hl
 have HYES := hid (fun (j : Nat) (g : Int) (h : l[j]? = some g) (hd : dfrIn p l g = true) => idleU_yes h hd)
 have HNO := hid (fun (j : Nat) (g : Int) (h : l[j]? = some g) (hd : dfrIn p l g = false) => idleU_no h hd)
 have HLE := hid (fun (hp : okProg p = true) (j : Nat) => idleU_len hp l j)
 have HPL := hid (fun (hp : okProg p = true) (g : Int) => pairs_len hp g)
 have HZ := hid (show idleU p l 0 = [] from rfl)
 clear ho hsm hrow hnum hm hl
 go_enter Try.func41, Try.ntmps41
 go_upto_region 1 with fail
 change (fun V => Code.wp _ _ _ _ V) _
 refine gen_world (X := fun V => Blk V w.heap.size 31 #[.slice A n c] ∧ Below w.heap.size w V ∧ w.heap.size + 1 ≤ V.heap.size) ⟨heap1_0 w _, (Below.refl _ _).alloc (Nat.le_refl _) _, by simp⟩ ?_
 rintro w1 ⟨x1, b1, l1⟩
 have z1 : w1.cell? ⟨w.heap.size, 0, none⟩ = some (.slice A n c) := x1.cells 0
 have X1 := hid x1
 have B1 := hid b1
 clear x1 b1
 go_wp2_with fail
 refine (hq.out _ B1.out).mono ?_
 rintro e w2 ⟨Al, cl, rfl, o2, b2⟩
 have X2 := hid (X1.out.below b2 X1.out.lt)
 have O2 := hid (show w2.ownsRow w1.heap.size 3 1 (.slice Al m cl) m (cellsI l) from by unfold OwnI at o2; rw [HM.out] at o2; exact o2)
 have B2 := hid (B1.out.trans (b2.mono B1.out.size))
 have l2 : w.heap.size + 1 ≤ w2.heap.size := Nat.le_trans l1 b2.size
 clear o2 b2 z1 X1 B1 hq
 go_upto_region 3 with fail
 change (fun V => Code.wp _ _ _ _ V) _
 refine gen_world (X := fun V => GP w w1.heap.size n c m cl A Al l (some ⟨w2.heap.size, 0, none⟩) 0 [] V) ⟨App.empty_own (heap1_0 w2 _) l2, own_below (B' := w2.heap.size) O2.out ((Below.refl _ _).alloc (Nat.le_refl _) _) (Nat.le_refl _), X2.out.alloc _, B2.out.alloc B2.out.size _⟩ ?_
 rintro w3 hg
 have G3 := hid hg
 clear hg X2 O2 B2
 generalize w1.heap.size = lw at *
 generalize w2.heap.size = g0 at *
 go_wp2_with fail
 go_loopw [8, 22] (fun v i wr => ∃ (j : Nat) (A' : Option Addr) (c' : Nat), j ≤ m ∧ i = .int .i64 j ∧ v = .slice A' (idleU p l j).length c' ∧ GP w lw n c m cl A Al l A' c' (idleU p l j) wr) (fun _ i _ => m - (intOf i).toNat)
 case atStart => exact ⟨0, _, _, Nat.zero_le _, rfl, by rw [HZ.out] <;> rfl, by rw [HZ.out]; exact G3.out⟩
 case round =>
  obtain ⟨j, A', c', hj, rfl, rfl, hg⟩ := hrel
  clear G3 HZ
  have G := hid hg
  by_cases hlt : j < m
  ·obtain ⟨x, hx⟩ : ∃ x, l[j]? = some x := ⟨_, List.getElem?_eq_getElem (by rw [HM.out]; exact hlt)⟩
   obtain ⟨g, ys, rfl, hys, hy8⟩ := HR.out j x hx
   obtain ⟨hn6, hm6, hp⟩ := HN6.out j g hx
   rw [HM.out] at hm6
   have hle := HLE.out hp j
   have HY := hid (fun h => HYES.out j g hx h)
   have HN := hid (fun h => HNO.out j g hx h)
   have hpl := HPL.out hp g
   obtain ⟨al, rfl, hal, hc0⟩ := (rdI_own hg.lst) j g hx
   have hrp := HRP.out wr hg.bel
   obtain ⟨ad, Ai, ci, rfl, had, hcr, hrd⟩ := hrp g ys hys
   have hgn : g < n := by rw [← hl'.out]; exact (List.getElem?_eq_some_iff.1 hys).1
   have HYS := hid hys
   have hb0 : wr.cell? ⟨w.heap.size, 0, none⟩ = some (.slice (some ad) n c) := hg.box.cells 0
   have hsz := hg.bel.size
   clear hg hx hys hrp hp
   go_upto_region 6 with fail
   change (fun V => Code.wp _ _ _ _ V) _
   refine gen_world (X := fun V => Blk V wr.heap.size 3 #[.int .i64 g] ∧ Below wr.heap.size wr V) ⟨heap1_0 wr _, (Below.refl _ _).alloc (Nat.le_refl _) _⟩ ?_
   rintro V ⟨xg, bV⟩
   have GV := hid (G.out.below bV)
   have XG := hid xg
   clear hc0 hb0 xg bV hcr hrd
   generalize wr.heap.size = bx at *
   have HC := hid (contains2_any w.heap.size bx n c m cl (some ad) (some al) g p l hl'.out (by omega) HM.out (by omega) HR.out w.heap.size V GV.out.bel.size (HRP.out V GV.out.bel) (rdI_own GV.out.lst) (GV.out.box.cells 0) GV.out.box.lt (XG.out.cells 0) XG.out.lt)
   cases hd : dfrIn p l g with
   | true =>
    have HX := hid (HY.out hd)
    rw [hd] at HC
    clear hd HY HN
    go_wp2_with fail
    refine HC.out.mono ?_
    rintro e U ⟨rfl, bU⟩
    have GU := hid (GV.out.below bU)
    clear bU HC GV XG
    go_wp2_with fail
    go_roundw
    case rel => exact ⟨j + 1, A', c', by omega, by go_num, by rw [HX.out], by rw [HX.out]; exact GU.out⟩
    case measure => simp [intOf]; omega
   | false =>
    have HX := hid (HN.out hd)
    rw [hd] at HC
    clear hd HY HN
    go_wp2_with fail
    refine HC.out.mono ?_
    rintro e U ⟨rfl, bU⟩
    have GU := hid (GV.out.below bU)
    have XU := hid (XG.out.below bU XG.out.lt)
    clear bU HC GV XG
    obtain ⟨ad', Ai', ci', e1, -, hcr, hrd⟩ := HRP.out U GU.out.bel g ys HYS.out
    obtain rfl : ad = ad' := by simpa using e1
    obtain ⟨N, hN⟩ : ∃ N, ys.length = N := ⟨_, rfl⟩
    rw [hN] at hcr hy8
    have hb0 : U.cell? ⟨w.heap.size, 0, none⟩ = some (.slice (some ad) n c) := GU.out.box.cells 0
    have hg0 : U.cell? ⟨bx, 0, none⟩ = some (.int .i64 g) := XU.out.cells 0
    have HRC := hid (recoversIn_any N ci' Ai' ys hN hy8 w.heap.size U GU.out.bel.size hrd)
    clear e1 hrd
    go_wp2_with fail
    refine HRC.out.mono ?_
    rintro e U2 ⟨Ap, cp, rfl, op, bp⟩
    have GU2 := hid (GU.out.below bp)
    have XU2 := hid (XU.out.below bp XU.out.lt)
    have hpo : pairsOf p g = (recL ys).map (fun a => ((g : Int), a)) := by unfold pairsOf; rw [Int.toNat_natCast, List.getD_eq_getElem?_getD, HYS.out]; rfl
    rw [hpo] at HX hpl
    rw [List.length_map] at hpl
    clear hpo bp HRC hcr hb0 hg0 GU XU hN
    generalize recL ys = rl at *
    obtain ⟨mr, hmr⟩ : ∃ mr, rl.length = mr := ⟨_, rfl⟩
    have HMR := hid hmr
    have OP := hid (show U2.ownsRow U.heap.size 3 1 (.slice Ap mr cp) mr (cellsI rl) from by unfold OwnI at op; rw [hmr] at op; exact op)
    rw [hmr] at hpl ⊢
    clear op hmr
    have HT := hid (fun (k : Nat) (a : Int) (h : rl[k]? = some a) => (show ((rl.map (fun a => ((g : Int), a))).take (k + 1)) = (rl.map (fun a => ((g : Int), a))).take k ++ [((g : Int), a)] from by rw [List.take_add_one, List.getElem?_map, h]; rfl))
    have HTA := hid (show (rl.map (fun a => ((g : Int), a))).take mr = rl.map (fun a => ((g : Int), a)) from List.take_of_length_le (by rw [List.length_map, HMR.out]; exact Nat.le_refl _))
    have HTL := hid (fun k => (show ((rl.map (fun a => ((g : Int), a))).take k).length ≤ k from by rw [List.length_take]; omega))
    have HT0 := hid (show (rl.map (fun a => ((g : Int), a))).take 0 = [] from rfl)
    generalize rl.map (fun a => ((g : Int), a)) = pr at *
    generalize idleU p l j = q at *
    go_wp2_with fail
    go_loopw [8, 36] (fun v i wq => ∃ (k : Nat) (A2 : Option Addr) (c2 : Nat), k ≤ mr ∧ i = .int .i64 k ∧ v = .slice A2 (q ++ pr.take k).length c2 ∧ GP w lw n c m cl (some ad) (some al) l A2 c2 (q ++ pr.take k) wq ∧ wq.ownsRow U.heap.size 3 1 (.slice Ap mr cp) mr (cellsI rl) ∧ Blk wq bx 3 #[.int .i64 g]) (fun _ i _ => mr - (intOf i).toNat)
    case atStart => exact ⟨0, A', c', Nat.zero_le _, rfl, by rw [HT0.out, List.append_nil], by rw [HT0.out, List.append_nil]; exact GU2.out, OP.out, XU2.out⟩
    case round =>
     obtain ⟨k, A2, c2, hk, rfl, rfl, hgp, hop, hbx⟩ := hrel
     have GK := hid hgp
     have OK := hid hop
     have XK := hid hbx
     have htl := HTL.out k
     have hqk : (q ++ pr.take k).length ≤ 8 * j + k := by rw [List.length_append]; omega
     by_cases hkm : k < mr
     ·obtain ⟨a, ha⟩ : ∃ a, rl[k]? = some a := ⟨_, List.getElem?_eq_getElem (by rw [HMR.out]; exact hkm)⟩
      obtain ⟨ap, rfl, -, hap⟩ := (rdI_own hop) k a ha
      have hg0 : wr.cell? ⟨bx, 0, none⟩ = some (.int .i64 g) := hbx.cells 0
      have hs1 : w.heap.size < wr.heap.size := hgp.box.lt
      have HTK := hid (HT.out k a ha)
      clear hgp hop hbx ha
      generalize hqq : q ++ pr.take k = qk at *
      have HQ := hid hqq
      clear hqq
      go_wp2_with (at_builtin; refine wpList_append_lies _ rfl _ _ 49 rfl (w.heap.size + 1) 85 i0 _ 2 16 Try.underlying49 hi hz0 hz1 hz2 rfl (by decide) _ _ _ rfl (World.ownsRow.alloc GK.out.own _) ⟨wr.heap.size, 0, none⟩ 1 1 [.int .i64 g, .int .i64 a] rfl rfl ?cn1 ?co1 (by decide) ?c631 ?cb1 ?cl1 (wr.heap.size + 1) ?cH1 ?next1)
      (try (case cn1 => exact World.news_of_block (cs := #[.int .i64 g, .int .i64 a]) (t := 85) (fr := (0, 0)) (heap_alloc_new _ _)))
      case co1 => first | (intro u hu; simp at hu; rcases hu with rfl | rfl <;> rfl) | simp [Value.oneCell']
      case c631 => first | (unfold maxLen; omega) | omega
      case cb1 => omega
      (try (case cl1 => first | (simp; omega) | omega))
      (try (case cH1 => simp))
      case next1 =>
       intro g2 cap2 w2' hown2 hgrow2 hat2 hlt2
       have c2' : Chg (fun y => (Value.slice A2 qk.length c2).ownBlock = some y) wr w2' := (Chg.alloc _ wr _).trans (Chg.of_grown hgrow2) (fun x _ hx => hx.symm)
       have G2 := hid (GK.out.push (q' := qk ++ [((g : Int), a)]) (A2 := some ⟨g2, 0, none⟩) (c2 := cap2) c2' (by unfold OwnA; rw [List.length_append, List.length_singleton, Srun.cells2_append]; exact hown2))
       have O2 := hid (own_chg OK.out c2' (fun x hx hc => App.own_ne OK.out GK.out.own (by decide) hx hc))
       have X2 := hid (XK.out.chg c2' (App.own_blk_ne GK.out.own XK.out (by decide)))
       clear hown2 hgrow2 hat2 c2'
       go_wp2_with fail
       go_roundw
       case rel => exact ⟨k + 1, some ⟨g2, 0, none⟩, cap2, by omega, by go_num, by rw [HTK.out, ← List.append_assoc, HQ.out, List.length_append, List.length_singleton], by rw [HTK.out, ← List.append_assoc, HQ.out]; exact G2.out, O2.out, X2.out⟩
       case measure => simp [intOf]; omega
     ·obtain rfl : k = mr := by omega
      rw [HTA.out, ← HX.out] at hgp ⊢
      have GE := hid hgp
      clear hgp hop hbx GK
      go_wp2_with fail
      go_roundw
      case rel => exact ⟨j + 1, A2, c2, by omega, by go_num, rfl, GE.out⟩
      case measure => simp [intOf]; omega
  ·obtain rfl : j = m := by omega
   clear hg
   go_wp2_with fail
   go_ret2
   exact ⟨A', c', by rw [hr.out, HM.out] <;> rfl, by rw [hr.out]; dsimp only; rw [HM.out]; exact own_mono G.out.own (Nat.le_succ _), G.out.bel⟩
end Go.Proofs.Ytdmcgkcpclepfaa.Idi
-- squeezed
