import Derived.Test.YthejnpignlhgiaaSiu
import Derived.Test.YthejnpignlhgiaaSem
import Derived.Defers
import Derived.Deep.LoopGhost
import Derived.Laws.EntriesVeiled
set_option linter.all false
namespace Go.Proofs.Ythejnpignlhgiaa.Siv
open Lib (hid)
open Go.ChangeShapes Go.WideShapes Go.ChangeAt Go.RowKit
open PL Mem To Srun Sst IntsP RowA OwnS AskP Res Swhole Sout StS Frp Sep Sit Siu SemP
def dfr (b2 b : Nat) : Deferred := { target := .fn (.func 130) #[.pointer (some ⟨b2, 0, none⟩), .pointer (some ⟨b, 0, none⟩)], args := #[] }
def dfrs (b2 h0 : Nat) : Nat → List Deferred
 | 0 => []
 | k + 1 => dfr b2 (h0 + k) :: dfrs b2 h0 k
set_option maxRecDepth 100000 in
set_option maxHeartbeats 1000000 in
theorem hookD_any {w0 W1 : World} {g lo0 n c : Nat} {A : Option Addr} {p : Pg} (E : Env w0 W1 g lo0 n c A p) (fuel mode x : Int) (s : Sen) (v1 v2 v3 : Value) (ha : asks p x s.code fuel = true) (hw : WfS 12 12 s) (b2 b : Nat) (W : World) (h : Sit W1 g n c A fuel mode s v1 v2 v3 W)
  (hb2 : Blk W b2 112 #[.pointer (some ⟨g, 0, none⟩)]) (hb : Blk W b 3 #[.int .i64 x]) (u : FrameMode) :
  CallsD Try.prog 130 #[.pointer (some ⟨b2, 0, none⟩), .pointer (some ⟨b, 0, none⟩)] u W fun e u' w' => u' = u ∧ e = .returned (.tuple #[]) ∧ ∃ v2' v3', Sit W1 g n c A fuel mode (hookS p fuel mode s x) v1 v2' v3' w' := by
 have hk := hid (runHook_any E fuel mode x s v1 v2 v3 ha hw W h)
 have z2 : W.cell? ⟨b2, 0, none⟩ = some (.pointer (some ⟨g, 0, none⟩)) := hb2.cells 0
 have zb : W.cell? ⟨b, 0, none⟩ = some (.int .i64 x) := hb.cells 0
 clear E ha hw h hb2 hb
 go_enter_d Try.func130, Try.ntmps130
 go_wp2_with fail
 refine hk.out.mono ?_
 rintro e w' ⟨v2', v3', rfl, hs⟩
 have HS := hid hs
 clear hs
 go_wp2_with fail
 go_end0
 exact ⟨rfl, _, _, HS.out⟩
theorem getD_at {hs : List Int} {i : Nat} {x : Int} (h : hs[i]? = some x) : hs.getD i 0 = x := by rw [List.getD_eq_getElem?_getD, h]; rfl
theorem leaves_hooks {fn : Func} {tmps : Array Value} {R : Ending → World → Prop} {w0 W1 : World} {g lo0 n c : Nat} {A : Option Addr} {p : Pg} (E : Env w0 W1 g lo0 n c A p) (fuel mode : Int) (hs : List Int) (b2 h0 : Nat) (hres : ∀ V, (results fn tmps).run Try.prog V = .ok (.tuple #[]) V)
  (hb2 : Blk W1 b2 112 #[.pointer (some ⟨g, 0, none⟩)]) (hg2 : b2 ≠ g) (hh : ∀ x ∈ hs, ∀ c : Int, 0 ≤ c → c ≤ 255 → asks p x c fuel = true) : ∀ (k b : Nat) (s : Sen) (v1 v2 v3 : Value) (W : World), k ≤ hs.length → (∀ i, i < k → Blk W1 (h0 + i) 3 #[.int .i64 (hs.getD i 0)] ∧ h0 + i ≠ g) → WfS 12 b s → b + k ≤ 12 → Sit W1 g n c A fuel mode s v1 v2 v3 W → (∀ v1 v2 v3 w', Sit W1 g n c A fuel mode (hooksS p fuel mode hs k s) v1 v2 v3 w' → R (.returned (.tuple #[])) w') →
  Leaves Try.prog fn tmps R (dfrs b2 h0 k) .returning W
 | 0, b, s, v1, v2, v3, W, _, _, _, _, h, hR => ⟨_, hres W, hR v1 v2 v3 W h⟩
 | k + 1, b, s, v1, v2, v3, W, hk, hx, hw, hbk, h, hR => by
  obtain ⟨x, hxs⟩ : ∃ x, hs[k]? = some x := ⟨_, List.getElem?_eq_getElem (by omega)⟩
  have hxe := getD_at hxs
  have ha : asks p x s.code fuel = true := hh x (List.mem_of_getElem? hxs) s.code hw.code0 hw.code1
  obtain ⟨q1, q2⟩ := hx k (by omega)
  rw [hxe] at q1
  refine leaves_cons (f := 130) (args := #[.pointer (some ⟨b2, 0, none⟩), .pointer (some ⟨h0 + k, 0, none⟩)]) (by simp) (by simp [go_sem]) ?_
  refine (hookD_any E fuel mode x s v1 v2 v3 ha (hw.mono (Nat.le_refl _) (by omega)) b2 (h0 + k) W h (hb2.chg h.chg hg2) (q1.chg h.chg q2) .returning).mono ?_
  rintro e u' w' ⟨rfl, rfl, v2', v3', h'⟩
  exact leaves_hooks E fuel mode hs b2 h0 hres hb2 hg2 hh k (b + 1) _ v1 v2' v3' w' (by omega) (fun i hi => hx i (by omega)) (hook_wf hw ha) (by omega) h' (fun a b c d hd => hR a b c d (by rw [hooksS, hxe]; exact hd))
set_option maxRecDepth 100000 in
set_option maxHeartbeats 8000000 in
theorem runAll_any (w0 : World) (lo0 n c nj nh cj ch g : Nat) (A Aj Ah : Option Addr) (p : Pg) (js : List Pr) (hs : List Int) (mode fuel : Int) (hn : n ≤ 9223372036854775807) (hl : p.length = n) (hsm : Small p 9223372036854775807) (lj : js.length = nj) (lh : hs.length = nh) (hask : askSes p js hs mode fuel = true)
  (w : World) (ho : OwnP w0 lo0 (.slice A n c) p) (hb0 : Below w0.heap.size w0 w) (hg0 : w0.heap.size ≤ g) (hrs : RdSe w0 w0.heap.size Aj Ah js hs) (hbl : Blk w g 116 #[.slice A n c, .int .i64 fuel, .int .i64 mode, .int .i64 0, .int .i64 0, .slice none 0 0, .slice none 0 0, .slice none 0 0]) :
  Calls Try.prog 117 #[.pointer (some ⟨g, 0, none⟩), .agg #[.slice Aj nj cj, .slice Ah nh ch, .int .i64 mode]] w fun e w' => e = .returned (.tuple #[]) ∧ ∃ W1, Below w.heap.size w W1 ∧ g < W1.heap.size ∧ ∃ v1 v2 v3, Sit W1 g n c A fuel mode (sesS p fuel mode js hs) v1 v2 v3 w' := by
 obtain ⟨h1, h2, h3, h4, h5, h6, h7, h8, h9⟩ := ses_parts hask
 rw [lj] at h2
 rw [lh] at h3
 have LJ := hid lj
 have LH := hid lh
 have HRD := hid (fun (W : World) (b : Below w0.heap.size w0 W) => hrs.below b)
 have HJ := hid h8
 have HH := hid h9
 have HB0 := hid hb0
 have HBL := hid hbl
 have hgl := hbl.lt
 have hmf : ∀ (fn : Fn) (first cap : Array Value) (w : World), (Instr.makeFunc fn first cap).run Try.prog w = .ok (.func fn first cap) w := fun _ _ _ _ => rfl
 have HE := hid (fun (W1 : World) (b : Below w.heap.size w W1) => (show Env w0 W1 g lo0 n c A p from ⟨ho, hb0.trans (b.mono hb0.size), hg0, Nat.lt_of_lt_of_le hgl b.size, hn, hl, hsm⟩))
 have HF := hid (show sesS p fuel mode js hs = hooksS p fuel mode hs nh (jobsS p fuel mode js sen0) by unfold sesS; rw [lh])
 clear lj lh hrs h8 h9 hb0 hbl ho hask h1
 go_enter_defers Try.func117, Try.ntmps117
 go_upto_region 1 with fail
 change (fun V => Code.wp _ _ _ _ V) _
 refine gen_world (X := fun V => Blk V w.heap.size 112 #[.pointer (some ⟨g, 0, none⟩)] ∧ Blk V (w.heap.size + 1) 39 #[.slice Aj nj cj, .slice Ah nh ch, .int .i64 mode] ∧ Below w.heap.size w V ∧ Hid (V.heap.size = w.heap.size + 2)) ⟨heap2_0 w _ _, heap2_1 w _ _, ((Below.refl _ _).alloc (Nat.le_refl _) _).alloc (by simp) _, hid (by simp)⟩ ?_
 rintro V ⟨x2, x3, hb, hsz⟩
 have z3 : V.cell? ⟨w.heap.size + 1, 1, none⟩ = some (.slice Ah nh ch) := x3.cells 1
 have X2 := hid x2
 have X3 := hid x3
 have HB := hid hb
 clear x2 x3 hb
 go_wp2_with fail
 clear z3
 refine wp_loop_ghost_k (fun nn a W => ∃ (k : Nat) (u5 u12 u13 u14 u15 u16 : Value), nn = nh - k ∧ k ≤ nh ∧ a = { tmps := #[.pointer (some ⟨g, 0, none⟩), .agg #[.slice Aj nj cj, .slice Ah nh ch, .int .i64 mode], .pointer (some ⟨w.heap.size, 0, none⟩), .pointer (some ⟨w.heap.size + 1, 0, none⟩), undef, u5, undef, undef, .pointer (some ⟨w.heap.size + 1, 1, none⟩), .slice Ah nh ch, .int .i64 nh, .int .i64 k, u12, u13, u14, u15, u16, undef, undef, undef, undef, undef, undef, undef, undef, undef, undef, undef, undef, undef, undef, undef, undef, undef, undef, undef], defers := dfrs w.heap.size (w.heap.size + 2) k } ∧ Blk W w.heap.size 112 #[.pointer (some ⟨g, 0, none⟩)] ∧ Blk W (w.heap.size + 1) 39 #[.slice Aj nj cj, .slice Ah nh ch, .int .i64 mode] ∧ Below w.heap.size w W ∧ Hid (W.heap.size = w.heap.size + 2 + k) ∧ (∀ i, i < k → Blk W (w.heap.size + 2 + i) 3 #[.int .i64 (hs.getD i 0)])) nh ?_ ?_
 ·exact ⟨0, undef, undef, undef, undef, undef, undef, by omega, Nat.zero_le _, rfl, X2.out, X3.out, HB.out, hsz, fun i hi => absurd hi (by omega)⟩
 ·rintro nn a W ⟨k, u5, u12, u13, u14, u15, u16, rfl, hk, rfl, x2, x3, hb, hsw, hbx⟩ J K hJ hKj
  have X2 := hid x2
  have X3 := hid x3
  have HB := hid hb
  have HBX := hid hbx
  have HJ' := hid hJ
  have HK := hid hKj
  obtain ⟨ds, hds⟩ : ∃ ds, dfrs w.heap.size (w.heap.size + 2) k = ds := ⟨_, rfl⟩
  have HDS := hid hds
  rw [hds]
  clear x2 x3 hb hbx hJ hKj hds hsz
  by_cases hlt : k < nh
  ·obtain ⟨x, hx⟩ : ∃ x, hs[k]? = some x := ⟨_, List.getElem?_eq_getElem (by rw [LH.out]; exact hlt)⟩
   obtain ⟨ad, had, hab, h0⟩ := (HRD.out W (HB0.out.trans (HB.out.mono HB0.out.size))).hooks k x hx
   obtain rfl := had
   have HX := hid hx
   clear hx
   go_wp2_with fail
   have e := hsw.out
   change K { tmps := _, defers := dfr w.heap.size W.heap.size :: ds } _
   have e4 : dfr w.heap.size W.heap.size :: ds = dfrs w.heap.size (w.heap.size + 2) (k + 1) := by rw [dfrs, HDS.out, e]
   rw [e4]
   refine HK.out _ _ ⟨nh - (k + 1), by omega, HJ'.out _ _ _ ⟨k + 1, _, _, _, _, _, _, rfl, by omega, rfl, X2.out.alloc _, X3.out.alloc _, HB.out.alloc HB.out.size _, hid (by rw [World.size_alloc, e]; omega), fun i hi => ?_⟩⟩
   by_cases hik : i = k
   ·subst hik
    rw [getD_at HX.out, ← e]
    exact heap1_0 W _
   ·exact (HBX.out i (by omega)).alloc _
  ·obtain rfl : k = nh := by omega
   have HEW := hid (HE.out W HB.out)
   have hsit : Sit W g n c A fuel mode sen0 (.slice none 0 0) (.slice none 0 0) (.slice none 0 0) W :=
    ⟨HBL.out.below HB.out HBL.out.lt, World.ownsRow_nil _ _ _ _, World.ownsRow_nil _ _ _ _, World.ownsRow_nil _ _ _ _, fun k hk => by simp [Value.ownBlock] at hk, fun k hk => by simp [Value.ownBlock] at hk, fun k hk => by simp [Value.ownBlock] at hk, Chg.refl _ _⟩
   have HSIT := hid hsit
   have zj : W.cell? ⟨w.heap.size + 1, 0, none⟩ = some (.slice Aj nj cj) := X3.out.cells 0
   have hgw : w.heap.size ≠ g := by omega
   have hszw : w.heap.size + 2 ≤ W.heap.size := by have := hsw.out; omega
   have HEND := hid (fun (s : Sen) (v1 v2 v3 : Value) (V : World) (hS : Sit W g n c A fuel mode s v1 v2 v3 V) (hW : WfS 12 0 s) (hE : jobsS p fuel mode js sen0 = s) (tmps : Array Value) (hres : ∀ V, (results Try.f117 tmps).run Try.prog V = .ok (.tuple #[]) V) =>
    leaves_hooks (fn := Try.f117) (tmps := tmps) (R := fun e w' => e = .returned (.tuple #[]) ∧ ∃ W1, Below w.heap.size w W1 ∧ g < W1.heap.size ∧ ∃ v1 v2 v3, Sit W1 g n c A fuel mode (sesS p fuel mode js hs) v1 v2 v3 w') HEW.out fuel mode hs w.heap.size (w.heap.size + 2) hres X2.out hgw HH.out k 0 s v1 v2 v3 V (by rw [LH.out]; omega)
     (fun i hi => ⟨HBX.out i hi, by omega⟩) hW (by omega) hS (fun a b c d hd => ⟨rfl, W, HB.out, HEW.out.g1, a, b, c, by rw [HF.out, hE]; exact hd⟩))
   rw [HDS.out] at HEND
   clear hsit HJ' HK
   go_wp2_with fail
   refine wp_loop_ghost_k (fun nn a V => ∃ (q : Nat) (u5 u7 u12 u13 u14 u15 u16 u21 u22 u23 u24 u25 u26 u27 u28 u29 u30 u31 u32 u33 u34 u35 : Value) (s : Sen) (v1 v3 : Value), nn = nj - q ∧ q ≤ nj ∧ a = { tmps := #[.pointer (some ⟨g, 0, none⟩), .agg #[.slice Aj nj cj, .slice Ah k ch, .int .i64 mode], .pointer (some ⟨w.heap.size, 0, none⟩), .pointer (some ⟨w.heap.size + 1, 0, none⟩), undef, u5, undef, u7, .pointer (some ⟨w.heap.size + 1, 1, none⟩), .slice Ah k ch, .int .i64 k, .int .i64 k, u12, u13, u14, u15, u16, .pointer (some ⟨w.heap.size + 1, 0, none⟩), .slice Aj nj cj, .int .i64 nj, .int .i64 q, u21, u22, u23, u24, u25, u26, u27, u28, u29, u30, u31, u32, u33, u34, u35], defers := ds } ∧ Sit W g n c A fuel mode s v1 (.slice none 0 0) v3 V ∧ WfS q 0 s ∧ Hid (jobsS p fuel mode (js.drop q) s = jobsS p fuel mode js sen0)) nj ?_ ?_
   ·exact ⟨0, _, _, _, _, _, _, _, _, _, _, _, _, _, _, _, _, _, _, _, _, _, _, sen0, _, _, by omega, Nat.zero_le _, rfl, HSIT.out, wf0, hid rfl⟩
   ·rintro nn a V ⟨q, u5, u7, u12, u13, u14, u15, u16, u21, u22, u23, u24, u25, u26, u27, u28, u29, u30, u31, u32, u33, u34, u35, s, v1, v3, rfl, hq, rfl, hS, hW, hG⟩ J K hJ hKj
    have SV := hid hS
    have WV := hid hW
    have HJ2 := hid hJ
    have HK2 := hid hKj
    have x2V := X2.out.chg hS.chg hgw
    have zr : V.cell? ⟨w.heap.size, 0, none⟩ = some (.pointer (some ⟨g, 0, none⟩)) := x2V.cells 0
    have hszV := hS.chg.size
    clear hS hW hJ hKj zj HSIT
    by_cases hlt : q < nj
    ·obtain ⟨⟨jf, ja⟩, hj⟩ : ∃ s, js[q]? = some s := ⟨_, List.getElem?_eq_getElem (by rw [LJ.out]; exact hlt)⟩
     obtain ⟨ad, had, hab, h0, h1⟩ := (HRD.out V (HEW.out.below SV.out.chg)).jobs q _ hj
     subst had
     have ha := HJ.out _ (List.mem_of_getElem? hj)
     have hdrop : js.drop q = (jf, ja) :: js.drop (q + 1) := List.drop_eq_getElem_cons (by rw [LJ.out]; exact hlt) |>.trans (by rw [show js[q]'(by rw [LJ.out]; exact hlt) = (jf, ja) from by rw [List.getElem?_eq_getElem (by rw [LJ.out]; exact hlt)] at hj; simpa using hj])
     have hgo := hG.out
     rw [hdrop, jobsS] at hgo
     have bal : Below V.heap.size V (V.alloc (.cells #[.int .i64 jf, .int .i64 ja] 142)) := (Below.refl _ _).alloc (Nat.le_refl _) _
     have hrj0 := runJob_any HEW.out fuel mode jf ja s v1 (.slice none 0 0) v3 ha (WV.out.mono (by omega) (by omega)) _ (SV.out.below bal)
     have HW2 := hid (job_wf (mode := mode) WV.out ha)
     have zr2 : (V.alloc (.cells #[.int .i64 jf, .int .i64 ja] 142)).cell? ⟨w.heap.size, 0, none⟩ = some (.pointer (some ⟨g, 0, none⟩)) := (x2V.alloc _).cells 0
     have hgo2 : (if (!(mode == 2 && !((oneR p fuel mode s jf ja).kind == 1))) = true then jobsS p fuel mode (js.drop (q + 1)) (jobS p fuel mode s (jf, ja)) else jobS p fuel mode s (jf, ja)) = jobsS p fuel mode js sen0 := hgo
     generalize jobS p fuel mode s (jf, ja) = s' at *
     generalize ((oneR p fuel mode s jf ja).kind == 1) = b at *
     have hrj := hid hrj0
     dsimp only at h0 h1
     clear hj hgo hdrop hG hrj0 ha bal hab
     cases b with
     | true =>
      have HG2 := hid (show jobsS p fuel mode (js.drop (q + 1)) s' = jobsS p fuel mode js sen0 by rw [if_pos (by simp)] at hgo2; exact hgo2)
      clear hgo2
      go_wp2_with fail
      refine hrj.out.mono ?_
      rintro e V2 ⟨v1', v3', rfl, hs2⟩
      have S2 := hid hs2
      clear hs2 zr zr2 h0 h1
      go_wp2_with fail
      exact HK2.out _ _ ⟨nj - (q + 1), by omega, HJ2.out _ _ _ ⟨q + 1, _, _, _, _, _, _, _, _, _, _, _, _, _, _, _, _, _, _, _, _, _, _, s', _, _, rfl, by omega, rfl, S2.out, HW2.out, HG2⟩⟩
     | false =>
      cases hm : mode == 2 with
      | true =>
       have HG2 := hid (show jobsS p fuel mode js sen0 = s' by rw [hm, if_neg (by simp)] at hgo2; exact hgo2.symm)
       clear hgo2
       go_wp2_with fail
       refine hrj.out.mono ?_
       rintro e V2 ⟨v1', v3', rfl, hs2⟩
       have S2 := hid hs2
       have zr3 : V2.cell? ⟨w.heap.size, 0, none⟩ = some (.pointer (some ⟨g, 0, none⟩)) := (X2.out.chg hs2.chg hgw).cells 0
       have zm : V2.cell? ⟨g, 2, none⟩ = some (.int .i64 mode) := hs2.blk.cells 2
       clear hs2 zr zr2 h0 h1
       go_wp2_with fail
       exact HEND.out s' v1' _ v3' V2 S2.out (HW2.out.mono (by omega) (Nat.le_refl _)) HG2.out _ (fun V => results_none rfl _ _ _)
      | false =>
       have HG2 := hid (show jobsS p fuel mode (js.drop (q + 1)) s' = jobsS p fuel mode js sen0 by rw [hm, if_pos (by simp)] at hgo2; exact hgo2)
       clear hgo2
       go_wp2_with fail
       refine hrj.out.mono ?_
       rintro e V2 ⟨v1', v3', rfl, hs2⟩
       have S2 := hid hs2
       have zr3 : V2.cell? ⟨w.heap.size, 0, none⟩ = some (.pointer (some ⟨g, 0, none⟩)) := (X2.out.chg hs2.chg hgw).cells 0
       have zm : V2.cell? ⟨g, 2, none⟩ = some (.int .i64 mode) := hs2.blk.cells 2
       clear hs2 zr zr2 h0 h1
       go_wp2_with fail
       exact HK2.out _ _ ⟨nj - (q + 1), by omega, HJ2.out _ _ _ ⟨q + 1, _, _, _, _, _, _, _, _, _, _, _, _, _, _, _, _, _, _, _, _, _, _, s', _, _, rfl, by omega, rfl, S2.out, HW2.out, HG2⟩⟩
    ·obtain rfl : q = nj := by omega
     have hgo := hG.out
     rw [List.drop_eq_nil_of_le (by rw [LJ.out]; omega), jobsS] at hgo
     have HGE := hid hgo.symm
     clear hgo hG
     go_wp2_with fail
     exact HEND.out s v1 _ v3 V SV.out (WV.out.mono (by omega) (Nat.le_refl _)) HGE.out _ (fun V => results_none rfl _ _ _)
end Go.Proofs.Ythejnpignlhgiaa.Siv
-- squeezed
