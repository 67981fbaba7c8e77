/- Pr Pz, in one text. -/
import Derived.Test.YtgcjlkdahlfjlaaM21
set_option linter.unusedVariables false
set_option linter.unusedSimpArgs false
/- Rows of a reading one by one; the model's l4Panic. (Written by wip/tools/genpr.py.) -/
namespace Go.Proofs.Ytgcjlkdahlfjlaa.Pr
open Go.ChangeShapes Go.WideShapes Go.ChangeAt Go.RowKit
open PL Mem Srun Sst IntsP RowA Swhole PMem Psf Pw Px Py

theorem apt_grow {V : World} {lo e sz n : Nat} {a a' b : Value} {xs : List Value} (h : Apt a b) (hn : ∀ k, a'.ownBlock = some k → a.ownBlock = some k ∨ V.heap.size ≤ k) (hb : V.ownsRow lo e sz b n xs) : Apt a' b := fun k hk hk' => (hn k hk).elim (fun h1 => h k h1 hk') (fun h1 => by have := (World.ownsRow.lt hb k hk').2; omega)
theorem apt_grow' {V : World} {lo e sz n : Nat} {a a' b : Value} {xs : List Value} (h : Apt b a) (hn : ∀ k, a'.ownBlock = some k → a.ownBlock = some k ∨ V.heap.size ≤ k) (hb : V.ownsRow lo e sz b n xs) : Apt b a' := fun k hk hk' => (hn k hk').elim (fun h1 => h k hk h1) (fun h1 => by have := (World.ownsRow.lt hb k hk).2; omega)
theorem apt_symm {a b : Value} (h : Apt a b) : Apt b a := fun k hk hk' => h k hk' hk
theorem own_one {V : World} {A : Option Addr} {n c g H : Nat} {v : Value} (h : v.ownBlock = some g ∨ g = H) (hH : V.heap.size ≤ H) : ∀ k, (Value.slice (some ⟨g, 0, none⟩) n c).ownBlock = some k → v.ownBlock = some k ∨ V.heap.size ≤ k := by
 intro k hk
 obtain rfl : g = k := by simpa [Value.ownBlock] using hk
 rcases h with h | h
 ·exact .inl h
 ·exact .inr (by omega)
structure R7 (V : World) (lo : Nat) (q0 q1 q2 q3 q4 q5 q6 : Sl) (cs : List (Bool × Int)) (ps : List Tr) (ds : List Int) (us : List (List Int)) (rs : List (Int × Int)) (es bs : List Int) : Prop where
 calls : V.ownsRow lo 157 2 (.slice q0.A q0.n q0.c) q0.n (cellsD cs)
 pan : V.ownsRow lo 79 3 (.slice q1.A q1.n q1.c) q1.n (cells3 ps)
 dep : V.ownsRow lo 3 1 (.slice q2.A q2.n q2.c) q2.n (cellsI ds)
 rcv : V.ownsRow lo 94 2 (.slice q4.A q4.n q4.c) q4.n (cells2 rs)
 rep : V.ownsRow lo 3 1 (.slice q5.A q5.n q5.c) q5.n (cellsI es)
 bef : V.ownsRow lo 3 1 (.slice q6.A q6.n q6.c) q6.n (cellsI bs)
 unw : UnwR V lo (.slice q3.A q3.n q3.c) (.slice q2.A q2.n q2.c) (.slice q5.A q5.n q5.c) (.slice q6.A q6.n q6.c) us
 a25 : Apt (.slice q2.A q2.n q2.c) (.slice q5.A q5.n q5.c)
 a26 : Apt (.slice q2.A q2.n q2.c) (.slice q6.A q6.n q6.c)
 a56 : Apt (.slice q5.A q5.n q5.c) (.slice q6.A q6.n q6.c)
section
variable {V V' : World} {lo : Nat} {q0 q1 q2 q3 q4 q5 q6 : Sl} {cs : List (Bool × Int)} {ps : List Tr} {ds : List Int} {us : List (List Int)} {rs : List (Int × Int)} {es bs : List Int}
theorem R7.keep (h : R7 V lo q0 q1 q2 q3 q4 q5 q6 cs ps ds us rs es bs) (hk : ∀ (e sz n : Nat) (v : Value) (xs : List Value), e ≠ 61 → V.ownsRow lo e sz v n xs → V'.ownsRow lo e sz v n xs) : R7 V' lo q0 q1 q2 q3 q4 q5 q6 cs ps ds us rs es bs :=
 ⟨hk _ _ _ _ _ (by decide) h.calls, hk _ _ _ _ _ (by decide) h.pan, hk _ _ _ _ _ (by decide) h.dep, hk _ _ _ _ _ (by decide) h.rcv, hk _ _ _ _ _ (by decide) h.rep, hk _ _ _ _ _ (by decide) h.bef,
  h.unw.keep (fun vals hv => hk _ _ _ _ _ (by decide) hv) (fun u n xs hu _ _ _ => hk _ _ _ _ _ (by decide) hu), h.a25, h.a26, h.a56⟩
theorem R7.below (h : R7 V lo q0 q1 q2 q3 q4 q5 q6 cs ps ds us rs es bs) (hb : Below V.heap.size V V') : R7 V' lo q0 q1 q2 q3 q4 q5 q6 cs ps ds us rs es bs := h.keep fun e sz n v xs _ ho => own_below ho hb (Nat.le_refl _)
theorem R7.set {g : Nat} {c7 : Array Value} (h : R7 V lo q0 q1 q2 q3 q4 q5 q6 cs ps ds us rs es bs) (hg : Blk V g 61 c7) (i : Nat) (u : Value) : R7 (V.setCell ⟨g, i, none⟩ u) lo q0 q1 q2 q3 q4 q5 q6 cs ps ds us rs es bs :=
 h.keep fun e sz n v xs hne ho => own_far ho _ _ (App.own_blk_ne ho hg hne)
theorem R7.put0 {q0' : Sl} {cs' : List (Bool × Int)} (h : R7 V lo q0 q1 q2 q3 q4 q5 q6 cs ps ds us rs es bs) (hb : Below V.heap.size V V') (ho : V'.ownsRow lo 157 2 (.slice q0'.A q0'.n q0'.c) q0'.n (cellsD cs')) : R7 V' lo q0' q1 q2 q3 q4 q5 q6 cs' ps ds us rs es bs := by
 have g := h.below hb
 exact ⟨ho, g.pan, g.dep, g.rcv, g.rep, g.bef, g.unw, g.a25, g.a26, g.a56⟩
theorem R7.put1 {q1' : Sl} {ps' : List Tr} (h : R7 V lo q0 q1 q2 q3 q4 q5 q6 cs ps ds us rs es bs) (hch : Chg (fun x => (Value.slice q1.A q1.n q1.c).ownBlock = some x) V V') (ho : V'.ownsRow lo 79 3 (.slice q1'.A q1'.n q1'.c) q1'.n (cells3 ps')) : R7 V' lo q0 q1' q2 q3 q4 q5 q6 cs ps' ds us rs es bs := by
 have hr := h.pan
 exact ⟨own_chg h.calls hch (fun x hx e => apart h.calls hr (by decide) x hx e), ho, own_chg h.dep hch (fun x hx e => apart h.dep hr (by decide) x hx e), own_chg h.rcv hch (fun x hx e => apart h.rcv hr (by decide) x hx e), own_chg h.rep hch (fun x hx e => apart h.rep hr (by decide) x hx e), own_chg h.bef hch (fun x hx e => apart h.bef hr (by decide) x hx e),
  h.unw.keep (fun vals hv => own_chg hv hch (fun x hx e => apart hv hr (by decide) x hx e)) (fun u n xs hu _ _ _ => own_chg hu hch (fun x hx e => apart hu hr (by decide) x hx e)), h.a25, h.a26, h.a56⟩
theorem R7.put2 {q2' : Sl} {ds' : List Int} (h : R7 V lo q0 q1 q2 q3 q4 q5 q6 cs ps ds us rs es bs) (hch : Chg (fun x => (Value.slice q2.A q2.n q2.c).ownBlock = some x) V V') (hn : ∀ k, (Value.slice q2'.A q2'.n q2'.c).ownBlock = some k → (Value.slice q2.A q2.n q2.c).ownBlock = some k ∨ V.heap.size ≤ k)
  (ho : V'.ownsRow lo 3 1 (.slice q2'.A q2'.n q2'.c) q2'.n (cellsI ds')) : R7 V' lo q0 q1 q2' q3 q4 q5 q6 cs ps ds' us rs es bs := by
 have hr := h.dep
 refine ⟨own_chg h.calls hch (fun x hx e => apart h.calls hr (by decide) x hx e), own_chg h.pan hch (fun x hx e => apart h.pan hr (by decide) x hx e), ho, own_chg h.rcv hch (fun x hx e => apart h.rcv hr (by decide) x hx e), own_chg h.rep hch (fun x hx e => (apt_symm h.a25) x hx e), own_chg h.bef hch (fun x hx e => (apt_symm h.a26) x hx e), ?_, apt_grow h.a25 hn h.rep, apt_grow h.a26 hn h.bef, h.a56⟩
 obtain ⟨vals, hv, hu⟩ := h.unw
 refine ⟨vals, own_chg hv hch (fun x hx e => apart hv hr (by decide) x hx e), fun i xs hx => ?_⟩
 obtain ⟨A, c, k1, k2, k3, k4, k5⟩ := hu i xs hx
 exact ⟨A, c, k1, own_chg k2 hch (fun x hx e => k3 x hx e), apt_grow' k3 hn k2, k4, k5⟩
theorem R7.put5 {q5' : Sl} {es' : List Int} (h : R7 V lo q0 q1 q2 q3 q4 q5 q6 cs ps ds us rs es bs) (hch : Chg (fun x => (Value.slice q5.A q5.n q5.c).ownBlock = some x) V V') (hn : ∀ k, (Value.slice q5'.A q5'.n q5'.c).ownBlock = some k → (Value.slice q5.A q5.n q5.c).ownBlock = some k ∨ V.heap.size ≤ k)
  (ho : V'.ownsRow lo 3 1 (.slice q5'.A q5'.n q5'.c) q5'.n (cellsI es')) : R7 V' lo q0 q1 q2 q3 q4 q5' q6 cs ps ds us rs es' bs := by
 have hr := h.rep
 refine ⟨own_chg h.calls hch (fun x hx e => apart h.calls hr (by decide) x hx e), own_chg h.pan hch (fun x hx e => apart h.pan hr (by decide) x hx e), own_chg h.dep hch (fun x hx e => h.a25 x hx e), own_chg h.rcv hch (fun x hx e => apart h.rcv hr (by decide) x hx e), ho, own_chg h.bef hch (fun x hx e => (apt_symm h.a56) x hx e), ?_, apt_grow' h.a25 hn h.dep, h.a26, apt_grow h.a56 hn h.bef⟩
 obtain ⟨vals, hv, hu⟩ := h.unw
 refine ⟨vals, own_chg hv hch (fun x hx e => apart hv hr (by decide) x hx e), fun i xs hx => ?_⟩
 obtain ⟨A, c, k1, k2, k3, k4, k5⟩ := hu i xs hx
 exact ⟨A, c, k1, own_chg k2 hch (fun x hx e => k4 x hx e), k3, apt_grow' k4 hn k2, k5⟩
theorem R7.put6 {q6' : Sl} {bs' : List Int} (h : R7 V lo q0 q1 q2 q3 q4 q5 q6 cs ps ds us rs es bs) (hch : Chg (fun x => (Value.slice q6.A q6.n q6.c).ownBlock = some x) V V') (hn : ∀ k, (Value.slice q6'.A q6'.n q6'.c).ownBlock = some k → (Value.slice q6.A q6.n q6.c).ownBlock = some k ∨ V.heap.size ≤ k)
  (ho : V'.ownsRow lo 3 1 (.slice q6'.A q6'.n q6'.c) q6'.n (cellsI bs')) : R7 V' lo q0 q1 q2 q3 q4 q5 q6' cs ps ds us rs es bs' := by
 have hr := h.bef
 refine ⟨own_chg h.calls hch (fun x hx e => apart h.calls hr (by decide) x hx e), own_chg h.pan hch (fun x hx e => apart h.pan hr (by decide) x hx e), own_chg h.dep hch (fun x hx e => h.a26 x hx e), own_chg h.rcv hch (fun x hx e => apart h.rcv hr (by decide) x hx e), own_chg h.rep hch (fun x hx e => h.a56 x hx e), ho, ?_, h.a25, apt_grow' h.a26 hn h.dep, apt_grow' h.a56 hn h.rep⟩
 obtain ⟨vals, hv, hu⟩ := h.unw
 refine ⟨vals, own_chg hv hch (fun x hx e => apart hv hr (by decide) x hx e), fun i xs hx => ?_⟩
 obtain ⟨A, c, k1, k2, k3, k4, k5⟩ := hu i xs hx
 exact ⟨A, c, k1, own_chg k2 hch (fun x hx e => k5 x hx e), k3, k4, apt_grow' k5 hn k2⟩
theorem R7.put3 {q3' : Sl} {vals : List Value} {A : Option Addr} {c : Nat} (h : R7 V lo q0 q1 q2 q3 q4 q5 q6 cs ps ds us rs es bs) (hlo : lo ≤ V.heap.size) (hch : Chg (fun x => (Value.slice q3.A q3.n q3.c).ownBlock = some x) V V') (hv : V.ownsRow lo 38 1 (.slice q3.A q3.n q3.c) us.length vals)
  (hu : ∀ (i : Nat) (xs : List Int), us[i]? = some xs → ∃ A c, vals[i]? = some (.slice A xs.length c) ∧ V.ownsRow lo 3 1 (.slice A xs.length c) xs.length (cellsI xs) ∧ Apt (.slice A xs.length c) (.slice q2.A q2.n q2.c) ∧ Apt (.slice A xs.length c) (.slice q5.A q5.n q5.c) ∧ Apt (.slice A xs.length c) (.slice q6.A q6.n q6.c))
  (ho : V'.ownsRow lo 38 1 (.slice q3'.A q3'.n q3'.c) (us.length + 1) (vals ++ [.slice A 0 c])) (hi : V'.ownsRow V.heap.size 3 1 (.slice A 0 c) 0 []) : R7 V' lo q0 q1 q2 q3' q4 q5 q6 cs ps ds (us ++ [[]]) rs es bs := by
 have hl : vals.length = us.length := by have := hv.1; omega
 refine ⟨own_chg h.calls hch (fun x hx e => apart h.calls hv (by decide) x hx e), own_chg h.pan hch (fun x hx e => apart h.pan hv (by decide) x hx e), own_chg h.dep hch (fun x hx e => apart h.dep hv (by decide) x hx e), own_chg h.rcv hch (fun x hx e => apart h.rcv hv (by decide) x hx e), own_chg h.rep hch (fun x hx e => apart h.rep hv (by decide) x hx e), own_chg h.bef hch (fun x hx e => apart h.bef hv (by decide) x hx e), ?_, h.a25, h.a26, h.a56⟩
 refine ⟨vals ++ [.slice A 0 c], by rw [List.length_append, List.length_singleton]; exact ho, fun i xs hx => ?_⟩
 by_cases hlt : i < us.length
 ·rw [List.getElem?_append_left hlt] at hx
  obtain ⟨A1, c1, k1, k2, k3, k4, k5⟩ := hu i xs hx
  exact ⟨A1, c1, by rw [List.getElem?_append_left (by omega)]; exact k1, own_chg k2 hch (fun x hx e => apart k2 hv (by decide) x hx e), k3, k4, k5⟩
 ·have hi' : i < (us ++ [([] : List Int)]).length := (List.getElem?_eq_some_iff.1 hx).1
  rw [List.length_append, List.length_singleton] at hi'
  obtain rfl : i = us.length := by omega
  rw [List.getElem?_append_right (Nat.le_refl _), Nat.sub_self] at hx
  obtain rfl : [] = xs := by simpa using hx
  exact ⟨A, c, by rw [← hl]; simp, own_mono hi hlo, apt_new hi h.dep, apt_new hi h.rep, apt_new hi h.bef⟩
end
abbrev cellsQ (q0 q1 q2 q3 q4 q5 q6 : Sl) : Array Value := #[.slice q0.A q0.n q0.c, .slice q1.A q1.n q1.c, .slice q2.A q2.n q2.c, .slice q3.A q3.n q3.c, .slice q4.A q4.n q4.c, .slice q5.A q5.n q5.c, .slice q6.A q6.n q6.c]
structure St7 (C : Nat → Prop) (w : World) (lo b0 b1 bz : Nat) (q0 q1 q2 q3 q4 q5 q6 : Sl) (cs : List (Bool × Int)) (ps : List Tr) (ds : List Int) (us : List (List Int)) (rs : List (Int × Int)) (es bs : List Int) (e0 f v : Int) (V : World) : Prop where
 b0 : Blk V b0 61 (cellsQ q0 q1 q2 q3 q4 q5 q6)
 b1 : Blk V b1 74 #[.int .i64 e0, .int .i64 f, .int .i64 v]
 bz : Blk V bz 61 z7
 r7 : R7 V lo q0 q1 q2 q3 q4 q5 q6 cs ps ds us rs es bs
 chg : Chg C w V
def Mine (h0 h1 h2 h3 h4 h5 h6 : Hd) (x : Nat) : Prop := (Value.slice h0.A 0 h0.c).ownBlock = some x ∨ (Value.slice h1.A 0 h1.c).ownBlock = some x ∨ (Value.slice h2.A 0 h2.c).ownBlock = some x ∨ (Value.slice h3.A 0 h3.c).ownBlock = some x ∨ (Value.slice h4.A 0 h4.c).ownBlock = some x ∨ (Value.slice h5.A 0 h5.c).ownBlock = some x ∨ (Value.slice h6.A 0 h6.c).ownBlock = some x
theorem mine_of {h : Hd} {n x : Nat} (hx : (Value.slice h.A n h.c).ownBlock = some x) : (Value.slice h.A 0 h.c).ownBlock = some x := (slice_own _ _ _ _ _).trans hx
theorem R7.set7 {V : World} {lo g : Nat} {q0 q1 q2 q3 q4 q5 q6 : Sl} {cs : List (Bool × Int)} {ps : List Tr} {ds : List Int} {us : List (List Int)} {rs : List (Int × Int)} {es bs : List Int} {c7 : Array Value} {u0 u1 u2 u3 u4 u5 u6 : Value} (h : R7 V lo q0 q1 q2 q3 q4 q5 q6 cs ps ds us rs es bs) (hg : Blk V g 61 c7) : R7 (((((((V.setCell ⟨g, 0, none⟩ u0).setCell ⟨g, 1, none⟩ u1).setCell ⟨g, 2, none⟩ u2).setCell ⟨g, 3, none⟩ u3).setCell ⟨g, 4, none⟩ u4).setCell ⟨g, 5, none⟩ u5).setCell ⟨g, 6, none⟩ u6) lo q0 q1 q2 q3 q4 q5 q6 cs ps ds us rs es bs :=
 ((((((h.set hg 0 u0).set (hg.put 0 u0) 1 u1).set ((hg.put 0 u0).put 1 u1) 2 u2).set (((hg.put 0 u0).put 1 u1).put 2 u2) 3 u3).set ((((hg.put 0 u0).put 1 u1).put 2 u2).put 3 u3) 4 u4).set (((((hg.put 0 u0).put 1 u1).put 2 u2).put 3 u3).put 4 u4) 5 u5).set ((((((hg.put 0 u0).put 1 u1).put 2 u2).put 3 u3).put 4 u4).put 5 u5) 6 u6
theorem empty_chg {W W' : World} {B lo n e e' : Nat} {g c : Nat} {v : Value} {l : List Value} (h : W.ownsRow B e 1 (.slice (some ⟨g, 0, none⟩) 0 c) 0 []) (hv : W.ownsRow lo e' 1 v n l) (hg : W.grownBy W' v.ownBlock) (hne : e ≠ e' := by decide) : W'.ownsRow B e 1 (.slice (some ⟨g, 0, none⟩) 0 c) 0 [] :=
 own_chg h (Chg.of_grown hg) (fun k hk hk' => apart h hv hne k hk hk'.symm)
theorem r7_w4 {V : World} {lo : Nat} {k0 k1 k2 k3 k4 k5 k6 : Hd} {next : Nat} {pan : List PF} {rcv : List (Int × Int)} {a : Ent} {O : List Ent} {f v : Int} (h : R7 V lo ⟨k0.A, O.length + 1, k0.c⟩ ⟨k1.A, pan.length + 1, k1.c⟩ ⟨k2.A, pan.length + 1, k2.c⟩ ⟨k3.A, pan.length + 1, k3.c⟩ ⟨k4.A, rcv.length, k4.c⟩ ⟨k5.A, pan.length + 1, k5.c⟩ ⟨k6.A, pan.length + 1, k6.c⟩ (callsOf O ++ [(a.dfr, (pan.length : Int))]) (pan.map p3 ++ [(f, v, 0)]) (pan.map pdep ++ [((O.length + 1 : Nat) : Int)]) (pan.map PF.by_ ++ [[]]) rcv (pan.map PF.rep ++ [-1]) (pan.map PF.bef ++ [-1])) :
  W4 V lo k0 k1 k2 k3 k4 k5 k6 ⟨⟨a.no, a.dfr, some pan.length⟩ :: O, next, pan ++ [⟨f, v, 0, a.no, O.length + 1, [], -1, -1⟩], rcv⟩ := by
 have e : (pan ++ [(⟨f, v, 0, a.no, O.length + 1, [], -1, -1⟩ : PF)]).length = pan.length + 1 := by rw [List.length_append, List.length_singleton]
 have e0 : callsOf (⟨a.no, a.dfr, some pan.length⟩ :: O) = callsOf O ++ [(a.dfr, (pan.length : Int))] := callsOf_cons _ _
 refine ⟨by dsimp only; rw [e0]; exact h.calls, by dsimp only; rw [e, List.map_append]; exact h.pan, by dsimp only; rw [e, List.map_append]; exact h.dep, h.rcv, by dsimp only; rw [e, List.map_append]; exact h.rep, by dsimp only; rw [e, List.map_append]; exact h.bef, ?_, h.a25.len, h.a26.len, h.a56.len⟩
 dsimp only
 rw [e, List.map_append]
 exact h.unw
set_option maxRecDepth 100000 in
set_option maxHeartbeats 8000000 in
theorem l4Panic_any (lo : Nat) (h0 h1 h2 h3 h4 h5 h6 : Hd) (next : Nat) (pan : List PF) (rcv : List (Int × Int)) (a : Ent) (O : List Ent) (e0 f v : Int) (w : World)
  (hl1 : O.length ≤ 100000) (hl2 : pan.length ≤ 100000) (hlo : lo ≤ w.heap.size) (hw : W4 w lo h0 h1 h2 h3 h4 h5 h6 ⟨a :: O, next, pan, rcv⟩) :
  Calls Try.prog 111 #[.agg (recV h0 h1 h2 h3 h4 h5 h6 ⟨a :: O, next, pan, rcv⟩), .agg #[.int .i64 e0, .int .i64 f, .int .i64 v]] w fun e w' => ∃ h0' h1' h2' h3' h5' h6', e = .returned (.agg (recV h0' h1' h2' h3' h4 h5' h6' ⟨⟨a.no, a.dfr, some pan.length⟩ :: O, next, pan ++ [⟨f, v, 0, a.no, O.length + 1, [], -1, -1⟩], rcv⟩)) ∧
   W4 w' lo h0' h1' h2' h3' h4 h5' h6' ⟨⟨a.no, a.dfr, some pan.length⟩ :: O, next, pan ++ [⟨f, v, 0, a.no, O.length + 1, [], -1, -1⟩], rcv⟩ ∧ Chg (Mine h0 h1 h2 h3 h4 h5 h6) w w' := by
 obtain ⟨i2, hi, hz0, hz1, hz2⟩ := info_parts info3
 obtain ⟨i3, ji, jz0, jz1, jz2⟩ := info_parts infoT3
 obtain ⟨i4, ki, kz0, kz1, kz2⟩ := info_parts infoSI
 obtain ⟨m, hm⟩ : ∃ m, O.length = m := ⟨_, rfl⟩
 obtain ⟨n, hn⟩ : ∃ n, pan.length = n := ⟨_, rfl⟩
 obtain ⟨r, hr⟩ : ∃ r, rcv.length = r := ⟨_, rfl⟩
 have HM := Lib.hid hm
 have HN := Lib.hid hn
 have HR := Lib.hid hr
 have hR7 : R7 w lo ⟨h0.A, m + 1, h0.c⟩ ⟨h1.A, n, h1.c⟩ ⟨h2.A, n, h2.c⟩ ⟨h3.A, n, h3.c⟩ ⟨h4.A, r, h4.c⟩ ⟨h5.A, n, h5.c⟩ ⟨h6.A, n, h6.c⟩ (callsOf (a :: O)) (pan.map p3) (pan.map pdep) (pan.map PF.by_) rcv (pan.map PF.rep) (pan.map PF.bef) := by
  subst hm hn hr
  exact ⟨hw.calls, hw.pan, hw.dep, hw.rcv, hw.rep, hw.bef, hw.unw, hw.a25, hw.a26, hw.a56⟩
 have hrec : recV h0 h1 h2 h3 h4 h5 h6 ⟨a :: O, next, pan, rcv⟩ = cellsQ ⟨h0.A, m + 1, h0.c⟩ ⟨h1.A, n, h1.c⟩ ⟨h2.A, n, h2.c⟩ ⟨h3.A, n, h3.c⟩ ⟨h4.A, r, h4.c⟩ ⟨h5.A, n, h5.c⟩ ⟨h6.A, n, h6.c⟩ := by subst hm hn hr; rfl
 have HL3 := Lib.hid (show (pan.map PF.by_).length = n by rw [List.length_map]; exact hn)
 have HW := Lib.hid hR7
 obtain ⟨C, hC⟩ : ∃ C, Mine h0 h1 h2 h3 h4 h5 h6 = C := ⟨_, rfl⟩
 have HC := Lib.hid hC
 rw [hrec]
 rw [hm] at hl1
 rw [hn] at hl2
 clear hw hR7 hm hn hr hC hrec
 go_enter Try.func111, Try.ntmps111
 go_upto_region 1 with fail
 change (fun V => Code.wp _ _ _ _ V) _
 refine gen_world (X := fun V => St7 C w lo w.heap.size (w.heap.size + 1) (w.heap.size + 1 + 1) ⟨h0.A, m + 1, h0.c⟩ ⟨h1.A, n, h1.c⟩ ⟨h2.A, n, h2.c⟩ ⟨h3.A, n, h3.c⟩ ⟨h4.A, r, h4.c⟩ ⟨h5.A, n, h5.c⟩ ⟨h6.A, n, h6.c⟩ (callsOf (a :: O)) (pan.map p3) (pan.map pdep) (pan.map PF.by_) rcv (pan.map PF.rep) (pan.map PF.bef) e0 f v V) ⟨heap3_0 w _ _ _, heap3_1 w _ _ _, heap3_2 w _ _ _, HW.out.below ((((Below.refl _ _).alloc (Nat.le_refl _) _).alloc (by simp) _).alloc (by simp <;> omega) _), ((Chg.alloc _ w _).new _).new _⟩ ?_
 clear HW
 rintro V1 hV
 have z0 := hV.b0.cells
 have f0 := hV.b0.frozen
 have z1 := hV.b1.cells
 have f1 := hV.b1.frozen
 have hlz0 := hV.b0.lt
 have hlz1 := hV.b1.lt
 have hlv : lo ≤ V1.heap.size := Nat.le_trans hlo (Nat.le_of_lt hV.b0.lt)
 have ST := Lib.hid hV
 clear hV
 go_wp2_with (at_builtin; refine wpList_append_lies _ rfl _ _ 26 rfl lo 79 i3 _ 3 24 Try.underlying26 ji jz0 jz1 jz2 rfl (by decide) _ _ _ rfl (World.ownsRow.alloc ST.out.r7.pan _) ⟨V1.heap.size, 0, none⟩ 1 1 [.int .i64 f, .int .i64 v, .int .i64 0] rfl rfl ?cn_1 ?co_1 (by decide) ?c63_1 ?cb_1 ?cl_1 (V1.heap.size + 1) ?cH_1 ?next_1)
 (try (case cn_1 => exact World.news_of_block (cs := #[.int .i64 f, .int .i64 v, .int .i64 0]) (t := 79) (fr := (0, 0)) (heap_alloc_new _ _)))
 case co_1 => first | (intro u hu; simp at hu; rcases hu with rfl | rfl | rfl <;> rfl) | (intro u hu; simp at hu; subst hu; rfl) | simp [Value.oneCell']
 case c63_1 => first | (unfold maxLen; omega) | omega
 case cb_1 => omega
 case cl_1 => first | (simp; omega) | omega
 (try (case cH_1 => simp))
 case next_1 =>
  intro g1 c1 w1 hown hgrow hat hlt
  have ch : Chg (fun x => (.slice h1.A n h1.c : Value).ownBlock = some x) V1 w1 := (Chg.alloc _ V1 _).trans (Chg.of_grown hgrow) (fun x _ hx => hx.symm)
  have WR := Lib.hid (ST.out.r7.put1 (q1' := ⟨some ⟨g1, 0, none⟩, n + 1, c1⟩) (ps' := (pan.map p3 ++ [(f, v, 0)])) ch (by rw [cells3_append]; exact hown))
  have hr := ST.out.r7.pan
  have NB : ∀ b cs t, Blk V1 b t cs → t ≠ 79 → Blk w1 b t cs := fun b cs t hb hne => hb.chg ch (blk_apart hr hb (fun e => hne e.symm))
  have Y0 := Lib.hid (NB _ _ _ ST.out.b0 (by decide))
  have Y1 := Lib.hid (NB _ _ _ ST.out.b1 (by decide))
  have YZ := Lib.hid (NB _ _ _ ST.out.bz (by decide))
  have CH := Lib.hid (ST.out.chg.trans ch (fun x _ hc => by rw [← HC.out]; exact .inr (.inl (mine_of hc))))
  have z1 := Y0.out.cells
  have f1 := Y0.out.frozen
  clear hown hgrow hat hlt ch hr NB ST
  go_upto_region 2 with fail
  change (fun V => Code.wp _ _ _ _ V) _
  refine gen_world (X := fun V => St7 C w lo w.heap.size (w.heap.size + 1) (w.heap.size + 1 + 1) ⟨h0.A, m + 1, h0.c⟩ ⟨some ⟨g1, 0, none⟩, n + 1, c1⟩ ⟨h2.A, n, h2.c⟩ ⟨h3.A, n, h3.c⟩ ⟨h4.A, r, h4.c⟩ ⟨h5.A, n, h5.c⟩ ⟨h6.A, n, h6.c⟩ (callsOf (a :: O)) (pan.map p3 ++ [(f, v, 0)]) (pan.map pdep) (pan.map PF.by_) rcv (pan.map PF.rep) (pan.map PF.bef) e0 f v V) ⟨(by have := Y0.out.put 1 (.slice (some ⟨g1, 0, none⟩) (n + 1) c1); simpa only [List.setIfInBounds_toArray, List.set_cons_zero, List.set_cons_succ] using this), Y1.out.far _ _ (by show w.heap.size + 1 ≠ w.heap.size; omega), YZ.out.far _ _ (by show w.heap.size + 1 + 1 ≠ w.heap.size; omega), WR.out.set Y0.out 1 _, CH.out.put _ _ (.inl (Nat.le_refl _))⟩ ?_
  clear Y0 Y1 YZ CH WR z1 f1
  rintro V2 hV
  have z0 := hV.b0.cells
  have f0 := hV.b0.frozen
  have z1 := hV.b1.cells
  have f1 := hV.b1.frozen
  have hlz0 := hV.b0.lt
  have hlz1 := hV.b1.lt
  have hlv : lo ≤ V2.heap.size := Nat.le_trans hlo (Nat.le_of_lt hV.b0.lt)
  have ST := Lib.hid hV
  clear hV
  go_wp2_with (at_builtin; refine wpList_append_lies _ rfl _ _ 38 rfl lo 3 i2 _ 1 8 Try.underlying38 hi hz0 hz1 hz2 rfl (by decide) _ _ _ rfl (World.ownsRow.alloc ST.out.r7.dep _) ⟨V2.heap.size, 0, none⟩ 1 1 [.int .i64 ((m + 1 : Nat) : Int)] rfl rfl ?cn_2 ?co_2 (by decide) ?c63_2 ?cb_2 ?cl_2 (V2.heap.size + 1) ?cH_2 ?next_2)
  (try (case cn_2 => exact World.news_of_block (cs := #[.int .i64 ((m + 1 : Nat) : Int)]) (t := 3) (fr := (0, 0)) (heap_alloc_new _ _)))
  case co_2 => first | (intro u hu; simp at hu; rcases hu with rfl | rfl | rfl <;> rfl) | (intro u hu; simp at hu; subst hu; rfl) | simp [Value.oneCell']
  case c63_2 => first | (unfold maxLen; omega) | omega
  case cb_2 => omega
  case cl_2 => first | (simp; omega) | omega
  (try (case cH_2 => simp))
  case next_2 =>
   intro g2 c2 w2 hown hgrow hat hlt
   have ch : Chg (fun x => (.slice h2.A n h2.c : Value).ownBlock = some x) V2 w2 := (Chg.alloc _ V2 _).trans (Chg.of_grown hgrow) (fun x _ hx => hx.symm)
   have WR := Lib.hid (ST.out.r7.put2 (q2' := ⟨some ⟨g2, 0, none⟩, n + 1, c2⟩) (ds' := (pan.map pdep ++ [((m + 1 : Nat) : Int)])) ch (own_one (A := none) hat (Nat.le_succ _)) (by rw [cellsI_append]; exact hown))
   have hr := ST.out.r7.dep
   have NB : ∀ b cs t, Blk V2 b t cs → t ≠ 3 → Blk w2 b t cs := fun b cs t hb hne => hb.chg ch (blk_apart hr hb (fun e => hne e.symm))
   have Y0 := Lib.hid (NB _ _ _ ST.out.b0 (by decide))
   have Y1 := Lib.hid (NB _ _ _ ST.out.b1 (by decide))
   have YZ := Lib.hid (NB _ _ _ ST.out.bz (by decide))
   have CH := Lib.hid (ST.out.chg.trans ch (fun x _ hc => by rw [← HC.out]; exact .inr (.inr (.inl (mine_of hc)))))
   have z2 := Y0.out.cells
   have f2 := Y0.out.frozen
   clear hown hgrow hat hlt ch hr NB ST
   go_upto_region 3 with fail
   change (fun V => Code.wp _ _ _ _ V) _
   refine gen_world (X := fun V => St7 C w lo w.heap.size (w.heap.size + 1) (w.heap.size + 1 + 1) ⟨h0.A, m + 1, h0.c⟩ ⟨some ⟨g1, 0, none⟩, n + 1, c1⟩ ⟨some ⟨g2, 0, none⟩, n + 1, c2⟩ ⟨h3.A, n, h3.c⟩ ⟨h4.A, r, h4.c⟩ ⟨h5.A, n, h5.c⟩ ⟨h6.A, n, h6.c⟩ (callsOf (a :: O)) (pan.map p3 ++ [(f, v, 0)]) (pan.map pdep ++ [((m + 1 : Nat) : Int)]) (pan.map PF.by_) rcv (pan.map PF.rep) (pan.map PF.bef) e0 f v V) ⟨(by have := Y0.out.put 2 (.slice (some ⟨g2, 0, none⟩) (n + 1) c2); simpa only [List.setIfInBounds_toArray, List.set_cons_zero, List.set_cons_succ] using this), Y1.out.far _ _ (by show w.heap.size + 1 ≠ w.heap.size; omega), YZ.out.far _ _ (by show w.heap.size + 1 + 1 ≠ w.heap.size; omega), WR.out.set Y0.out 2 _, CH.out.put _ _ (.inl (Nat.le_refl _))⟩ ?_
   clear Y0 Y1 YZ CH WR z2 f2
   rintro V3 hV
   obtain ⟨vals, uv, ui⟩ := hV.r7.unw
   rw [HL3.out] at uv
   have UV := Lib.hid uv
   have UI := Lib.hid ui
   clear uv ui
   have z0 := hV.b0.cells
   have f0 := hV.b0.frozen
   have z1 := hV.b1.cells
   have f1 := hV.b1.frozen
   have hlz0 := hV.b0.lt
   have hlz1 := hV.b1.lt
   have hlv : lo ≤ V3.heap.size := Nat.le_trans hlo (Nat.le_of_lt hV.b0.lt)
   have ST := Lib.hid hV
   clear hV
   go_wp2_with (at_builtin; refine wpList_append_lies _ rfl _ _ 59 rfl lo 38 i4 _ 1 24 Try.underlying59 ki kz0 kz1 kz2 rfl (by decide) _ _ _ rfl (World.ownsRow.alloc (World.ownsRow.alloc UV.out _) _) ⟨(V3.heap.size + 1), 0, none⟩ 1 1 [.slice (some ⟨V3.heap.size, 0, none⟩) 0 0] rfl rfl ?cn_3 ?co_3 (by decide) ?c63_3 ?cb_3 ?cl_3 ((V3.heap.size + 1) + 1) ?cH_3 ?next_3)
   (try (case cn_3 => exact World.news_of_block (cs := #[.slice (some ⟨V3.heap.size, 0, none⟩) 0 0]) (t := 38) (fr := (0, 0)) (heap2_1 V3 _ _)))
   case co_3 => first | (intro u hu; simp at hu; rcases hu with rfl | rfl | rfl <;> rfl) | (intro u hu; simp at hu; subst hu; rfl) | simp [Value.oneCell']
   case c63_3 => first | (unfold maxLen; omega) | omega
   case cb_3 => omega
   case cl_3 => first | (simp; omega) | omega
   (try (case cH_3 => simp))
   case next_3 =>
    intro g3 c3 w3 hown hgrow hat hlt
    have ch : Chg (fun x => (.slice h3.A n h3.c : Value).ownBlock = some x) V3 w3 := ((Chg.alloc _ V3 _).new _).trans (Chg.of_grown hgrow) (fun x _ hx => hx.symm)
    have WR := Lib.hid (ST.out.r7.put3 (q3' := ⟨some ⟨g3, 0, none⟩, n + 1, c3⟩) (A := some ⟨V3.heap.size, 0, none⟩) (c := 0) hlv ch (by rw [HL3.out]; exact UV.out) UI.out (by rw [HL3.out]; exact hown) (empty_chg (App.empty_own (heap2_0 V3 _ _) (Nat.le_refl _)) (World.ownsRow.alloc (World.ownsRow.alloc UV.out _) _) hgrow))
    have hr := UV.out
    have NB : ∀ b cs t, Blk V3 b t cs → t ≠ 38 → Blk w3 b t cs := fun b cs t hb hne => hb.chg ch (blk_apart hr hb (fun e => hne e.symm))
    have Y0 := Lib.hid (NB _ _ _ ST.out.b0 (by decide))
    have Y1 := Lib.hid (NB _ _ _ ST.out.b1 (by decide))
    have YZ := Lib.hid (NB _ _ _ ST.out.bz (by decide))
    have CH := Lib.hid (ST.out.chg.trans ch (fun x _ hc => by rw [← HC.out]; exact .inr (.inr (.inr (.inl (mine_of hc))))))
    have z3 := Y0.out.cells
    have f3 := Y0.out.frozen
    clear hown hgrow hat hlt ch hr NB ST UV UI
    go_upto_region 4 with fail
    change (fun V => Code.wp _ _ _ _ V) _
    refine gen_world (X := fun V => St7 C w lo w.heap.size (w.heap.size + 1) (w.heap.size + 1 + 1) ⟨h0.A, m + 1, h0.c⟩ ⟨some ⟨g1, 0, none⟩, n + 1, c1⟩ ⟨some ⟨g2, 0, none⟩, n + 1, c2⟩ ⟨some ⟨g3, 0, none⟩, n + 1, c3⟩ ⟨h4.A, r, h4.c⟩ ⟨h5.A, n, h5.c⟩ ⟨h6.A, n, h6.c⟩ (callsOf (a :: O)) (pan.map p3 ++ [(f, v, 0)]) (pan.map pdep ++ [((m + 1 : Nat) : Int)]) (pan.map PF.by_ ++ [[]]) rcv (pan.map PF.rep) (pan.map PF.bef) e0 f v V) ⟨(by have := Y0.out.put 3 (.slice (some ⟨g3, 0, none⟩) (n + 1) c3); simpa only [List.setIfInBounds_toArray, List.set_cons_zero, List.set_cons_succ] using this), Y1.out.far _ _ (by show w.heap.size + 1 ≠ w.heap.size; omega), YZ.out.far _ _ (by show w.heap.size + 1 + 1 ≠ w.heap.size; omega), WR.out.set Y0.out 3 _, CH.out.put _ _ (.inl (Nat.le_refl _))⟩ ?_
    clear Y0 Y1 YZ CH WR z3 f3
    rintro V4 hV
    have z0 := hV.b0.cells
    have f0 := hV.b0.frozen
    have z1 := hV.b1.cells
    have f1 := hV.b1.frozen
    have hlz0 := hV.b0.lt
    have hlz1 := hV.b1.lt
    have hlv : lo ≤ V4.heap.size := Nat.le_trans hlo (Nat.le_of_lt hV.b0.lt)
    have ST := Lib.hid hV
    clear hV
    go_wp2_with (at_builtin; refine wpList_append_lies _ rfl _ _ 38 rfl lo 3 i2 _ 1 8 Try.underlying38 hi hz0 hz1 hz2 rfl (by decide) _ _ _ rfl (World.ownsRow.alloc ST.out.r7.rep _) ⟨V4.heap.size, 0, none⟩ 1 1 [.int .i64 (-1)] rfl rfl ?cn_4 ?co_4 (by decide) ?c63_4 ?cb_4 ?cl_4 (V4.heap.size + 1) ?cH_4 ?next_4)
    (try (case cn_4 => exact World.news_of_block (cs := #[.int .i64 (-1)]) (t := 3) (fr := (0, 0)) (heap_alloc_new _ _)))
    case co_4 => first | (intro u hu; simp at hu; rcases hu with rfl | rfl | rfl <;> rfl) | (intro u hu; simp at hu; subst hu; rfl) | simp [Value.oneCell']
    case c63_4 => first | (unfold maxLen; omega) | omega
    case cb_4 => omega
    case cl_4 => first | (simp; omega) | omega
    (try (case cH_4 => simp))
    case next_4 =>
     intro g4 c4 w4 hown hgrow hat hlt
     have ch : Chg (fun x => (.slice h5.A n h5.c : Value).ownBlock = some x) V4 w4 := (Chg.alloc _ V4 _).trans (Chg.of_grown hgrow) (fun x _ hx => hx.symm)
     have WR := Lib.hid (ST.out.r7.put5 (q5' := ⟨some ⟨g4, 0, none⟩, n + 1, c4⟩) (es' := (pan.map PF.rep ++ [-1])) ch (own_one (A := none) hat (Nat.le_succ _)) (by rw [cellsI_append]; exact hown))
     have hr := ST.out.r7.rep
     have NB : ∀ b cs t, Blk V4 b t cs → t ≠ 3 → Blk w4 b t cs := fun b cs t hb hne => hb.chg ch (blk_apart hr hb (fun e => hne e.symm))
     have Y0 := Lib.hid (NB _ _ _ ST.out.b0 (by decide))
     have Y1 := Lib.hid (NB _ _ _ ST.out.b1 (by decide))
     have YZ := Lib.hid (NB _ _ _ ST.out.bz (by decide))
     have CH := Lib.hid (ST.out.chg.trans ch (fun x _ hc => by rw [← HC.out]; exact .inr (.inr (.inr (.inr (.inr (.inl (mine_of hc))))))))
     have z5 := Y0.out.cells
     have f5 := Y0.out.frozen
     clear hown hgrow hat hlt ch hr NB ST
     go_upto_region 5 with fail
     change (fun V => Code.wp _ _ _ _ V) _
     refine gen_world (X := fun V => St7 C w lo w.heap.size (w.heap.size + 1) (w.heap.size + 1 + 1) ⟨h0.A, m + 1, h0.c⟩ ⟨some ⟨g1, 0, none⟩, n + 1, c1⟩ ⟨some ⟨g2, 0, none⟩, n + 1, c2⟩ ⟨some ⟨g3, 0, none⟩, n + 1, c3⟩ ⟨h4.A, r, h4.c⟩ ⟨some ⟨g4, 0, none⟩, n + 1, c4⟩ ⟨h6.A, n, h6.c⟩ (callsOf (a :: O)) (pan.map p3 ++ [(f, v, 0)]) (pan.map pdep ++ [((m + 1 : Nat) : Int)]) (pan.map PF.by_ ++ [[]]) rcv (pan.map PF.rep ++ [-1]) (pan.map PF.bef) e0 f v V) ⟨(by have := Y0.out.put 5 (.slice (some ⟨g4, 0, none⟩) (n + 1) c4); simpa only [List.setIfInBounds_toArray, List.set_cons_zero, List.set_cons_succ] using this), Y1.out.far _ _ (by show w.heap.size + 1 ≠ w.heap.size; omega), YZ.out.far _ _ (by show w.heap.size + 1 + 1 ≠ w.heap.size; omega), WR.out.set Y0.out 5 _, CH.out.put _ _ (.inl (Nat.le_refl _))⟩ ?_
     clear Y0 Y1 YZ CH WR z5 f5
     rintro V5 hV
     have z0 := hV.b0.cells
     have f0 := hV.b0.frozen
     have z1 := hV.b1.cells
     have f1 := hV.b1.frozen
     have hlz0 := hV.b0.lt
     have hlz1 := hV.b1.lt
     have hlv : lo ≤ V5.heap.size := Nat.le_trans hlo (Nat.le_of_lt hV.b0.lt)
     have ST := Lib.hid hV
     clear hV
     go_wp2_with (at_builtin; refine wpList_append_lies _ rfl _ _ 38 rfl lo 3 i2 _ 1 8 Try.underlying38 hi hz0 hz1 hz2 rfl (by decide) _ _ _ rfl (World.ownsRow.alloc ST.out.r7.bef _) ⟨V5.heap.size, 0, none⟩ 1 1 [.int .i64 (-1)] rfl rfl ?cn_5 ?co_5 (by decide) ?c63_5 ?cb_5 ?cl_5 (V5.heap.size + 1) ?cH_5 ?next_5)
     (try (case cn_5 => exact World.news_of_block (cs := #[.int .i64 (-1)]) (t := 3) (fr := (0, 0)) (heap_alloc_new _ _)))
     case co_5 => first | (intro u hu; simp at hu; rcases hu with rfl | rfl | rfl <;> rfl) | (intro u hu; simp at hu; subst hu; rfl) | simp [Value.oneCell']
     case c63_5 => first | (unfold maxLen; omega) | omega
     case cb_5 => omega
     case cl_5 => first | (simp; omega) | omega
     (try (case cH_5 => simp))
     case next_5 =>
      intro g5 c5 w5 hown hgrow hat hlt
      have ch : Chg (fun x => (.slice h6.A n h6.c : Value).ownBlock = some x) V5 w5 := (Chg.alloc _ V5 _).trans (Chg.of_grown hgrow) (fun x _ hx => hx.symm)
      have WR := Lib.hid (ST.out.r7.put6 (q6' := ⟨some ⟨g5, 0, none⟩, n + 1, c5⟩) (bs' := (pan.map PF.bef ++ [-1])) ch (own_one (A := none) hat (Nat.le_succ _)) (by rw [cellsI_append]; exact hown))
      have hr := ST.out.r7.bef
      have NB : ∀ b cs t, Blk V5 b t cs → t ≠ 3 → Blk w5 b t cs := fun b cs t hb hne => hb.chg ch (blk_apart hr hb (fun e => hne e.symm))
      have Y0 := Lib.hid (NB _ _ _ ST.out.b0 (by decide))
      have Y1 := Lib.hid (NB _ _ _ ST.out.b1 (by decide))
      have YZ := Lib.hid (NB _ _ _ ST.out.bz (by decide))
      have CH := Lib.hid (ST.out.chg.trans ch (fun x _ hc => by rw [← HC.out]; exact .inr (.inr (.inr (.inr (.inr (.inr (mine_of hc))))))))
      have z6 := Y0.out.cells
      have f6 := Y0.out.frozen
      clear hown hgrow hat hlt ch hr NB ST
      go_upto_region 6 with fail
      change (fun V => Code.wp _ _ _ _ V) _
      refine gen_world (X := fun V => St7 C w lo w.heap.size (w.heap.size + 1) (w.heap.size + 1 + 1) ⟨h0.A, m + 1, h0.c⟩ ⟨some ⟨g1, 0, none⟩, n + 1, c1⟩ ⟨some ⟨g2, 0, none⟩, n + 1, c2⟩ ⟨some ⟨g3, 0, none⟩, n + 1, c3⟩ ⟨h4.A, r, h4.c⟩ ⟨some ⟨g4, 0, none⟩, n + 1, c4⟩ ⟨some ⟨g5, 0, none⟩, n + 1, c5⟩ (callsOf (a :: O)) (pan.map p3 ++ [(f, v, 0)]) (pan.map pdep ++ [((m + 1 : Nat) : Int)]) (pan.map PF.by_ ++ [[]]) rcv (pan.map PF.rep ++ [-1]) (pan.map PF.bef ++ [-1]) e0 f v V) ⟨(by have := Y0.out.put 6 (.slice (some ⟨g5, 0, none⟩) (n + 1) c5); simpa only [List.setIfInBounds_toArray, List.set_cons_zero, List.set_cons_succ] using this), Y1.out.far _ _ (by show w.heap.size + 1 ≠ w.heap.size; omega), YZ.out.far _ _ (by show w.heap.size + 1 + 1 ≠ w.heap.size; omega), WR.out.set Y0.out 6 _, CH.out.put _ _ (.inl (Nat.le_refl _))⟩ ?_
      clear Y0 Y1 YZ CH WR z6 f6
      rintro V hV
      have z0 : ∀ o, V.cell? ⟨w.heap.size, o, none⟩ = (cellsQ ⟨h0.A, m + 1, h0.c⟩ ⟨some ⟨g1, 0, none⟩, n + 1, c1⟩ ⟨some ⟨g2, 0, none⟩, n + 1, c2⟩ ⟨some ⟨g3, 0, none⟩, n + 1, c3⟩ ⟨h4.A, r, h4.c⟩ ⟨some ⟨g4, 0, none⟩, n + 1, c4⟩ ⟨some ⟨g5, 0, none⟩, n + 1, c5⟩)[o]? := hV.b0.cells
      have f0 := hV.b0.frozen
      have hmm : ((n + 1 : Nat) : Int) - 1 = (n : Int) := by omega
      have HF := Lib.hid (l4Top_any lo m ⟨h0.A, m + 1, h0.c⟩ ⟨some ⟨g1, 0, none⟩, n + 1, c1⟩ ⟨some ⟨g2, 0, none⟩, n + 1, c2⟩ ⟨some ⟨g3, 0, none⟩, n + 1, c3⟩ ⟨h4.A, r, h4.c⟩ ⟨some ⟨g4, 0, none⟩, n + 1, c4⟩ ⟨some ⟨g5, 0, none⟩, n + 1, c5⟩ (callsOf O) a.dfr (onI a.on) (n : Int) V rfl (by rw [callsOf_len]; exact HM.out) (by omega) (by have := hV.r7.calls; rw [callsOf_cons] at this; exact this))
      have ST := Lib.hid hV
      clear hV
      go_wp2_with fail
      refine HF.out.mono ?_
      rintro e U ⟨A0', c0', rfl, oU, bU⟩
      have bz := ST.out.bz.below bU ST.out.bz.lt
      have z1 := bz.cells
      have f1 := bz.frozen
      have BZ := Lib.hid bz
      have hlv : lo ≤ V.heap.size := Nat.le_trans hlo (Nat.le_of_lt ST.out.b0.lt)
      have WU := Lib.hid (ST.out.r7.put0 (q0' := ⟨A0', m + 1, c0'⟩) (cs' := callsOf O ++ [(a.dfr, (n : Int))]) bU (own_mono oU hlv))
      have CU := Lib.hid (ST.out.chg.trans (Chg.of_below (C := fun _ => False) bU) (fun _ _ f => f.elim))
      clear oU bU HF ST bz z0 f0
      go_wp2_with fail
      clear z1 f1
      refine gen_post (X := fun V => Blk V (w.heap.size + 1 + 1) 61 (cellsQ ⟨A0', m + 1, c0'⟩ ⟨some ⟨g1, 0, none⟩, n + 1, c1⟩ ⟨some ⟨g2, 0, none⟩, n + 1, c2⟩ ⟨some ⟨g3, 0, none⟩, n + 1, c3⟩ ⟨h4.A, r, h4.c⟩ ⟨some ⟨g4, 0, none⟩, n + 1, c4⟩ ⟨some ⟨g5, 0, none⟩, n + 1, c5⟩) ∧ R7 V lo ⟨A0', m + 1, c0'⟩ ⟨some ⟨g1, 0, none⟩, n + 1, c1⟩ ⟨some ⟨g2, 0, none⟩, n + 1, c2⟩ ⟨some ⟨g3, 0, none⟩, n + 1, c3⟩ ⟨h4.A, r, h4.c⟩ ⟨some ⟨g4, 0, none⟩, n + 1, c4⟩ ⟨some ⟨g5, 0, none⟩, n + 1, c5⟩ (callsOf O ++ [(a.dfr, (n : Int))]) (pan.map p3 ++ [(f, v, 0)]) (pan.map pdep ++ [((m + 1 : Nat) : Int)]) (pan.map PF.by_ ++ [[]]) rcv (pan.map PF.rep ++ [-1]) (pan.map PF.bef ++ [-1]) ∧ Chg C w V) ⟨Blk.all7 BZ.out rfl, R7.set7 WU.out BZ.out, chg7 CU.out (by omega)⟩ ?_
      clear BZ WU CU
      intro V hV
      have V1 := hV.1.cells
      have HV := Lib.hid hV.2
      clear hV
      refine bodyPost_ret (v := .agg (cellsQ ⟨A0', m + 1, c0'⟩ ⟨some ⟨g1, 0, none⟩, n + 1, c1⟩ ⟨some ⟨g2, 0, none⟩, n + 1, c2⟩ ⟨some ⟨g3, 0, none⟩, n + 1, c3⟩ ⟨h4.A, r, h4.c⟩ ⟨some ⟨g4, 0, none⟩, n + 1, c4⟩ ⟨some ⟨g5, 0, none⟩, n + 1, c5⟩)) (by simp [results, Try.results111, go_sem, V1]) rfl ⟨⟨A0', c0'⟩, ⟨some ⟨g1, 0, none⟩, c1⟩, ⟨some ⟨g2, 0, none⟩, c2⟩, ⟨some ⟨g3, 0, none⟩, c3⟩, ⟨some ⟨g4, 0, none⟩, c4⟩, ⟨some ⟨g5, 0, none⟩, c5⟩, ?_, ?_, ?_⟩
      ·have e1 := HM.out; have e2 := HN.out; have e3 := HR.out
       subst e1 e2 e3
       simp [recV]
      ·have e1 := HM.out; have e2 := HN.out; have e3 := HR.out
       have h := HV.out.1
       subst e1 e2 e3
       exact r7_w4 h
      ·rw [HC.out]; exact HV.out.2
end Go.Proofs.Ytgcjlkdahlfjlaa.Pr

/- The model's l4Unwind. (Written by wip/tools/genpz.py.) -/
namespace Go.Proofs.Ytgcjlkdahlfjlaa.Pz
open Go.ChangeShapes Go.WideShapes Go.ChangeAt Go.RowKit
open PL Mem Srun Sst IntsP RowA Swhole PMem Psf Pw Px Py Pr

theorem W4.r7 {V : World} {lo : Nat} {h0 h1 h2 h3 h4 h5 h6 : Hd} {s : MS} (h : W4 V lo h0 h1 h2 h3 h4 h5 h6 s) : R7 V lo ⟨h0.A, s.stk.length, h0.c⟩ ⟨h1.A, s.pan.length, h1.c⟩ ⟨h2.A, s.pan.length, h2.c⟩ ⟨h3.A, s.pan.length, h3.c⟩ ⟨h4.A, s.rcv.length, h4.c⟩ ⟨h5.A, s.pan.length, h5.c⟩ ⟨h6.A, s.pan.length, h6.c⟩ (callsOf s.stk) (s.pan.map p3) (s.pan.map pdep) (s.pan.map PF.by_) s.rcv (s.pan.map PF.rep) (s.pan.map PF.bef) :=
 ⟨h.calls, h.pan, h.dep, h.rcv, h.rep, h.bef, h.unw, h.a25, h.a26, h.a56⟩
theorem R7.w4 {V : World} {lo n : Nat} {h0 h1 h2 h3 h4 h5 h6 : Hd} {stk : List Ent} {next : Nat} {pan : List PF} {rcv : List (Int × Int)} {ps : List Tr} {ds : List Int} {us : List (List Int)} {es bs : List Int}
  (h : R7 V lo ⟨h0.A, stk.length, h0.c⟩ ⟨h1.A, n, h1.c⟩ ⟨h2.A, n, h2.c⟩ ⟨h3.A, n, h3.c⟩ ⟨h4.A, rcv.length, h4.c⟩ ⟨h5.A, n, h5.c⟩ ⟨h6.A, n, h6.c⟩ (callsOf stk) ps ds us rcv es bs) (en : n = pan.length) (e1 : ps = pan.map p3) (e2 : ds = pan.map pdep) (e3 : us = pan.map PF.by_) (e5 : es = pan.map PF.rep) (e6 : bs = pan.map PF.bef) : W4 V lo h0 h1 h2 h3 h4 h5 h6 ⟨stk, next, pan, rcv⟩ := by
 subst en e1 e2 e3 e5 e6
 exact ⟨h.calls, h.pan, h.dep, h.rcv, h.rep, h.bef, h.unw, h.a25, h.a26, h.a56⟩
theorem R7.unwSet {W V' : World} {lo k : Nat} {q0 q1 q2 q3 q4 q5 q6 : Sl} {cs : List (Bool × Int)} {ps : List Tr} {ds : List Int} {us : List (List Int)} {rs : List (Int × Int)} {es bs : List Int} {vals : List Value} {A : Option Addr} {c : Nat} {xs : List Int} {f : Int} (h : R7 W lo q0 q1 q2 q3 q4 q5 q6 cs ps ds us rs es bs) (hch : Chg (fun x => (Value.slice q3.A q3.n q3.c).ownBlock = some x) W V') (hv : W.ownsRow lo 38 1 (.slice q3.A q3.n q3.c) us.length vals)
  (hu : ∀ (i : Nat) (xs : List Int), us[i]? = some xs → ∃ A c, vals[i]? = some (.slice A xs.length c) ∧ W.ownsRow lo 3 1 (.slice A xs.length c) xs.length (cellsI xs) ∧ Apt (.slice A xs.length c) (.slice q2.A q2.n q2.c) ∧ Apt (.slice A xs.length c) (.slice q5.A q5.n q5.c) ∧ Apt (.slice A xs.length c) (.slice q6.A q6.n q6.c)) (hx : us[k]? = some xs)
  (ho : V'.ownsRow lo 38 1 (.slice q3.A q3.n q3.c) us.length (vals.set k (.slice A (xs.length + 1) c))) (hi : W.ownsRow lo 3 1 (.slice A (xs.length + 1) c) (xs.length + 1) (cellsI (xs ++ [f]))) (a2 : Apt (.slice A (xs.length + 1) c) (.slice q2.A q2.n q2.c)) (a5 : Apt (.slice A (xs.length + 1) c) (.slice q5.A q5.n q5.c)) (a6 : Apt (.slice A (xs.length + 1) c) (.slice q6.A q6.n q6.c)) : R7 V' lo q0 q1 q2 q3 q4 q5 q6 cs ps ds (us.set k (xs ++ [f])) rs es bs := by
 have hl : vals.length = us.length := by have := hv.1; omega
 have hk : k < us.length := (List.getElem?_eq_some_iff.1 hx).1
 refine ⟨own_chg h.calls hch (fun x hx e => apart h.calls hv (by decide) x hx e), own_chg h.pan hch (fun x hx e => apart h.pan hv (by decide) x hx e), own_chg h.dep hch (fun x hx e => apart h.dep hv (by decide) x hx e), own_chg h.rcv hch (fun x hx e => apart h.rcv hv (by decide) x hx e), own_chg h.rep hch (fun x hx e => apart h.rep hv (by decide) x hx e), own_chg h.bef hch (fun x hx e => apart h.bef hv (by decide) x hx e), ?_, h.a25, h.a26, h.a56⟩
 refine ⟨vals.set k (.slice A (xs.length + 1) c), by rw [List.length_set]; exact ho, fun i ys hy => ?_⟩
 by_cases hik : k = i
 ·subst hik
  rw [List.getElem?_set_self hk] at hy
  obtain rfl : xs ++ [f] = ys := by simpa using hy
  rw [List.length_append, List.length_singleton]
  exact ⟨A, c, List.getElem?_set_self (by omega), own_chg hi hch (fun x hx e => apart hi hv (by decide) x hx e), a2, a5, a6⟩
 ·rw [List.getElem?_set_ne hik] at hy
  obtain ⟨A1, c1, k1, k2, k3, k4, k5⟩ := hu i ys hy
  exact ⟨A1, c1, by rw [List.getElem?_set_ne hik]; exact k1, own_chg k2 hch (fun x hx e => apart k2 hv (by decide) x hx e), k3, k4, k5⟩
theorem W4.unwCopy {V V' : World} {lo : Nat} {h0 h1 h2 h3 h4 h5 h6 h3' : Hd} {s : MS} {vals : List Value} (h : W4 V lo h0 h1 h2 h3 h4 h5 h6 s) (hb : Below V.heap.size V V')
  (hu : ∀ (i : Nat) (xs : List Int), (s.pan.map PF.by_)[i]? = some xs → ∃ A c, vals[i]? = some (.slice A xs.length c) ∧ V.ownsRow lo 3 1 (.slice A xs.length c) xs.length (cellsI xs) ∧ Apt (.slice A xs.length c) (.slice h2.A s.pan.length h2.c) ∧ Apt (.slice A xs.length c) (.slice h5.A s.pan.length h5.c) ∧ Apt (.slice A xs.length c) (.slice h6.A s.pan.length h6.c))
  (ho : V'.ownsRow lo 38 1 (.slice h3'.A s.pan.length h3'.c) s.pan.length vals) : W4 V' lo h0 h1 h2 h3' h4 h5 h6 s := by
 have g := h.below hb
 refine ⟨g.calls, g.pan, g.dep, g.rcv, g.rep, g.bef, ⟨vals, by rw [List.length_map]; exact ho, fun i xs hx => ?_⟩, g.a25, g.a26, g.a56⟩
 obtain ⟨A, c, k1, k2, k3, k4, k5⟩ := hu i xs hx
 exact ⟨A, c, k1, own_below k2 hb (Nat.le_refl _), k3, k4, k5⟩
theorem vals_one {V : World} {lo : Nat} {v v2 v5 v6 : Value} {us : List (List Int)} {vals : List Value} (hv : V.ownsRow lo 38 1 v us.length vals)
  (hu : ∀ (i : Nat) (xs : List Int), us[i]? = some xs → ∃ A c, vals[i]? = some (.slice A xs.length c) ∧ V.ownsRow lo 3 1 (.slice A xs.length c) xs.length (cellsI xs) ∧ Apt (.slice A xs.length c) v2 ∧ Apt (.slice A xs.length c) v5 ∧ Apt (.slice A xs.length c) v6) : ∀ u ∈ vals, u.oneCell' = true := by
 intro u hm
 obtain ⟨i, hi⟩ := List.mem_iff_getElem?.1 hm
 have hl : vals.length = us.length := by have := hv.1; omega
 have hlt : i < us.length := by rw [← hl]; exact (List.getElem?_eq_some_iff.1 hi).1
 obtain ⟨A, c, k1, _⟩ := hu i _ (List.getElem?_eq_getElem hlt)
 rw [hi] at k1
 injection k1 with k1
 subst k1
 rfl
theorem mapBy_add {l : List PF} {k : Nat} {x : PF} {f : Int} (h : l[k]? = some x) : (upd l k (fun y => addBy y f)).map PF.by_ = (l.map PF.by_).set k (x.by_ ++ [f]) := by
 rw [upd_some _ h, List.map_set]
 rfl
theorem map3_keep {l : List PF} {k : Nat} {g : PF → PF} (hg : ∀ x, p3 (g x) = p3 x) : (upd l k g).map p3 = l.map p3 := by
 unfold upd
 split
 ·rename_i x hx
  rw [List.map_set, hg]
  have h1 : (l.map p3)[k]? = some (p3 x) := by rw [List.getElem?_map, hx]; rfl
  exact set_self' h1
 ·rfl
theorem map_put (fld : PF → Int) {l : List PF} {k : Nat} {g : PF → PF} {z : Int} (hg : ∀ x, fld (g x) = z) : (upd l k g).map fld = (l.map fld).set k z := by
 unfold upd
 split
 ·rename_i x hx
  rw [List.map_set, hg]
 ·rename_i hx
  rw [List.set_eq_of_length_le]
  rw [List.length_map]
  exact List.getElem?_eq_none_iff.1 hx
theorem W4.unwPut {W V' : World} {lo k c : Nat} {h0 h1 h2 h3 h4 h5 h6 : Hd} {stk : List Ent} {next : Nat} {pan : List PF} {rcv : List (Int × Int)} {x : PF} {f : Int} {vals : List Value} {A : Option Addr} (h : W4 W lo h0 h1 h2 h3 h4 h5 h6 ⟨stk, next, pan, rcv⟩) (hx : pan[k]? = some x) (hch : Chg (fun b => (Value.slice h3.A pan.length h3.c).ownBlock = some b) W V') (hv : W.ownsRow lo 38 1 (.slice h3.A pan.length h3.c) pan.length vals)
  (hu : ∀ (i : Nat) (xs : List Int), (pan.map PF.by_)[i]? = some xs → ∃ A c, vals[i]? = some (.slice A xs.length c) ∧ W.ownsRow lo 3 1 (.slice A xs.length c) xs.length (cellsI xs) ∧ Apt (.slice A xs.length c) (.slice h2.A pan.length h2.c) ∧ Apt (.slice A xs.length c) (.slice h5.A pan.length h5.c) ∧ Apt (.slice A xs.length c) (.slice h6.A pan.length h6.c))
  (ho : V'.ownsRow lo 38 1 (.slice h3.A pan.length h3.c) pan.length (vals.set k (.slice A (x.by_.length + 1) c))) (hi : W.ownsRow lo 3 1 (.slice A (x.by_.length + 1) c) (x.by_.length + 1) (cellsI (x.by_ ++ [f]))) (a2 : Apt (.slice A (x.by_.length + 1) c) (.slice h2.A pan.length h2.c)) (a5 : Apt (.slice A (x.by_.length + 1) c) (.slice h5.A pan.length h5.c)) (a6 : Apt (.slice A (x.by_.length + 1) c) (.slice h6.A pan.length h6.c)) : W4 V' lo h0 h1 h2 h3 h4 h5 h6 ⟨stk, next, upd pan k (fun y => addBy y f), rcv⟩ := by
 have h7 := R7.unwSet (k := k) (xs := x.by_) (f := f) (A := A) (c := c) (W4.r7 h) hch (by rw [List.length_map]; exact hv) hu (by rw [List.getElem?_map, hx]; rfl) (by rw [List.length_map]; exact ho) hi a2 a5 a6
 exact R7.w4 h7 (upd_len _ _ _).symm (map3_keep (g := (fun y => addBy y f)) (fun _ => rfl)).symm (map_upd (g := (fun y => addBy y f)) pdep (fun _ => rfl)).symm (mapBy_add hx).symm (map_upd (g := (fun y => addBy y f)) PF.rep (fun _ => rfl)).symm (map_upd (g := (fun y => addBy y f)) PF.bef (fun _ => rfl)).symm
theorem W4.rep5 {V V' : World} {lo q : Nat} {h0 h1 h2 h3 h4 h5 h6 h5' : Hd} {stk : List Ent} {next : Nat} {pan : List PF} {rcv : List (Int × Int)} {z : Int} (h : W4 V lo h0 h1 h2 h3 h4 h5 h6 ⟨stk, next, pan, rcv⟩) (hch : Chg (fun b => (Value.slice h5.A pan.length h5.c).ownBlock = some b) V V') (hn : ∀ k, (Value.slice h5'.A pan.length h5'.c).ownBlock = some k → (Value.slice h5.A pan.length h5.c).ownBlock = some k ∨ V.heap.size ≤ k)
  (ho : V'.ownsRow lo 3 1 (.slice h5'.A pan.length h5'.c) pan.length (cellsI ((pan.map PF.rep).set q z))) : W4 V' lo h0 h1 h2 h3 h4 h5' h6 ⟨stk, next, upd pan q (fun y => setRep y z), rcv⟩ :=
 R7.w4 (R7.put5 (q5' := ⟨h5'.A, pan.length, h5'.c⟩) (W4.r7 h) hch hn ho) (upd_len _ _ _).symm (map3_keep (g := (fun y => setRep y z)) (fun _ => rfl)).symm (map_upd (g := (fun y => setRep y z)) pdep (fun _ => rfl)).symm (mapB_upd (g := (fun y => setRep y z)) (fun _ => rfl)).symm (map_put (g := (fun y => setRep y z)) PF.rep (fun _ => rfl)).symm (map_upd (g := (fun y => setRep y z)) PF.bef (fun _ => rfl)).symm
theorem W4.bef6 {V V' : World} {lo q : Nat} {h0 h1 h2 h3 h4 h5 h6 h6' : Hd} {stk : List Ent} {next : Nat} {pan : List PF} {rcv : List (Int × Int)} {z : Int} (h : W4 V lo h0 h1 h2 h3 h4 h5 h6 ⟨stk, next, pan, rcv⟩) (hch : Chg (fun b => (Value.slice h6.A pan.length h6.c).ownBlock = some b) V V') (hn : ∀ k, (Value.slice h6'.A pan.length h6'.c).ownBlock = some k → (Value.slice h6.A pan.length h6.c).ownBlock = some k ∨ V.heap.size ≤ k)
  (ho : V'.ownsRow lo 3 1 (.slice h6'.A pan.length h6'.c) pan.length (cellsI ((pan.map PF.bef).set q z))) : W4 V' lo h0 h1 h2 h3 h4 h5 h6' ⟨stk, next, upd pan q (fun y => setBef y z), rcv⟩ :=
 R7.w4 (R7.put6 (q6' := ⟨h6'.A, pan.length, h6'.c⟩) (W4.r7 h) hch hn ho) (upd_len _ _ _).symm (map3_keep (g := (fun y => setBef y z)) (fun _ => rfl)).symm (map_upd (g := (fun y => setBef y z)) pdep (fun _ => rfl)).symm (mapB_upd (g := (fun y => setBef y z)) (fun _ => rfl)).symm (map_upd (g := (fun y => setBef y z)) PF.rep (fun _ => rfl)).symm (map_put (g := (fun y => setBef y z)) PF.bef (fun _ => rfl)).symm
theorem W4.copy5 {V V' : World} {lo : Nat} {h0 h1 h2 h3 h4 h5 h6 h5' : Hd} {stk : List Ent} {next : Nat} {pan : List PF} {rcv : List (Int × Int)} (h : W4 V lo h0 h1 h2 h3 h4 h5 h6 ⟨stk, next, pan, rcv⟩) (hb : Below V.heap.size V V') (hlo : lo ≤ V.heap.size)
  (ho : V'.ownsRow V.heap.size 3 1 (.slice h5'.A pan.length h5'.c) pan.length (cellsI (pan.map PF.rep))) : W4 V' lo h0 h1 h2 h3 h4 h5' h6 ⟨stk, next, pan, rcv⟩ :=
 R7.w4 (R7.put5 (q5' := ⟨h5'.A, pan.length, h5'.c⟩) (W4.r7 h) (Chg.of_below hb) (fun k hk => .inr (World.ownsRow.lt ho k hk).1) (own_mono ho hlo)) rfl rfl rfl rfl rfl rfl
theorem W4.copy6 {V V' : World} {lo : Nat} {h0 h1 h2 h3 h4 h5 h6 h6' : Hd} {stk : List Ent} {next : Nat} {pan : List PF} {rcv : List (Int × Int)} (h : W4 V lo h0 h1 h2 h3 h4 h5 h6 ⟨stk, next, pan, rcv⟩) (hb : Below V.heap.size V V') (hlo : lo ≤ V.heap.size)
  (ho : V'.ownsRow V.heap.size 3 1 (.slice h6'.A pan.length h6'.c) pan.length (cellsI (pan.map PF.bef))) : W4 V' lo h0 h1 h2 h3 h4 h5 h6' ⟨stk, next, pan, rcv⟩ :=
 R7.w4 (R7.put6 (q6' := ⟨h6'.A, pan.length, h6'.c⟩) (W4.r7 h) (Chg.of_below hb) (fun k hk => .inr (World.ownsRow.lt ho k hk).1) (own_mono ho hlo)) rfl rfl rfl rfl rfl rfl
theorem unw_fin {w Y W : World} {lo n g g3 c0 c3 k bx next : Nat} {h1 h2 h4 h5 h6 : Hd} {O : List Ent} {pan pan1 : List PF} {rcv : List (Int × Int)} {x : PF} {f : Int} {adfr : Bool} {vals : List Value} {A9 : Option Addr} {c9 : Nat} (hn : pan.length = n) (hx : pan[k]? = some x) (hp : upd pan k (fun y => addBy y f) = pan1) (hs : St4 (fun _ => False) w lo w.heap.size (w.heap.size + 1 + 1) ⟨some ⟨g, 0, none⟩, c0⟩ h1 h2 ⟨some ⟨g3, 0, none⟩, c3⟩ h4 h5 h6 ⟨O, next, pan, rcv⟩ Y) (hb : Blk Y bx 157 #[.bool adfr, .int .i64 k])
  (hv : Y.ownsRow lo 38 1 (.slice (some ⟨g3, 0, none⟩) n c3) n vals) (hu : ∀ (i : Nat) (xs : List Int), (pan.map PF.by_)[i]? = some xs → ∃ A c, vals[i]? = some (.slice A xs.length c) ∧ Y.ownsRow lo 3 1 (.slice A xs.length c) xs.length (cellsI xs) ∧ Apt (.slice A xs.length c) (.slice h2.A pan.length h2.c) ∧ Apt (.slice A xs.length c) (.slice h5.A pan.length h5.c) ∧ Apt (.slice A xs.length c) (.slice h6.A pan.length h6.c))
  (hg : w.heap.size ≤ g3) (hlo : lo ≤ Y.heap.size) (hw : Below Y.heap.size Y W) (ho : W.ownsRow Y.heap.size 3 1 (.slice A9 (x.by_.length + 1) c9) (x.by_.length + 1) (cellsI x.by_ ++ [.int .i64 f])) : (fun Y => (St4 (fun _ => False) w lo w.heap.size (w.heap.size + 1 + 1) ⟨some ⟨g, 0, none⟩, c0⟩ h1 h2 ⟨some ⟨g3, 0, none⟩, c3⟩ h4 h5 h6 ⟨O, next, pan1, rcv⟩ Y) ∧ Blk Y bx 157 #[.bool adfr, .int .i64 k]) (W.setCell ⟨g3, k, none⟩ (.slice A9 (x.by_.length + 1) c9)) := by
 subst hn hp
 have sw := hs.below hw
 have hvw := own_below hv hw (Nat.le_refl _)
 have hul : (upd pan k (fun y => addBy y f)).length = pan.length := upd_len _ _ _
 have ne0 : w.heap.size ≠ g3 := own_blk_ne' hvw sw.b0 (by decide)
 have neZ : w.heap.size + 1 + 1 ≠ g3 := own_blk_ne' hvw sw.bz (by decide)
 have neX : bx ≠ g3 := own_blk_ne' hvw (hb.below hw hb.lt) (by decide)
 refine ⟨⟨?_, sw.bz.far _ _ neZ, ?_, sw.chg.put _ _ (.inl hg)⟩, (hb.below hw hb.lt).far _ _ neX⟩
 ·simp only [recV, hul]
  exact sw.b0.far _ _ ne0
 ·have hst := (hvw.stored k (.slice A9 (x.by_.length + 1) c9)).1
  refine W4.unwPut (vals := vals) (A := A9) (c := c9) sw.w4 hx ((Chg.set W ⟨g3, k, none⟩ _).mono (fun b _ h => by rw [h]; rfl)) hvw (fun i xs h => ?_) hst (by have := own_mono ho hlo; rw [cellsI_append]; exact this) (apt_new ho hs.w4.dep) (apt_new ho hs.w4.rep) (apt_new ho hs.w4.bef)
  obtain ⟨A, c, k1, k2, k3, k4, k5⟩ := hu i xs h
  exact ⟨A, c, k1, own_below k2 hw (Nat.le_refl _), k3, k4, k5⟩
set_option maxRecDepth 100000 in
set_option maxHeartbeats 16000000 in
theorem l4Unwind_any (lo : Nat) (h0 h1 h2 h3 h4 h5 h6 : Hd) (next : Nat) (pan : List PF) (rcv : List (Int × Int)) (ano : Nat) (adfr : Bool) (k : Nat) (O : List Ent) (e0 f v : Int) (w : World) (hok : adfr = true ∨ onE O = none) (hkl : k < pan.length)
  (hon : ∀ b ∈ O, ∀ q, b.on = some q → q < pan.length) (hby : ∀ x ∈ pan, x.by_.length ≤ 100000) (hl1 : O.length ≤ 100000) (hl2 : pan.length ≤ 100000) (hlo : lo ≤ w.heap.size) (hw : W4 w lo h0 h1 h2 h3 h4 h5 h6 ⟨⟨ano, adfr, some k⟩ :: O, next, pan, rcv⟩) :
  Calls Try.prog 113 #[.agg (recV h0 h1 h2 h3 h4 h5 h6 ⟨⟨ano, adfr, some k⟩ :: O, next, pan, rcv⟩), .agg #[.int .i64 e0, .int .i64 f, .int .i64 v]] w fun e w' => ∃ h0' h1' h3' h5' h6', e = .returned (.agg (recV h0' h1' h2 h3' h4 h5' h6' ⟨putE O (some k), next, if O = [] then upd (upd pan k (fun x => addBy x f)) k (fun x => setFate x 3) else replOf (upd pan k (fun x => addBy x f)) (onE O) k, rcv⟩)) ∧
   W4 w' lo h0' h1' h2 h3' h4 h5' h6' ⟨putE O (some k), next, if O = [] then upd (upd pan k (fun x => addBy x f)) k (fun x => setFate x 3) else replOf (upd pan k (fun x => addBy x f)) (onE O) k, rcv⟩ ∧ Below w.heap.size w w' := by
 obtain ⟨i2, hi, hz0, hz1, hz2⟩ := info_parts info3
 obtain ⟨i4, ki, kz0, kz1, kz2⟩ := info_parts infoSI
 obtain ⟨m, hm⟩ : ∃ m, O.length = m := ⟨_, rfl⟩
 obtain ⟨n, hn⟩ : ∃ n, pan.length = n := ⟨_, rfl⟩
 have HN := Lib.hid hn
 have hcal : w.ownsRow lo 157 2 (.slice h0.A (m + 1) h0.c) (m + 1) (cellsD (callsOf (⟨ano, adfr, some k⟩ :: O))) := by have := hw.calls; rw [← hm]; exact this
 obtain ⟨A0, c0⟩ := h0
 have hcap : m + 1 ≤ c0 := Slast0.own_cap hcal
 rcases own_form hcal with ⟨hx, _⟩ | ⟨_, g, cp, hv, _, _⟩
 ·omega
 simp only [Value.slice.injEq, true_and] at hv
 obtain ⟨rfl, rfl⟩ := hv
 obtain ⟨x, hx⟩ : ∃ x, pan[k]? = some x := ⟨_, List.getElem?_eq_getElem hkl⟩
 have hbl : x.by_.length ≤ 100000 := hby x (List.mem_of_getElem? hx)
 have HXK := Lib.hid hx
 have HW := Lib.hid hw
 have HM := Lib.hid hm
 have HOK := Lib.hid hok
 have HON := Lib.hid hon
 rw [hm] at hl1
 have hl2' : n ≤ 100000 := by omega
 have hkn : k < n := by omega
 clear hw hcal hm hok hon hx hby
 go_enter Try.func113, Try.ntmps113
 go_upto_region 1 with fail
 change (fun V => Code.wp _ _ _ _ V) _
 refine gen_world (X := fun V => (St4 (fun _ => False) w lo w.heap.size (w.heap.size + 1 + 1) ⟨some ⟨g, 0, none⟩, c0⟩ h1 h2 h3 h4 h5 h6 ⟨⟨ano, adfr, some k⟩ :: O, next, pan, rcv⟩ V) ∧ Blk V (w.heap.size + 1) 74 #[.int .i64 e0, .int .i64 f, .int .i64 v]) ⟨⟨heap3_0 w _ _ _, heap3_2 w _ _ _, HW.out.below ((((Below.refl _ _).alloc (Nat.le_refl _) _).alloc (by simp) _).alloc (by simp <;> omega) _), ((Chg.alloc _ w _).new _).new _⟩, heap3_1 w _ _ _⟩ ?_
 clear HW
 rintro V ⟨hV, eV⟩
 have z0 : V.cell? ⟨w.heap.size, 0, none⟩ = some (.slice (some ⟨g, 0, none⟩) (m + 1) c0) := by have := hV.b0.cells 0; rw [← HM.out]; exact this
 obtain ⟨k0, k1⟩ := stk_top HM.out (show V.ownsRow lo 157 2 (.slice (some ⟨g, 0, none⟩) (m + 1) c0) (m + 1) (cellsD (callsOf (⟨ano, adfr, some k⟩ :: O))) from (by have := hV.w4.calls; rw [← HM.out]; exact this))
 dsimp only [onI] at k0 k1
 have hmm : ((m + 1 : Nat) : Int) - 1 = (m : Int) := by omega
 have hlt := hV.b0.lt
 have ST := Lib.hid hV
 have XE := Lib.hid eV
 clear hV eV
 go_upto_region 2 with fail
 change (fun V => Code.wp _ _ _ _ V) _
 refine gen_world (X := fun Z => (St4 (fun _ => False) w lo w.heap.size (w.heap.size + 1 + 1) ⟨some ⟨g, 0, none⟩, c0⟩ h1 h2 h3 h4 h5 h6 ⟨⟨ano, adfr, some k⟩ :: O, next, pan, rcv⟩ Z) ∧ Blk Z V.heap.size 157 #[.bool adfr, .int .i64 k] ∧ Blk Z (w.heap.size + 1) 74 #[.int .i64 e0, .int .i64 f, .int .i64 v]) ⟨ST.out.below ((Below.refl _ _).alloc (Nat.le_refl _) _), heap1_0 V _, XE.out.below (B := V.heap.size) ((Below.refl _ _).alloc (Nat.le_refl _) _) XE.out.lt⟩ ?_
 clear ST XE z0 k0 k1
 generalize V.heap.size = bx
 rintro Z ⟨hZ, xZ, eZ⟩
 have z0 : Z.cell? ⟨w.heap.size, 0, none⟩ = some (.slice (some ⟨g, 0, none⟩) (m + 1) c0) := by have := hZ.b0.cells 0; rw [← HM.out]; exact this
 have f0 := hZ.b0.frozen
 have hkc : m ≤ c0 := by omega
 have ST := Lib.hid hZ
 have XB := Lib.hid xZ
 have XE := Lib.hid eZ
 clear hZ xZ eZ
 go_upto_region 3 with fail
 change (fun V => Code.wp _ _ _ _ V) _
 refine gen_world (X := fun Y => (St4 (fun _ => False) w lo w.heap.size (w.heap.size + 1 + 1) ⟨some ⟨g, 0, none⟩, c0⟩ h1 h2 h3 h4 h5 h6 ⟨O, next, pan, rcv⟩ Y) ∧ Blk Y bx 157 #[.bool adfr, .int .i64 k] ∧ Blk Y (w.heap.size + 1) 74 #[.int .i64 e0, .int .i64 f, .int .i64 v]) ⟨⟨(by have := ST.out.b0.put 0 (.slice (some ⟨g, 0, none⟩) m c0); have e := HM.out; subst e; simpa only [Last2.s] using this), ST.out.bz.far _ _ (by show w.heap.size + 1 + 1 ≠ w.heap.size; omega), (ST.out.w4.set ST.out.b0 0 _).stk (h0' := ⟨some ⟨g, 0, none⟩, c0⟩) (Below.refl _ _) O (by have := (ST.out.w4.set ST.out.b0 0 (.slice (some ⟨g, 0, none⟩) m c0)).calls; exact stk_pop rfl this), ST.out.chg.put _ _ (.inl (Nat.le_refl _))⟩, XB.out.far _ _ (fun e => blk_ne XB.out ST.out.b0 (by decide) e), XE.out.far _ _ (by show w.heap.size + 1 ≠ w.heap.size; omega)⟩ ?_
 clear ST XB XE z0 f0
 rintro Y ⟨hY, xY, eY⟩
 obtain ⟨vals, uv, ui⟩ := hY.w4.unw
 have hone := vals_one uv ui
 rw [List.length_map] at uv
 dsimp only at uv ui
 have z3 : Y.cell? ⟨w.heap.size, 3, none⟩ = some (.slice h3.A n h3.c) := by rw [← HN.out]; exact hY.b0.cells 3
 have f3 := hY.b0.frozen
 have hlv : lo ≤ Y.heap.size := Nat.le_trans hlo (Nat.le_of_lt hY.b0.lt)
 have hwy : w.heap.size ≤ Y.heap.size := Nat.le_of_lt hY.b0.lt
 have hlz := hY.b0.lt
 have UV := Lib.hid (show Y.ownsRow lo 38 1 (.slice h3.A n h3.c) n vals from (by rw [← HN.out]; exact uv))
 have UI := Lib.hid ui
 have ST := Lib.hid hY
 have XB := Lib.hid xY
 have XE := Lib.hid eY
 clear hY xY eY uv ui
 go_wp2_with (at_builtin; refine App.row_list _ rfl (.tmp 23) (.tmp 25) 59 rfl Y.heap.size lo 38 i4 _ 1 24 Try.underlying59 ki kz0 kz1 kz2 rfl (by decide) (.slice (some ⟨Y.heap.size, 0, none⟩) 0 0) 0 [] rfl (App.empty_own (heap1_0 Y _) (Nat.le_refl _)) (.slice h3.A n h3.c) n vals rfl (World.ownsRow.alloc UV.out _) hone (by unfold maxLen; omega) (by omega) (by simp <;> omega) ?_)
 intro v1 w1 o1 g1 t1
 have b1 : Below Y.heap.size Y w1 := ((App.Bl.refl Y).alloc _).grown g1 (fun k hk => Nat.le_of_eq (by simpa [Value.ownBlock] using hk))
 obtain ⟨A3, c3, rfl⟩ := own_slice o1
 have hform := own_form o1
 rcases hform with ⟨hx0, _⟩ | ⟨_, g3, cp3, hv3, hg3, hg3'⟩
 ·omega
 simp only [Value.slice.injEq, true_and, Nat.zero_add] at hv3
 obtain ⟨rfl, rfl⟩ := hv3
 have o1' : w1.ownsRow lo 38 1 (.slice (some ⟨g3, 0, none⟩) n c3) n vals := own_mono (by simpa using o1) hlv
 have WU := Lib.hid (W4.unwCopy ST.out.w4 (h3' := ⟨some ⟨g3, 0, none⟩, c3⟩) b1 UI.out (by dsimp only; rw [HN.out]; exact o1'))
 have S1 := Lib.hid (ST.out.below b1)
 have X1 := Lib.hid (XB.out.below b1 XB.out.lt)
 have E1 := Lib.hid (XE.out.below b1 XE.out.lt)
 have z3 := S1.out.b0.cells
 have f3 := S1.out.b0.frozen
 have hwg : w.heap.size ≤ g3 := by omega
 clear g1 t1 o1 o1' b1 UV UI ST XB XE hone
 try simp only [Nat.zero_add]
 go_upto_region 4 with fail
 change (fun V => Code.wp _ _ _ _ V) _
 refine gen_world (X := fun Y => (St4 (fun _ => False) w lo w.heap.size (w.heap.size + 1 + 1) ⟨some ⟨g, 0, none⟩, c0⟩ h1 h2 ⟨some ⟨g3, 0, none⟩, c3⟩ h4 h5 h6 ⟨O, next, pan, rcv⟩ Y) ∧ Blk Y bx 157 #[.bool adfr, .int .i64 k] ∧ Blk Y (w.heap.size + 1) 74 #[.int .i64 e0, .int .i64 f, .int .i64 v]) ⟨⟨(by have := S1.out.b0.put 3 (.slice (some ⟨g3, 0, none⟩) n c3); have e := HN.out; subst e; simpa only [Last2.s] using this), S1.out.bz.far _ _ (by show w.heap.size + 1 + 1 ≠ w.heap.size; omega), WU.out.set S1.out.b0 3 _, S1.out.chg.put _ _ (.inl (Nat.le_refl _))⟩, X1.out.far _ _ (fun e => blk_ne X1.out S1.out.b0 (by decide) e), E1.out.far _ _ (by show w.heap.size + 1 ≠ w.heap.size; omega)⟩ ?_
 clear S1 X1 E1 WU z3 f3 hlz hlv hwy hlt hg3 hg3'
 rintro Y ⟨hY, xY, eY⟩
 obtain ⟨vals, uv, ui⟩ := hY.w4.unw
 rw [List.length_map] at uv
 dsimp only at uv ui
 obtain ⟨Ak, ck, kv, ko, ka2, ka5, ka6⟩ := ui k x.by_ (by rw [List.getElem?_map, HXK.out]; rfl)
 have hlv : lo ≤ Y.heap.size := Nat.le_trans hlo (Nat.le_of_lt hY.b0.lt)
 have OV := Lib.hid (show Y.ownsRow lo 38 1 (.slice (some ⟨g3, 0, none⟩) n c3) n vals from (by rw [← HN.out]; exact uv))
 have UI := Lib.hid ui
 have HF := Lib.hid (fun (V : World) (hb : Below Y.heap.size Y V) => l1Own_any lo Ak x.by_.length ck x.by_ (by omega) rfl V (own_below ko hb (Nat.le_refl _)))
 have hz : Y.cell? ⟨w.heap.size, 3, none⟩ = some (.slice (some ⟨g3, 0, none⟩) n c3) := by rw [← HN.out]; exact hY.b0.cells 3
 have hkc3 : Y.cell? ⟨g3, k, none⟩ = some (.slice Ak x.by_.length ck) := (OV.out.cellAt _ (by omega)).trans kv
 have hg3l : g3 < Y.heap.size := (World.ownsRow.lt OV.out g3 rfl).2
 have SB := Lib.hid (fun (V : World) (hb : Below Y.heap.size Y V) => (⟨(hb.cell hY.b0.lt).trans hz, (hb.cell xY.lt).trans (xY.cells 1), (hb.cell (p := ⟨g3, k, none⟩) hg3l).trans hkc3, (hb.cell eY.lt).trans (eY.cells 1)⟩ : (fun V : World => V.cell? ⟨w.heap.size, 3, none⟩ = some (.slice (some ⟨g3, 0, none⟩) n c3) ∧ V.cell? ⟨bx, 1, none⟩ = some (.int .i64 k) ∧ V.cell? ⟨g3, k, none⟩ = some (.slice Ak x.by_.length ck) ∧ V.cell? ⟨w.heap.size + 1, 1, none⟩ = some (.int .i64 f)) V))
 have S0 : (fun V : World => V.cell? ⟨w.heap.size, 3, none⟩ = some (.slice (some ⟨g3, 0, none⟩) n c3) ∧ V.cell? ⟨bx, 1, none⟩ = some (.int .i64 k) ∧ V.cell? ⟨g3, k, none⟩ = some (.slice Ak x.by_.length ck) ∧ V.cell? ⟨w.heap.size + 1, 1, none⟩ = some (.int .i64 f)) Y.drew := SB.out _ (Below.refl _ _).drew
 obtain ⟨pan1, hp1⟩ : ∃ pan1, upd pan k (fun y => addBy y f) = pan1 := ⟨_, rfl⟩
 have HP1 := Lib.hid hp1
 have ST := Lib.hid hY
 have XB := Lib.hid xY
 have XE := Lib.hid eY
 have FIN := Lib.hid (fun (W : World) (A9 : Option Addr) (c9 : Nat) (hb : Below Y.heap.size Y W) (ho : W.ownsRow Y.heap.size 3 1 (.slice A9 (x.by_.length + 1) c9) (x.by_.length + 1) (cellsI x.by_ ++ [.int .i64 f])) => (show (fun Y => (St4 (fun _ => False) w lo w.heap.size (w.heap.size + 1 + 1) ⟨some ⟨g, 0, none⟩, c0⟩ h1 h2 ⟨some ⟨g3, 0, none⟩, c3⟩ h4 h5 h6 ⟨O, next, pan1, rcv⟩ Y) ∧ Blk Y bx 157 #[.bool adfr, .int .i64 k]) (W.setCell ⟨g3, k, none⟩ (.slice A9 (x.by_.length + 1) c9)) from unw_fin (n := n) HN.out HXK.out HP1.out ST.out XB.out OV.out UI.out hwg hlv hb ho))
 clear hY xY eY uv ui ko ka2 ka5 ka6 kv hz hp1 hkc3 hg3l
 go_upto_region 4 with fail
 go_cut [] (fun wx => (St4 (fun _ => False) w lo w.heap.size (w.heap.size + 1 + 1) ⟨some ⟨g, 0, none⟩, c0⟩ h1 h2 ⟨some ⟨g3, 0, none⟩, c3⟩ h4 h5 h6 ⟨O, next, pan1, rcv⟩ wx) ∧ Blk wx bx 157 #[.bool adfr, .int .i64 k])
 case first =>
  go_wp2_with fail
  refine Last2.region_last [16] (fun V : World => V.cell? ⟨w.heap.size, 3, none⟩ = some (.slice (some ⟨g3, 0, none⟩) n c3) ∧ V.cell? ⟨bx, 1, none⟩ = some (.int .i64 k) ∧ V.cell? ⟨g3, k, none⟩ = some (.slice Ak x.by_.length ck) ∧ V.cell? ⟨w.heap.size + 1, 1, none⟩ = some (.int .i64 f)) (by kernel_rfl) ?_
  refine Last2.tk 0 28 (.pointer (some ⟨w.heap.size, 3, none⟩)) S0 ?_
  simp only [Act.put, Last2.s]
  refine Last2.tk 1 29 (.slice (some ⟨g3, 0, none⟩) n c3) S0 ?_
  simp only [Act.put, Last2.s]
  refine Last2.tk 2 30 (.pointer (some ⟨bx, 1, none⟩)) S0 ?_
  simp only [Act.put, Last2.s]
  refine Last2.tk 3 31 (.int .i64 k) S0 ?_
  simp only [Act.put, Last2.s]
  refine Last2.tk 4 32 (.pointer (some ⟨w.heap.size, 3, none⟩)) S0 ?_
  simp only [Act.put, Last2.s]
  refine Last2.tk 5 33 (.slice (some ⟨g3, 0, none⟩) n c3) S0 ?_
  simp only [Act.put, Last2.s]
  refine Last2.tk 6 34 (.pointer (some ⟨bx, 1, none⟩)) S0 ?_
  simp only [Act.put, Last2.s]
  refine Last2.tk 7 35 (.int .i64 k) S0 ?_
  simp only [Act.put, Last2.s]
  refine Last2.tk 8 36 (.pointer (some ⟨g3, k, none⟩)) S0 ?_
  simp only [Act.put, Last2.s]
  refine Last2.tk 9 37 (.slice Ak x.by_.length ck) S0 ?_
  simp only [Act.put, Last2.s]
  refine Last2.tk 11 39 (.pointer (some ⟨w.heap.size + 1, 1, none⟩)) S0 ?_
  simp only [Act.put, Last2.s]
  refine Last2.tk 12 40 (.int .i64 f) S0 ?_
  simp only [Act.put, Last2.s]

  refine Last2.last_two (i := 10) (j := 13) (oi := { dst := some 38, op := .call { callee := .value (.func 143), args := #[.tmp 37], argTypes := #[38] }, type := _, pos := _, after := _, guard := none }) (oj := { dst := some 41, op := .buildSlice 38 1 #[(0, .tmp 40)], type := _, pos := _, after := _, guard := none }) (by kernel_rfl) rfl rfl rfl rfl (fun K hK => ?_) (fun K hK => ?_)
  ·
   go_simp
   refine (HF.out Y.drew (Below.refl _ _).drew).mono ?_
   rintro e V1 ⟨A8, c8, rfl, o8, b8⟩
   refine hK.out _ _ (fun _ => SB.out V1 (below_undrew b8)) ?_
   clear hK K
   try simp only [Act.put, Last2.s]
   refine Last2.last_one (i := 13) (o := { dst := some 41, op := .buildSlice 38 1 #[(0, .tmp 40)], type := _, pos := _, after := _, guard := none }) (by kernel_rfl) rfl rfl (fun K hK => ?_)
   go_simp
   have BWW := Lib.hid ((below_undrew b8).alloc (below_undrew b8).size (.cells #[.int .i64 f] 3))
   refine hK.out _ _ (fun _ => SB.out _ BWW.out) ?_
   clear hK K
   try simp only [Act.put, Last2.s]
   have OR := Lib.hid (show (V1.alloc (.cells #[.int .i64 f] 3)).ownsRow Y.heap.size 3 1 (.slice A8 x.by_.length c8) x.by_.length (cellsI x.by_) from World.ownsRow.alloc o8 _)
   have PR := Lib.hid (App.one_own (heap1_0 V1 (.cells #[.int .i64 f] 3)))
   have hsz := BWW.out.size
   clear o8 b8
   refine Last2.last_one (i := 14) (o := { dst := some 42, op := .call { callee := .builtin .append, args := #[.tmp 38, .tmp 41], argTypes := #[38, 38] }, type := _, pos := _, after := _, guard := none }) (by kernel_rfl) rfl rfl (fun K hK => ?_)
   refine App.row_wp _ (.tmp 38) (.tmp 41) 38 rfl Y.heap.size 0 3 i2 _ 1 8 Try.underlying38 hi hz0 hz1 hz2 rfl (by decide) _ _ _ rfl OR.out _ 1 [.int .i64 f] rfl PR.out (by intro u hu; simp at hu; rcases hu with rfl; rfl) (by unfold maxLen; omega) (by omega) hsz ?_
   intro v1 w1 o1 g1 t1
   have bw : Below Y.heap.size Y w1 := App.Bl.grown BWW.out g1 (fun x hx => (World.ownsRow.lt OR.out x hx).1)
   refine hK.out _ _ (fun _ => SB.out w1 bw) ?_
   clear hK K
   obtain ⟨A9, c9, rfl⟩ := own_slice o1
   try simp only [Act.put, Last2.s]
   refine Last2.last_one (i := 15) (o := { dst := some 43, op := .indexAddr 59 (.tmp 29) (.tmp 31), type := _, pos := _, after := _, guard := none }) (by kernel_rfl) rfl rfl (fun K hK => ?_)
   go_simp
   refine hK.out _ _ (fun _ => SB.out w1 bw) ?_
   clear hK K
   try simp only [Act.put, Last2.s]
   have fz := (own_below OV.out bw (Nat.le_refl _)).frozenAt
   have hc9 := (SB.out w1 bw).2.2.1
   have O9 := Lib.hid o1
   have BW := Lib.hid bw
   clear o1 g1 t1 bw
   refine Last2.last_one (i := 16) (o := { dst := none, op := .store 38 (.tmp 43) (.tmp 42), type := _, pos := _, after := _, guard := none }) (by kernel_rfl) rfl rfl (fun K hK => ?_)
   go_simp
   refine hK.out _ _ (fun h => (h (by decide)).elim) ?_
   clear hK K fz hc9
   try simp only [Act.put, Last2.s]
   refine Last2.last_done (by kernel_rfl) ?_ _
   go_wp2_with fail
   go_meet
   exact FIN.out w1 A9 c9 BW.out (by simpa using O9.out)

  ·
   go_simp
   have bal : Below Y.heap.size Y (Y.alloc (.cells #[.int .i64 f] 3)).drew := ((Below.refl _ _).alloc (Nat.le_refl _) _).drew
   refine hK.out _ _ (fun _ => SB.out _ bal) ?_
   clear hK K
   try simp only [Act.put, Last2.s]
   refine Last2.last_one (i := 10) (o := { dst := some 38, op := .call { callee := .value (.func 143), args := #[.tmp 37], argTypes := #[38] }, type := _, pos := _, after := _, guard := none }) (by kernel_rfl) rfl rfl (fun K hK => ?_)
   go_simp
   refine (HF.out (Y.alloc (.cells #[.int .i64 f] 3)).drew bal).mono ?_
   rintro e V1 ⟨A8, c8, rfl, o8, b8⟩
   have BWW := Lib.hid (bal.trans (b8.mono bal.size))
   refine hK.out _ _ (fun _ => SB.out V1 BWW.out) ?_
   clear hK K
   try simp only [Act.put, Last2.s]
   have OR := Lib.hid (show V1.ownsRow Y.heap.size 3 1 (.slice A8 x.by_.length c8) x.by_.length (cellsI x.by_) from own_mono o8 bal.size)
   have PR := Lib.hid (own_below (w := (Y.alloc (.cells #[.int .i64 f] 3)).drew) (App.one_own (heap1_0 Y (.cells #[.int .i64 f] 3))) b8 (Nat.le_refl _))
   have hsz := BWW.out.size
   clear o8 b8 bal
   refine Last2.last_one (i := 14) (o := { dst := some 42, op := .call { callee := .builtin .append, args := #[.tmp 38, .tmp 41], argTypes := #[38, 38] }, type := _, pos := _, after := _, guard := none }) (by kernel_rfl) rfl rfl (fun K hK => ?_)
   refine App.row_wp _ (.tmp 38) (.tmp 41) 38 rfl Y.heap.size 0 3 i2 _ 1 8 Try.underlying38 hi hz0 hz1 hz2 rfl (by decide) _ _ _ rfl OR.out _ 1 [.int .i64 f] rfl PR.out (by intro u hu; simp at hu; rcases hu with rfl; rfl) (by unfold maxLen; omega) (by omega) hsz ?_
   intro v1 w1 o1 g1 t1
   have bw : Below Y.heap.size Y w1 := App.Bl.grown BWW.out g1 (fun x hx => (World.ownsRow.lt OR.out x hx).1)
   refine hK.out _ _ (fun _ => SB.out w1 bw) ?_
   clear hK K
   obtain ⟨A9, c9, rfl⟩ := own_slice o1
   try simp only [Act.put, Last2.s]
   refine Last2.last_one (i := 15) (o := { dst := some 43, op := .indexAddr 59 (.tmp 29) (.tmp 31), type := _, pos := _, after := _, guard := none }) (by kernel_rfl) rfl rfl (fun K hK => ?_)
   go_simp
   refine hK.out _ _ (fun _ => SB.out w1 bw) ?_
   clear hK K
   try simp only [Act.put, Last2.s]
   have fz := (own_below OV.out bw (Nat.le_refl _)).frozenAt
   have hc9 := (SB.out w1 bw).2.2.1
   have O9 := Lib.hid o1
   have BW := Lib.hid bw
   clear o1 g1 t1 bw
   refine Last2.last_one (i := 16) (o := { dst := none, op := .store 38 (.tmp 43) (.tmp 42), type := _, pos := _, after := _, guard := none }) (by kernel_rfl) rfl rfl (fun K hK => ?_)
   go_simp
   refine hK.out _ _ (fun h => (h (by decide)).elim) ?_
   clear hK K fz hc9
   try simp only [Act.put, Last2.s]
   refine Last2.last_done (by kernel_rfl) ?_ _
   go_wp2_with fail
   go_meet
   exact FIN.out w1 A9 c9 BW.out (by simpa using O9.out)

 case rest =>
  obtain ⟨hY, xY⟩ := hcut
  rename World => Y
  have hl1p : pan1.length = n := by rw [← HP1.out, upd_len]; exact HN.out
  have HL1 := Lib.hid hl1p
  have hxk1 : pan1[k]? = some (addBy x f) := by rw [← HP1.out, upd_at HXK.out, if_pos rfl]
  have HX1 := Lib.hid hxk1
  have x0 : Y.cell? ⟨bx, 0, none⟩ = some (.bool adfr) := xY.cells 0
  have x1 : Y.cell? ⟨bx, 1, none⟩ = some (.int .i64 k) := xY.cells 1
  have ST := Lib.hid hY
  have XB := Lib.hid xY
  have hlv : lo ≤ Y.heap.size := Nat.le_trans hlo (Nat.le_of_lt hY.b0.lt)
  clear hY xY hl1p hxk1
  cases O with
  | nil =>
   obtain rfl : m = 0 := HM.out.symm
   have z0 : ∀ o, Y.cell? ⟨w.heap.size, o, none⟩ = (#[.slice (some ⟨g, 0, none⟩) 0 c0, .slice h1.A n h1.c, .slice h2.A n h2.c, .slice (some ⟨g3, 0, none⟩) n c3, .slice h4.A rcv.length h4.c, .slice h5.A n h5.c, .slice h6.A n h6.c] : Array Value)[o]? := by rw [← HL1.out]; exact ST.out.b0.cells
   have f0 := ST.out.b0.frozen
   have HF := Lib.hid (l4Fate_any lo n k ⟨some ⟨g, 0, none⟩, 0, c0⟩ ⟨h1.A, n, h1.c⟩ ⟨h2.A, n, h2.c⟩ ⟨some ⟨g3, 0, none⟩, n, c3⟩ ⟨h4.A, rcv.length, h4.c⟩ ⟨h5.A, n, h5.c⟩ ⟨h6.A, n, h6.c⟩ (pan1.map p3) (p3 (addBy x f)) 3 Y rfl (by rw [List.length_map]; exact HL1.out) (by omega) (by rw [List.getElem?_map, HX1.out]; rfl) (by have := ST.out.w4.pan; rw [← HL1.out]; exact this))
   go_wp2_with fail
   refine HF.out.mono ?_
   rintro e U ⟨A1', c1', rfl, oU, bU⟩
   have BZ := Lib.hid (ST.out.bz.below bU ST.out.bz.lt)
   have z1 := BZ.out.cells
   have f1 := BZ.out.frozen
   have WU := Lib.hid (ST.out.w4.fate (h1' := ⟨A1', c1'⟩) bU HX1.out 3 (own_mono (by rw [HL1.out]; exact oU) hlv))
   have CU := Lib.hid (ST.out.below bU).chg
   obtain ⟨pan2, hp2⟩ : ∃ pan2, upd pan1 k (fun y => setFate y 3) = pan2 := ⟨_, rfl⟩
   have HL2 := Lib.hid (show pan2.length = n by rw [← hp2, upd_len]; exact HL1.out)
   have HP2 := Lib.hid hp2
   dsimp only at WU
   rw [hp2] at WU
   clear oU bU HF x0 x1 z0 f0 hp2
   go_wp2_with fail
   clear z1 f1 ST XB
   refine gen_post (X := fun V => Blk V (w.heap.size + 1 + 1) 61 (recV ⟨some ⟨g, 0, none⟩, c0⟩ ⟨A1', c1'⟩ h2 ⟨some ⟨g3, 0, none⟩, c3⟩ h4 h5 h6 ⟨[], next, pan2, rcv⟩) ∧ W4 V lo ⟨some ⟨g, 0, none⟩, c0⟩ ⟨A1', c1'⟩ h2 ⟨some ⟨g3, 0, none⟩, c3⟩ h4 h5 h6 ⟨[], next, pan2, rcv⟩ ∧ Chg (fun _ => False) w V) ⟨(by have e := HL2.out; subst e; exact Blk.all7 BZ.out rfl), WU.out.set7 BZ.out, chg7 CU.out (by omega)⟩ ?_
   clear BZ WU CU
   intro V hV
   have V1 := hV.1.cells
   have HV := Lib.hid hV.2
   clear hV
   exact bodyPost_ret (v := .agg (recV ⟨some ⟨g, 0, none⟩, c0⟩ ⟨A1', c1'⟩ h2 ⟨some ⟨g3, 0, none⟩, c3⟩ h4 h5 h6 ⟨[], next, pan2, rcv⟩)) (by simp [results, Try.results113, go_sem, V1]) rfl ⟨⟨some ⟨g, 0, none⟩, c0⟩, ⟨A1', c1'⟩, ⟨some ⟨g3, 0, none⟩, c3⟩, h5, h6, by rw [HP1.out, HP2.out] <;> rfl, by rw [HP1.out, HP2.out]; exact HV.out.1, chg_false HV.out.2⟩
  | cons b S =>
   obtain ⟨bno, bdfr, bon⟩ := b
   obtain ⟨m', hm'⟩ : ∃ m', S.length = m' := ⟨_, rfl⟩
   have HM' := Lib.hid hm'
   obtain rfl : m = m' + 1 := by have := HM.out; rw [List.length_cons, hm'] at this; omega
   obtain ⟨k0, k1⟩ := stk_top HM'.out (show Y.ownsRow lo 157 2 (.slice (some ⟨g, 0, none⟩) (m' + 1) c0) (m' + 1) (cellsD (callsOf (⟨bno, bdfr, bon⟩ :: S))) from (by have := ST.out.w4.calls; rw [← HM'.out]; exact this))
   dsimp only at k0 k1
   have hmm' : ((m' + 1 : Nat) : Int) - 1 = (m' : Int) := by omega
   have hnz : (((m' + 1 : Nat) : Int) == 0) = false := by simp; omega
   have z0 : ∀ o, Y.cell? ⟨w.heap.size, o, none⟩ = (#[.slice (some ⟨g, 0, none⟩) (m' + 1) c0, .slice h1.A n h1.c, .slice h2.A n h2.c, .slice (some ⟨g3, 0, none⟩) n c3, .slice h4.A rcv.length h4.c, .slice h5.A n h5.c, .slice h6.A n h6.c] : Array Value)[o]? := by rw [← HM'.out, ← HL1.out]; exact ST.out.b0.cells
   have f0 := ST.out.b0.frozen
   clear hm'
   cases bon with
   | none =>
    dsimp only [onI] at k1
    cases had : adfr
    all_goals
     rw [had] at x0
     have HTOP := Lib.hid (l4Top_any lo m' ⟨some ⟨g, 0, none⟩, m' + 1, c0⟩ ⟨h1.A, n, h1.c⟩ ⟨h2.A, n, h2.c⟩ ⟨some ⟨g3, 0, none⟩, n, c3⟩ ⟨h4.A, rcv.length, h4.c⟩ ⟨h5.A, n, h5.c⟩ ⟨h6.A, n, h6.c⟩ (callsOf S) bdfr (onI none) (k : Int) Y rfl (by rw [callsOf_len, HM'.out]) (by omega) (by have := ST.out.w4.calls; rw [← HM'.out]; rw [callsOf_cons] at this; exact this))
     go_wp2_with fail
     refine HTOP.out.mono ?_
     rintro e U ⟨A', c', rfl, oU, bU⟩
     have BZ := Lib.hid (ST.out.bz.below bU ST.out.bz.lt)
     have z1 := BZ.out.cells
     have f1 := BZ.out.frozen
     have WU := Lib.hid (top_w4 (b := ⟨bno, bdfr, none⟩) HM'.out (k : Int) (some k) rfl ST.out.w4 bU oU)
     have CU := Lib.hid (ST.out.below bU).chg
     clear oU bU HTOP k0 k1 x0 x1 z0 f0
     go_wp2_with fail
     clear z1 f1 ST XB
     refine gen_post (X := fun V => Blk V (w.heap.size + 1 + 1) 61 (recV ⟨A', c'⟩ h1 h2 ⟨some ⟨g3, 0, none⟩, c3⟩ h4 h5 h6 ⟨⟨bno, bdfr, some k⟩ :: S, next, pan1, rcv⟩) ∧ W4 V lo ⟨A', c'⟩ h1 h2 ⟨some ⟨g3, 0, none⟩, c3⟩ h4 h5 h6 ⟨⟨bno, bdfr, some k⟩ :: S, next, pan1, rcv⟩ ∧ Chg (fun _ => False) w V) ⟨(by have e := HM'.out; have e1 := HL1.out; subst e e1; exact Blk.all7 BZ.out rfl), WU.out.set7 BZ.out, chg7 CU.out (by omega)⟩ ?_
     clear BZ WU CU
     intro V hV
     have V1 := hV.1.cells
     have HV := Lib.hid hV.2
     clear hV
     exact bodyPost_ret (v := .agg (recV ⟨A', c'⟩ h1 h2 ⟨some ⟨g3, 0, none⟩, c3⟩ h4 h5 h6 ⟨⟨bno, bdfr, some k⟩ :: S, next, pan1, rcv⟩)) (by simp [results, Try.results113, go_sem, V1]) rfl ⟨⟨A', c'⟩, h1, ⟨some ⟨g3, 0, none⟩, c3⟩, h5, h6, by rw [HP1.out] <;> rfl, by rw [HP1.out]; exact HV.out.1, chg_false HV.out.2⟩
   | some q =>
    dsimp only [onI] at k1
    obtain rfl : adfr = true := HOK.out.resolve_right (fun h => by cases h)
    have hq0 : q < pan.length := HON.out _ List.mem_cons_self q rfl
    have hqn : q < n := by rw [← HN.out]; exact hq0
    obtain ⟨y, hy⟩ : ∃ y, pan1[q]? = some y := ⟨_, List.getElem?_eq_getElem (by rw [HL1.out]; exact hqn)⟩
    have HY1 := Lib.hid hy
    have hq1 : ((q : Int) ≥ 0) := by omega
    clear hy hq0
    have HF := Lib.hid (l4Fate_any lo n q ⟨some ⟨g, 0, none⟩, m' + 1, c0⟩ ⟨h1.A, n, h1.c⟩ ⟨h2.A, n, h2.c⟩ ⟨some ⟨g3, 0, none⟩, n, c3⟩ ⟨h4.A, rcv.length, h4.c⟩ ⟨h5.A, n, h5.c⟩ ⟨h6.A, n, h6.c⟩ (pan1.map p3) (p3 y) 2 Y rfl (by rw [List.length_map]; exact HL1.out) (by omega) (by rw [List.getElem?_map, HY1.out]; rfl) (by have := ST.out.w4.pan; rw [← HL1.out]; exact this))
    go_wp2_with fail
    refine HF.out.mono ?_
    rintro e U ⟨A1', c1', rfl, oU, bU⟩
    have ST1 := Lib.hid (ST.out.below bU)
    have XB1 := Lib.hid (XB.out.below bU XB.out.lt)
    have WF := Lib.hid (ST.out.w4.fate (h1' := ⟨A1', c1'⟩) bU HY1.out 2 (own_mono (by rw [HL1.out]; exact oU) hlv))
    have z0 := ST1.out.b0.cells
    have f0 := ST1.out.b0.frozen
    obtain ⟨pan2, hp2⟩ : ∃ pan2, upd pan1 q (fun y => setFate y 2) = pan2 := ⟨_, rfl⟩
    have HL2 := Lib.hid (show pan2.length = n by rw [← hp2, upd_len]; exact HL1.out)
    have HP2 := Lib.hid hp2
    dsimp only at WF
    rw [hp2] at WF
    clear oU bU HF k0 k1 x0 x1 ST XB hp2
    go_upto_region 10 with fail
    change (fun V => Code.wp _ _ _ _ V) _
    refine gen_world (X := fun Y => (St4 (fun _ => False) w lo w.heap.size (w.heap.size + 1 + 1) ⟨some ⟨g, 0, none⟩, c0⟩ ⟨A1', c1'⟩ h2 ⟨some ⟨g3, 0, none⟩, c3⟩ h4 h5 h6 ⟨⟨bno, bdfr, some q⟩ :: S, next, pan2, rcv⟩ Y) ∧ Blk Y bx 157 #[.bool true, .int .i64 k]) ⟨⟨(by have := Blk.all7 (u0 := .slice (some ⟨g, 0, none⟩) (m' + 1) c0) (u1 := .slice A1' n c1') (u2 := .slice h2.A n h2.c) (u3 := .slice (some ⟨g3, 0, none⟩) n c3) (u4 := .slice h4.A rcv.length h4.c) (u5 := .slice h5.A n h5.c) (u6 := .slice h6.A n h6.c) ST1.out.b0 rfl; have e1 := HL2.out; have e2 := HM'.out; simp only [recV, List.length_cons, e1, e2]; exact this), far7 ST1.out.bz (by omega), WF.out.set7 ST1.out.b0, chg7 ST1.out.chg (Nat.le_refl _)⟩, far7 XB1.out (blk_ne XB1.out ST1.out.b0 (by decide))⟩ ?_
    clear ST1 XB1 WF z0 f0 hlv
    rintro Y ⟨hY, xY⟩
    have hlv : lo ≤ Y.heap.size := Nat.le_trans hlo (Nat.le_of_lt hY.b0.lt)
    have z5 : Y.cell? ⟨w.heap.size, 5, none⟩ = some (.slice h5.A n h5.c) := by rw [← HL2.out]; exact hY.b0.cells 5
    have HO := Lib.hid (l1Own_any lo h5.A n h5.c (pan2.map PF.rep) (by omega) (by rw [List.length_map]; exact HL2.out) Y (by unfold OwnI; rw [List.length_map, ← HL2.out]; exact hY.w4.rep))
    have ST := Lib.hid hY
    have XB := Lib.hid xY
    clear hY xY
    go_wp2_with fail
    refine HO.out.mono ?_
    rintro e U ⟨A5, c5, rfl, o5, b5⟩
    have o5' : U.ownsRow Y.heap.size 3 1 (.slice A5 n c5) n (cellsI (pan2.map PF.rep)) := by have h := o5; unfold OwnI at h; rw [List.length_map, HL2.out] at h; exact h
    rcases own_form o5' with ⟨hx0, _⟩ | ⟨_, g5, cp5, hv5, hg5, _⟩
    ·omega
    simp only [Value.slice.injEq, true_and] at hv5
    obtain ⟨rfl, rfl⟩ := hv5
    have WC := Lib.hid (W4.copy5 (h5' := ⟨some ⟨g5, 0, none⟩, c5⟩) ST.out.w4 b5 hlv (by rw [HL2.out]; exact o5'))
    have ST1 := Lib.hid (ST.out.below b5)
    have XB1 := Lib.hid (XB.out.below b5 XB.out.lt)
    have hw5 : w.heap.size ≤ g5 := Nat.le_trans (Nat.le_of_lt ST.out.b0.lt) hg5
    have f5 := ST1.out.b0.frozen
    have z5 := ST1.out.b0.cells
    clear o5 o5' b5 HO ST XB hg5 hlv
    go_upto_region 11 with fail
    change (fun V => Code.wp _ _ _ _ V) _
    refine gen_world (X := fun Y => (St4 (fun _ => False) w lo w.heap.size (w.heap.size + 1 + 1) ⟨some ⟨g, 0, none⟩, c0⟩ ⟨A1', c1'⟩ h2 ⟨some ⟨g3, 0, none⟩, c3⟩ h4 ⟨some ⟨g5, 0, none⟩, c5⟩ h6 ⟨⟨bno, bdfr, some q⟩ :: S, next, pan2, rcv⟩ Y) ∧ Blk Y bx 157 #[.bool true, .int .i64 k]) ⟨⟨(by have := ST1.out.b0.put 5 (.slice (some ⟨g5, 0, none⟩) n c5); have e := HL2.out; subst e; simpa only [Last2.s] using this), ST1.out.bz.far _ _ (by show w.heap.size + 1 + 1 ≠ w.heap.size; omega), WC.out.set ST1.out.b0 5 _, ST1.out.chg.put _ _ (.inl (Nat.le_refl _))⟩, XB1.out.far _ _ (blk_ne XB1.out ST1.out.b0 (by decide))⟩ ?_
    clear ST1 XB1 WC z5 f5
    rintro Y ⟨hY, xY⟩
    have z5 : Y.cell? ⟨w.heap.size, 5, none⟩ = some (.slice (some ⟨g5, 0, none⟩) n c5) := by rw [← HL2.out]; exact hY.b0.cells 5
    have x1 : Y.cell? ⟨bx, 1, none⟩ = some (.int .i64 k) := xY.cells 1
    have o5 : Y.ownsRow lo 3 1 (.slice (some ⟨g5, 0, none⟩) n c5) n (cellsI (pan2.map PF.rep)) := by rw [← HL2.out]; exact hY.w4.rep
    have fz := o5.frozenAt
    obtain ⟨zr, hzr⟩ : ∃ zr, Y.cell? ⟨g5, q, none⟩ = some zr := ⟨_, (o5.cellAt q (by omega)).trans (List.getElem?_eq_getElem (by simp [cellsI, HL2.out]; exact hqn))⟩
    obtain ⟨pan3, hp3⟩ : ∃ pan3, upd pan2 q (fun y => setRep y k) = pan3 := ⟨_, rfl⟩
    have HL3 := Lib.hid (show pan3.length = n by rw [← hp3, upd_len]; exact HL2.out)
    have HP3 := Lib.hid hp3
    have WR := Lib.hid (show W4 (Y.setCell ⟨g5, q, none⟩ (.int .i64 k)) lo ⟨some ⟨g, 0, none⟩, c0⟩ ⟨A1', c1'⟩ h2 ⟨some ⟨g3, 0, none⟩, c3⟩ h4 ⟨some ⟨g5, 0, none⟩, c5⟩ h6 ⟨⟨bno, bdfr, some q⟩ :: S, next, pan3, rcv⟩ from hp3 ▸ (W4.rep5 (h5' := ⟨some ⟨g5, 0, none⟩, c5⟩) (q := q) (z := k) hY.w4 ((Chg.set Y ⟨g5, q, none⟩ _).mono (fun b _ h => by rw [h]; rfl)) (fun _ hk => .inl hk) (by rw [HL2.out, ← cellsI_set]; exact (o5.stored q (.int .i64 k)).1)))
    have N0 := own_blk_ne' o5 hY.b0 (by decide)
    have NZ := own_blk_ne' o5 hY.bz (by decide)
    have NX := own_blk_ne' o5 xY (by decide)
    have ST := Lib.hid hY
    have XB := Lib.hid xY
    clear hY xY o5 hp3
    go_upto_region 12 with fail
    change (fun V => Code.wp _ _ _ _ V) _
    refine gen_world (X := fun Y => (St4 (fun _ => False) w lo w.heap.size (w.heap.size + 1 + 1) ⟨some ⟨g, 0, none⟩, c0⟩ ⟨A1', c1'⟩ h2 ⟨some ⟨g3, 0, none⟩, c3⟩ h4 ⟨some ⟨g5, 0, none⟩, c5⟩ h6 ⟨⟨bno, bdfr, some q⟩ :: S, next, pan3, rcv⟩ Y) ∧ Blk Y bx 157 #[.bool true, .int .i64 k]) ⟨⟨(by have := ST.out.b0.far ⟨g5, q, none⟩ (.int .i64 k) N0; have e1 := HL2.out; have e2 := HL3.out; simp only [recV, e1, e2] at this ⊢; exact this), ST.out.bz.far _ _ NZ, WR.out, ST.out.chg.put _ _ (.inl hw5)⟩, XB.out.far _ _ NX⟩ ?_
    clear ST XB WR z5 x1 fz hzr N0 NZ NX
    rintro Y ⟨hY, xY⟩
    have hlv : lo ≤ Y.heap.size := Nat.le_trans hlo (Nat.le_of_lt hY.b0.lt)
    have z6 : Y.cell? ⟨w.heap.size, 6, none⟩ = some (.slice h6.A n h6.c) := by rw [← HL3.out]; exact hY.b0.cells 6
    have HO := Lib.hid (l1Own_any lo h6.A n h6.c (pan3.map PF.bef) (by omega) (by rw [List.length_map]; exact HL3.out) Y (by unfold OwnI; rw [List.length_map, ← HL3.out]; exact hY.w4.bef))
    have ST := Lib.hid hY
    have XB := Lib.hid xY
    clear hY xY
    go_wp2_with fail
    refine HO.out.mono ?_
    rintro e U ⟨A6, c6, rfl, o6, b6⟩
    have o6' : U.ownsRow Y.heap.size 3 1 (.slice A6 n c6) n (cellsI (pan3.map PF.bef)) := by have h := o6; unfold OwnI at h; rw [List.length_map, HL3.out] at h; exact h
    rcases own_form o6' with ⟨hx0, _⟩ | ⟨_, g6, cp6, hv6, hg6, _⟩
    ·omega
    simp only [Value.slice.injEq, true_and] at hv6
    obtain ⟨rfl, rfl⟩ := hv6
    have WC := Lib.hid (W4.copy6 (h6' := ⟨some ⟨g6, 0, none⟩, c6⟩) ST.out.w4 b6 hlv (by rw [HL3.out]; exact o6'))
    have ST1 := Lib.hid (ST.out.below b6)
    have XB1 := Lib.hid (XB.out.below b6 XB.out.lt)
    have hw6 : w.heap.size ≤ g6 := Nat.le_trans (Nat.le_of_lt ST.out.b0.lt) hg6
    have f6 := ST1.out.b0.frozen
    have z6 := ST1.out.b0.cells
    clear o6 o6' b6 HO ST XB hg6 hlv
    go_upto_region 13 with fail
    change (fun V => Code.wp _ _ _ _ V) _
    refine gen_world (X := fun Y => (St4 (fun _ => False) w lo w.heap.size (w.heap.size + 1 + 1) ⟨some ⟨g, 0, none⟩, c0⟩ ⟨A1', c1'⟩ h2 ⟨some ⟨g3, 0, none⟩, c3⟩ h4 ⟨some ⟨g5, 0, none⟩, c5⟩ ⟨some ⟨g6, 0, none⟩, c6⟩ ⟨⟨bno, bdfr, some q⟩ :: S, next, pan3, rcv⟩ Y) ∧ Blk Y bx 157 #[.bool true, .int .i64 k]) ⟨⟨(by have := ST1.out.b0.put 6 (.slice (some ⟨g6, 0, none⟩) n c6); have e := HL3.out; subst e; simpa only [Last2.s] using this), ST1.out.bz.far _ _ (by show w.heap.size + 1 + 1 ≠ w.heap.size; omega), WC.out.set ST1.out.b0 6 _, ST1.out.chg.put _ _ (.inl (Nat.le_refl _))⟩, XB1.out.far _ _ (blk_ne XB1.out ST1.out.b0 (by decide))⟩ ?_
    clear ST1 XB1 WC z6 f6
    rintro Y ⟨hY, xY⟩
    have z6 : Y.cell? ⟨w.heap.size, 6, none⟩ = some (.slice (some ⟨g6, 0, none⟩) n c6) := by rw [← HL3.out]; exact hY.b0.cells 6
    have x1 : Y.cell? ⟨bx, 1, none⟩ = some (.int .i64 k) := xY.cells 1
    have o6 : Y.ownsRow lo 3 1 (.slice (some ⟨g6, 0, none⟩) n c6) n (cellsI (pan3.map PF.bef)) := by rw [← HL3.out]; exact hY.w4.bef
    have fz := o6.frozenAt
    obtain ⟨zr, hzr⟩ : ∃ zr, Y.cell? ⟨g6, k, none⟩ = some zr := ⟨_, (o6.cellAt k (by omega)).trans (List.getElem?_eq_getElem (by simp [cellsI, HL3.out]; exact hkn))⟩
    obtain ⟨pan4, hp4⟩ : ∃ pan4, upd pan3 k (fun y => setBef y q) = pan4 := ⟨_, rfl⟩
    have HL4 := Lib.hid (show pan4.length = n by rw [← hp4, upd_len]; exact HL3.out)
    have HP4 := Lib.hid hp4
    have WR := Lib.hid (show W4 (Y.setCell ⟨g6, k, none⟩ (.int .i64 q)) lo ⟨some ⟨g, 0, none⟩, c0⟩ ⟨A1', c1'⟩ h2 ⟨some ⟨g3, 0, none⟩, c3⟩ h4 ⟨some ⟨g5, 0, none⟩, c5⟩ ⟨some ⟨g6, 0, none⟩, c6⟩ ⟨⟨bno, bdfr, some q⟩ :: S, next, pan4, rcv⟩ from hp4 ▸ (W4.bef6 (h6' := ⟨some ⟨g6, 0, none⟩, c6⟩) (q := k) (z := q) hY.w4 ((Chg.set Y ⟨g6, k, none⟩ _).mono (fun b _ h => by rw [h]; rfl)) (fun _ hk => .inl hk) (by rw [HL3.out, ← cellsI_set]; exact (o6.stored k (.int .i64 q)).1)))
    have N0 := own_blk_ne' o6 hY.b0 (by decide)
    have NZ := own_blk_ne' o6 hY.bz (by decide)
    have NX := own_blk_ne' o6 xY (by decide)
    have ST := Lib.hid hY
    have XB := Lib.hid xY
    clear hY xY o6 hp4
    go_upto_region 14 with fail
    change (fun V => Code.wp _ _ _ _ V) _
    refine gen_world (X := fun Y => (St4 (fun _ => False) w lo w.heap.size (w.heap.size + 1 + 1) ⟨some ⟨g, 0, none⟩, c0⟩ ⟨A1', c1'⟩ h2 ⟨some ⟨g3, 0, none⟩, c3⟩ h4 ⟨some ⟨g5, 0, none⟩, c5⟩ ⟨some ⟨g6, 0, none⟩, c6⟩ ⟨⟨bno, bdfr, some q⟩ :: S, next, pan4, rcv⟩ Y) ∧ Blk Y bx 157 #[.bool true, .int .i64 k]) ⟨⟨(by have := ST.out.b0.far ⟨g6, k, none⟩ (.int .i64 q) N0; have e1 := HL3.out; have e2 := HL4.out; simp only [recV, e1, e2] at this ⊢; exact this), ST.out.bz.far _ _ NZ, WR.out, ST.out.chg.put _ _ (.inl hw6)⟩, XB.out.far _ _ NX⟩ ?_
    clear ST XB WR z6 x1 fz hzr N0 NZ NX
    rintro Y ⟨hY, xY⟩
    have x1 : Y.cell? ⟨bx, 1, none⟩ = some (.int .i64 k) := xY.cells 1
    have z0 : ∀ o, Y.cell? ⟨w.heap.size, o, none⟩ = (#[.slice (some ⟨g, 0, none⟩) (m' + 1) c0, .slice A1' n c1', .slice h2.A n h2.c, .slice (some ⟨g3, 0, none⟩) n c3, .slice h4.A rcv.length h4.c, .slice (some ⟨g5, 0, none⟩) n c5, .slice (some ⟨g6, 0, none⟩) n c6] : Array Value)[o]? := by rw [← HM'.out, ← HL4.out]; exact hY.b0.cells
    have ST := Lib.hid hY
    clear hY xY
    have HTOP := Lib.hid (l4Top_any lo m' ⟨some ⟨g, 0, none⟩, m' + 1, c0⟩ ⟨A1', n, c1'⟩ ⟨h2.A, n, h2.c⟩ ⟨some ⟨g3, 0, none⟩, n, c3⟩ ⟨h4.A, rcv.length, h4.c⟩ ⟨some ⟨g5, 0, none⟩, n, c5⟩ ⟨some ⟨g6, 0, none⟩, n, c6⟩ (callsOf S) bdfr (onI (some q)) (k : Int) Y rfl (by rw [callsOf_len, HM'.out]) (by omega) (by have := ST.out.w4.calls; rw [← HM'.out]; rw [callsOf_cons] at this; exact this))
    go_wp2_with fail
    refine HTOP.out.mono ?_
    rintro e U ⟨A', c', rfl, oU, bU⟩
    have BZ := Lib.hid (ST.out.bz.below bU ST.out.bz.lt)
    have z1 := BZ.out.cells
    have f1 := BZ.out.frozen
    have WU := Lib.hid (top_w4 (b := ⟨bno, bdfr, some q⟩) HM'.out (k : Int) (some k) rfl ST.out.w4 bU oU)
    have CU := Lib.hid (ST.out.below bU).chg
    clear oU bU HTOP z0 x1
    go_wp2_with fail
    clear z1 f1 ST
    refine gen_post (X := fun V => Blk V (w.heap.size + 1 + 1) 61 (recV ⟨A', c'⟩ ⟨A1', c1'⟩ h2 ⟨some ⟨g3, 0, none⟩, c3⟩ h4 ⟨some ⟨g5, 0, none⟩, c5⟩ ⟨some ⟨g6, 0, none⟩, c6⟩ ⟨⟨bno, bdfr, some k⟩ :: S, next, pan4, rcv⟩) ∧ W4 V lo ⟨A', c'⟩ ⟨A1', c1'⟩ h2 ⟨some ⟨g3, 0, none⟩, c3⟩ h4 ⟨some ⟨g5, 0, none⟩, c5⟩ ⟨some ⟨g6, 0, none⟩, c6⟩ ⟨⟨bno, bdfr, some k⟩ :: S, next, pan4, rcv⟩ ∧ Chg (fun _ => False) w V) ⟨(by have e := HM'.out; have e1 := HL4.out; subst e e1; exact Blk.all7 BZ.out rfl), WU.out.set7 BZ.out, chg7 CU.out (by omega)⟩ ?_
    clear BZ WU CU
    intro V hV
    have V1 := hV.1.cells
    have HV := Lib.hid hV.2
    clear hV
    exact bodyPost_ret (v := .agg (recV ⟨A', c'⟩ ⟨A1', c1'⟩ h2 ⟨some ⟨g3, 0, none⟩, c3⟩ h4 ⟨some ⟨g5, 0, none⟩, c5⟩ ⟨some ⟨g6, 0, none⟩, c6⟩ ⟨⟨bno, bdfr, some k⟩ :: S, next, pan4, rcv⟩)) (by simp [results, Try.results113, go_sem, V1]) rfl ⟨⟨A', c'⟩, ⟨A1', c1'⟩, ⟨some ⟨g3, 0, none⟩, c3⟩, ⟨some ⟨g5, 0, none⟩, c5⟩, ⟨some ⟨g6, 0, none⟩, c6⟩, by rw [HP1.out]; show _ = Ending.returned (.agg (recV _ _ _ _ _ _ _ ⟨_, next, upd (upd (upd pan1 q (fun y => setFate y 2)) q (fun y => setRep y k)) k (fun y => setBef y q), rcv⟩)); rw [HP2.out, HP3.out, HP4.out] <;> rfl, by rw [HP1.out]; show W4 _ _ _ _ _ _ _ _ _ ⟨_, next, upd (upd (upd pan1 q (fun y => setFate y 2)) q (fun y => setRep y k)) k (fun y => setBef y q), rcv⟩; rw [HP2.out, HP3.out, HP4.out]; exact HV.out.1, chg_false HV.out.2⟩

end Go.Proofs.Ytgcjlkdahlfjlaa.Pz
