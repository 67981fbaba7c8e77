/- impl.WalkOf and spec.WalkOf return the first 200 numbers of the walk of an error. -/
import Derived.Test.YtkjgibhckcdneaaErlv
namespace Go.Proofs.Ytkjgibhckcdneaa.ErWk
set_option linter.unusedVariables false
set_option linter.unusedSimpArgs false
open Go.ChangeShapes Go.WideShapes Go.ChangeAt Go.RowKit
open Mem IntsP ErP ErM ErT ErA ErU ErD ErW ErL

structure GrowO (w2 : World) (lo : Nat) (hb : Option Nat) (v : Value) (ys : List Int) (wr : World) : Prop where
  own : wr.ownsRow lo 3 1 v ys.length (cellsI ys)
  at_ : ∀ k, v.ownBlock = some k → hb = some k ∨ w2.heap.size ≤ k
  chg : Chg (fun b => hb = some b) w2 wr
theorem GrowO.refl {w : World} {lo : Nat} {v : Value} {ys : List Int} (h : w.ownsRow lo 3 1 v ys.length (cellsI ys)) : GrowO w lo v.ownBlock v ys w := ⟨h, fun k hk => .inl hk, Chg.refl _ _⟩
theorem GrowO.alloc {w2 wr : World} {lo : Nat} {hb : Option Nat} {v : Value} {ys : List Int} (h : GrowO w2 lo hb v ys wr) (o : Obj) : GrowO w2 lo hb v ys (wr.alloc o) := ⟨own_alloc h.own o, h.at_, h.chg.new o⟩
theorem GrowO.drew {w2 wr : World} {lo : Nat} {hb : Option Nat} {v : Value} {ys : List Int} (h : GrowO w2 lo hb v ys wr) : GrowO w2 lo hb v ys wr.drew := ⟨own_drew h.own, h.at_, chg_drew h.chg⟩
theorem GrowO.trans {w2 wr w' : World} {lo : Nat} {hb : Option Nat} {v v' : Value} {ys ys' : List Int} (h : GrowO w2 lo hb v ys wr) (h' : GrowO wr lo v.ownBlock v' ys' w') : GrowO w2 lo hb v' ys' w' := by
  have sz := h.chg.size
  refine ⟨h'.own, fun k hk => ?_, h.chg.trans h'.chg (fun x hx hx2 => ?_)⟩
  · rcases h'.at_ k hk with h1 | h1
    · exact h.at_ k h1
    · omega
  · rcases h.at_ x hx2 with h1 | h1
    · exact h1
    · omega
theorem GrowO.push {w2 wr w' : World} {lo : Nat} {hb : Option Nat} {v v' : Value} {ys : List Int} {z : Int} (h : GrowO w2 lo hb v ys wr)
    (ho : w'.ownsRow lo 3 1 v' (ys.length + 1) (cellsI ys ++ [.int .i64 z])) (hg : wr.grownBy w' v.ownBlock) (ha : v'.ownBlock = v.ownBlock ∨ v'.ownBlock = some wr.heap.size) : GrowO w2 lo hb v' (ys ++ [z]) w' := by
  have sz := h.chg.size
  refine ⟨by rw [List.length_append, List.length_singleton, cellsI_append]; exact ho, fun k hk => ?_, ?_⟩
  · rcases ha with ha | ha
    · exact h.at_ k (by rw [← ha]; exact hk)
    · rw [ha] at hk
      have : wr.heap.size = k := by simpa using hk
      omega
  · refine h.chg.trans (App.Chg.of_grown' (C := fun b => hb = some b ∨ w2.heap.size ≤ b) hg (fun k hk => h.at_ k hk)) (fun x hx hx2 => ?_)
    rcases hx2 with hx2 | hx2
    · exact hx2
    · omega

def walkP (e : Er) : Nat → List Int → Nat → List Int
  | 0, ys, _ => ys
  | k + 1, ys, x => if ys.length = 200 then ys else (nodeE e x).2.2.foldl (fun acc p => walkP e k acc p.toNat) (ys ++ [(x : Int)])
def walkF (e : Er) (k : Nat) (ys ps : List Int) (j : Nat) : List Int := (ps.take j).foldl (fun acc p => walkP e k acc p.toNat) ys
theorem walkF_next {e : Er} {k j : Nat} {ys ps : List Int} {p : Int} (h : ps[j]? = some p) : walkF e k ys ps (j + 1) = walkP e k (walkF e k ys ps j) p.toNat := by
  unfold walkF; rw [List.take_add_one, h]; simp [List.foldl_append]
theorem walkP_full {e : Er} {k x : Nat} {ys : List Int} (h : ys.length = 200) : walkP e (k + 1) ys x = ys := by rw [walkP, if_pos h]
theorem walkP_on {e : Er} {k x : Nat} {ys : List Int} {s : En} (h : ys.length ≠ 200) (hs : e[x]? = some s) : walkP e (k + 1) ys x = walkF e k (ys ++ [(x : Int)]) s.2.2 s.2.2.length := by
  rw [walkP, if_neg h, nodeE_at hs]; unfold walkF; rw [List.take_length]
theorem fold_le (f : List Int → Int → List Int) (hf : ∀ a p, a.length ≤ 200 → (f a p).length ≤ 200) : ∀ (ps : List Int) (a : List Int), a.length ≤ 200 → (ps.foldl f a).length ≤ 200
  | [], a, h => h
  | p :: ps, a, h => fold_le f hf ps _ (hf a p h)
theorem walkP_le (e : Er) : ∀ (k : Nat) (ys : List Int) (x : Nat), ys.length ≤ 200 → (walkP e k ys x).length ≤ 200
  | 0, ys, x, h => h
  | k + 1, ys, x, h => by
    rw [walkP]
    split
    · exact h
    · exact fold_le _ (fun a p ha => walkP_le e k a p.toNat ha) _ _ (by simp; omega)
theorem walkF_le (e : Er) (k : Nat) (ys ps : List Int) (j : Nat) (h : ys.length ≤ 200) : (walkF e k ys ps j).length ≤ 200 := fold_le _ (fun a p ha => walkP_le e k a p.toNat ha) _ _ h
def walkR (e : Er) (x : Int) : List Int × Bool := if oneE e x then (walkP e e.length [] x.toNat, true) else ([], false)
theorem walk_len (p : Er) (x : Int) : (walkR p x).1.length ≤ 100000 := by
  unfold walkR
  split
  · have := walkP_le p p.length [] x.toNat (by simp)
    simp only
    omega
  · simp

def WalkRes (lo : Nat) (hb : Option Nat) (ys : List Int) (w : World) (e : Ending) (w' : World) : Prop :=
  ∃ Ag cg, e = .returned (.slice Ag ys.length cg) ∧ GrowO w lo hb (.slice Ag ys.length cg) ys w'
set_option maxRecDepth 100000 in
set_option maxHeartbeats 4000000 in
theorem walkOn_any (n c B : Nat) (A : Option Addr) (p : Er) (hl : p.length = n) (hok : okErr p = true) : ∀ (k x0 lo : Nat) (Av : Option Addr) (cv : Nat) (ys : List Int) (w : World), n ≤ x0 + k → x0 < n → ys.length ≤ 200 → RdE w B A p → B ≤ w.heap.size → lo ≤ w.heap.size →
    (∀ b, (Value.slice Av ys.length cv).ownBlock = some b → B ≤ b) → w.ownsRow lo 3 1 (.slice Av ys.length cv) ys.length (cellsI ys) →
    Calls Try.prog 59 #[.slice Av ys.length cv, .agg #[.slice A n c], .int .i64 x0] w (WalkRes lo (Value.slice Av ys.length cv).ownBlock (walkP p k ys x0) w)
  | 0, x0, lo, Av, cv, ys, w, hk, hx, _, _, _, _, _, _ => by omega
  | k + 1, x0, lo, Av, cv, ys, w, hk, hx, hy, hr, hB, hlo, hvb, ho => by
    have hn12 : n ≤ 12 := by rw [← hl]; exact ((okErr_iff p).1 hok).2.1
    have IH := Lib.hid (walkOn_any n c B A p hl hok k)
    have HOK := Lib.hid hok
    have hL := Lib.hid hl
    have hR := Lib.hid hr
    have HG := Lib.hid (GrowO.refl ho)
    have hV := Lib.hid hvb
    have hne : ∀ g, (Value.slice Av ys.length cv).ownBlock = some g → g < w.heap.size := fun g hg => (ho.lt g hg).2
    have HN := Lib.hid hne
    obtain ⟨m, hm⟩ : ∃ m, ys.length = m := ⟨_, rfl⟩
    have HM := Lib.hid hm
    obtain ⟨hb, hhb⟩ : ∃ hb, (Value.slice Av ys.length cv).ownBlock = hb := ⟨_, rfl⟩
    have HHB := Lib.hid hhb
    rw [hhb] at HG
    rw [hhb]
    obtain ⟨i0, hi, hz0, hz1, hz2⟩ := info_parts info3
    obtain ⟨s, hsx⟩ : ∃ s, p[x0]? = some s := ⟨_, List.getElem?_eq_getElem (by rw [hl]; exact hx)⟩
    have HS := Lib.hid hsx
    by_cases h200 : m = 200
    · have hs := Lib.hid (walkP_full (e := p) (k := k) (x := x0) (hm.trans h200))
      rw [hm]
      clear hl hok hr hvb ho hne hm hhb hsx hi hz0 hz1 hz2
      subst h200
      go_enter Try.func59, Try.ntmps59
      go_wp2_with fail
      go_ret
      rw [hs.out]
      exact ⟨Av, cv, by rw [HM.out]; rfl, HG.out.alloc _⟩
    · have hs := Lib.hid (walkP_on (e := p) (k := k) (by rw [hm]; exact h200) hsx)
      have hown := own_alloc (own_alloc ho (.cells #[.slice A n c] 29)) (.cells #[.int .i64 (x0 : Int)] 3)
      rw [hm] at hown
      have HOW := Lib.hid hown
      rw [hm]
      clear hl hok hr hvb ho hne hhb hsx hown
      go_enter Try.func59, Try.ntmps59
      go_wp2_with (at_builtin; refine App.row_list _ rfl (.tmp 13) (.tmp 15) 33 rfl lo 0 3 i0 _ 1 8 Try.underlying33 hi hz0 hz1 hz2 rfl (by decide) (.slice Av m cv) m (cellsI ys) rfl HOW.out (.slice (some ⟨w.heap.size + 1, 0, none⟩) 1 1) 1 [.int .i64 (x0 : Int)] rfl (App.one_own (heap2_1 w _ _)) (by intro u hu; simp at hu; rw [hu]; rfl) (by unfold maxLen; omega) (by omega) (by simp; omega) ?_)
      intro v1 w3 o1 g1 t1
      have hG3 := ((GrowO.refl (own_alloc HG.out.own (.cells #[.slice A n c] 29))).alloc (.cells #[.int .i64 (x0 : Int)] 3)).push (z := (x0 : Int)) (v' := v1) (w' := w3) (by rw [HM.out]; exact o1) (by rw [HM.out]; exact g1) (by rw [HM.out]; simpa using t1)
      rw [HHB.out] at hG3
      obtain ⟨A3, c3, rfl⟩ := own_slice o1
      have HG3 := Lib.hid hG3
      clear o1 g1 t1 hG3
      obtain ⟨wb, hwb⟩ : ∃ wb, w.alloc (.cells #[.slice A n c] 29) = wb := ⟨_, rfl⟩
      have hGw := HG.out.alloc (.cells #[.slice A n c] 29)
      have hbx : Blk wb w.heap.size 29 #[.slice A n c] := by rw [← hwb]; exact heap1_0 _ _
      have hRb : RdE wb B A p := by rw [← hwb]; exact hR.out.below ((Below.refl _ _).alloc hB _)
      rw [hwb] at HG3 hGw
      have HGW := Lib.hid hGw
      have HBX := Lib.hid hbx
      have RB := Lib.hid hRb
      have lb := hbx.lt
      have hnb : ¬ hb = some w.heap.size := fun h => by have := HN.out _ (HHB.out.trans h); omega
      have HNB := Lib.hid hnb
      have hB1 : ∀ b, b < B → ¬ hb = some b := fun b h1 h2 => by have := hV.out b (HHB.out.trans h2); omega
      have HB1 := Lib.hid hB1
      clear hwb hGw hbx hRb hnb hB1 HOW
      obtain ⟨mp, hmp⟩ : ∃ mp, s.2.2.length = mp := ⟨_, rfl⟩
      have hm12 : mp ≤ 12 := by rw [← hmp]; exact ok_many HOK.out HS.out
      have HMP := Lib.hid hmp
      have z3 : w3.cell? ⟨w.heap.size, 0, none⟩ = some (.slice A n c) := (HBX.out.chg HG3.out.chg HNB.out).cells 0
      obtain ⟨ad, Ai, ci, rfl, hab, c0, c1, c2, c3'⟩ := rdE_chg RB.out HG3.out.chg (by omega) HB1.out x0 _ HS.out
      rw [hmp] at c2
      clear hmp c3' c0 c1
      have hF0 : walkF p k (ys ++ [(x0 : Int)]) s.2.2 0 = ys ++ [(x0 : Int)] := rfl
      have HF0 := Lib.hid hF0
      have hlen3 : (ys ++ [(x0 : Int)]).length = m + 1 := by rw [List.length_append, HM.out]; rfl
      have hle := fun j => walkF_le p k (ys ++ [(x0 : Int)]) s.2.2 j (by rw [hlen3]; have := HM.out; omega)
      have HLE := Lib.hid hle
      have HL3 := Lib.hid hlen3
      clear hF0 hlen3 hle
      go_wp2_with fail
      go_loopw [0, 24] (fun v i wr => ∃ (j : Nat) (Ag : Option Addr) (mg cg : Nat), j ≤ mp ∧ i = .int .i64 j ∧ v = .slice Ag mg cg ∧ mg ≤ 200 ∧ Hid ((walkF p k (ys ++ [(x0 : Int)]) s.2.2 j).length = mg) ∧ GrowO wb lo hb (.slice Ag mg cg) (walkF p k (ys ++ [(x0 : Int)]) s.2.2 j) wr) (fun _ i _ => mp - (intOf i).toNat)
      case atStart => exact ⟨0, A3, m + 1, c3, Nat.zero_le _, rfl, rfl, by omega, Lib.hid (by rw [HF0.out]; exact HL3.out), by rw [HF0.out]; exact HG3.out⟩
      case round =>
        obtain ⟨j, Ag, mg, cg, hj, rfl, rfl, hmg, HMG, hG⟩ := hrel
        have G := Lib.hid hG
        have zr : wr.cell? ⟨w.heap.size, 0, none⟩ = some (.slice (some ad) n c) := (HBX.out.chg hG.chg HNB.out).cells 0
        have R3 := Lib.hid (rdE_chg RB.out hG.chg (by omega) HB1.out)
        have sz := hG.chg.size
        clear hG
        by_cases hjl : j < mp
        · obtain ⟨z, hz⟩ : ∃ z, s.2.2[j]? = some z := ⟨_, List.getElem?_eq_getElem (by rw [HMP.out]; exact hjl)⟩
          obtain ⟨q, rfl, hq1, hq2⟩ := ok_part HOK.out HS.out hz
          rw [hL.out] at hq2
          obtain ⟨ad2, Ai2, ci2, e0, _, _, _, d2, d3⟩ := R3.out x0 _ HS.out
          obtain rfl : ad = ad2 := by simpa using e0
          have hEq : w3.cell? ⟨(ad.add (x0 * 3)).block, (ad.add (x0 * 3)).off + 2, none⟩ = wr.cell? ⟨(ad.add (x0 * 3)).block, (ad.add (x0 * 3)).off + 2, none⟩ := by
            have hbk : (⟨(ad.add (x0 * 3)).block, (ad.add (x0 * 3)).off + 2, none⟩ : Addr).block = ad.block := block_of_add _ _
            have n1 : ¬ hb = some (⟨(ad.add (x0 * 3)).block, (ad.add (x0 * 3)).off + 2, none⟩ : Addr).block := by rw [hbk]; exact HB1.out _ hab
            have l1 : (⟨(ad.add (x0 * 3)).block, (ad.add (x0 * 3)).off + 2, none⟩ : Addr).block < wb.heap.size := by rw [hbk]; omega
            exact (HG3.out.chg.cell l1 n1).trans (G.out.chg.cell l1 n1).symm
          rw [HMP.out] at d2
          rw [c2, d2] at hEq
          obtain ⟨rfl, rfl⟩ : Ai = Ai2 ∧ ci = ci2 := by simpa using hEq
          obtain ⟨ad', rfl, hab', d4⟩ := d3 j _ hz
          have hN := Lib.hid (walkF_next (e := p) (k := k) (ys := ys ++ [(x0 : Int)]) hz)
          rw [Int.toNat_natCast] at hN
          have hI := IH.out q lo Ag cg (walkF p k (ys ++ [(x0 : Int)]) s.2.2 j) wr (by omega) hq2 (HLE.out j) R3.out (by omega) (by omega) (fun b hb' => by
            rw [HMG.out] at hb'
            rcases G.out.at_ b hb' with h1 | h1
            · exact Nat.not_lt.1 (fun h2 => HB1.out b h2 h1)
            · omega) (by rw [HMG.out]; have := G.out.own; rwa [HMG.out] at this)
          rw [HMG.out] at hI
          have HI := Lib.hid hI
          clear hI hz d2 d3 e0 hEq
          go_wp2_with fail
          refine HI.out.mono ?_
          rintro e w4 ⟨A4, c4, rfl, hG4⟩
          have HG4 := Lib.hid (G.out.trans hG4)
          rw [← hN.out] at HG4
          have h5 := Lib.hid (HLE.out (j + 1))
          obtain ⟨m4, hm4⟩ : ∃ m4, (walkF p k (ys ++ [(x0 : Int)]) s.2.2 (j + 1)).length = m4 := ⟨_, rfl⟩
          have H4 := Lib.hid hm4
          rw [← hN.out, hm4]
          rw [hm4] at HG4 h5
          clear hG4 hm4
          go_wp2_with fail
          go_roundw
          case rel => exact ⟨j + 1, A4, m4, c4, by omega, by go_num, rfl, h5.out, H4, HG4.out⟩
          case measure => simp [intOf]; omega
        · obtain rfl : j = mp := by omega
          have hN : Hid (walkP p (k + 1) ys x0 = walkF p k (ys ++ [(x0 : Int)]) s.2.2 j) := Lib.hid (by rw [hs.out, HMP.out])
          go_wp2_with fail
          go_ret
          rw [hN.out]
          refine ⟨Ag, cg, by rw [HMG.out]; rfl, ?_⟩
          rw [HMG.out]
          have := HGW.out.trans (v' := .slice Ag mg cg) (ys' := walkF p k (ys ++ [(x0 : Int)]) s.2.2 j) (w' := wr) (by rw [HHB.out]; exact G.out)
          exact this
set_option maxRecDepth 100000 in
set_option maxHeartbeats 4000000 in
theorem walkS_any (n c B : Nat) (A : Option Addr) (p : Er) (hl : p.length = n) (hok : okErr p = true) : ∀ (k x0 lo : Nat) (Av : Option Addr) (cv : Nat) (ys : List Int) (w : World), n ≤ x0 + k → x0 < n → ys.length ≤ 200 → RdE w B A p → B ≤ w.heap.size → lo ≤ w.heap.size →
    (∀ b, (Value.slice Av ys.length cv).ownBlock = some b → B ≤ b) → w.ownsRow lo 3 1 (.slice Av ys.length cv) ys.length (cellsI ys) →
    Calls Try.prog 58 #[.agg #[.slice A n c], .int .i64 x0, .slice Av ys.length cv] w (WalkRes lo (Value.slice Av ys.length cv).ownBlock (walkP p k ys x0) w)
  | 0, x0, lo, Av, cv, ys, w, hk, hx, _, _, _, _, _, _ => by omega
  | k + 1, x0, lo, Av, cv, ys, w, hk, hx, hy, hr, hB, hlo, hvb, ho => by
    have hn12 : n ≤ 12 := by rw [← hl]; exact ((okErr_iff p).1 hok).2.1
    have IH := Lib.hid (walkS_any n c B A p hl hok k)
    have HOK := Lib.hid hok
    have hL := Lib.hid hl
    have hR := Lib.hid hr
    have HG := Lib.hid (GrowO.refl ho)
    have hV := Lib.hid hvb
    have hne : ∀ g, (Value.slice Av ys.length cv).ownBlock = some g → g < w.heap.size := fun g hg => (ho.lt g hg).2
    have HN := Lib.hid hne
    obtain ⟨m, hm⟩ : ∃ m, ys.length = m := ⟨_, rfl⟩
    have HM := Lib.hid hm
    obtain ⟨hb, hhb⟩ : ∃ hb, (Value.slice Av ys.length cv).ownBlock = hb := ⟨_, rfl⟩
    have HHB := Lib.hid hhb
    rw [hhb] at HG
    rw [hhb]
    obtain ⟨i0, hi, hz0, hz1, hz2⟩ := info_parts info3
    obtain ⟨s, hsx⟩ : ∃ s, p[x0]? = some s := ⟨_, List.getElem?_eq_getElem (by rw [hl]; exact hx)⟩
    have HS := Lib.hid hsx
    by_cases h200 : m = 200
    · have hs := Lib.hid (walkP_full (e := p) (k := k) (x := x0) (hm.trans h200))
      rw [hm]
      clear hl hok hr hvb ho hne hm hhb hsx hi hz0 hz1 hz2
      subst h200
      go_enter Try.func58, Try.ntmps58
      go_wp2_with fail
      go_ret
      rw [hs.out]
      exact ⟨Av, cv, by rw [HM.out]; rfl, HG.out.alloc _⟩
    · have hs := Lib.hid (walkP_on (e := p) (k := k) (by rw [hm]; exact h200) hsx)
      have hown := own_alloc (own_alloc ho (.cells #[.slice A n c] 29)) (.cells #[.int .i64 (x0 : Int)] 3)
      rw [hm] at hown
      have HOW := Lib.hid hown
      rw [hm]
      clear hl hok hr hvb ho hne hhb hsx hown
      go_enter Try.func58, Try.ntmps58
      go_wp2_with (at_builtin; refine App.row_list _ rfl (.tmp 12) (.tmp 14) 33 rfl lo 0 3 i0 _ 1 8 Try.underlying33 hi hz0 hz1 hz2 rfl (by decide) (.slice Av m cv) m (cellsI ys) rfl HOW.out (.slice (some ⟨w.heap.size + 1, 0, none⟩) 1 1) 1 [.int .i64 (x0 : Int)] rfl (App.one_own (heap2_1 w _ _)) (by intro u hu; simp at hu; rw [hu]; rfl) (by unfold maxLen; omega) (by omega) (by simp; omega) ?_)
      intro v1 w3 o1 g1 t1
      have hG3 := ((GrowO.refl (own_alloc HG.out.own (.cells #[.slice A n c] 29))).alloc (.cells #[.int .i64 (x0 : Int)] 3)).push (z := (x0 : Int)) (v' := v1) (w' := w3) (by rw [HM.out]; exact o1) (by rw [HM.out]; exact g1) (by rw [HM.out]; simpa using t1)
      rw [HHB.out] at hG3
      obtain ⟨A3, c3, rfl⟩ := own_slice o1
      have HG3 := Lib.hid hG3
      clear o1 g1 t1 hG3
      obtain ⟨wb, hwb⟩ : ∃ wb, w.alloc (.cells #[.slice A n c] 29) = wb := ⟨_, rfl⟩
      have hGw := HG.out.alloc (.cells #[.slice A n c] 29)
      have hbx : Blk wb w.heap.size 29 #[.slice A n c] := by rw [← hwb]; exact heap1_0 _ _
      have hRb : RdE wb B A p := by rw [← hwb]; exact hR.out.below ((Below.refl _ _).alloc hB _)
      rw [hwb] at HG3 hGw
      have HGW := Lib.hid hGw
      have HBX := Lib.hid hbx
      have RB := Lib.hid hRb
      have lb := hbx.lt
      have hnb : ¬ hb = some w.heap.size := fun h => by have := HN.out _ (HHB.out.trans h); omega
      have HNB := Lib.hid hnb
      have hB1 : ∀ b, b < B → ¬ hb = some b := fun b h1 h2 => by have := hV.out b (HHB.out.trans h2); omega
      have HB1 := Lib.hid hB1
      clear hwb hGw hbx hRb hnb hB1 HOW
      obtain ⟨mp, hmp⟩ : ∃ mp, s.2.2.length = mp := ⟨_, rfl⟩
      have hm12 : mp ≤ 12 := by rw [← hmp]; exact ok_many HOK.out HS.out
      have HMP := Lib.hid hmp
      have z3 : w3.cell? ⟨w.heap.size, 0, none⟩ = some (.slice A n c) := (HBX.out.chg HG3.out.chg HNB.out).cells 0
      have hF0 : walkF p k (ys ++ [(x0 : Int)]) s.2.2 0 = ys ++ [(x0 : Int)] := rfl
      have HF0 := Lib.hid hF0
      have hlen3 : (ys ++ [(x0 : Int)]).length = m + 1 := by rw [List.length_append, HM.out]; rfl
      have hle := fun j => walkF_le p k (ys ++ [(x0 : Int)]) s.2.2 j (by rw [hlen3]; have := HM.out; omega)
      have HLE := Lib.hid hle
      have HL3 := Lib.hid hlen3
      clear hF0 hlen3 hle
      go_wp2_with fail
      go_loopw [2, 7] (fun v i wr => ∃ (j : Nat) (Ag : Option Addr) (mg cg : Nat), j ≤ mp ∧ i = .int .i64 j ∧ v = .slice Ag mg cg ∧ mg ≤ 200 ∧ Hid ((walkF p k (ys ++ [(x0 : Int)]) s.2.2 j).length = mg) ∧ GrowO wb lo hb (.slice Ag mg cg) (walkF p k (ys ++ [(x0 : Int)]) s.2.2 j) wr) (fun _ i _ => mp - (intOf i).toNat)
      case atStart => exact ⟨0, A3, m + 1, c3, Nat.zero_le _, rfl, rfl, by omega, Lib.hid (by rw [HF0.out]; exact HL3.out), by rw [HF0.out]; exact HG3.out⟩
      case round =>
        obtain ⟨j, Ag, mg, cg, hj, rfl, rfl, hmg, HMG, hG⟩ := hrel
        have G := Lib.hid hG
        have zr : wr.cell? ⟨w.heap.size, 0, none⟩ = some (.slice A n c) := (HBX.out.chg hG.chg HNB.out).cells 0
        have R3 := Lib.hid (rdE_chg RB.out hG.chg (by omega) HB1.out)
        have sz := hG.chg.size
        clear hG
        obtain ⟨ad, Ai2, ci2, rfl, _, d0, d1, d2, d3⟩ := R3.out x0 _ HS.out
        rw [HMP.out] at d2
        clear d0 d1
        by_cases hjl : j < mp
        · obtain ⟨z, hz⟩ : ∃ z, s.2.2[j]? = some z := ⟨_, List.getElem?_eq_getElem (by rw [HMP.out]; exact hjl)⟩
          obtain ⟨q, rfl, hq1, hq2⟩ := ok_part HOK.out HS.out hz
          rw [hL.out] at hq2
          obtain ⟨ad', rfl, hab', d4⟩ := d3 j _ hz
          have hN := Lib.hid (walkF_next (e := p) (k := k) (ys := ys ++ [(x0 : Int)]) hz)
          rw [Int.toNat_natCast] at hN
          have hI := IH.out q lo Ag cg (walkF p k (ys ++ [(x0 : Int)]) s.2.2 j) wr.drew (by omega) hq2 (HLE.out j) (R3.out.keep (fun _ _ => rfl)) (by show B ≤ wr.heap.size; omega) (by show lo ≤ wr.heap.size; omega) (fun b hb' => by
            rw [HMG.out] at hb'
            rcases G.out.at_ b hb' with h1 | h1
            · exact Nat.not_lt.1 (fun h2 => HB1.out b h2 h1)
            · omega) (by rw [HMG.out]; have := own_drew G.out.own; rwa [HMG.out] at this)
          rw [HMG.out] at hI
          have HI := Lib.hid hI
          clear hI hz d3
          go_wp2_with fail
          refine wp_region_still_tail 11 (by kernel_rfl) (by kernel_rfl) ?_
          simp only [List.take_succ_cons, List.take_zero, List.drop_succ_cons, List.drop_zero]
          change wpStill _ _ wr.drew _ _ _
          have zr' : wr.drew.cell? ⟨w.heap.size, 0, none⟩ = some (.slice (some ad) n c) := zr
          have d2' : wr.drew.cell? ⟨(ad.add (x0 * 3)).block, (ad.add (x0 * 3)).off + 2, none⟩ = some (.slice (some ad') mp ci2) := d2
          have d4' : wr.drew.cell? (ad'.add j) = some (.int .i64 (q : Int)) := d4
          repeat still_step
          refine wpStill_nil ?_
          change wpList _ _ _ _ _ wr.drew
          clear zr zr' d2 d2' d4 d4'
          go_wp2_with fail
          refine HI.out.mono ?_
          rintro e w4 ⟨A4, c4, rfl, hG4⟩
          have HG4 := Lib.hid (G.out.drew.trans hG4)
          rw [← hN.out] at HG4
          have h5 := Lib.hid (HLE.out (j + 1))
          obtain ⟨m4, hm4⟩ : ∃ m4, (walkF p k (ys ++ [(x0 : Int)]) s.2.2 (j + 1)).length = m4 := ⟨_, rfl⟩
          have H4 := Lib.hid hm4
          rw [← hN.out, hm4]
          rw [hm4] at HG4 h5
          clear hG4 hm4
          go_wp2_with fail
          go_roundw
          case rel => exact ⟨j + 1, A4, m4, c4, by omega, by go_num, rfl, h5.out, H4, HG4.out⟩
          case measure => simp [intOf]; omega
        · obtain rfl : j = mp := by omega
          have hN : Hid (walkP p (k + 1) ys x0 = walkF p k (ys ++ [(x0 : Int)]) s.2.2 j) := Lib.hid (by rw [hs.out, HMP.out])
          go_wp2_with fail
          go_ret
          rw [hN.out]
          refine ⟨Ag, cg, by rw [HMG.out]; rfl, ?_⟩
          rw [HMG.out]
          have := HGW.out.trans (v' := .slice Ag mg cg) (ys' := walkF p k (ys ++ [(x0 : Int)]) s.2.2 j) (w' := wr) (by rw [HHB.out]; exact G.out)
          exact this

set_option maxHeartbeats 2000000 in
theorem walI_any (lo n c : Nat) (A : Option Addr) (p : Er) (x : Int) (hn : n ≤ 2000000) (hl : p.length = n) (hsm : SmallE p 2000000) (w : World) (ho : OwnE w lo (.slice A n c) p) :
    Calls Try.prog 32 #[.agg #[.slice A n c], .int .i64 x] w (IntsR (walkR p x) w) := by
  have hF := Lib.hid (fun w hr hB => isErrorOf_any w.heap.size A n c p x (by omega) hl (hsm.mono (by omega)) w hr hB)
  have b1 : ∀ o : Obj, Below w.heap.size w (w.alloc o) := fun o => (Below.refl _ _).alloc (Nat.le_refl _) _
  have B1 := Lib.hid b1
  have hO := Lib.hid ho
  have hL := Lib.hid hl
  have hRd := Lib.hid ho.rd
  clear ho hl b1
  cases hfn : oneE p x with
  | false =>
    have hs := Lib.hid (show walkR p x = ([], false) by unfold walkR; rw [hfn]; rfl)
    rw [hfn] at hF
    clear hfn
    go_enter Try.func32, Try.ntmps32
    go_wp2_with fail
    refine (hF.out _ (hO.out.below (B1.out _)).rd (Nat.le_refl _)).mono ?_
    rintro e w1 ⟨rfl, b⟩
    have bb := Lib.hid ((B1.out (.cells #[.slice A n c] 29)).trans (b.mono (by simp)))
    go_wp2_with fail
    go_ret2
    rw [hs.out]
    exact ⟨_, 0, rfl, App.empty_own (heap1_0 w1 _) bb.out.size, bb.out.alloc bb.out.size _⟩
  | true =>
    obtain ⟨x0, sx, rfl, hxn, hxx, hok, hn12⟩ := oneE_at hfn
    have hs := Lib.hid (show walkR p x0 = (walkP p n [] x0, true) by unfold walkR; rw [hfn, Int.toNat_natCast, hL.out]; rfl)
    rw [hL.out] at hxn hn12
    rw [hfn] at hF
    have hW := Lib.hid (walkOn_any n c w.heap.size A p hL.out hok n x0)
    clear hfn hxx hok hsm
    go_enter Try.func32, Try.ntmps32
    go_wp2_with fail
    refine (hF.out _ (hO.out.below (B1.out _)).rd (Nat.le_refl _)).mono ?_
    rintro e w1 ⟨rfl, b⟩
    have z0 : w1.cell? ⟨w.heap.size, 0, none⟩ = some (.slice A n c) := (b.cell (p := ⟨w.heap.size, 0, none⟩) (by simp)).trans (by simp [go_sem])
    have l1 : w.heap.size < w1.heap.size := by have := b.size; simp at this; omega
    have bb := Lib.hid ((B1.out (.cells #[.slice A n c] 29)).trans (b.mono (by simp)))
    have z1 : ∀ o, (w1.alloc o).cell? ⟨w.heap.size, 0, none⟩ = some (.slice A n c) := fun o => (World.cell?_alloc_lt w1 o ⟨w.heap.size, 0, none⟩ l1).trans z0
    clear b
    go_wp2_with fail
    have bb2 := Lib.hid (bb.out.alloc (by omega) (.cells #[] 3))
    refine (hW.out w.heap.size (some ⟨w1.heap.size, 0, none⟩) 0 [] _ (by omega) hxn (by simp) (hRd.out.below bb2.out) bb2.out.size bb2.out.size (fun b hb => by
      have : w1.heap.size = b := by simpa [Value.ownBlock] using hb
      omega) (App.empty_own (heap1_0 w1 _) (by omega))).mono ?_
    rintro e w3 ⟨A3, c3, rfl, hG⟩
    have HG := Lib.hid hG
    clear hG z0 z1
    go_wp2_with fail
    go_ret2
    rw [hs.out]
    refine ⟨A3, c3, rfl, HG.out.own, bb2.out.trans (HG.out.chg.below bb2.out.size (fun b hb h => ?_))⟩
    have : w1.heap.size = b := by simpa [Value.ownBlock] using h
    omega

set_option maxHeartbeats 2000000 in
theorem walS_any (lo n c : Nat) (A : Option Addr) (p : Er) (x : Int) (hn : n ≤ 2000000) (hl : p.length = n) (hsm : SmallE p 2000000) (w : World) (ho : OwnE w lo (.slice A n c) p) :
    Calls Try.prog 31 #[.agg #[.slice A n c], .int .i64 x] w (IntsR (walkR p x) w) := by
  have hF := Lib.hid (fun w hr hB => l6One_any w.heap.size A n c p x (by omega) hl (hsm.mono (by omega)) w hr hB)
  have b1 : ∀ o : Obj, Below w.heap.size w (w.alloc o) := fun o => (Below.refl _ _).alloc (Nat.le_refl _) _
  have B1 := Lib.hid b1
  have hO := Lib.hid ho
  have hL := Lib.hid hl
  have hRd := Lib.hid ho.rd
  clear ho hl b1
  cases hfn : oneE p x with
  | false =>
    have hs := Lib.hid (show walkR p x = ([], false) by unfold walkR; rw [hfn]; rfl)
    rw [hfn] at hF
    clear hfn
    go_enter Try.func31, Try.ntmps31
    go_wp2_with fail
    refine (hF.out _ (hO.out.below (B1.out _)).rd (Nat.le_refl _)).mono ?_
    rintro e w1 ⟨rfl, b⟩
    have bb := Lib.hid ((B1.out (.cells #[.slice A n c] 29)).trans (b.mono (by simp)))
    go_wp2_with fail
    go_ret2
    rw [hs.out]
    exact ⟨_, 0, rfl, App.empty_own (heap1_0 w1 _) bb.out.size, bb.out.alloc bb.out.size _⟩
  | true =>
    obtain ⟨x0, sx, rfl, hxn, hxx, hok, hn12⟩ := oneE_at hfn
    have hs := Lib.hid (show walkR p x0 = (walkP p n [] x0, true) by unfold walkR; rw [hfn, Int.toNat_natCast, hL.out]; rfl)
    rw [hL.out] at hxn hn12
    rw [hfn] at hF
    have hW := Lib.hid (walkS_any n c w.heap.size A p hL.out hok n x0)
    clear hfn hxx hok hsm
    go_enter Try.func31, Try.ntmps31
    go_wp2_with fail
    refine (hF.out _ (hO.out.below (B1.out _)).rd (Nat.le_refl _)).mono ?_
    rintro e w1 ⟨rfl, b⟩
    have z0 : w1.cell? ⟨w.heap.size, 0, none⟩ = some (.slice A n c) := (b.cell (p := ⟨w.heap.size, 0, none⟩) (by simp)).trans (by simp [go_sem])
    have l1 : w.heap.size < w1.heap.size := by have := b.size; simp at this; omega
    have bb := Lib.hid ((B1.out (.cells #[.slice A n c] 29)).trans (b.mono (by simp)))
    have z1 : ∀ o, (w1.alloc o).cell? ⟨w.heap.size, 0, none⟩ = some (.slice A n c) := fun o => (World.cell?_alloc_lt w1 o ⟨w.heap.size, 0, none⟩ l1).trans z0
    clear b
    go_wp2_with fail
    have bb2 := Lib.hid (bb.out.alloc (by omega) (.cells #[] 3))
    refine (hW.out w.heap.size (some ⟨w1.heap.size, 0, none⟩) 0 [] _ (by omega) hxn (by simp) (hRd.out.below bb2.out) bb2.out.size bb2.out.size (fun b hb => by
      have : w1.heap.size = b := by simpa [Value.ownBlock] using hb
      omega) (App.empty_own (heap1_0 w1 _) (by omega))).mono ?_
    rintro e w3 ⟨A3, c3, rfl, hG⟩
    have HG := Lib.hid hG
    clear hG z0 z1
    go_wp2_with fail
    go_ret2
    rw [hs.out]
    refine ⟨A3, c3, rfl, HG.out.own, bb2.out.trans (HG.out.chg.below bb2.out.size (fun b hb h => ?_))⟩
    have : w1.heap.size = b := by simpa [Value.ownBlock] using h
    omega
end Go.Proofs.Ytkjgibhckcdneaa.ErWk
