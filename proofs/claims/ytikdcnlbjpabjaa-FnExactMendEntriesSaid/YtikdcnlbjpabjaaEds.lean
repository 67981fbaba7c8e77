/- spec.MendEntries. -/
import Derived.Test.YtikdcnlbjpabjaaEdp
namespace Go.Proofs.Ytikdcnlbjpabjaa.EdM
set_option linter.unusedVariables false
set_option linter.unusedSimpArgs false
open Go.ChangeShapes Go.WideShapes Go.ChangeAt Go.RowKit
open Mem IntsP LiP EntP GrwP EntS EdP

theorem contains_fault {xs : List Int} {n k : Nat} (hl : xs.length = n) (hk : k < n) {x : Int} (hx : xs[k]? = some x) : (faultsK xs n).contains (k : Int) = fltB (keptS xs k).1 x := by
  rw [keptS_flt (by omega)]
  have e : xs.getD k 0 = x := by simp [hx]
  cases hf : fltB (openK xs k) x with
  | true =>
    simp only [List.contains_iff_mem]
    unfold faultsK
    rw [List.mem_map]
    exact ⟨k, by rw [List.mem_filter, List.mem_range]; exact ⟨hk, by rw [e]; exact hf⟩, rfl⟩
  | false =>
    rw [← Bool.not_eq_true, List.contains_iff_mem]
    intro hm
    unfold faultsK at hm
    rw [List.mem_map] at hm
    obtain ⟨i, hi, hik⟩ := hm
    have : i = k := by omega
    subst this
    rw [List.mem_filter, e, hf] at hi
    exact absurd hi.2 (by decide)
theorem keptS_good {xs : List Int} {n : Nat} (hl : xs.length = n) (hg : goodK xs n) : ∀ {k : Nat}, k ≤ n → ∀ y ∈ (keptS xs k).2, inN y
  | 0, _ => by intro y hy; simp [keptS] at hy
  | k + 1, hk => by
    intro y hy
    obtain ⟨x, hx⟩ : ∃ x, xs[k]? = some x := ⟨_, List.getElem?_eq_getElem (by omega)⟩
    rw [keptS_succ hx] at hy
    unfold kst at hy
    split at hy
    · exact keptS_good hl hg (by omega) y hy
    · rcases List.mem_append.1 hy with hy | hy
      · exact keptS_good hl hg (by omega) y hy
      · rw [List.mem_singleton] at hy; subst hy; exact hg k _ (by omega) hx
theorem grow_len {w2 wr : World} {lo h0 m c : Nat} {A : Option Addr} {ys : List Int} (h : Grow w2 lo h0 (.slice A m c) ys wr) : ys.length = m := by
  rcases h.own.2 with ⟨h1, h2⟩ | ⟨_, _, _, h1, _⟩
  · simp only [Value.slice.injEq] at h1; omega
  · simp only [Value.slice.injEq] at h1; omega
/-- The list K, and behind it the last of o's numbers from j on, each with its sign turned, the last one first. -/
def mendK (K o : List Int) (j : Nat) : List Int := K ++ ((o.drop j).reverse.map (fun n => -n))
theorem mendK_all (K o : List Int) : mendK K o o.length = K := by simp [mendK]
theorem mendK_zero (K o : List Int) : mendK K o 0 = K ++ (o.reverse.map (fun n => -n)) := by simp [mendK]
theorem mendK_step {K o : List Int} {j : Nat} {y : Int} (h : o[j]? = some y) : mendK K o j = mendK K o (j + 1) ++ [-y] := by
  have hj : j < o.length := (List.getElem?_eq_some_iff.1 h).1
  have e : o.drop j = y :: o.drop (j + 1) := by
    rw [List.drop_eq_getElem_cons hj]
    congr 1
    rw [List.getElem?_eq_getElem hj] at h
    exact Option.some.inj h
  unfold mendK
  rw [e, List.reverse_cons, List.map_append, List.append_assoc]
  rfl
theorem mendK_len (K o : List Int) (j : Nat) : (mendK K o j).length = K.length + (o.length - j) := by simp [mendK]
set_option maxRecDepth 100000 in
set_option maxHeartbeats 4000000 in
theorem mendS_any (n : Nat) (ad : Addr) (xs : List Int) (hx : FitL xs) (hl : xs.length = n) (hn : n ≤ 2000000) (w : World) (hr : RdI w w.heap.size (some ad) xs) :
    Calls Try.prog 22 #[.slice (some ad) n n] w (IntsR (mendR xs) w) := by
  have HL := Lib.hid hl
  have HR := Lib.hid hr
  have HF := Lib.hid (goodS_any w.heap.size (some ad) n n xs hn hl w hr)
  obtain ⟨i0, hi, hz0, hz1, hz2⟩ := info_parts info3
  cases hgd : goodL xs with
  | false =>
    have hs := Lib.hid (mendR_no hgd)
    rw [hgd] at HF
    clear hgd hl hr hx
    go_enter Try.func22, Try.ntmps22
    go_wp2_with fail
    refine HF.out.mono ?_
    rintro e w1 ⟨rfl, rfl⟩
    go_wp2_with fail
    go_ret2
    rw [hs.out]
    exact ⟨_, _, rfl, App.empty_own (heap1_0 w _) (Nat.le_refl _), (Below.refl _ _).alloc (Nat.le_refl _) _⟩
  | true =>
    have hyes := Lib.hid (fun h => mendR_yes hgd h)
    have hno := Lib.hid (fun h => mendR_long (xs := xs) h)
    obtain ⟨h60, hgk⟩ := (goodL_iff xs).1 hgd
    rw [hl] at hgk h60
    have HGK := Lib.hid hgk
    have hmf := Lib.hid (show mendL xs = mendK (keptS xs n).2 (openL (keptS xs n).2) 0 by rw [mendK_zero]; unfold mendL; rw [hl])
    rw [hgd] at HF
    clear hgd hl hr hx hgk
    go_enter Try.func22, Try.ntmps22
    go_wp2_with fail
    refine HF.out.mono ?_
    rintro e w0 ⟨rfl, rfl⟩
    go_wp2_with fail
    obtain ⟨h0, hh0⟩ : ∃ h0, w.heap.size = h0 := ⟨_, rfl⟩
    obtain ⟨w1, hw1⟩ : ∃ w1, w.alloc (.cells #[] 3) = w1 := ⟨_, rfl⟩
    have hb1 : w1.heap[w.heap.size]? = some (.cells #[] 3) := by rw [← hw1]; exact heap1_0 w _
    have B1 := Lib.hid (show Below w.heap.size w w1 by rw [← hw1]; exact (Below.refl _ _).alloc (Nat.le_refl _) _)
    have s1 : h0 < w1.heap.size := by rw [← hw1, ← hh0]; simp
    have HRead := Lib.hid (read_any w.heap.size (some ad) n n xs (by omega) HL.out HGK.out w1 (HR.out.below B1.out) B1.out.size)
    rw [hw1]
    clear hw1
    refine HRead.out.mono ?_
    rintro e w2 ⟨A2, c2, A3, c3, rfl, hT⟩
    have HB2 := Lib.hid (B1.out.trans (hT.b.mono B1.out.size))
    have hb2 : w2.heap[h0]? = some (.cells #[] 3) := by rw [← hh0]; exact (hT.b.block _ (by omega)).trans hb1
    have HG0 := Lib.hid (show Grow w2 h0 h0 (.slice (some ⟨h0, 0, none⟩) 0 0) (keptS xs 0).2 w2 from ⟨App.empty_own hb2 (Nat.le_refl _), fun k hk => .inl (by simpa [Value.ownBlock] using hk.symm), Chg.refl _ _⟩)
    obtain ⟨q, hq⟩ : ∃ q, (faultsK xs n).length = q := ⟨_, rfl⟩
    have lf := faultsK_len xs n
    have HQ := Lib.hid hq
    have hTf := hT.f
    rw [hq] at hTf lf ⊢
    have HFa := Lib.hid hTf
    have hnef := Lib.hid (fun k (hk : (Value.slice A3 q c3).ownBlock = some k) => (show k ≠ h0 by have := (own_lt HFa.out hk).1; omega))
    have s2 : h0 < w2.heap.size := (Array.getElem?_eq_some_iff.1 hb2).1
    have HRw2 := Lib.hid (HR.out.below HB2.out)
    have HH0 := Lib.hid hh0
    rw [hh0] at HRw2 HB2 ⊢
    clear hT hq hTf hb1 hb2 HRead B1 HF HR hh0
    go_wp2_with fail
    go_loopw [4, 7] (fun v i wr => ∃ (k m : Nat) (A : Option Addr) (c : Nat), k ≤ n ∧ i = .int .i64 k ∧ v = .slice A m c ∧ m ≤ k ∧ Grow w2 h0 h0 (.slice A m c) (keptS xs k).2 wr) (fun _ i _ => n - (intOf i).toNat)
    case atStart => exact ⟨0, 0, _, _, Nat.zero_le _, rfl, rfl, Nat.le_refl _, HG0.out⟩
    case round =>
      obtain ⟨k, m, A, c, hk, rfl, rfl, hmk, hG⟩ := hrel
      have G := Lib.hid hG
      have HM := Lib.hid (grow_len hG)
      have szr := hG.chg.size
      have HRr := Lib.hid (HRw2.out.keep (fun p hp => hG.chg.cell (by omega) (by omega)))
      have HRf := Lib.hid (rdI_own (own_chg HFa.out hG.chg (fun k' hk' hc => hnef.out k' hk' hc)))
      clear hG
      by_cases hlt : k < n
      · obtain ⟨z, hz⟩ : ∃ z, xs[k]? = some z := ⟨_, List.getElem?_eq_getElem (by rw [HL.out]; exact hlt)⟩
        have HZ := Lib.hid hz
        obtain ⟨ad', had, hab, h0'⟩ := HRr.out k z hz
        obtain rfl : ad = ad' := by simpa using had
        have HH := has_any wr.heap.size A3 q c3 (faultsK xs n) (k : Int) (by omega) HQ.out wr HRf.out
        rw [contains_fault HL.out hlt hz] at HH
        clear hz had
        cases hf : fltB (keptS xs k).1 z with
        | true =>
          rw [hf] at HH
          have HHh := Lib.hid HH
          have hN := Lib.hid (show (keptS xs (k + 1)).2 = (keptS xs k).2 by rw [keptS_succ HZ.out, kst_no hf])
          clear HH hf
          go_wp2_with fail
          refine HHh.out.mono ?_
          rintro e w3 ⟨rfl, rfl⟩
          clear HHh
          go_wp2_with fail
          go_roundw
          case rel => exact ⟨k + 1, m, _, _, by omega, by go_num, rfl, by omega, by rw [hN.out]; exact G.out⟩
          case measure => simp [intOf]; omega
        | false =>
          rw [hf] at HH
          have HHh := Lib.hid HH
          have hN := Lib.hid (show (keptS xs (k + 1)).2 = (keptS xs k).2 ++ [z] by rw [keptS_succ HZ.out, kst_yes hf])
          have hown : wr.ownsRow h0 3 1 (.slice A m c) m (cellsI (keptS xs k).2) := by have := G.out.own; rwa [HM.out] at this
          have HOW := Lib.hid hown
          clear HH hf hown
          go_wp2_with fail
          refine HHh.out.mono ?_
          rintro e w3 ⟨rfl, rfl⟩
          clear HHh
          go_wp2_with (first
            | (at_builtin; refine App.row_list _ rfl (.tmp 31) (.tmp 36) 22 rfl h0 0 3 i0 _ 1 8 Try.underlying22 hi hz0 hz1 hz2 rfl (by decide) (.slice A m c) m (cellsI (keptS xs k).2) rfl (own_alloc HOW.out _) (.slice (some ⟨wr.heap.size, 0, none⟩) 1 1) 1 [.int .i64 z] rfl (App.one_own (heap1_0 wr _)) (by intro u hu; simp at hu; rw [hu]; rfl) (by unfold maxLen; omega) (by omega) (by simp; omega) ?_)
            | go_in)
          intro v1 w4 o1 g1 t1
          have hp := G.out.push (z := z) (v' := v1) (w' := w4) (.cells #[.int .i64 z] 3) rfl (by rw [HM.out]; exact o1) g1 (by simpa using t1)
          rw [← hN.out] at hp
          have HP := Lib.hid hp
          obtain ⟨A1, c1', rfl⟩ := own_slice o1
          clear o1 g1 t1 hp
          go_wp2_with fail
          go_roundw
          case rel => exact ⟨k + 1, m + 1, _, _, by omega, by go_num, rfl, by omega, HP.out⟩
          case measure => simp [intOf]; omega
      · obtain rfl : k = n := by omega
        obtain ⟨K, hK⟩ : ∃ K, (keptS xs k).2 = K := ⟨_, rfl⟩
        have hKg := keptS_good HL.out HGK.out (Nat.le_refl k)
        rw [hK] at hKg hmf G HM
        have HBr := Lib.hid (HB2.out.trans (G.out.chg.below (by omega) (fun b hb => by omega)))
        have hown : wr.ownsRow h0 3 1 (.slice A m c) m (cellsI K) := by have := G.out.own; rwa [HM.out] at this
        have HRead2 := Lib.hid (read_any wr.heap.size A m c K (by omega) HM.out (fun j z hj hz => hKg z (List.mem_of_getElem? hz)) wr (rdI_own hown) (Nat.le_refl _))
        have HOW := Lib.hid hown
        have hop : openK K m = openL K := by rw [← HM.out]; exact openK_all K
        rw [hop] at HRead2
        have hol := openL_len K
        rw [HM.out] at hol
        obtain ⟨o, ho⟩ : ∃ o, openL K = o := ⟨_, rfl⟩
        have hoin := openK_pos (l := K) (k := m) (fun j z hj hz => hKg z (List.mem_of_getElem? hz)) (by rw [HM.out]; exact Nat.le_refl _)
        rw [hop] at hoin
        rw [ho] at HRead2 hol hmf hoin
        clear hK hKg hown hop ho HRr HRf
        go_wp2_with fail
        refine HRead2.out.mono ?_
        rintro e w5 ⟨A5, c5, A6, c6, rfl, hT⟩
        have HB5 := Lib.hid (HBr.out.trans (hT.b.mono (by have := HBr.out.size; omega)))
        have hO5 := own_below HOW.out hT.b (Nat.le_refl _)
        have hh1 : ∃ h1, (h0 ≤ h1 ∧ h1 < wr.heap.size) ∧ ∀ k', (Value.slice A m c).ownBlock = some k' → k' = h1 := by
          cases hob : (Value.slice A m c).ownBlock with
          | none => exact ⟨h0, ⟨Nat.le_refl _, by omega⟩, fun k' hk' => by cases hk'⟩
          | some kk => exact ⟨kk, own_lt HOW.out hob, fun k' hk' => by injection hk' with hk'; exact hk'.symm⟩
        obtain ⟨h1, ⟨hh01, hh1⟩, hh1'⟩ := hh1
        obtain ⟨d, hd⟩ : ∃ d, o.length = d := ⟨_, rfl⟩
        have HDd := Lib.hid hd
        have hTo := hT.o
        rw [hd] at hTo hol ⊢
        have HTo := Lib.hid hTo
        have HNo := Lib.hid (fun k' (hk' : (Value.slice A5 d c5).ownBlock = some k') => (show k' ≠ h1 by have := (own_lt HTo.out hk').1; omega))
        have HG5 := Lib.hid (show Grow w5 h0 h1 (.slice A m c) (mendK K o d) w5 from ⟨by rw [← HDd.out, mendK_all, HM.out]; exact hO5, fun k' hk' => .inl (hh1' k' hk'), Chg.refl _ _⟩)
        have s5 := hT.b.size
        have HIN := Lib.hid hoin
        have hlo1 : h0 ≤ w5.heap.size := by omega
        clear hT hO5 hd hTo hh1' HRead2 HOW hoin
        go_wp2_with fail
        go_loopw [4, 10] (fun v i wq => ∃ (j m' : Nat) (i1 : Int) (A' : Option Addr) (c' : Nat), j ≤ d ∧ i1 = (j : Int) - 1 ∧ i = .int .i64 i1 ∧ v = .slice A' m' c' ∧ m' = m + (d - j) ∧ Grow w5 h0 h1 (.slice A' m' c') (mendK K o j) wq) (fun _ i _ => (intOf i + 1).toNat)
        case atStart => exact ⟨d, m, _, _, _, Nat.le_refl _, rfl, rfl, rfl, by omega, HG5.out⟩
        case round =>
          obtain ⟨j, m', i1, A', c', hj, hi1, rfl, rfl, hm', hGj⟩ := hrel
          have Gj := Lib.hid hGj
          have HMj := Lib.hid (grow_len hGj)
          have szq := hGj.chg.size
          have Hm' := Lib.hid hm'
          have hmle : m' ≤ 1000 := by omega
          clear hm'
          have HRo := Lib.hid (rdI_own (own_chg HTo.out hGj.chg (fun k' hk' hc => HNo.out k' hk' hc)))
          clear hGj
          cases j with
          | zero =>
            obtain rfl : i1 = -1 := by omega
            clear hi1
            have hlen := mendK_len K o 0
            have hfin : (mendL xs).length = m' := by rw [hmf.out]; exact HMj.out
            have hmm := hmf.out
            by_cases h6 : m' ≤ 60
            · have hs := Lib.hid (hyes.out (by rw [hfin]; exact h6))
              have HFn := Lib.hid hfin
              clear hfin hmm hlen
              go_wp2_with fail
              go_ret2
              rw [hs.out]
              refine ⟨A', c', by rw [HFn.out]; rfl, ?_, by rw [HH0.out]; exact HB5.out.trans (Gj.out.chg.below hlo1 (fun b hb hc => by omega))⟩
              unfold OwnI
              rw [HFn.out, hmf.out]
              have := Gj.out.own
              rw [HMj.out] at this
              exact own_mono this (by rw [HH0.out]; exact Nat.le_refl _)
            · have hs := Lib.hid (hno.out (by rw [hfin]; omega))
              clear hfin hmm hlen
              go_wp2_with fail
              go_ret2
              rw [hs.out]
              have BB : Below w.heap.size w wr := by rw [HH0.out]; exact HB5.out.trans (Gj.out.chg.below hlo1 (fun b hb hc => by omega))
              exact ⟨_, _, rfl, App.empty_own (heap1_0 wr _) BB.size, BB.alloc BB.size _⟩
          | succ j =>
            obtain rfl : i1 = (j : Int) := by omega
            clear hi1
            obtain ⟨y, hy⟩ : ∃ y, o[j]? = some y := ⟨_, List.getElem?_eq_getElem (by rw [HDd.out]; omega)⟩
            have HY := Lib.hid hy
            obtain ⟨hy1, hy2⟩ := HIN.out y (List.mem_of_getElem? hy)
            obtain ⟨a5, had5, hab5, hy0⟩ := HRo.out j y hy
            obtain rfl := had5
            have hms := Lib.hid (mendK_step (K := K) hy)
            have hown : wr.ownsRow h0 3 1 (.slice A' m' c') m' (cellsI (mendK K o (j + 1))) := by have := Gj.out.own; rwa [HMj.out] at this
            have HOW := Lib.hid hown
            clear hown hy
            go_wp2_with (first
              | (at_builtin; refine App.row_list _ rfl (.tmp 50) (.tmp 56) 22 rfl h0 0 3 i0 _ 1 8 Try.underlying22 hi hz0 hz1 hz2 rfl (by decide) (.slice A' m' c') m' (cellsI (mendK K o (j + 1))) rfl (own_alloc HOW.out _) (.slice (some ⟨wr.heap.size, 0, none⟩) 1 1) 1 [.int .i64 (-y)] rfl (App.one_own (heap1_0 wr _)) (by intro u hu; simp at hu; rw [hu]; rfl) (by unfold maxLen; omega) (by omega) (by simp; omega) ?_)
              | go_in)
            intro v1 w7 o1 g1 t1
            have hp := Gj.out.push (z := -y) (v' := v1) (w' := w7) (.cells #[.int .i64 (-y)] 3) rfl (by rw [HMj.out]; exact o1) g1 (by simpa using t1)
            rw [← hms.out] at hp
            have HP := Lib.hid hp
            obtain ⟨A1, c1', rfl⟩ := own_slice o1
            clear o1 g1 t1 hp
            go_wp2_with fail
            go_roundw
            case rel => exact ⟨j, m' + 1, _, A1, c1', by omega, rfl, by go_num, rfl, by have := Hm'.out; omega, HP.out⟩
            case measure => simp [intOf] <;> omega
end Go.Proofs.Ytikdcnlbjpabjaa.EdM
