/- keepAll: all entries are kept but faults, and what they leave open is closed by deferred calls. -/
import Derived.Test.YtikdcnlbjpabjaaEdm
import Derived.Defers
import Derived.Deep.LoopGhost
namespace Go.Proofs.Ytikdcnlbjpabjaa.EdM
set_option linter.unusedVariables false
set_option linter.unusedSimpArgs false
open Go.ChangeShapes Go.WideShapes Go.ChangeAt Go.RowKit Go.Maps
open Mem IntsP LiP EntP GrwP EntS EntL EdP

def dfr (g : Nat) (x : Int) : Deferred := { target := .fn (.func 43) #[], args := #[.pointer (some ⟨g, 0, none⟩), .int .i64 (-x)] }
theorem leaves_keep {fn : Func} {tmps : Array Value} (lo g b : Nat) (w : World) (hres : ∀ V, (results fn tmps).run Try.prog V = .ok (.tuple #[]) V) : ∀ (P : List Int) (s : List Int × List Int) (W : World), MendM lo g b s W → Below lo w W →
    (∀ n ∈ P, inN n) → s.2.length + P.length ≤ 1000 →
    Leaves Try.prog fn tmps (fun e w' => e = .returned (.tuple #[]) ∧ MendM lo g b (closeAll s P) w' ∧ Below lo w w') (P.map (dfr g)) .returning W
  | [], s, W, hm, hb, _, _ => ⟨_, hres W, rfl, hm, hb⟩
  | n :: P, s, W, hm, hb, hp, hlen => by
    have hn := hp n (List.mem_cons_self ..)
    rw [List.length_cons] at hlen
    rw [List.map_cons]
    refine leaves_cons (f := 43) (args := #[.pointer (some ⟨g, 0, none⟩), .int .i64 (-n)]) (by simp) (by simp [go_sem]) ?_
    refine (keepD_any lo g b s (-n) (by unfold inN at *; omega) (by omega) W hm .returning).mono ?_
    rintro e u' w' ⟨rfl, rfl, hm', hb'⟩
    have hl := kst_len s (-n)
    exact leaves_keep lo g b w hres P (kst s (-n)) w' hm' (hb.trans hb') (fun m hm => hp m (List.mem_cons_of_mem _ hm)) (by omega)
theorem defS_in {xs : List Int} {n : Nat} (hg : goodK xs n) (hl : xs.length = n) : ∀ {k : Nat}, k ≤ n → ∀ y ∈ defS xs k, inN y
  | 0, _ => by intro y hy; simp [defS] at hy
  | k + 1, hk => by
    intro y hy
    obtain ⟨x, hx⟩ : ∃ x, xs[k]? = some x := ⟨_, List.getElem?_eq_getElem (by omega)⟩
    have e : xs.getD k 0 = x := by simp [hx]
    unfold defS at hy
    rw [e] at hy
    split at hy
    · rcases List.mem_cons.1 hy with rfl | hy
      · exact hg k _ (by omega) hx
      · exact defS_in hg hl (by omega) y hy
    · exact defS_in hg hl (by omega) y hy
set_option maxRecDepth 100000 in
set_option maxHeartbeats 4000000 in
theorem keepAll_any (lo g b n c : Nat) (A : Option Addr) (xs : List Int) (hl : xs.length = n) (hn : n ≤ 100) (hg : goodK xs n) (w : World) (h : MendM lo g b ([], []) w) (hr : RdI w lo A xs) :
    Calls Try.prog 38 #[.pointer (some ⟨g, 0, none⟩), .slice A n c] w fun e w' => e = .returned (.tuple #[]) ∧ MendM lo g b (closeAll (keptS xs n) (defS xs n)) w' ∧ Below lo w w' := by
  have HL := Lib.hid hl
  have HR := Lib.hid hr
  have HG := Lib.hid hg
  have HM := Lib.hid h
  clear hl hr hg h
  go_enter_defers Try.func38, Try.ntmps38
  go_wp2_with fail
  refine wp_loop_ghost_k (fun nn a W => ∃ (k : Nat) (u5 u9 u10 u11 u12 u13 u14 u15 u16 u17 u18 u19 u20 u21 u22 : Value), nn = n - k ∧ k ≤ n ∧ a = { tmps := #[.pointer (some ⟨g, 0, none⟩), .slice A n c, undef, undef, undef, u5, .slice A n c, .int .i64 n, .int .i64 k, u9, u10, u11, u12, u13, u14, u15, u16, u17, u18, u19, u20, u21, u22], defers := (defS xs k).map (dfr g) } ∧ MendM lo g b (keptS xs k) W ∧ Below lo w W) n ?_ ?_
  · exact ⟨0, undef, undef, undef, undef, undef, undef, undef, undef, undef, undef, undef, undef, undef, undef, undef, by omega, Nat.zero_le _, rfl, HM.out, Below.refl _ _⟩
  · rintro nn a W ⟨k, u5, u9, u10, u11, u12, u13, u14, u15, u16, u17, u18, u19, u20, u21, u22, rfl, hk, rfl, hmm, hbb⟩ J K hJ hKj
    have HMm := Lib.hid hmm
    have HB := Lib.hid hbb
    have HJ := Lib.hid hJ
    have HK := Lib.hid hKj
    obtain ⟨ds, hds⟩ : ∃ ds, (defS xs k).map (dfr g) = ds := ⟨_, rfl⟩
    have HDS := Lib.hid hds
    rw [hds]
    have hkl := keptS_len xs k
    clear hmm hbb hJ hKj hds
    by_cases hlt : k < n
    · obtain ⟨z, hz⟩ : ∃ z, xs[k]? = some z := ⟨_, List.getElem?_eq_getElem (by rw [HL.out]; exact hlt)⟩
      obtain ⟨ad, had, hab, h0⟩ := (HR.out.below HB.out) k z hz
      obtain rfl := had
      have HZ := Lib.hid hz
      obtain ⟨z1, z2⟩ := HG.out k z hlt hz
      have HKp := Lib.hid (keep_any lo g b (keptS xs k) z ⟨z1, z2⟩ (by omega) W HMm.out)
      clear hz
      cases hf : fltB (keptS xs k).1 z with
      | true =>
        have hks := Lib.hid (keptS_succ HZ.out)
        have hdn := Lib.hid (defS_no HZ.out (show ¬ (fltB (keptS xs k).1 z = false ∧ 0 < z) by rw [hf]; rintro ⟨h, _⟩; cases h))
        unfold KeepR at HKp
        rw [hf] at HKp
        clear hf
        go_wp2_with fail
        refine HKp.out.mono ?_
        rintro e W2 ⟨rfl, hm2, b2⟩
        have HM2 := Lib.hid hm2
        have B2 := Lib.hid (HB.out.trans b2)
        clear hm2 b2 h0 HKp
        go_wp2_with fail
        have e4 : ds = (defS xs (k + 1)).map (dfr g) := by rw [hdn.out, HDS.out]
        rw [e4]
        exact HK.out _ _ ⟨n - (k + 1), by omega, HJ.out _ _ _ ⟨k + 1, _, _, _, _, _, _, _, _, _, _, _, _, _, _, _, rfl, by omega, rfl, by rw [hks.out]; exact HM2.out, B2.out⟩⟩
      | false =>
        have hks := Lib.hid (keptS_succ HZ.out)
        unfold KeepR at HKp
        rw [hf] at HKp
        by_cases hzp : 0 < z
        · have hdn := Lib.hid (defS_yes HZ.out hf hzp)
          clear hf
          go_wp2_with fail
          refine HKp.out.mono ?_
          rintro e W2 ⟨rfl, hm2, b2⟩
          have HM2 := Lib.hid hm2
          have B2 := Lib.hid (HB.out.trans b2)
          clear hm2 b2 h0 HKp
          go_wp2_with fail
          have e4 : dfr g z :: ds = (defS xs (k + 1)).map (dfr g) := by rw [hdn.out, List.map_cons, HDS.out]
          change K { tmps := _, defers := dfr g z :: ds } _
          rw [e4]
          exact HK.out _ _ ⟨n - (k + 1), by omega, HJ.out _ _ _ ⟨k + 1, _, _, _, _, _, _, _, _, _, _, _, _, _, _, _, rfl, by omega, rfl, by rw [hks.out]; exact HM2.out, B2.out⟩⟩
        · have hdn := Lib.hid (defS_no HZ.out (fun h => hzp h.2))
          clear hf
          go_wp2_with fail
          refine HKp.out.mono ?_
          rintro e W2 ⟨rfl, hm2, b2⟩
          have HM2 := Lib.hid hm2
          have B2 := Lib.hid (HB.out.trans b2)
          clear hm2 b2 h0 HKp
          go_wp2_with fail
          have e4 : ds = (defS xs (k + 1)).map (dfr g) := by rw [hdn.out, HDS.out]
          rw [e4]
          exact HK.out _ _ ⟨n - (k + 1), by omega, HJ.out _ _ _ ⟨k + 1, _, _, _, _, _, _, _, _, _, _, _, _, _, _, _, rfl, by omega, rfl, by rw [hks.out]; exact HM2.out, B2.out⟩⟩
    · obtain rfl : k = n := by omega
      have hdl := defS_len xs k
      go_wp2_with fail
      rw [← HDS.out]
      exact leaves_keep lo g b w (fun V => by simp [results, Try.results38, go_sem]) (defS xs k) (keptS xs k) W HMm.out HB.out (defS_in HG.out HL.out (Nat.le_refl _)) (by omega)
end Go.Proofs.Ytikdcnlbjpabjaa.EdM
