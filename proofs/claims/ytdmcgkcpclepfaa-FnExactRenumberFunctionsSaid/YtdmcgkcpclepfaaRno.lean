import Derived.Test.YtdmcgkcpclepfaaRnp
import Derived.Test.YtdmcgkcpclepfaaNus
import Derived.Test.YtdmcgkcpclepfaaDropI
import Derived.BigQuiet
set_option linter.all false
namespace Go.Proofs.Ytdmcgkcpclepfaa.Rno
open Lib (hid)
open Go.ChangeShapes Go.WideShapes Go.ChangeAt Go.RowKit
open PL Mem Srun Sst To StpS MarkP OwnS Res Prg PrgS IntsP SlotP DeferP DropI CalP ReaP SetM SortP Nup Nus Krp Rnp
theorem rdI_take {w : World} {B : Nat} {A : Option Addr} {xs : List Int} (h : RdI w B A xs) (k : Nat) : RdI w B A (xs.take k) := fun j z hz => h j z (by
 rw [List.getElem?_take] at hz
 split at hz
 ·exact hz
 ·cases hz)
theorem eqN (N n : Nat) : ((N : Int) == (n : Int)) = decide (N = n) := by rw [Bool.eq_iff_iff]; simp; omega
set_option maxHeartbeats 8000000 in
set_option maxRecDepth 100000 in
theorem order_any (n N c : Nat) (A : Option Addr) (xs : List Int) (hn : n ≤ 6) (hl : xs.length = N) (hN : N ≤ 2000000) (hc : N ≤ c) (hc2 : c ≤ 9223372036854775807) (w : World) (hr : RdI w w.heap.size A xs) :
  Calls Try.prog 76 #[.slice A N c, .int .i64 n] w fun e w' => e = .returned (.bool (ordB xs n)) ∧ Below w.heap.size w w' := by
 have HL := hid hl
 have HR := hid (fun (V : World) (b : Below w.heap.size w V) => (show RdI V w.heap.size A xs from hr.below b))
 have HNO := hid (fun k (h : ordU xs n k = false) (hk : k ≤ N) => ordB_no h (by rw [hl]; exact hk))
 have HEQ := hid (fun (h : ordU xs n N = true) => (show ordB xs n = decide (N = n) from by unfold ordB; rw [hl, h, Bool.true_and]))
 have HIF := hid (fun k (hk : k ≤ N) => ordU_iff (xs := xs) (n := n) k (by rw [hl]; exact hk))
 clear hr hl
 go_enter Try.func76, Try.ntmps76
 go_wp2_with fail
 go_loopw [5] (fun i wr => ∃ k : Nat, k ≤ N ∧ i = .int .i64 k ∧ ordU xs n k = true ∧ Below w.heap.size w wr) (fun i _ => N - (intOf i).toNat)
 case atStart => exact ⟨0, Nat.zero_le _, rfl, rfl, Below.refl _ _⟩
 case round =>
  obtain ⟨k, hk, rfl, ho, hb⟩ := hrel
  have HO := hid ho
  have HB := hid hb
  have hk6 : k ≤ 6 := by
   obtain ⟨h1, h2⟩ := (HIF.out k hk).1 ho
   have h3 := nodup_len h1 h2
   rw [List.length_take, HL.out] at h3
   omega
  by_cases hkN : k < N
  ·obtain ⟨x, hx⟩ : ∃ x, xs[k]? = some x := ⟨_, List.getElem?_eq_getElem (by rw [HL.out]; exact hkN)⟩
   obtain ⟨ad, rfl, hab, h0⟩ := (HR.out wr hb) k x hx
   have HX := hid (ordU_next (n := n) hx)
   have hin : ∀ W, Calls Try.prog 103 #[.int .i64 x, .int .i64 0, .int .i64 ((n : Int) - 1)] W fun e w' => e = .returned (.bool (btw x 0 ((n : Int) - 1))) ∧ w' = W := fun W => (l1In_any x 0 ((n : Int) - 1) W).mono fun e w' h => ⟨h.1, h.2.symm⟩
   have hhas : ∀ W, Below wr.heap.size wr W → Calls Try.prog 82 #[.slice (some ad) k c, .int .i64 x] W fun e w' => e = .returned (.bool ((xs.take k).contains x)) ∧ w' = W := fun W b => (has_any w.heap.size (some ad) k c (xs.take k) x (by omega) (by rw [List.length_take, HL.out]; omega) W (rdI_take (HR.out W (hb.trans (b.mono hb.size))) k)).mono fun e w' h => ⟨h.1, h.2.symm⟩
   clear hx ho hb
   cases hbt : btw x 0 ((n : Int) - 1) with
   | false =>
    rw [hbt] at hin
    have HF := hid (HNO.out (k + 1) (by rw [HX.out]; unfold btw at hbt; simp at hbt; simp; intro _ h1 h2; have := hbt h1; omega) (by omega))
    clear hbt hhas
    go_wp2_with fail
    go_quiet (first | (go_at_call 103; exact Calls.quiet_of_same (hin _)))
    have BQ := hid (HB.out.trans ((below_drewN (Below.refl wr.heap.size wr) nq).mono HB.out.size))
    clear hin h0
    generalize wr.drewN nq = wq at *
    go_wp2_with fail
    go_ret
    exact ⟨by rw [HF.out] <;> rfl, BQ.out⟩
   | true =>
    rw [hbt] at hin
    have hrg : 0 ≤ x ∧ x < n := by unfold btw at hbt; simp at hbt; omega
    rw [decide_eq_true hrg, HO.out] at HX
    clear hbt
    cases hct : (xs.take k).contains x with
    | true =>
     rw [hct] at hhas HX
     have HF := hid (HNO.out (k + 1) (by rw [HX.out]; rfl) (by omega))
     clear hct
     go_wp2_with fail
     go_quiet (first | (go_at_call 103; exact Calls.quiet_of_same (hin _)) | (go_at_call 82; exact Calls.quiet_of_same (hhas _ (below_drewN (Below.refl _ _) _))))
     have BQ := hid (HB.out.trans ((below_drewN (Below.refl wr.heap.size wr) nq).mono HB.out.size))
     clear hin h0 hhas
     generalize wr.drewN nq = wq at *
     go_wp2_with fail
     go_ret
     exact ⟨by rw [HF.out] <;> rfl, BQ.out⟩
    | false =>
     rw [hct] at hhas HX
     clear hct
     go_wp2_with fail
     go_quiet (first | (go_at_call 103; exact Calls.quiet_of_same (hin _)) | (go_at_call 82; exact Calls.quiet_of_same (hhas _ (below_drewN (Below.refl _ _) _))))
     have BQ := hid (HB.out.trans ((below_drewN (Below.refl wr.heap.size wr) nq).mono HB.out.size))
     clear hin h0 hhas
     generalize wr.drewN nq = wq at *
     go_wp2_with fail
     go_roundw
     case rel => exact ⟨k + 1, by omega, by go_num, by rw [HX.out]; rfl, BQ.out⟩
     case measure => simp [intOf]; omega
  ·obtain rfl : k = N := by omega
   have HE := hid (HEQ.out ho)
   clear ho hb
   go_wp2_with fail
   go_ret
   exact ⟨by rw [HE.out, ← eqN] <;> rfl, HB.out⟩
set_option maxHeartbeats 8000000 in
set_option maxRecDepth 100000 in
theorem renS_any (lo n c N ct : Nat) (A At : Option Addr) (p : Pg) (tn : List Int) (hn : n ≤ 2000000) (hl : p.length = n) (hsm : Small p 2000000) (hto : tn.length = N) (hN : N ≤ 2000000) (hct : N ≤ ct) (hct2 : ct ≤ 9223372036854775807) (w : World) (ho : OwnP w lo (.slice A n c) p) (hrt : RdI w w.heap.size At tn) :
  Calls Try.prog 33 #[.agg #[.slice A n c], .slice At N ct] w (ProgR (renR p tn) w) := by
 have hF := hid (fun w hr hB => l2Program_any w.heap.size A n c p (by omega) hl (hsm.mono (by omega)) w hr hB)
 have hO := hid ho
 have HRT := hid (fun (V : World) (b : Below w.heap.size w V) => (show RdI V w.heap.size At tn from hrt.below b))
 clear ho hrt
 cases hok : okProg p with
 | false =>
  have hs := hid (renR_no (p := p) (tn := tn) (by rw [hok]; rfl))
  rw [hok] at hF
  clear hok hl hsm hto
  go_enter Try.func33, Try.ntmps33
  go_wp2_with fail
  refine (hF.out _ (hO.out.below (two_below n c A w)).rd (Nat.le_refl _)).mono ?_
  rintro e w1 ⟨rfl, b1⟩
  obtain ⟨d0, d1, bb1, s1⟩ := two_facts b1
  have z0 : w1.cell? ⟨w.heap.size, 0, none⟩ = some (.slice A n c) := d0.cells 0
  have z1 : w1.cell? ⟨w.heap.size + 1, 0, none⟩ = some (.slice none 0 0) := d1.cells 0
  have f1 := d1.frozen 0
  clear d0 d1 b1
  go_wp2_with fail
  exact bodyPost_ret (v := .tuple #[.agg #[.slice none 0 0], .bool false]) (by simp [results, Try.results33, go_sem, z1]) rfl (by rw [hs.out]; exact ⟨none, 0, rfl, own_nil _ _, bb1.setCell (by show w.heap.size ≤ w.heap.size + 1; omega) _⟩)
 | true =>
  rw [hok] at hF
  obtain ⟨hn1, hn6, hsm8⟩ := okProg_parts hok
  rw [hl] at hn1 hn6
  have HOR := hid (fun (V : World) (b : Below w.heap.size w V) => order_any n N ct At tn hn6 hto hN hct hct2 V ((HRT.out V b).more b.size))
  cases hor : ordB tn n with
  | false =>
   have hs := hid (renR_no (p := p) (tn := tn) (by rw [hok, hl, hor]; rfl))
   rw [hor] at HOR
   clear hok hl hsm hto hor hn1 hn6 hsm8
   go_enter Try.func33, Try.ntmps33
   go_wp2_with fail
   refine (hF.out _ (hO.out.below (two_below n c A w)).rd (Nat.le_refl _)).mono ?_
   rintro e w1 ⟨rfl, b1⟩
   obtain ⟨d0, d1, bb1, s1⟩ := two_facts b1
   have z0 : w1.cell? ⟨w.heap.size, 0, none⟩ = some (.slice A n c) := d0.cells 0
   clear b1 d0
   go_wp2_with fail
   refine (HOR.out _ bb1).mono ?_
   rintro e w3 ⟨rfl, b3⟩
   have e1 := d1.below b3 d1.lt
   have z1 : w3.cell? ⟨w.heap.size + 1, 0, none⟩ = some (.slice none 0 0) := e1.cells 0
   have f1 := e1.frozen 0
   have bb3 : Below w.heap.size w w3 := bb1.trans (b3.mono bb1.size)
   clear d1 e1 b3 z0
   go_wp2_with fail
   exact bodyPost_ret (v := .tuple #[.agg #[.slice none 0 0], .bool false]) (by simp [results, Try.results33, go_sem, z1]) rfl (by rw [hs.out]; exact ⟨none, 0, rfl, own_nil _ _, bb3.setCell (by show w.heap.size ≤ w.heap.size + 1; omega) _⟩)
  | true =>
   have hs := hid (renR_yes hok hl hor)
   obtain ⟨ho1, ho2, ho3⟩ := ordB_iff.1 hor
   obtain rfl : N = n := by omega
   have HMY := many_ord hor
   have HNU := hid (fun (V : World) (b : Below w.heap.size w V) => l9Numbered_any N c ct N A At p tn hok hl hto HMY hn6 (fun i t h => by have := ho3 t (List.mem_of_getElem? h); omega) V ((hO.out.below b).rd) ((HRT.out V b).more b.size))
   have HLN := hid (numU_len p tn N N)
   rw [hor] at HOR
   clear hok hl hsm hto hor hn1 hn6 hsm8 ho1 ho2 ho3 HMY
   go_enter Try.func33, Try.ntmps33
   go_wp2_with fail
   refine (hF.out _ (hO.out.below (two_below N c A w)).rd (Nat.le_refl _)).mono ?_
   rintro e w1 ⟨rfl, b1⟩
   obtain ⟨d0, d1, bb1, s1⟩ := two_facts b1
   have z0 : w1.cell? ⟨w.heap.size, 0, none⟩ = some (.slice A N c) := d0.cells 0
   clear b1
   go_wp2_with fail
   refine (HOR.out _ bb1).mono ?_
   rintro e w3 ⟨rfl, b3⟩
   have e1 := d1.below b3 d1.lt
   have z0 : w3.cell? ⟨w.heap.size, 0, none⟩ = some (.slice A N c) := (d0.below b3 d0.lt).cells 0
   have bb3 : Below w.heap.size w w3 := bb1.trans (b3.mono bb1.size)
   clear d1 d0 b3 bb1
   go_wp2_with fail
   refine (HNU.out _ bb3).mono ?_
   rintro e w4 ⟨A9, c9, rfl, o9, b9⟩
   have e2 := e1.below b9 e1.lt
   have z1 : w4.cell? ⟨w.heap.size + 1, 0, none⟩ = some (.slice none 0 0) := e2.cells 0
   have f1 := e2.frozen 0
   have l1 := e1.lt
   have B4 := hid (bb3.trans (b9.mono bb3.size))
   have O9 := hid o9
   clear e1 e2 o9 b9 z0 bb3
   go_wp2_with fail
   refine bodyPost_ret (v := .tuple #[.agg #[.slice A9 N c9], .bool true]) (by simp [results, Try.results33, go_sem, z1]) rfl ?_
   rw [hs.out]
   refine ⟨A9, c9, by rw [HLN.out], ?_, B4.out.setCell (p := ⟨w.heap.size + 1, 0, none⟩) (by show w.heap.size ≤ w.heap.size + 1; omega) _⟩
   rw [HLN.out]
   exact (O9.out.chg (Chg.set w4 ⟨w.heap.size + 1, 0, none⟩ _) (fun x hx _ he => by have h9 : x = w.heap.size + 1 := he; omega)).mono (by omega)
end Go.Proofs.Ytdmcgkcpclepfaa.Rno
-- squeezed
