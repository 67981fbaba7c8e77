/- spec.SpansOf and impl.SpansOf return, for each entry that opens, its place and that of the next entry that closes. -/
import Derived.Test.YtikdcnlbjpabjaaEna
import Derived.Test.YtikdcnlbjpabjaaRa
namespace Go.Proofs.Ytikdcnlbjpabjaa.EntX
set_option linter.unusedVariables false
set_option linter.unusedSimpArgs false
open Go.ChangeShapes Go.WideShapes Go.ChangeAt Go.RowKit
open Mem IntsP LiP EntP GrwP EntS RaP

/-- The first place from j on, of f places, that holds n; or -1. -/
def nextF (xs : List Int) (n : Int) : Nat → Nat → Int
  | 0, _ => -1
  | f + 1, j => if xs[j]? = some n then (j : Int) else nextF xs n f (j + 1)
theorem nextF_hit {xs : List Int} {n : Int} {N k : Nat} (hk : k < N) (h : xs[k]? = some n) : nextF xs n (N - k) k = k := by
  rw [show N - k = (N - (k + 1)) + 1 by omega]
  show (if xs[k]? = some n then _ else _) = _
  rw [if_pos h]
theorem nextF_miss {xs : List Int} {n z : Int} {N k : Nat} (hk : k < N) (h : xs[k]? = some z) (hz : z ≠ n) : nextF xs n (N - k) k = nextF xs n (N - (k + 1)) (k + 1) := by
  rw [show N - k = (N - (k + 1)) + 1 by omega]
  show (if xs[k]? = some n then _ else _) = _
  rw [if_neg (by rw [h]; intro e; injection e with e; exact hz e)]
theorem nextF_end (xs : List Int) (n : Int) (N : Nat) : nextF xs n (N - N) N = -1 := by rw [Nat.sub_self]; rfl
theorem nextF_drop (xs : List Int) (n : Int) (p : Nat) : ∀ f j, nextF (xs.drop p) n f j = if nextF xs n f (p + j) = -1 then -1 else nextF xs n f (p + j) - p
  | 0, j => rfl
  | f + 1, j => by
    unfold nextF
    rw [List.getElem?_drop]
    by_cases h : xs[p + j]? = some n
    · rw [if_pos h, if_pos h, if_neg (by omega)]; omega
    · rw [if_neg h, if_neg h, nextF_drop xs n p f (j + 1)]; rfl
theorem nextF_in (xs : List Int) (n : Int) : ∀ f j, nextF xs n f j = -1 ∨ ((j : Int) ≤ nextF xs n f j ∧ nextF xs n f j < (j + f : Nat))
  | 0, j => .inl rfl
  | f + 1, j => by
    unfold nextF
    split
    · exact .inr ⟨by omega, by omega⟩
    · rcases nextF_in xs n f (j + 1) with h | ⟨h1, h2⟩
      · exact .inl h
      · exact .inr ⟨by omega, by omega⟩
def spanK (xs : List Int) : Nat → List Pr
  | 0 => []
  | k + 1 => if 0 < xs.getD k 0 then spanK xs k ++ [((k : Int), nextF xs (-(xs.getD k 0)) (xs.length - (k + 1)) (k + 1))] else spanK xs k
theorem spanK_len (xs : List Int) : ∀ k, (spanK xs k).length ≤ k
  | 0 => Nat.le_refl _
  | k + 1 => by
    have := spanK_len xs k
    unfold spanK
    split
    · rw [List.length_append, List.length_singleton]; omega
    · omega
theorem spanK_yes {xs : List Int} {k : Nat} {z : Int} (h : xs[k]? = some z) (hz : 0 < z) : spanK xs (k + 1) = spanK xs k ++ [((k : Int), nextF xs (-z) (xs.length - (k + 1)) (k + 1))] := by
  have e : xs.getD k 0 = z := by simp [h]
  show (if 0 < xs.getD k 0 then _ else _) = _
  rw [e, if_pos hz]
theorem spanK_no {xs : List Int} {k : Nat} {z : Int} (h : xs[k]? = some z) (hz : ¬ 0 < z) : spanK xs (k + 1) = spanK xs k := by
  have e : xs.getD k 0 = z := by simp [h]
  show (if 0 < xs.getD k 0 then _ else _) = _
  rw [e, if_neg hz]
def spansR (xs : List Int) : List Pr × Bool := if goodL xs then (spanK xs xs.length, true) else ([], false)
theorem spansR_no {xs : List Int} (h : goodL xs = false) : spansR xs = ([], false) := by unfold spansR; rw [h]; rfl
theorem spansR_yes {xs : List Int} (h : goodL xs = true) : spansR xs = (spanK xs xs.length, true) := by unfold spansR; rw [h]; rfl
theorem spans_len (xs : List Int) : (spansR xs).1.length ≤ 100000 := by
  cases h : goodL xs with
  | false => rw [spansR_no h]; simp
  | true => rw [spansR_yes h]; have := spanK_len xs xs.length; have := ((goodL_iff xs).1 h).1; show (spanK xs xs.length).length ≤ _; omega

theorem nextS_any (B : Nat) (A : Option Addr) (n c : Nat) (xs : List Int) (p : Nat) (x : Int) (hp : p < n) (hn : n ≤ 2000000) (hl : xs.length = n) (w : World) (hr : RdI w B A xs) :
    Calls Try.prog 34 #[.slice A n c, .int .i64 p, .int .i64 x] w fun e w' => e = .returned (.int .i64 (nextF xs x (n - (p + 1)) (p + 1))) ∧ w = w' := by
  have HL := Lib.hid hl
  have HR := Lib.hid hr
  obtain ⟨R, hR⟩ : ∃ R, nextF xs x (n - (p + 1)) (p + 1) = R := ⟨_, rfl⟩
  have HRR := Lib.hid hR
  rw [hR]
  clear hl hr hR
  go_enter Try.func34, Try.ntmps34
  go_wp2_with fail
  go_loopw [7] (fun i wr => ∃ k : Nat, k ≤ n ∧ i = .int .i64 k ∧ w = wr ∧ nextF xs x (n - k) k = R) (fun i _ => n - (intOf i).toNat)
  case atStart => exact ⟨p + 1, by omega, by go_num, rfl, HRR.out⟩
  case round =>
    obtain ⟨k, hk, rfl, rfl, hq⟩ := hrel
    have HQ := Lib.hid hq
    clear hq
    by_cases hkn : k < n
    · obtain ⟨z, hz⟩ : ∃ z, xs[k]? = some z := ⟨_, List.getElem?_eq_getElem (by rw [HL.out]; exact hkn)⟩
      obtain ⟨ad, rfl, hab, h0⟩ := HR.out k z hz
      have HZ := Lib.hid hz
      clear hz
      by_cases hzx : z = x
      · have HT := Lib.hid (show R = (k : Int) by rw [← HQ.out]; exact nextF_hit hkn (by rw [HZ.out, hzx]))
        have hzx' : (z == x) = true := by simp [hzx]
        clear hzx
        go_wp2
        go_ret
        exact ⟨by rw [HT.out]; rfl, rfl⟩
      · have HT := Lib.hid (show nextF xs x (n - (k + 1)) (k + 1) = R by rw [← HQ.out]; exact (nextF_miss hkn HZ.out hzx).symm)
        have hzx' : (z == x) = false := by simp [hzx]
        clear hzx
        go_wp2
        go_roundw
        case rel => exact ⟨k + 1, by omega, by go_num, by trivial, HT.out⟩
        case measure => simp [intOf]; omega
    · obtain rfl : k = n := by omega
      have HT := Lib.hid (show R = -1 from HQ.out.symm.trans (nextF_end xs x k))
      go_wp2
      go_ret
      exact ⟨by rw [HT.out]; rfl, rfl⟩
theorem index_any (B : Nat) (A : Option Addr) (n c : Nat) (xs : List Int) (x : Int) (hn : n ≤ 2000000) (hl : xs.length = n) (w : World) (hr : RdI w B A xs) :
    Calls Try.prog 35 #[.slice A n c, .int .i64 x] w fun e w' => e = .returned (.int .i64 (nextF xs x n 0)) ∧ w = w' := by
  have HL := Lib.hid hl
  have HR := Lib.hid hr
  obtain ⟨R, hR⟩ : ∃ R, nextF xs x n 0 = R := ⟨_, rfl⟩
  have HRR := Lib.hid hR
  rw [hR]
  clear hl hr hR
  go_enter Try.func35, Try.ntmps35
  go_wp2_with fail
  go_loopw [8] (fun i wr => ∃ k : Nat, k ≤ n ∧ i = .int .i64 k ∧ w = wr ∧ nextF xs x (n - k) k = R) (fun i _ => n - (intOf i).toNat)
  case atStart => exact ⟨0, by omega, rfl, rfl, HRR.out⟩
  case round =>
    obtain ⟨k, hk, rfl, rfl, hq⟩ := hrel
    have HQ := Lib.hid hq
    clear hq
    by_cases hkn : k < n
    · obtain ⟨z, hz⟩ : ∃ z, xs[k]? = some z := ⟨_, List.getElem?_eq_getElem (by rw [HL.out]; exact hkn)⟩
      obtain ⟨ad, rfl, hab, h0⟩ := HR.out k z hz
      have HZ := Lib.hid hz
      clear hz
      by_cases hzx : x = z
      · have HT := Lib.hid (show R = (k : Int) by rw [← HQ.out]; exact nextF_hit hkn (by rw [HZ.out, hzx]))
        have hzx' : (x == z) = true := by simp [hzx]
        clear hzx
        go_wp2
        go_ret
        exact ⟨by rw [HT.out]; rfl, rfl⟩
      · have HT := Lib.hid (show nextF xs x (n - (k + 1)) (k + 1) = R by rw [← HQ.out]; exact (nextF_miss hkn HZ.out (fun e => hzx e.symm)).symm)
        have hzx' : (x == z) = false := by simp [hzx]
        clear hzx
        go_wp2
        go_roundw
        case rel => exact ⟨k + 1, by omega, by go_num, by trivial, HT.out⟩
        case measure => simp [intOf]; omega
    · obtain rfl : k = n := by omega
      have HT := Lib.hid (show R = -1 from HQ.out.symm.trans (nextF_end xs x k))
      go_wp2
      go_ret
      exact ⟨by rw [HT.out]; rfl, rfl⟩
/-- A list of pairs that grows. -/
structure GrowA (w2 : World) (lo : Nat) (v : Value) (ys : List Pr) (wr : World) : Prop where
  own : OwnA wr lo v ys
  chg : Below lo w2 wr
theorem GrowA.push {w2 wr w' : World} {lo : Nat} {v v' : Value} {ys : List Pr} {a b : Int} (h : GrowA w2 lo v ys wr) (hlo : lo ≤ wr.heap.size) (o : Obj)
    (ho : w'.ownsRow lo 50 2 v' (ys.length + 1) (cells2 ys ++ [.int .i64 a, .int .i64 b])) (hg : (wr.alloc o).grownBy w' v.ownBlock) : GrowA w2 lo v' (ys ++ [(a, b)]) w' := by
  refine ⟨?_, ?_⟩
  · unfold OwnA
    rw [List.length_append, List.length_singleton, cells2_append]
    exact ho
  · have h1 : Below lo w2 (wr.alloc o) := h.chg.alloc hlo o
    refine h1.trans ((Chg.of_grown hg).below (by rw [World.size_alloc]; omega) (fun x hx hc => ?_))
    have := (World.ownsRow.lt h.own x hc.symm).1
    omega
theorem GrowA.len {w2 wr : World} {lo m c : Nat} {A : Option Addr} {ys : List Pr} (h : GrowA w2 lo (.slice A m c) ys wr) : ys.length = m := by
  rcases h.own.2 with ⟨h1, h2⟩ | ⟨_, _, _, h1, _⟩
  · simp only [Value.slice.injEq] at h1; omega
  · simp only [Value.slice.injEq] at h1; omega
set_option maxRecDepth 100000 in
set_option maxHeartbeats 2000000 in
theorem spansS_any (n : Nat) (ad : Addr) (xs : List Int) (hx : FitL xs) (hl : xs.length = n) (hn : n ≤ 2000000) (w : World) (hr : RdI w w.heap.size (some ad) xs) :
    Calls Try.prog 16 #[.slice (some ad) n n] w (PrsR (spansR xs) w) := by
  have HL := Lib.hid hl
  have HR := Lib.hid hr
  have HF := Lib.hid (fun W (b : Below w.heap.size w W) => goodS_any w.heap.size (some ad) n n xs hn hl W (hr.below b))
  obtain ⟨i0, hi, hz0, hz1, hz2⟩ := info_parts infoP2
  clear hr hx
  cases hgd : goodL xs with
  | false =>
    have hs := Lib.hid (spansR_no hgd)
    rw [hgd] at HF
    clear hgd hl
    go_enter Try.func16, Try.ntmps16
    go_wp2_with fail
    refine (HF.out _ ((Below.refl _ _).alloc (Nat.le_refl _) _)).mono ?_
    rintro e w1 ⟨rfl, rfl⟩
    go_wp2_with fail
    go_ret2
    rw [hs.out]
    exact ⟨_, _, rfl, App.empty_own (heap1_0 w _) (Nat.le_refl _), (Below.refl _ _).alloc (Nat.le_refl _) _⟩
  | true =>
    have hs := Lib.hid (spansR_yes hgd)
    obtain ⟨h60, hgk⟩ := (goodL_iff xs).1 hgd
    rw [hl] at h60 hgk
    have HGK := Lib.hid hgk
    rw [hgd] at HF
    clear hgd hl hgk
    go_enter Try.func16, Try.ntmps16
    go_wp2_with fail
    refine (HF.out _ ((Below.refl _ _).alloc (Nat.le_refl _) _)).mono ?_
    rintro e w1 ⟨rfl, hw1⟩
    have HG1 := Lib.hid (show GrowA w w.heap.size (.slice (some ⟨w.heap.size, 0, none⟩) 0 0) (spanK xs 0) w1 by
      rw [← hw1]; exact ⟨App.empty_own (heap1_0 w _) (Nat.le_refl _), (Below.refl _ _).alloc (Nat.le_refl _) _⟩)
    have s1 : w.heap.size < w1.heap.size := by rw [← hw1]; simp
    clear hw1
    go_wp2_with fail
    generalize hlo : w.heap.size = lo at *
    go_loopw [4, 5] (fun v i wr => ∃ (k m : Nat) (Ag : Option Addr) (cg : Nat), k ≤ n ∧ i = .int .i64 k ∧ v = .slice Ag m cg ∧ m ≤ k ∧ GrowA w lo (.slice Ag m cg) (spanK xs k) wr) (fun _ i _ => n - (intOf i).toNat)
    case atStart => exact ⟨0, 0, _, _, Nat.zero_le _, rfl, rfl, Nat.le_refl _, HG1.out⟩
    case round =>
      obtain ⟨k, m, Ag, cg, hk, rfl, rfl, hmk, hG⟩ := hrel
      have G := Lib.hid hG
      have HM := Lib.hid hG.len
      have szr := hG.chg.size
      have HRr := Lib.hid (HR.out.below hG.chg)
      clear hG
      by_cases hlt : k < n
      · obtain ⟨z, hz⟩ : ∃ z, xs[k]? = some z := ⟨_, List.getElem?_eq_getElem (by rw [HL.out]; exact hlt)⟩
        obtain ⟨ad', had, hab, h0⟩ := HRr.out k z hz
        obtain rfl : ad = ad' := by simpa using had
        obtain ⟨z1, z2⟩ := HGK.out k z hlt hz
        have HZ := Lib.hid hz
        clear hz had
        by_cases hzp : 0 < z
        · have hN := Lib.hid (spanK_yes HZ.out hzp)
          have ho := G.out.own
          unfold OwnA at ho
          rw [HM.out] at ho
          have HOW := Lib.hid ho
          clear ho
          have hnx := Lib.hid (nextS_any lo (some ad) n n xs k (-z) hlt (by omega) HL.out wr HRr.out)
          go_wp2_with fail
          refine hnx.out.mono ?_
          rintro e w2 ⟨rfl, rfl⟩
          clear hnx
          go_wp2_with (at_builtin; refine App.row_list _ rfl (.tmp 22) (.tmp 33) 30 rfl lo 0 50 i0 _ 2 16 Try.underlying30 hi hz0 hz1 hz2 rfl (by decide) (.slice Ag m cg) m (cells2 (spanK xs k)) rfl (own_alloc HOW.out _) (.slice (some ⟨wr.heap.size, 0, none⟩) 1 1) 1 [.int .i64 (k : Int), .int .i64 (nextF xs (-z) (n - (k + 1)) (k + 1))] rfl (App.pair_own (heap1_0 wr _)) (by intro u hu; simp at hu; rcases hu with rfl | rfl <;> rfl) (by unfold maxLen; omega) (by omega) (by simp; omega) ?_)
          intro v1 w3 o1 g1 t1
          have hp := G.out.push (a := (k : Int)) (b := nextF xs (-z) (n - (k + 1)) (k + 1)) (v' := v1) (w' := w3) (by omega) (.cells #[.int .i64 (k : Int), .int .i64 (nextF xs (-z) (n - (k + 1)) (k + 1))] 50) (by rw [HM.out]; exact o1) g1
          rw [← HL.out, ← hN.out] at hp
          have HP := Lib.hid hp
          obtain ⟨A1, c1', rfl⟩ := own_slice o1
          clear o1 g1 t1 hp
          go_wp2_with fail
          go_roundw
          case rel => exact ⟨k + 1, m + 1, _, _, by omega, by go_num, rfl, by omega, HP.out⟩
          case measure => simp [intOf]; omega
        · have hN := Lib.hid (spanK_no HZ.out hzp)
          go_wp2_with fail
          go_roundw
          case rel => exact ⟨k + 1, m, _, _, by omega, by go_num, rfl, by omega, by rw [hN.out]; exact G.out⟩
          case measure => simp [intOf]; omega
      · obtain rfl : k = n := by omega
        go_wp2_with fail
        go_ret2
        rw [hs.out, HL.out]
        refine ⟨Ag, cg, by rw [HM.out]; rfl, ?_, by rw [hlo]; exact G.out.chg⟩
        rw [HM.out, hlo]
        exact G.out.own
theorem rdI_drop {w : World} {B : Nat} {ad : Addr} {xs : List Int} (h : RdI w B (some ad) xs) (k : Nat) : RdI w B (some (ad.add k)) (xs.drop k) := fun j z hz => by
  rw [List.getElem?_drop] at hz
  obtain ⟨a, e, hb, h0⟩ := h (k + j) z hz
  obtain rfl : ad = a := by simpa using e
  exact ⟨_, rfl, by rw [block_of_add]; exact hb, by rw [Addr.add_add]; exact h0⟩
set_option maxRecDepth 100000 in
set_option maxHeartbeats 2000000 in
theorem spansI_any (n : Nat) (ad : Addr) (xs : List Int) (hx : FitL xs) (hl : xs.length = n) (hn : n ≤ 2000000) (w : World) (hr : RdI w w.heap.size (some ad) xs) :
    Calls Try.prog 17 #[.slice (some ad) n n] w (PrsR (spansR xs) w) := by
  have HL := Lib.hid hl
  have HR := Lib.hid hr
  have HF := Lib.hid (fun W (b : Below w.heap.size w W) => goodI_any w.heap.size (some ad) n n xs hn hl W (hr.below b))
  obtain ⟨i0, hi, hz0, hz1, hz2⟩ := info_parts infoP2
  clear hr hx
  cases hgd : goodL xs with
  | false =>
    have hs := Lib.hid (spansR_no hgd)
    rw [hgd] at HF
    clear hgd hl
    go_enter Try.func17, Try.ntmps17
    go_wp2_with fail
    refine (HF.out _ ((Below.refl _ _).alloc (Nat.le_refl _) _)).mono ?_
    rintro e w1 ⟨rfl, rfl⟩
    go_wp2_with fail
    go_ret2
    rw [hs.out]
    exact ⟨_, _, rfl, App.empty_own (heap1_0 w _) (Nat.le_refl _), (Below.refl _ _).alloc (Nat.le_refl _) _⟩
  | true =>
    have hs := Lib.hid (spansR_yes hgd)
    obtain ⟨h60, hgk⟩ := (goodL_iff xs).1 hgd
    rw [hl] at h60 hgk
    have HGK := Lib.hid hgk
    rw [hgd] at HF
    clear hgd hl hgk
    go_enter Try.func17, Try.ntmps17
    go_wp2_with fail
    refine (HF.out _ ((Below.refl _ _).alloc (Nat.le_refl _) _)).mono ?_
    rintro e w1 ⟨rfl, hw1⟩
    have HG1 := Lib.hid (show GrowA w w.heap.size (.slice (some ⟨w.heap.size, 0, none⟩) 0 0) (spanK xs 0) w1 by
      rw [← hw1]; exact ⟨App.empty_own (heap1_0 w _) (Nat.le_refl _), (Below.refl _ _).alloc (Nat.le_refl _) _⟩)
    have s1 : w.heap.size < w1.heap.size := by rw [← hw1]; simp
    clear hw1
    go_wp2_with fail
    generalize hlo : w.heap.size = lo at *
    go_loopw [4, 15] (fun v i wr => ∃ (k m : Nat) (Ag : Option Addr) (cg : Nat), k ≤ n ∧ i = .int .i64 k ∧ v = .slice Ag m cg ∧ m ≤ k ∧ GrowA w lo (.slice Ag m cg) (spanK xs k) wr) (fun _ i _ => n - (intOf i).toNat)
    case atStart => exact ⟨0, 0, _, _, Nat.zero_le _, rfl, rfl, Nat.le_refl _, HG1.out⟩
    case round =>
      obtain ⟨k, m, Ag, cg, hk, rfl, rfl, hmk, hG⟩ := hrel
      have G := Lib.hid hG
      have HM := Lib.hid hG.len
      have szr := hG.chg.size
      have HRr := Lib.hid (HR.out.below hG.chg)
      clear hG
      by_cases hlt : k < n
      · obtain ⟨z, hz⟩ : ∃ z, xs[k]? = some z := ⟨_, List.getElem?_eq_getElem (by rw [HL.out]; exact hlt)⟩
        obtain ⟨ad', had, hab, h0⟩ := HRr.out k z hz
        obtain rfl : ad = ad' := by simpa using had
        obtain ⟨z1, z2⟩ := HGK.out k z hlt hz
        have HZ := Lib.hid hz
        clear hz had
        by_cases hzp : 0 < z
        · have hN := Lib.hid (spanK_yes HZ.out hzp)
          have ho := G.out.own
          unfold OwnA at ho
          rw [HM.out] at ho
          have HOW := Lib.hid ho
          clear ho
          have hix := index_any lo (some (ad.add k)) (n - k) (n - k) (xs.drop k) (-z) (by omega) (by rw [List.length_drop, HL.out]) wr (rdI_drop HRr.out k)
          rw [nextF_drop, Nat.add_zero, nextF_miss hlt HZ.out (show z ≠ -z by omega)] at hix
          obtain ⟨E, hE⟩ : ∃ E, nextF xs (-z) (n - (k + 1)) (k + 1) = E := ⟨_, rfl⟩
          have hEi := nextF_in xs (-z) (n - (k + 1)) (k + 1)
          rw [hE] at hix hEi
          have HE := Lib.hid hE
          clear hE
          rcases hEi with hEi | ⟨hE1, hE2⟩
          · subst hEi
            have hN' := Lib.hid (show spanK xs (k + 1) = spanK xs k ++ [((k : Int), -1)] by rw [hN.out, HL.out, HE.out])
            rw [if_pos rfl] at hix
            have HIX := Lib.hid hix
            clear hix
            go_wp2_with fail
            refine HIX.out.mono ?_
            rintro e w2 ⟨rfl, rfl⟩
            clear HIX
            go_wp2_with (at_builtin; refine App.row_list _ rfl (.tmp 33) (.tmp 37) 30 rfl lo 0 50 i0 _ 2 16 Try.underlying30 hi hz0 hz1 hz2 rfl (by decide) (.slice Ag m cg) m (cells2 (spanK xs k)) rfl (own_alloc HOW.out _) (.slice (some ⟨wr.heap.size, 0, none⟩) 1 1) 1 [.int .i64 (k : Int), .int .i64 ((-1))] rfl (App.pair_own (heap1_0 wr _)) (by intro u hu; simp at hu; rcases hu with rfl | rfl <;> rfl) (by unfold maxLen; omega) (by omega) (by simp; omega) ?_)
            intro v1 w3 o1 g1 t1
            have hp := G.out.push (a := (k : Int)) (b := (-1)) (v' := v1) (w' := w3) (by omega) (.cells #[.int .i64 (k : Int), .int .i64 ((-1))] 50) (by rw [HM.out]; exact o1) g1
            rw [← hN'.out] at hp
            have HP := Lib.hid hp
            obtain ⟨A1, c1', rfl⟩ := own_slice o1
            clear o1 g1 t1 hp
            go_wp2_with fail
            go_roundw
            case rel => exact ⟨k + 1, m + 1, _, _, by omega, by go_num, rfl, by omega, HP.out⟩
            case measure => simp [intOf]; omega
          · have hN' := Lib.hid (show spanK xs (k + 1) = spanK xs k ++ [((k : Int), E)] by rw [hN.out, HL.out, HE.out])
            rw [if_neg (by omega)] at hix
            have HIX := Lib.hid hix
            clear hix
            go_wp2_with fail
            refine HIX.out.mono ?_
            rintro e w2 ⟨rfl, rfl⟩
            have hge : ((0 : Int) ≤ E - k) := by omega
            have hEk : E - (k : Int) + k = E := by omega
            clear HIX
            go_wp2_with (at_builtin; refine App.row_list _ rfl (.tmp 33) (.tmp 37) 30 rfl lo 0 50 i0 _ 2 16 Try.underlying30 hi hz0 hz1 hz2 rfl (by decide) (.slice Ag m cg) m (cells2 (spanK xs k)) rfl (own_alloc HOW.out _) (.slice (some ⟨wr.heap.size, 0, none⟩) 1 1) 1 [.int .i64 (k : Int), .int .i64 (E)] rfl (App.pair_own (heap1_0 wr _)) (by intro u hu; simp at hu; rcases hu with rfl | rfl <;> rfl) (by unfold maxLen; omega) (by omega) (by simp; omega) ?_)
            intro v1 w3 o1 g1 t1
            have hp := G.out.push (a := (k : Int)) (b := E) (v' := v1) (w' := w3) (by omega) (.cells #[.int .i64 (k : Int), .int .i64 (E)] 50) (by rw [HM.out]; exact o1) g1
            rw [← hN'.out] at hp
            have HP := Lib.hid hp
            obtain ⟨A1, c1', rfl⟩ := own_slice o1
            clear o1 g1 t1 hp
            go_wp2_with fail
            go_roundw
            case rel => exact ⟨k + 1, m + 1, _, _, by omega, by go_num, rfl, by omega, HP.out⟩
            case measure => simp [intOf]; omega
        · have hN := Lib.hid (spanK_no HZ.out hzp)
          go_wp2_with fail
          go_roundw
          case rel => exact ⟨k + 1, m, _, _, by omega, by go_num, rfl, by omega, by rw [hN.out]; exact G.out⟩
          case measure => simp [intOf]; omega
      · obtain rfl : k = n := by omega
        go_wp2_with fail
        go_ret2
        rw [hs.out, HL.out]
        refine ⟨Ag, cg, by rw [HM.out]; rfl, ?_, by rw [hlo]; exact G.out.chg⟩
        rw [HM.out, hlo]
        exact G.out.own
end Go.Proofs.Ytikdcnlbjpabjaa.EntX
