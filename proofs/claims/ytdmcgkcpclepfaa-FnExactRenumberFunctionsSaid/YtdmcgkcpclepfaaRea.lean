import Derived.Test.YtdmcgkcpclepfaaCal
import Derived.Test.YtdmcgkcpclepfaaReach
import Derived.Test.YtdmcgkcpclepfaaLast2
set_option linter.all false
namespace Go.Proofs.Ytdmcgkcpclepfaa.ReaP
open Last2 (tk)
open Lib (hid)
open Go.ChangeShapes Go.WideShapes Go.ChangeAt Go.RowKit
open PL Mem Sst To AskP StpS Res PrgS IntsP LawI SetM SortP CalP
def Apt (a b : Value) : Prop := ∀ k, a.ownBlock = some k → b.ownBlock ≠ some k
theorem slice_own (A : Option Addr) (n c n' c' : Nat) : (Value.slice A n c).ownBlock = (Value.slice A n' c').ownBlock := by cases A <;> rfl
theorem Apt.same {A : Option Addr} {n c n' c' : Nat} {b : Value} (h : Apt (.slice A n c) b) : Apt (.slice A n' c') b := fun k hk => h k ((slice_own A n c n' c').trans hk)
theorem apt_next {V : World} {B e sz n g m cap : Nat} {a b : Value} {xs : List Value} (h : Apt a b) (ho : V.ownsRow B e sz a n xs) (hg : b.ownBlock = some g ∨ V.heap.size < g) : Apt a (.slice (some ⟨g, 0, none⟩) m cap) := by
 intro k hk e'
 have e1 : g = k := by simpa [Value.ownBlock] using e'
 rcases hg with hg | hg
 ·exact h k hk (by rw [hg, e1])
 ·have := (World.ownsRow.lt ho k hk).2
  omega
theorem apt_new {V V' : World} {e sz n B' e' sz' n' : Nat} {a b : Value} {xs xs' : List Value} (ha : V'.ownsRow V.heap.size e sz a n xs) (hb : V.ownsRow B' e' sz' b n' xs') : Apt a b := fun k hk hk' => by
 have := (World.ownsRow.lt ha k hk).1
 have := (World.ownsRow.lt hb k hk').2
 omega
def nextP (p : Pg) (g : Int) : List Int := callsL p g.toNat
theorem okProg_step {p : Pg} (h : okProg p = true) {i : Nat} {b : List Tr} (hb : p[i]? = some b) {s : Tr} (hs : s ∈ b) : okStep p.length s = true := by
 unfold okProg at h
 rw [Bool.and_eq_true, List.all_eq_true] at h
 have h1 := h.2 b (List.mem_of_getElem? hb)
 unfold okBody at h1
 rw [Bool.and_eq_true, List.all_eq_true] at h1
 exact h1.2 s hs
theorem rawC_mem {b : List Tr} {x : Int} : ∀ j, x ∈ rawC b j → ∃ s ∈ b, (s.1 = 4 ∨ s.1 = 5) ∧ x = s.2.1
 | 0, h => by cases h
 | j + 1, h => by
  cases hs : b[j]? with
  | none => rw [rawC, hs] at h; exact rawC_mem j h
  | some s =>
   by_cases hk : s.1 = 4 ∨ s.1 = 5
   ·rw [rawC_yes hs hk] at h
    rcases List.mem_append.1 h with h | h
    ·exact rawC_mem j h
    ·exact ⟨s, List.mem_of_getElem? hs, hk, List.mem_singleton.1 h⟩
   ·rw [rawC_no hs hk] at h
    exact rawC_mem j h
theorem next_rng {p : Pg} {n : Nat} (hp : okProg p = true) (hl : p.length = n) (g : Int) : Rng n (nextP p g) := by
 intro x hx
 unfold nextP callsL at hx
 rw [setS_mem] at hx
 cases hb : p[g.toNat]? with
 | none =>
  have e : p.getD g.toNat [] = [] := by rw [List.getD_eq_getElem?_getD, hb]; rfl
  rw [e] at hx
  cases hx
 | some b =>
  have e : p.getD g.toNat [] = b := by rw [List.getD_eq_getElem?_getD, hb]; rfl
  rw [e] at hx
  obtain ⟨s, hs, hk, rfl⟩ := rawC_mem _ hx
  have h1 := okProg_step hp hb hs
  rw [hl] at h1
  unfold okStep at h1
  rcases hk with h | h <;> (simp only [h] at h1; simp at h1; exact ⟨h1.1.1, h1.1.2⟩)
theorem next_len {p : Pg} (hp : okProg p = true) (g : Int) : (nextP p g).length ≤ 8 := by
 unfold nextP callsL
 have h1 := setS_len (rawC (p.getD g.toNat []) (p.getD g.toNat []).length)
 have h2 := rawC_len (p.getD g.toNat []) (p.getD g.toNat []).length
 have h3 : (p.getD g.toNat []).length ≤ 8 := by
  rw [List.getD_eq_getElem?_getD]
  cases hb : p[g.toNat]? with
  | none => exact Nat.zero_le _
  | some b => exact okProg_row hp hb
 omega
def reachL (p : Pg) (f : Nat) : List Int := setS (rch (nextP p) f p.length)
def reachR (p : Pg) (f : Int) : List Int × Bool := if isFn p f = true then (reachL p f.toNat, true) else ([], false)
theorem lst_ok {p : Pg} {n : Nat} {f : Int} (hp : okProg p = true) (hl : p.length = n) (hf : 0 ≤ f ∧ f < n) (i : Nat) (g : Int) (j : Nat) :
  (addsN (rch (nextP p) f i) ((nextP p g).take j)).Nodup ∧ Rng n (addsN (rch (nextP p) f i) ((nextP p g).take j)) := by
 obtain ⟨h1, h2⟩ := rch_ok hf (fun g _ _ => next_rng hp hl g) i
 exact addsN_ok _ _ h1 h2 (fun x hx => next_rng hp hl g x (List.mem_of_mem_take hx))
theorem reachR_len (p : Pg) (f : Int) : (reachR p f).1.length ≤ 100000 := by
 unfold reachR
 split
 ·rename_i h
  have hp : okProg p = true := by unfold isFn at h; simp only [Bool.and_eq_true] at h; exact h.1.1
  obtain ⟨nf, b, rfl, hb, h8, hlt, h6⟩ := isFn_row h
  show (reachL p nf).length ≤ 100000
  have h1 := setS_len (rch (nextP p) nf p.length)
  obtain ⟨h2, h3⟩ := rch_ok (n := p.length) (f := nf) ⟨by omega, by omega⟩ (fun g _ _ => next_rng hp rfl g) p.length
  have h4 := nodup_len h2 h3
  unfold reachL
  omega
 ·simp
theorem contains_at {l : List Int} {y : Int} {k : Nat} (h : l[k]? = some y) : l.contains y = true := List.contains_iff_mem.2 (List.mem_of_getElem? h)
theorem contains_none {l : List Int} {y : Int} (h : ∀ (j : Nat) (z : Int), l[j]? = some z → z ≠ y) : l.contains y = false := by
 cases hc : l.contains y with
 | false => rfl
 | true =>
  obtain ⟨j, hj⟩ := List.getElem?_of_mem (List.contains_iff_mem.1 hc)
  exact absurd rfl (h j y hj)
theorem has_any (B : Nat) (A : Option Addr) (n c : Nat) (xs : List Int) (y : Int) (hn : n ≤ 1000000) (hl : xs.length = n) (w : World) (hr : RdI w B A xs) :
  Calls Try.prog 82 #[.slice A n c, .int .i64 y] w fun e w' => e = .returned (.bool (xs.contains y)) ∧ w = w' := by
 have HL := hid hl
 have HR := hid hr
 generalize hq : xs.contains y = q
 have HQ := hid hq
 clear hl hr hq
 go_enter Try.func82, Try.ntmps82
 go_wp2_with fail
 go_loopw [5] (fun i wr => ∃ k : Nat, k ≤ n ∧ i = .int .i64 k ∧ w = wr ∧ ∀ j z, j < k → xs[j]? = some z → z ≠ y) (fun i _ => n - (intOf i).toNat)
 case atStart => exact ⟨0, Nat.zero_le _, rfl, rfl, fun j z h => absurd h (Nat.not_lt_zero _)⟩
 case round =>
  obtain ⟨k, hk, rfl, rfl, hlt⟩ := hrel
  have HLT := hid hlt
  clear hlt
  by_cases hkn : k < n
  ·obtain ⟨z, hz⟩ : ∃ z, xs[k]? = some z := ⟨_, List.getElem?_eq_getElem (by rw [HL.out]; exact hkn)⟩
   obtain ⟨ad, rfl, hab, h0⟩ := HR.out k z hz
   have HZ := hid hz
   clear hz
   by_cases hzy : z = y
   ·subst hzy
    have HT := hid (show q = true from HQ.out.symm.trans (contains_at HZ.out))
    go_wp2_with fail
    go_ret
    exact ⟨by rw [HT.out] <;> rfl, rfl⟩
   ·have hcb : (z == y) = false := by simpa using hzy
    have HZY := hid hzy
    clear hzy
    go_wp2_with fail
    go_roundw
    case rel =>
     refine ⟨k + 1, by omega, by go_num, by first | rfl | trivial, fun j x hj hx => ?_⟩
     rcases Nat.lt_or_ge j k with h | h
     ·exact HLT.out j x h hx
     ·obtain rfl : j = k := by omega
      rw [HZ.out] at hx
      cases hx
      exact HZY.out
    case measure => simp [intOf]; omega
  ·obtain rfl : k = n := by omega
   have HT := hid (show q = false from HQ.out.symm.trans (contains_none (fun j z hz => HLT.out j z (by have := (List.getElem?_eq_some_iff.1 hz).1; rw [HL.out] at this; exact this) hz)))
   go_wp2_with fail
   go_ret
   exact ⟨by rw [HT.out] <;> rfl, rfl⟩
theorem index_any (B : Nat) (A : Option Addr) (n c : Nat) (xs : List Int) (y : Int) (hn : n ≤ 1000000) (hl : xs.length = n) (w : World) (hr : RdI w B A xs) :
  Calls Try.prog 144 #[.slice A n c, .int .i64 y] w fun e w' => ((∃ k : Nat, e = .returned (.int .i64 k) ∧ xs.contains y = true) ∨ (e = .returned (.int .i64 (-1)) ∧ xs.contains y = false)) ∧ w = w' := by
 have HL := hid hl
 have HR := hid hr
 generalize hq : xs.contains y = q
 have HQ := hid hq
 clear hl hr hq
 go_enter Try.func144, Try.ntmps144
 go_wp2_with fail
 go_loopw [8] (fun i wr => ∃ k : Nat, k ≤ n ∧ i = .int .i64 k ∧ w = wr ∧ ∀ j z, j < k → xs[j]? = some z → z ≠ y) (fun i _ => n - (intOf i).toNat)
 case atStart => exact ⟨0, Nat.zero_le _, rfl, rfl, fun j z h => absurd h (Nat.not_lt_zero _)⟩
 case round =>
  obtain ⟨k, hk, rfl, rfl, hlt⟩ := hrel
  have HLT := hid hlt
  clear hlt
  by_cases hkn : k < n
  ·obtain ⟨z, hz⟩ : ∃ z, xs[k]? = some z := ⟨_, List.getElem?_eq_getElem (by rw [HL.out]; exact hkn)⟩
   obtain ⟨ad, rfl, hab, h0⟩ := HR.out k z hz
   have HZ := hid hz
   clear hz
   by_cases hzy : z = y
   ·subst hzy
    have HT := hid (show q = true from HQ.out.symm.trans (contains_at HZ.out))
    go_wp2_with fail
    go_ret
    exact ⟨.inl ⟨k, rfl, HT.out⟩, rfl⟩
   ·have hcb : (y == z) = false := by simp; exact fun e => hzy e.symm
    have HZY := hid hzy
    clear hzy
    go_wp2_with fail
    go_roundw
    case rel =>
     refine ⟨k + 1, by omega, by go_num, by first | rfl | trivial, fun j x hj hx => ?_⟩
     rcases Nat.lt_or_ge j k with h | h
     ·exact HLT.out j x h hx
     ·obtain rfl : j = k := by omega
      rw [HZ.out] at hx
      cases hx
      exact HZY.out
    case measure => simp [intOf]; omega
  ·obtain rfl : k = n := by omega
   have HT := hid (show q = false from HQ.out.symm.trans (contains_none (fun j z hz => HLT.out j z (by have := (List.getElem?_eq_some_iff.1 hz).1; rw [HL.out] at this; exact this) hz)))
   go_wp2_with fail
   go_ret
   exact ⟨.inr ⟨rfl, HT.out⟩, rfl⟩
theorem contains_any (B : Nat) (A : Option Addr) (n c : Nat) (xs : List Int) (y : Int) (hn : n ≤ 1000000) (hl : xs.length = n) (w : World) (hr : RdI w B A xs) :
  Calls Try.prog 121 #[.slice A n c, .int .i64 y] w fun e w' => e = .returned (.bool (xs.contains y)) ∧ w = w' := by
 have HI := hid (index_any B A n c xs y hn hl w hr)
 generalize xs.contains y = q at *
 clear hl hr
 go_enter Try.func121, Try.ntmps121
 go_wp2_with fail
 refine HI.out.mono ?_
 rintro e w1 ⟨h, rfl⟩
 rcases h with ⟨k, rfl, rfl⟩ | ⟨rfl, rfl⟩
 ·go_wp2_with fail
  go_ret
  exact ⟨rfl, rfl⟩
 ·go_wp2_with fail
  go_ret
  exact ⟨rfl, rfl⟩
theorem two_own {V : World} {g : Nat} {x : Int} (h : V.heap[g]? = some (.cells #[.int .i64 x] 3)) {B : Nat} (hB : B ≤ g) : OwnI V B (.slice (some ⟨g, 0, none⟩) 1 1) [x] :=
 ⟨rfl, .inr ⟨g, 1, #[.int .i64 x], rfl, hB, h, Nat.le_refl _, by decide, by simp, by simp [cellsI]⟩⟩
theorem setS_one (x : Int) : setS [x] = [x] := by simp [setS, putS, kOf]
set_option maxRecDepth 100000 in
set_option maxHeartbeats 8000000 in
theorem l2Reach_any (n c nf : Nat) (A : Option Addr) (p : Pg) (hp : okProg p = true) (hl : p.length = n) (hn6 : n ≤ 6) (hnf : nf < n) (w : World) (hr : RdP w w.heap.size A p) :
  Calls Try.prog 81 #[.agg #[.slice A n c], .int .i64 nf] w fun e w' => ∃ A' c', e = .returned (.slice A' (reachL p nf).length c') ∧ OwnI w' w.heap.size (.slice A' (reachL p nf).length c') (reachL p nf) ∧ Below w.heap.size w w' := by
 obtain ⟨i0, hi, hz0, hz1, hz2⟩ := info_parts infoInt
 obtain ⟨f, hfe⟩ : ∃ f : Int, (nf : Int) = f := ⟨_, rfl⟩
 have hf : 0 ≤ f ∧ f < n := by omega
 have HRES := hid (show reachL p nf = setS (rch (nextP p) f n) by unfold reachL; rw [hl, hfe])
 have hC : ∀ (g : Int), 0 ≤ g → g < n → ∀ W, Below w.heap.size w W → Calls Try.prog 119 #[.agg #[.slice A n c], .int .i64 g] W fun e w' => ∃ A' c', e = .returned (.slice A' (nextP p g).length c') ∧ OwnI w' W.heap.size (.slice A' (nextP p g).length c') (nextP p g) ∧ Below W.heap.size W w' := fun g h0 h1 W h => by
  obtain ⟨ng, rfl⟩ : ∃ ng : Nat, g = ng := ⟨g.toNat, by omega⟩
  have hlt : ng < p.length := by omega
  exact l2Calls_any n c ng A p _ (by omega) hl (List.getElem?_eq_getElem hlt) (okProg_row hp (List.getElem?_eq_getElem hlt)) W ((hr.below h).more h.size)
 have HC := hid hC
 have HRCH := hid (fun i => rch_ok hf (fun g _ _ => next_rng hp hl g) i)
 have HLST := hid (fun i g j => lst_ok hp hl hf i g j)
 have HNL := hid (fun g => next_len hp g)
 have HALL := hid (fun (i : Nat) (h : (rch (nextP p) f i).length ≤ i) (hi : i ≤ n) => rch_all hf (fun g _ _ => next_rng hp hl g) h hi)
 rw [hfe]
 clear hr hp hl hnf hfe hC
 go_enter Try.func81, Try.ntmps81
 go_upto_region 1 with fail
 change (fun V => Code.wp _ _ _ _ V) _
 refine gen_world (X := fun V => Blk V w.heap.size 31 #[.slice A n c] ∧ Below w.heap.size w V ∧ w.heap.size < V.heap.size) ⟨heap1_0 w _, (Below.refl _ _).alloc (Nat.le_refl _) _, by simp⟩ ?_
 rintro w1 ⟨x1, b1, l1⟩
 have X1 := hid x1
 have B1 := hid b1
 clear x1 b1
 go_upto_region 2 with fail
 change (fun V => Code.wp _ _ _ _ V) _
 refine gen_world (X := fun V => OwnI V w1.heap.size (.slice (some ⟨w1.heap.size, 0, none⟩) 1 1) [f] ∧ OwnI V w1.heap.size (.slice (some ⟨w1.heap.size + 1, 0, none⟩) 1 1) [f] ∧ Below w1.heap.size w1 V) ⟨two_own (heap2_0 w1 _ _) (Nat.le_refl _), two_own (heap2_1 w1 _ _) (by omega), ((Below.refl _ _).alloc (Nat.le_refl _) _).alloc (by simp) _⟩ ?_
 rintro w2 ⟨o1, o2, b2⟩
 have O1 := hid o1
 have O2 := hid o2
 have B2 := hid b2
 have HAP := hid (show Apt (.slice (some ⟨w1.heap.size, 0, none⟩) 1 1) (.slice (some ⟨w1.heap.size + 1, 0, none⟩) 1 1) from fun k h h' => by
  simp only [Value.ownBlock, Option.some.injEq] at h h'
  omega)
 clear o1 o2 b2
 generalize (some ⟨w1.heap.size, 0, none⟩ : Option Addr) = E1 at *
 generalize (some ⟨w1.heap.size + 1, 0, none⟩ : Option Addr) = E2 at *
 go_wp2_with fail
 go_loopw [5, 6, 7] (fun u v ii wr => ∃ (i : Nat) (A1 : Option Addr) (c1 : Nat) (A2 : Option Addr) (c2 : Nat), i ≤ n ∧ ii = .int .i64 i ∧ u = .slice A1 (setS (rch (nextP p) f i)).length c1 ∧ v = .slice A2 (rch (nextP p) f i).length c2 ∧
  OwnI wr w1.heap.size (.slice A1 (setS (rch (nextP p) f i)).length c1) (setS (rch (nextP p) f i)) ∧ OwnI wr w1.heap.size (.slice A2 (rch (nextP p) f i).length c2) (rch (nextP p) f i) ∧ Apt (.slice A1 (setS (rch (nextP p) f i)).length c1) (.slice A2 (rch (nextP p) f i).length c2) ∧ Below w1.heap.size w1 wr) (fun _ _ ii _ => n - (intOf ii).toNat)
 case atStart => exact ⟨0, E1, 1, E2, 1, Nat.zero_le _, rfl, by show _ = Value.slice E1 (setS [f]).length 1; rw [setS_one] <;> rfl, rfl, by show OwnI _ _ (.slice E1 (setS [f]).length 1) (setS [f]); rw [setS_one]; exact O1.out, O2.out, by show Apt (.slice E1 (setS [f]).length 1) _; rw [setS_one]; exact HAP.out, B2.out⟩
 case round =>
  obtain ⟨i, A1, c1, A2, c2, hin, rfl, rfl, rfl, o1, o2, hap, hb⟩ := hrel
  clear O1 O2 B2 HAP
  have hlo := hb.size
  have z0 : wr.cell? ⟨w.heap.size, 0, none⟩ = some (.slice A n c) := (X1.out.below hb l1).cells 0
  have BW := hid (B1.out.trans (hb.mono B1.out.size))
  have HB := hid hb
  have O1 := hid o1
  have O2 := hid o2
  have AP := hid hap
  clear hb o1 o2 hap
  obtain ⟨hnd, hrg⟩ := HRCH.out i
  have hll := nodup_len hnd hrg
  have hsl := setS_len (rch (nextP p) f i)
  have HRG := hid hrg
  clear hnd hrg
  by_cases hlt : i < (rch (nextP p) f i).length
  ·obtain ⟨gg, hg⟩ : ∃ gg, (rch (nextP p) f i)[i]? = some gg := ⟨_, List.getElem?_eq_getElem hlt⟩
   obtain ⟨al, rfl, hal, hcg⟩ := (OwnI.rd O2.out rfl) i gg hg
   obtain ⟨hg0, hg1⟩ := HRG.out gg (List.mem_of_getElem? hg)
   have HCG := hid (HC.out gg hg0 hg1 wr.drew BW.out.drew)
   have HNX := hid (rch_next hg)
   have HL8 := HNL.out gg
   clear hg HC
   go_upto_region 5 with fail
   have S0 : (fun V : World => V.cell? ⟨w.heap.size, 0, none⟩ = some (.slice A n c) ∧ V.cell? (al.add i) = some (.int .i64 gg)) wr.drew := ⟨z0, hcg⟩
   refine Last2.region_last [5, 6] (fun V : World => V.cell? ⟨w.heap.size, 0, none⟩ = some (.slice A n c) ∧ V.cell? (al.add i) = some (.int .i64 gg)) (by kernel_rfl) ?_
   refine tk 0 20 (.agg #[.slice A n c]) S0 ?_
   simp only [Act.put, Last2.s]
   refine tk 1 21 (.slice (some al) (rch (nextP p) f i).length c2) S0 ?_
   simp only [Act.put, Last2.s]
   refine tk 2 22 (.int .i64 (i : Int)) S0 ?_
   simp only [Act.put, Last2.s]
   refine tk 3 23 (.pointer (some (al.add i))) S0 ?_
   simp only [Act.put, Last2.s]
   refine tk 4 24 (.int .i64 gg) S0 ?_
   simp only [Act.put, Last2.s]
   refine Last2.last_one (i := 5) (o := { dst := some 25, op := .call { callee := .value (.func 119), args := #[.tmp 20, .tmp 24], argTypes := #[31, 3] }, type := _, pos := _, after := _, guard := none }) (by kernel_rfl) rfl rfl (fun K hK => ?_)
   go_simp
   refine HCG.out.mono ?_
   rintro e V ⟨A8, c8, rfl, o8, bV⟩
   refine hK.out _ _ (fun h => (h (by decide)).elim) ?_
   clear hK K S0
   try simp only [Act.put, Last2.s]
   refine Last2.last_one (i := 6) (o := { dst := some 8, op := .assign (.tmp 25), type := _, pos := _, after := _, guard := none }) (by kernel_rfl) rfl rfl (fun K hK => ?_)
   go_simp
   refine hK.out _ _ (fun h => (h (by decide)).elim) ?_
   clear hK K
   try simp only [Act.put, Last2.s]
   refine Last2.last_done (by kernel_rfl) ?_ _
   obtain ⟨m, hm⟩ : ∃ m, (nextP p gg).length = m := ⟨_, rfl⟩
   rw [hm] at o8 HL8 ⊢
   have HM := hid hm
   have hbV : Below wr.heap.size wr V := (Below.refl _ _).drew.trans bV
   have P82 := hid (show Apt (.slice A8 m c8) (.slice (some al) (rch (nextP p) f i).length c2) from apt_new (V := wr) o8 O2.out)
   have V8 := hid (show V.ownsRow w1.heap.size 3 1 (.slice A8 m c8) m (cellsI (nextP p gg)) from (by have := own_mono (B' := w1.heap.size) o8 hlo; rwa [hm] at this))
   have V1 := hid (own_below O1.out hbV (Nat.le_refl _))
   have V2 := hid (own_below O2.out hbV (Nat.le_refl _))
   have BV := hid (HB.out.trans (hbV.mono hlo))
   have HLJ := hid (fun j => HLST.out i gg j)
   clear o8 bV hbV hm O1 O2 HB BW z0 hcg HCG HLST
   go_wp2_with fail
   go_loopw [5, 6, 9] (fun u v jj wr => ∃ (j : Nat) (A1 : Option Addr) (d1 : Nat) (A2 : Option Addr) (d2 : Nat), j ≤ m ∧ jj = .int .i64 j ∧ u = .slice A1 (setS (addsN (rch (nextP p) f i) ((nextP p gg).take j))).length d1 ∧ v = .slice A2 (addsN (rch (nextP p) f i) ((nextP p gg).take j)).length d2 ∧
    OwnI wr w1.heap.size (.slice A1 (setS (addsN (rch (nextP p) f i) ((nextP p gg).take j))).length d1) (setS (addsN (rch (nextP p) f i) ((nextP p gg).take j))) ∧ OwnI wr w1.heap.size (.slice A2 (addsN (rch (nextP p) f i) ((nextP p gg).take j)).length d2) (addsN (rch (nextP p) f i) ((nextP p gg).take j)) ∧
    Apt (.slice A1 (setS (addsN (rch (nextP p) f i) ((nextP p gg).take j))).length d1) (.slice A2 (addsN (rch (nextP p) f i) ((nextP p gg).take j)).length d2) ∧ wr.ownsRow w1.heap.size 3 1 (.slice A8 m c8) m (cellsI (nextP p gg)) ∧ Apt (.slice A8 m c8) (.slice A2 (addsN (rch (nextP p) f i) ((nextP p gg).take j)).length d2) ∧ Below w1.heap.size w1 wr) (fun _ _ jj _ => m - (intOf jj).toNat)
   case atStart => exact ⟨0, A1, c1, some al, c2, Nat.zero_le _, rfl, rfl, rfl, V1.out, V2.out, AP.out, V8.out, P82.out, BV.out⟩
   case round =>
    obtain ⟨j, A1, d1, A2, d2, hjm, rfl, rfl, rfl, o1, o2, hap, o8, hp8, hb⟩ := hrel
    clear V1 V2 V8 P82 BV AP
    have hlo := hb.size
    obtain ⟨hnd, hrg⟩ := HLJ.out j
    have hql := nodup_len hnd hrg
    have hxl := setS_len (addsN (rch (nextP p) f i) ((nextP p gg).take j))
    have HB := hid hb
    have O1 := hid o1
    have O2 := hid o2
    have O8 := hid o8
    have AP := hid hap
    have P8 := hid hp8
    clear hb o1 o2 o8 hap hp8 hnd hrg
    by_cases hjl : j < m
    ·obtain ⟨y, hy⟩ : ∃ y, (nextP p gg)[j]? = some y := ⟨_, List.getElem?_eq_getElem (by rw [HM.out]; exact hjl)⟩
     have HXS := hid (addsN_take (l := rch (nextP p) f i) hy)
     have HY := hid hy
     obtain ⟨a8, rfl, ha8, hy8⟩ := (rdI_own O8.out) j y hy
     have HSC := hid (setS_contains (addsN (rch (nextP p) f i) ((nextP p gg).take j)) y)
     have HHAS := hid (has_any wr.heap.size A1 _ d1 (setS (addsN (rch (nextP p) f i) ((nextP p gg).take j))) y (by omega) rfl wr (OwnI.rd O1.out rfl))
     have hcx : (setS (addsN (rch (nextP p) f i) ((nextP p gg).take j))).length ≤ d1 := SetM.cap_own O1.out
     have HPUT := hid (l1Put_own w1.heap.size _ d1 A1 (setS (addsN (rch (nextP p) f i) ((nextP p gg).take j))) y (by omega) rfl hcx wr O1.out hlo)
     have HSN := hid (setS_snoc (addsN (rch (nextP p) f i) ((nextP p gg).take j)) y)
     clear hy
     generalize addsN (rch (nextP p) f i) ((nextP p gg).take j) = q at *
     generalize hxq : setS q = x at *
     have HXQ := hid hxq
     clear hxq
     cases hc : q.contains y with
     | true =>
      have HX := hid (show addsN (rch (nextP p) f i) ((nextP p gg).take (j + 1)) = q from HXS.out.trans (if_pos hc))
      have hcs := HSC.out.trans hc
      rw [hcs] at HHAS
      clear HXS HSC HPUT hc hcs
      go_wp2_with fail
      refine HHAS.out.mono ?_
      rintro e w3 ⟨rfl, rfl⟩
      go_wp2_with fail
      go_roundw
      case rel => exact ⟨j + 1, A1, d1, A2, d2, by omega, by go_num, by rw [HX.out, HXQ.out], by rw [HX.out], by rw [HX.out, HXQ.out]; exact O1.out, by rw [HX.out]; exact O2.out, by rw [HX.out, HXQ.out]; exact AP.out, O8.out, by rw [HX.out]; exact P8.out, HB.out⟩
      case measure => simp [intOf]; omega
     | false =>
      have HX1 := hid (show addsN (rch (nextP p) f i) ((nextP p gg).take (j + 1)) = q ++ [y] from HXS.out.trans (if_neg (by rw [hc]; decide)))
      have HX2 := hid (show setS (addsN (rch (nextP p) f i) ((nextP p gg).take (j + 1))) = putS x y by rw [HX1.out, HSN.out])
      have hcs := HSC.out.trans hc
      rw [hcs] at HHAS
      clear HXS HSC hc hcs
      go_wp2_with fail
      refine HHAS.out.mono ?_
      rintro e w3 ⟨rfl, rfl⟩
      go_wp2_with fail
      refine HPUT.out.mono ?_
      rintro e V ⟨A3, d3, rfl, o3, b3, hal3⟩
      have V1 := hid o3
      have V2 := hid (own_below O2.out b3 (Nat.le_refl _))
      have V8 := hid (own_below O8.out b3 (Nat.le_refl _))
      have BV := hid (HB.out.trans (b3.mono hlo))
      have hlV := BV.out.size
      have P82 := P8
      have P12 : Hid (Apt (.slice A3 (putS x y).length d3) (.slice A2 q.length d2)) := hid (by
       rcases hal3 with rfl | h3
       ·exact AP.out.same
       ·exact apt_new h3 O2.out)
      have hyV : V.cell? (a8.add j) = some (.int .i64 y) := (b3.cell (by rw [block_of_add]; exact ha8)).trans hy8
      clear o3 b3 hal3 O1 O2 O8 AP P8 HB HHAS HPUT hy8
      go_wp2_with (at_builtin; refine wpList_append_lies _ rfl _ _ 26 rfl w1.heap.size 3 i0 _ 1 8 Try.underlying26 hi hz0 hz1 hz2 rfl (by decide) _ _ _ rfl (World.ownsRow.alloc V2.out _) ⟨V.heap.size, 0, none⟩ 1 1 [.int .i64 y] rfl rfl ?cn_1 ?co_1 (by decide) ?c63_1 ?cb_1 ?cl_1 (V.heap.size + 1) ?cH_1 ?next_1)
      (try (case cn_1 => exact World.news_of_block (cs := #[.int .i64 y]) (t := 3) (fr := (0, 0)) (heap_alloc_new _ _)))
      case co_1 => first | (intro u hu; simp at hu; rcases hu with rfl; rfl) | simp [Value.oneCell']
      case c63_1 => first | (unfold maxLen; omega) | omega
      case cb_1 => omega
      case cl_1 => first | (simp; omega) | omega
      (try (case cH_1 => simp))
      case next_1 =>
       intro g2 cap2 w2' hown2 hgrow2 hat2 hlt2
       have c2' : Chg (fun z => (Value.slice A2 q.length d2).ownBlock = some z) V w2' := (Chg.alloc _ V _).trans (Chg.of_grown hgrow2) (fun x _ hx => hx.symm)
       have B2' := hid (BV.out.trans (c2'.below hlV (fun x hx e => by have := (World.ownsRow.lt V2.out x e).1; omega)))
       have O2' := hid hown2
       have O1' := hid (own_chg V1.out c2' (fun k hk e => P12.out k hk e))
       have O8' := hid (own_chg V8.out c2' (fun k hk e => P82.out k hk e))
       have P82' := hid (show Apt (.slice (some a8) m c8) (.slice (some ⟨g2, 0, none⟩) (q.length + 1) cap2) from apt_next P82.out V8.out (show (Value.slice A2 q.length d2).ownBlock = some g2 ∨ V.heap.size < g2 from hat2.imp id (fun e => by omega)))
       have P12' := hid (show Apt (.slice A3 (putS x y).length d3) (.slice (some ⟨g2, 0, none⟩) (q.length + 1) cap2) from apt_next P12.out V1.out (show (Value.slice A2 q.length d2).ownBlock = some g2 ∨ V.heap.size < g2 from hat2.imp id (fun e => by omega)))
       clear hown2 hgrow2 hat2 c2'
       go_wp2_with fail
       go_roundw
       case rel =>
        refine ⟨j + 1, A3, d3, some ⟨g2, 0, none⟩, cap2, by omega, by go_num, ?_, ?_, ?_, ?_, ?_, O8'.out, P82'.out, B2'.out⟩
        ·rw [HX2.out]
        ·rw [HX1.out, List.length_append, List.length_singleton]
        ·rw [HX2.out]; exact O1'.out
        ·rw [HX1.out]
         unfold OwnI
         rw [List.length_append, List.length_singleton, cellsI_append]
         exact O2'.out
        ·rw [HX2.out, HX1.out, List.length_append, List.length_singleton]; exact P12'.out
       case measure => simp [intOf]; omega
    ·obtain rfl : j = m := by omega
     have HE := hid (show addsN (rch (nextP p) f i) ((nextP p gg).take j) = rch (nextP p) f (i + 1) by rw [List.take_of_length_le (by rw [HM.out]; exact Nat.le_refl _), HNX.out])
     go_wp2_with fail
     go_roundw
     case rel => exact ⟨i + 1, A1, d1, A2, d2, by omega, by go_num, by rw [← HE.out], by rw [← HE.out], by rw [← HE.out]; exact O1.out, by rw [← HE.out]; exact O2.out, by rw [← HE.out]; exact AP.out, HB.out⟩
     case measure => simp [intOf]; omega
  ·have HEND := hid (HALL.out i (by omega) hin)
   go_wp2_with fail
   go_ret
   exact ⟨A1, c1, by rw [HRES.out, HEND.out] <;> rfl, by rw [HRES.out, HEND.out]; exact own_mono O1.out (Nat.le_of_lt l1), BW.out⟩
set_option maxRecDepth 100000 in
set_option maxHeartbeats 8000000 in
theorem reaI_any (lo n c : Nat) (A : Option Addr) (p : Pg) (f : Int) (hn : n ≤ 9223372036854775807) (hl : p.length = n) (hsm : Small p 9223372036854775807) (w : World) (ho : OwnP w lo (.slice A n c) p) :
  Calls Try.prog 83 #[.agg #[.slice A n c], .int .i64 f] w (IntsR (reachR p f) w) := by
 obtain ⟨i0, hi, hz0, hz1, hz2⟩ := info_parts infoInt
 have hF := hid (fun W (h : Below w.heap.size w W) => isFunction_any w.heap.size A n c p f hn hl hsm W (ho.rd.below h) h.size)
 have HCB := hid (fun (g : Int) W (h : Below w.heap.size w W) => calI_any lo n c A p g hn hl hsm W (ho.below h))
 have hr : reachR p f = if isFn p f = true then (reachL p f.toNat, true) else ([], false) := rfl
 have hfn : isFn p f = true → okProg p = true ∧ 0 ≤ f ∧ f < n ∧ n ≤ 6 := fun h => by
  obtain ⟨nf, b, rfl, hb, _, hlt, h6⟩ := isFn_row h
  unfold isFn at h
  simp only [Bool.and_eq_true] at h
  exact ⟨h.1.1, by omega, by omega, by omega⟩
 have HFE := hid (isFn_eq p)
 generalize isFn p f = R at *
 have HR := hid hr
 clear ho hr
 go_enter Try.func83, Try.ntmps83
 go_upto_region 1 with fail
 change (fun V => Code.wp _ _ _ _ V) _
 refine gen_world (X := fun V => Blk V w.heap.size 31 #[.slice A n c] ∧ Below w.heap.size w V ∧ w.heap.size < V.heap.size) ⟨heap1_0 w _, (Below.refl _ _).alloc (Nat.le_refl _) _, by simp⟩ ?_
 rintro w1 ⟨x1, b1, l1⟩
 have z1 : w1.cell? ⟨w.heap.size, 0, none⟩ = some (.slice A n c) := x1.cells 0
 have X1 := hid x1
 have B1 := hid b1
 clear x1 b1
 cases R with
 | false =>
  clear hfn hl hsm
  go_wp2_with fail
  refine (hF.out _ B1.out).mono ?_
  rintro e w2 ⟨rfl, b2⟩
  have B2 := hid (B1.out.trans (b2.mono B1.out.size))
  have hsz := B2.out.size
  clear b2
  go_wp2_with fail
  go_ret2
  exact ⟨_, _, by rw [HR.out] <;> rfl, by rw [HR.out]; exact App.empty_own (heap1_0 w2 _) hsz, B2.out.alloc hsz _⟩
 | true =>
  obtain ⟨hp, hf0, hf1, hn6⟩ := hfn rfl
  have hf : 0 ≤ f ∧ f < n := ⟨hf0, hf1⟩
  have HRES := hid (show reachL p f.toNat = setS (rch (nextP p) f n) by unfold reachL; rw [hl, Int.toNat_of_nonneg hf0])
  have hC : ∀ (g : Int), 0 ≤ g → g < n → ∀ W, Below w.heap.size w W → Calls Try.prog 120 #[.agg #[.slice A n c], .int .i64 g] W fun e w' => ∃ A' c', e = .returned (.tuple #[.slice A' (nextP p g).length c', .bool true]) ∧ OwnI w' W.heap.size (.slice A' (nextP p g).length c') (nextP p g) ∧ Below W.heap.size W w' := fun g h0 h1 W h => by
   have hg : isFn p g = true := by unfold isFn; simp only [Bool.and_eq_true, decide_eq_true_eq]; exact ⟨⟨hp, h0⟩, by omega⟩
   have := HCB.out g W h
   have e1 : calledR p g = (nextP p g, true) := by unfold calledR nextP; rw [if_pos hg]
   rwa [e1] at this
  have HC := hid hC
  have HRCH := hid (fun i => rch_ok hf (fun g _ _ => next_rng hp hl g) i)
  have HLST := hid (fun i g j => lst_ok hp hl hf i g j)
  have HNL := hid (fun g => next_len hp g)
  have HALL := hid (fun (i : Nat) (h : (rch (nextP p) f i).length ≤ i) (hi : i ≤ n) => rch_all hf (fun g _ _ => next_rng hp hl g) h hi)
  clear hfn hl hsm hp hf hC HCB
  go_wp2_with fail
  refine (hF.out _ B1.out).mono ?_
  rintro e w2 ⟨rfl, b2⟩
  have X2 := hid (X1.out.below b2 l1)
  have B2 := hid (B1.out.trans (b2.mono B1.out.size))
  have l2 : w.heap.size < w2.heap.size := Nat.lt_of_lt_of_le l1 b2.size
  clear b2 z1 X1
  go_upto_region 4 with fail
  change (fun V => Code.wp _ _ _ _ V) _
  refine gen_world (X := fun V => OwnI V w2.heap.size (.slice (some ⟨w2.heap.size, 0, none⟩) 1 1) [f] ∧ Below w2.heap.size w2 V) ⟨two_own (heap1_0 w2 _) (Nat.le_refl _), (Below.refl _ _).alloc (Nat.le_refl _) _⟩ ?_
  rintro w3 ⟨o3, b3⟩
  have B3 := hid b3
  have HE0 := hid o3
  clear b3 o3
  generalize (some ⟨w2.heap.size, 0, none⟩ : Option Addr) = E2 at *
  go_wp2_with fail
  go_loopw [6, 7] (fun v ii wr => ∃ (i : Nat) (A2 : Option Addr) (c2 : Nat), i ≤ n ∧ ii = .int .i64 i ∧ v = .slice A2 (rch (nextP p) f i).length c2 ∧ OwnI wr w2.heap.size (.slice A2 (rch (nextP p) f i).length c2) (rch (nextP p) f i) ∧ Below w2.heap.size w2 wr) (fun _ ii _ => n - (intOf ii).toNat)
  case atStart => exact ⟨0, E2, 1, Nat.zero_le _, rfl, rfl, HE0.out, B3.out⟩
  case round =>
   obtain ⟨i, A2, c2, hin, rfl, rfl, o2, hb⟩ := hrel
   clear HE0 B3
   have hlo := hb.size
   have z0 : wr.cell? ⟨w.heap.size, 0, none⟩ = some (.slice A n c) := (X2.out.below hb l2).cells 0
   have BW := hid (B2.out.trans (hb.mono B2.out.size))
   have HB := hid hb
   have O2 := hid o2
   clear hb o2
   obtain ⟨hnd, hrg⟩ := HRCH.out i
   have hll := nodup_len hnd hrg
   have HRG := hid hrg
   have HND := hid hnd
   clear hnd hrg
   by_cases hlt : i < (rch (nextP p) f i).length
   ·obtain ⟨gg, hg⟩ : ∃ gg, (rch (nextP p) f i)[i]? = some gg := ⟨_, List.getElem?_eq_getElem hlt⟩
    obtain ⟨al, rfl, hal, hcg⟩ := (OwnI.rd O2.out rfl) i gg hg
    obtain ⟨hg0, hg1⟩ := HRG.out gg (List.mem_of_getElem? hg)
    have HCG := hid (HC.out gg hg0 hg1 wr.drew BW.out.drew)
    have HNX := hid (rch_next hg)
    have HL8 := HNL.out gg
    clear hg HC
    go_upto_region 7 with fail
    have S0 : (fun V : World => V.cell? ⟨w.heap.size, 0, none⟩ = some (.slice A n c) ∧ V.cell? (al.add i) = some (.int .i64 gg)) wr.drew := ⟨z0, hcg⟩
    refine Last2.region_last [5, 6, 7, 8, 9, 10] (fun V : World => V.cell? ⟨w.heap.size, 0, none⟩ = some (.slice A n c) ∧ V.cell? (al.add i) = some (.int .i64 gg)) (by kernel_rfl) ?_
    refine tk 0 26 (.agg #[.slice A n c]) S0 ?_
    simp only [Act.put, Last2.s]
    refine tk 1 27 (.slice (some al) (rch (nextP p) f i).length c2) S0 ?_
    simp only [Act.put, Last2.s]
    refine tk 2 28 (.int .i64 (i : Int)) S0 ?_
    simp only [Act.put, Last2.s]
    refine tk 3 29 (.pointer (some (al.add i))) S0 ?_
    simp only [Act.put, Last2.s]
    refine tk 4 30 (.int .i64 gg) S0 ?_
    simp only [Act.put, Last2.s]
    refine Last2.last_one (i := 5) (o := { dst := some 31, op := .call { callee := .value (.func 120), args := #[.tmp 26, .tmp 30], argTypes := #[31, 3] }, type := _, pos := _, after := _, guard := none }) (by kernel_rfl) rfl rfl (fun K hK => ?_)
    go_simp
    refine HCG.out.mono ?_
    rintro e V ⟨A8, c8, rfl, o8, bV⟩
    refine hK.out _ _ (fun h => (h (by decide)).elim) ?_
    clear hK K S0
    try simp only [Act.put, Last2.s]
    refine Last2.last_late (i := 6) (d := some 25) (v := .tuple #[.slice A8 (nextP p gg).length c8, .bool true]) rfl rfl (by kernel_rfl) (by kernel_rfl) (by kernel_rfl) (fun _ _ _ h => h) rfl rfl ?_ ?_
    ·(intro V; go_simp; try with_reducible rfl)
    try simp only [Act.put, Last2.s]
    refine Last2.last_late (i := 7) (d := some 32) (v := .slice A8 (nextP p gg).length c8) rfl rfl (by kernel_rfl) (by kernel_rfl) (by kernel_rfl) (fun _ _ _ h => h) rfl rfl ?_ ?_
    ·(intro V; go_simp; try with_reducible rfl)
    try simp only [Act.put, Last2.s]
    refine Last2.last_late (i := 8) (d := some 33) (v := .bool true) rfl rfl (by kernel_rfl) (by kernel_rfl) (by kernel_rfl) (fun _ _ _ h => h) rfl rfl ?_ ?_
    ·(intro V; go_simp; try with_reducible rfl)
    try simp only [Act.put, Last2.s]
    refine Last2.last_one (i := 9) (o := { dst := some 8, op := .assign (.tmp 32), type := _, pos := _, after := _, guard := none }) (by kernel_rfl) rfl rfl (fun K hK => ?_)
    go_simp
    refine hK.out _ _ (fun h => (h (by decide)).elim) ?_
    clear hK K
    try simp only [Act.put, Last2.s]
    refine Last2.last_one (i := 10) (o := { dst := some 9, op := .assign (.tmp 33), type := _, pos := _, after := _, guard := none }) (by kernel_rfl) rfl rfl (fun K hK => ?_)
    go_simp
    refine hK.out _ _ (fun h => (h (by decide)).elim) ?_
    clear hK K
    try simp only [Act.put, Last2.s]
    refine Last2.last_done (by kernel_rfl) ?_ _
    obtain ⟨m, hm⟩ : ∃ m, (nextP p gg).length = m := ⟨_, rfl⟩
    rw [hm] at o8 HL8 ⊢
    have HM := hid hm
    have hbV : Below wr.heap.size wr V := (Below.refl _ _).drew.trans bV
    have P82 := hid (show Apt (.slice A8 m c8) (.slice (some al) (rch (nextP p) f i).length c2) from apt_new (V := wr) o8 O2.out)
    have V8 := hid (show V.ownsRow w2.heap.size 3 1 (.slice A8 m c8) m (cellsI (nextP p gg)) from (by have := own_mono (B' := w2.heap.size) o8 hlo; rwa [hm] at this))
    have V2 := hid (own_below O2.out hbV (Nat.le_refl _))
    have BV := hid (HB.out.trans (hbV.mono hlo))
    have HLJ := hid (fun j => HLST.out i gg j)
    clear o8 bV hbV hm O2 HB BW z0 hcg HCG HLST
    go_wp2_with fail
    go_loopw [6, 36] (fun v jj wr => ∃ (j : Nat) (A2 : Option Addr) (d2 : Nat), j ≤ m ∧ jj = .int .i64 j ∧ v = .slice A2 (addsN (rch (nextP p) f i) ((nextP p gg).take j)).length d2 ∧
     OwnI wr w2.heap.size (.slice A2 (addsN (rch (nextP p) f i) ((nextP p gg).take j)).length d2) (addsN (rch (nextP p) f i) ((nextP p gg).take j)) ∧
     wr.ownsRow w2.heap.size 3 1 (.slice A8 m c8) m (cellsI (nextP p gg)) ∧ Apt (.slice A8 m c8) (.slice A2 (addsN (rch (nextP p) f i) ((nextP p gg).take j)).length d2) ∧ Below w2.heap.size w2 wr) (fun _ jj _ => m - (intOf jj).toNat)
    case atStart => exact ⟨0, some al, c2, Nat.zero_le _, rfl, rfl, V2.out, V8.out, P82.out, BV.out⟩
    case round =>
     obtain ⟨j, A2, d2, hjm, rfl, rfl, o2, o8, hp8, hb⟩ := hrel
     clear V2 V8 P82 BV
     have hlV := hb.size
     obtain ⟨hnd, hrg⟩ := HLJ.out j
     have hql := nodup_len hnd hrg
     have BV := hid hb
     have V2 := hid o2
     have V8 := hid o8
     have P82 := hid hp8
     clear hb o2 o8 hp8 hnd hrg
     obtain ⟨V, hV⟩ : ∃ V, wr = V := ⟨_, rfl⟩
     subst hV
     by_cases hjl : j < m
     ·obtain ⟨y, hy⟩ : ∃ y, (nextP p gg)[j]? = some y := ⟨_, List.getElem?_eq_getElem (by rw [HM.out]; exact hjl)⟩
      have HXS := hid (addsN_take (l := rch (nextP p) f i) hy)
      obtain ⟨a8, rfl, ha8, hy8⟩ := (rdI_own V8.out) j y hy
      have HHAS := hid (contains_any wr.heap.size A2 _ d2 (addsN (rch (nextP p) f i) ((nextP p gg).take j)) y (by omega) rfl wr (OwnI.rd V2.out rfl))
      clear hy
      generalize addsN (rch (nextP p) f i) ((nextP p gg).take j) = q at *
      cases hc : q.contains y with
      | true =>
       have HX := hid (show addsN (rch (nextP p) f i) ((nextP p gg).take (j + 1)) = q from HXS.out.trans (if_pos hc))
       rw [hc] at HHAS
       clear HXS hc
       go_wp2_with fail
       refine HHAS.out.mono ?_
       rintro e w4 ⟨rfl, rfl⟩
       go_wp2_with fail
       go_roundw
       case rel => exact ⟨j + 1, A2, d2, by omega, by go_num, by rw [HX.out], by rw [HX.out]; exact V2.out, V8.out, by rw [HX.out]; exact P82.out, BV.out⟩
       case measure => simp [intOf]; omega
      | false =>
       have HX1 := hid (show addsN (rch (nextP p) f i) ((nextP p gg).take (j + 1)) = q ++ [y] from HXS.out.trans (if_neg (by rw [hc]; decide)))
       rw [hc] at HHAS
       clear HXS hc
       go_wp2_with fail
       refine HHAS.out.mono ?_
       rintro e w4 ⟨rfl, rfl⟩
       go_wp2_with (at_builtin; refine wpList_append_lies _ rfl _ _ 26 rfl w2.heap.size 3 i0 _ 1 8 Try.underlying26 hi hz0 hz1 hz2 rfl (by decide) _ _ _ rfl (World.ownsRow.alloc V2.out _) ⟨wr.heap.size, 0, none⟩ 1 1 [.int .i64 y] rfl rfl ?cn_2 ?co_2 (by decide) ?c63_2 ?cb_2 ?cl_2 (wr.heap.size + 1) ?cH_2 ?next_2)
       (try (case cn_2 => exact World.news_of_block (cs := #[.int .i64 y]) (t := 3) (fr := (0, 0)) (heap_alloc_new _ _)))
       case co_2 => first | (intro u hu; simp at hu; rcases hu with rfl; rfl) | simp [Value.oneCell']
       case c63_2 => first | (unfold maxLen; omega) | omega
       case cb_2 => omega
       case cl_2 => first | (simp; omega) | omega
       (try (case cH_2 => simp))
       case next_2 =>
        intro g2 cap2 w2' hown2 hgrow2 hat2 hlt2
        have c2' : Chg (fun z => (Value.slice A2 q.length d2).ownBlock = some z) wr w2' := (Chg.alloc _ wr _).trans (Chg.of_grown hgrow2) (fun x _ hx => hx.symm)
        have B2' := hid (BV.out.trans (c2'.below hlV (fun x hx e => by have := (World.ownsRow.lt V2.out x e).1; omega)))
        have O2' := hid hown2
        have O8' := hid (own_chg V8.out c2' (fun k hk e => P82.out k hk e))
        have P82' := hid (show Apt (.slice (some a8) m c8) (.slice (some ⟨g2, 0, none⟩) (q.length + 1) cap2) from apt_next P82.out V8.out (show (Value.slice A2 q.length d2).ownBlock = some g2 ∨ wr.heap.size < g2 from hat2.imp id (fun e => by omega)))
        clear hown2 hgrow2 hat2 c2'
        go_wp2_with fail
        go_roundw
        case rel =>
         refine ⟨j + 1, some ⟨g2, 0, none⟩, cap2, by omega, by go_num, ?_, ?_, O8'.out, P82'.out, B2'.out⟩
         ·rw [HX1.out, List.length_append, List.length_singleton]
         ·rw [HX1.out]
          unfold OwnI
          rw [List.length_append, List.length_singleton, cellsI_append]
          exact O2'.out
        case measure => simp [intOf]; omega
     ·obtain rfl : j = m := by omega
      have HE := hid (show addsN (rch (nextP p) f i) ((nextP p gg).take j) = rch (nextP p) f (i + 1) by rw [List.take_of_length_le (by rw [HM.out]; exact Nat.le_refl _), HNX.out])
      go_wp2_with fail
      go_roundw
      case rel => exact ⟨i + 1, A2, d2, by omega, by go_num, by rw [← HE.out], by rw [← HE.out]; exact V2.out, BV.out⟩
      case measure => simp [intOf]; omega
   ·have HEND := hid (HALL.out i (by omega) hin)
    have HSS := hid (sortI_set HND.out)
    have hOI := O2.out
    unfold OwnI at hOI
    have HSO := hid (sort_any w2.heap.size _ c2 A2 (rch (nextP p) f i) rfl (by omega) wr hOI)
    have HOI := hid hOI
    clear hOI
    go_wp2_with fail
    refine HSO.out.mono ?_
    rintro e w4 ⟨rfl, o4, ch4⟩
    have O4 := hid o4
    have B4 := hid (HB.out.trans (ch4.below hlo (fun x hx e => by have := (World.ownsRow.lt HOI.out x e).1; omega)))
    clear o4 ch4 HSO
    go_wp2_with fail
    go_ret2
    have hlen : (setS (rch (nextP p) f i)).length = (rch (nextP p) f i).length := by rw [← HSS.out, sortI_len]
    refine ⟨A2, c2, ?_, ?_, B2.out.trans (B4.out.mono B2.out.size)⟩
    ·rw [HR.out, if_pos trivial, HRES.out, HEND.out]
     dsimp only
     rw [hlen] <;> rfl
    ·rw [HR.out, if_pos trivial, HRES.out, HEND.out]
     dsimp only
     unfold OwnI
     rw [hlen, ← HSS.out]
     exact own_mono O4.out B2.out.size
end Go.Proofs.Ytdmcgkcpclepfaa.ReaP
-- squeezed
