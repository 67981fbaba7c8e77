import Derived.Test.YtdmcgkcpclepfaaTo
set_option linter.all false
namespace Go.Proofs.Ytdmcgkcpclepfaa.MarkP
open Lib (hid)
open Go.ChangeShapes Go.WideShapes Go.ChangeAt Go.RowKit
open PL Mem To
def mkTr (k : Int) : Tr := (k, k + 1, k + 1 + 1)
def marks (k : Int) (n : Nat) : List Tr := (List.range n).map (fun (i : Nat) => mkTr (k + 3 * i))
theorem marks_length (k : Int) (n : Nat) : (marks k n).length = n := by simp [marks]
theorem marks_at (k : Int) (n i : Nat) (h : i < n) : (marks k n)[i]? = some (mkTr (k + 3 * i)) := by simp [marks, h]
theorem marks_succ (k : Int) (n : Nat) : marks k (n + 1) = marks k n ++ [mkTr (k + 3 * n)] := by simp [marks, List.range_succ]
theorem marks_set (k : Int) (xs : List Tr) (i : Nat) (hi : i < xs.length) : (marks k i ++ xs.drop i).set i (mkTr (k + 3 * i)) = marks k (i + 1) ++ xs.drop (i + 1) := by
 rw [List.set_append_right _ _ (by rw [marks_length]; exact Nat.le_refl _), marks_length, Nat.sub_self, List.drop_eq_getElem_cons hi, List.set_cons_zero, marks_succ, List.append_assoc]
 rfl
def cnt (p : Pg) : Nat := (p.map List.length).sum
def markP (k : Int) : Pg → Pg
 | [] => []
 | xs :: p => marks k xs.length :: markP (k + 3 * xs.length) p
theorem markP_length : ∀ (k : Int) (p : Pg), (markP k p).length = p.length
 | _, [] => rfl
 | k, xs :: p => by simp [markP, markP_length _ p]
theorem markP_snoc : ∀ (k : Int) (p : Pg) (xs : List Tr), markP k (p ++ [xs]) = markP k p ++ [marks (k + 3 * cnt p) xs.length]
 | k, [], xs => by simp [markP, cnt]
 | k, ys :: p, xs => by
  rw [List.cons_append, markP, markP, List.cons_append, markP_snoc _ p xs]
  have : k + 3 * (ys.length : Int) + 3 * (cnt p : Int) = k + 3 * (cnt (ys :: p) : Int) := by simp [cnt]; omega
  rw [this]
theorem markP_at : ∀ (k : Int) (p : Pg) (i : Nat) (xs : List Tr), p[i]? = some xs → (markP k p)[i]? = some (marks (k + 3 * cnt (p.take i)) xs.length)
 | k, [], i, xs, h => by simp at h
 | k, ys :: p, 0, xs, h => by
  obtain rfl : ys = xs := by simpa using h
  simp [markP, cnt]
 | k, ys :: p, i + 1, xs, h => by
  have := markP_at (k + 3 * ys.length) p i xs (by simpa using h)
  have e : k + 3 * (ys.length : Int) + 3 * (cnt (p.take i) : Int) = k + 3 * (cnt ((ys :: p).take (i + 1)) : Int) := by simp [cnt]; omega
  rw [markP, List.getElem?_cons_succ, this, e]
theorem cnt_next (p : Pg) (i : Nat) (xs : List Tr) (h : p[i]? = some xs) : cnt (p.take (i + 1)) = cnt (p.take i) + xs.length := by
 unfold cnt
 rw [List.take_add_one, h]
 simp
theorem cnt_take (p : Pg) (i : Nat) : cnt (p.take i) ≤ cnt p := by
 unfold cnt
 have : (p.map List.length).sum = ((p.take i).map List.length).sum + ((p.drop i).map List.length).sum := by
  conv => lhs; rw [← List.take_append_drop i p]
  rw [List.map_append, List.sum_append]
 omega
theorem part_length (k : Int) (p : Pg) (i : Nat) (hi : i ≤ p.length) : (markP k (p.take i) ++ p.drop i).length = p.length := by
 rw [List.length_append, markP_length, List.length_take, List.length_drop]; omega
theorem part_at (k : Int) (p : Pg) (i : Nat) (xs : List Tr) (h : p[i]? = some xs) : (markP k (p.take i) ++ p.drop i)[i]? = some xs := by
 have hi := (List.getElem?_eq_some_iff.1 h).1
 rw [List.getElem?_append_right (by rw [markP_length, List.length_take]; omega), markP_length, List.length_take, Nat.min_eq_left (by omega), Nat.sub_self, List.getElem?_drop]
 simpa using h
theorem part_set (k : Int) (p : Pg) (i : Nat) (xs : List Tr) (h : p[i]? = some xs) : (markP k (p.take i) ++ p.drop i).set i (marks (k + 3 * cnt (p.take i)) xs.length) = markP k (p.take (i + 1)) ++ p.drop (i + 1) := by
 have hi := (List.getElem?_eq_some_iff.1 h).1
 have hl : (markP k (p.take i)).length = i := by rw [markP_length, List.length_take]; omega
 rw [List.set_append_right _ _ (by omega), hl, Nat.sub_self, List.drop_eq_getElem_cons hi, List.set_cons_zero, List.take_add_one, h, Option.toList_some, markP_snoc, List.append_assoc]
 rfl
def OwnH (w : World) (lo hi : Nat) (v : Value) (p : Pg) : Prop :=
 ∃ vals : List Value, vals.length = p.length ∧ w.ownsRow lo 59 1 v p.length vals ∧
  (∀ (i : Nat) (xs : List Tr), p[i]? = some xs → ∃ u, vals[i]? = some u ∧ w.ownsRow lo 58 3 u xs.length (cells3 xs)) ∧
  (∀ (i j : Nat) (u u' : Value) (k : Nat), vals[i]? = some u → vals[j]? = some u' → u.ownBlock = some k → u'.ownBlock = some k → i = j) ∧
  (∀ k, v.ownBlock = some k → k < hi) ∧ ∀ (i : Nat) (u : Value) (k : Nat), vals[i]? = some u → u.ownBlock = some k → k < hi
theorem OwnH.own {w : World} {lo hi : Nat} {v : Value} {p : Pg} (h : OwnH w lo hi v p) : OwnP w lo v p := by
 obtain ⟨vals, a, b, c, d, _⟩ := h
 exact ⟨vals, a, b, c, d⟩
theorem OwnH.of {w : World} {lo : Nat} {v : Value} {p : Pg} (h : OwnP w lo v p) : OwnH w lo w.heap.size v p := by
 obtain ⟨vals, a, b, c, d⟩ := h
 refine ⟨vals, a, b, c, d, fun k hk => (b.lt k hk).2, fun i u k hu hk => ?_⟩
 have hi : i < p.length := by have := (List.getElem?_eq_some_iff.1 hu).1; omega
 obtain ⟨u', hu', ho⟩ := c i _ (List.getElem?_eq_getElem hi)
 obtain rfl : u = u' := by rw [hu] at hu'; simpa using hu'
 exact (ho.lt k hk).2
theorem OwnH.keep {w w' : World} {lo hi : Nat} {v : Value} {p : Pg} (h : OwnH w lo hi v p) (hk : ∀ b, lo ≤ b → b < hi → w'.heap[b]? = w.heap[b]?) : OwnH w' lo hi v p := by
 obtain ⟨vals, a, b, c, d, e, f⟩ := h
 have key : ∀ {t sz n : Nat} {u : Value} {xs : List Value}, w.ownsRow lo t sz u n xs → (∀ k, u.ownBlock = some k → k < hi) → w'.ownsRow lo t sz u n xs := by
  intro t sz n u xs ho hh
  refine ⟨ho.1, ?_⟩
  rcases ho.2 with h0 | ⟨g, cap, cur, rfl, hB, hg, r⟩
  ·exact .inl h0
  ·exact .inr ⟨g, cap, cur, rfl, hB, by rw [hk g hB (hh g rfl)]; exact hg, r⟩
 refine ⟨vals, a, key b e, fun i xs hx => ?_, d, e, f⟩
 obtain ⟨u, hu, ho⟩ := c i xs hx
 exact ⟨u, hu, key ho (f i u · hu)⟩
theorem OwnH.below {w w' : World} {lo hi : Nat} {v : Value} {p : Pg} (h : OwnH w lo hi v p) (hb : Below hi w w') : OwnH w' lo hi v p := h.keep fun b _ hb' => hb.block b hb'
theorem OwnH.chg {C : Nat → Prop} {w w' : World} {lo hi : Nat} {v : Value} {p : Pg} (h : OwnH w lo hi v p) (hb : Chg C w w') (hh : hi ≤ w.heap.size) (hC : ∀ k, lo ≤ k → k < hi → ¬ C k) : OwnH w' lo hi v p :=
 h.keep fun b h1 h2 => hb.block b (by omega) (hC b h1 h2)
theorem OwnH.row {w : World} {lo hi n c : Nat} {A : Option Addr} {q : Pg} {i : Nat} {xs : List Tr} (h : OwnH w lo hi (.slice A n c) q) (hx : q[i]? = some xs) :
  ∃ g Ai ci, A = some ⟨g, 0, none⟩ ∧ w.cell? ⟨g, i, none⟩ = some (.slice Ai xs.length ci) ∧ w.ownsRow lo 58 3 (.slice Ai xs.length ci) xs.length (cells3 xs) ∧
   (∀ k, (Value.slice Ai xs.length ci).ownBlock = some k → lo ≤ k ∧ k < hi) ∧
   ∀ (w' : World) (ys : List Tr), ys.length = xs.length → w'.ownsRow lo 58 3 (.slice Ai xs.length ci) xs.length (cells3 ys) →
    Chg (fun b => (Value.slice Ai xs.length ci).ownBlock = some b) w w' → OwnH w' lo hi (.slice A n c) (q.set i ys) := by
 obtain ⟨vals, hl, ho, hr, hd, he, hf⟩ := h
 have hi : i < q.length := (List.getElem?_eq_some_iff.1 hx).1
 obtain ⟨u, hu, hown⟩ := hr i xs hx
 obtain ⟨Ai, ci, rfl⟩ := own_slice hown
 rcases own_form ho with ⟨h0, _⟩ | ⟨_, g, cap, hv, _, hg⟩
 ·omega
 ·have hv' := hv
  simp only [Value.slice.injEq] at hv
  obtain ⟨rfl, rfl, rfl⟩ := hv
  have hoc := ho.cellAt (g := g) i (by omega)
  refine ⟨g, Ai, ci, rfl, hoc.trans hu, hown, fun k hk => ⟨(hown.lt k hk).1, hf i _ k hu hk⟩, fun w' ys hy hown' hch => ?_⟩
  have hne : ∀ k, (Value.slice (some ⟨g, 0, none⟩) q.length c).ownBlock = some k → ¬ (Value.slice Ai xs.length ci).ownBlock = some k := by
   intro k hk hk'
   rcases ho.2 with ⟨h1, _⟩ | ⟨g1, c1, cur1, h1, _, hh1, _⟩
   ·cases h1
   ·rcases hown.2 with ⟨h2, _⟩ | ⟨g2, c2, cur2, h2, _, hh2, _⟩
    ·rw [h2] at hk'; cases hk'
    ·rw [h1] at hk
     rw [h2] at hk'
     obtain rfl : g1 = k := by simpa [Value.ownBlock] using hk
     obtain rfl : g2 = g1 := by simpa [Value.ownBlock] using hk'
     rw [hh1] at hh2
     injection hh2 with hh2
     injection hh2 with _ ht
     exact absurd ht (by decide)
  refine ⟨vals, by simpa using hl, ?_, fun j zs hz => ?_, hd, he, hf⟩
  ·rw [List.length_set]
   exact own_chg ho hch hne
  ·by_cases hij : i = j
   ·subst hij
    obtain rfl : ys = zs := by simpa [hi] using hz
    rw [hy]
    exact ⟨_, hu, hown'⟩
   ·rw [List.getElem?_set_ne hij] at hz
    obtain ⟨u', hu', ho'⟩ := hr j zs hz
    exact ⟨u', hu', own_chg ho' hch (fun k hk hk' => hij (hd i j _ _ k hu hu' hk' hk))⟩
def MarkedS (B n c : Nat) (A : Option Addr) (k : Int) (w : World) (e : Ending) (w' : World) : Prop :=
 e = .returned (.int .i64 (k + 3 * n)) ∧ w'.ownsRow B 58 3 (.slice A n c) n (cells3 (marks k n)) ∧ Chg (fun b => (Value.slice A n c).ownBlock = some b) w w'
theorem markStepS_any (B n c : Nat) (A : Option Addr) (xs : List Tr) (k : Int) (hn : n ≤ 2000000) (hl : xs.length = n) (hk0 : 0 ≤ k) (hk : k ≤ 20000000000) (w : World)
  (ho : w.ownsRow B 58 3 (.slice A n c) n (cells3 xs)) :
  Calls Try.prog 107 #[.slice A n c, .int .i64 k] w (MarkedS B n c A k w) := by
 have hO0 := hid ho
 have hL := hid hl
 clear ho hl
 go_enter Try.func107, Try.ntmps107
 go_wp2
 go_loopw [1, 5] (fun v i wr => ∃ (j : Nat) (m : Int), j ≤ n ∧ i = .int .i64 j ∧ v = .int .i64 m ∧ 0 ≤ m ∧ m ≤ 20000000000 + 3 * j ∧ Hid (m = k + 3 * j) ∧ wr.ownsRow B 58 3 (.slice A n c) n (cells3 (marks k j ++ xs.drop j)) ∧
   Chg (fun b => (Value.slice A n c).ownBlock = some b) w wr) (fun _ i _ => n - (intOf i).toNat)
 case atStart => exact ⟨0, k, Nat.zero_le _, rfl, rfl, hk0, by omega, hid (by omega), by simpa [marks] using hO0.out, Chg.refl _ _⟩
 case round =>
  obtain ⟨j, m, hj, rfl, rfl, m0, m1, hM, hown, hch⟩ := hrel
  have m2 : m ≤ 27000000000 := by omega
  by_cases hlt : j < n
  ·have hO := hid hown
   have hC := hid hch
   rcases own_form hown with ⟨h0, _⟩ | ⟨_, g, cap, hv, _, hg⟩
   ·omega
   ·simp only [Value.slice.injEq, true_and] at hv
    obtain ⟨rfl, rfl⟩ := hv
    obtain ⟨u0, u1, u2, g0, g1, g2⟩ := own_cell3 hown hlt
    have f := hown.frozenAt
    clear hown hch
    go_wp2
    go_roundw
    case rel =>
     refine ⟨j + 1, m + 1 + 1 + 1, by omega, by go_num, rfl, by omega, by omega, hid (by rw [hM.out]; omega), ?_, ?_⟩
     ·rw [← marks_set k xs j (by rw [hL.out]; exact hlt), ← hM.out]
      exact own_set3 hO.out hlt (mkTr m)
     ·refine Chg.put (Chg.put (Chg.put hC.out _ _ ?_) _ _ ?_) _ _ ?_ <;> exact .inr rfl
    case measure => simp [intOf]; omega
  ·obtain rfl : j = n := by omega
   have hO := hid hown
   have hC := hid hch
   clear hown hch
   go_wp2
   go_ret
   refine ⟨by rw [hM.out]; rfl, ?_, hC.out⟩
   have := hO.out
   rwa [List.drop_eq_nil_of_le (by rw [hL.out]; omega), List.append_nil] at this
def MarkedP (lo hi n c : Nat) (A : Option Addr) (p : Pg) (k : Int) (w : World) (e : Ending) (w' : World) : Prop :=
 e = .returned (.int .i64 (k + 3 * cnt p)) ∧ OwnH w' lo hi (.slice A n c) (markP k p) ∧ Chg (fun b => lo ≤ b ∧ b < hi) w w'
theorem markStepSS_any (lo hi n c : Nat) (A : Option Addr) (p : Pg) (k : Int) (hn : n ≤ 2000000) (hl : p.length = n) (hsm : Small p 2000000) (hk0 : 0 ≤ k) (hk : k + 3 * cnt p ≤ 20000000000) (w : World)
  (ho : OwnH w lo hi (.slice A n c) p) :
  Calls Try.prog 58 #[.slice A n c, .int .i64 k] w (MarkedP lo hi n c A p k w) := by
 have hO0 := hid ho
 have hL := hid hl
 have hS := hid hsm
 clear ho hl hsm
 go_enter Try.func58, Try.ntmps58
 go_wp2
 go_loopw [1, 5] (fun v i wr => ∃ (j : Nat) (m : Int), j ≤ n ∧ i = .int .i64 j ∧ v = .int .i64 m ∧ 0 ≤ m ∧ m ≤ 20000000000 ∧ Hid (m = k + 3 * cnt (p.take j)) ∧ OwnH wr lo hi (.slice A n c) (markP k (p.take j) ++ p.drop j) ∧
   Chg (fun b => lo ≤ b ∧ b < hi) w wr) (fun _ i _ => n - (intOf i).toNat)
 case atStart => exact ⟨0, k, Nat.zero_le _, rfl, rfl, hk0, by omega, hid (by simp [cnt]), by simpa [markP] using hO0.out, Chg.refl _ _⟩
 case round =>
  obtain ⟨j, m, hj, rfl, rfl, m0, m1, hM, hown, hch⟩ := hrel
  by_cases hlt : j < n
  ·obtain ⟨xs, hs⟩ : ∃ s, p[j]? = some s := ⟨_, List.getElem?_eq_getElem (by rw [hL.out]; exact hlt)⟩
   obtain ⟨g, Ai, ci, rfl, hc, hrow, hbd, hput⟩ := hown.row (part_at k p j xs hs)
   have hxn := hS.out j xs hs
   have hnx := cnt_next p j xs hs
   have hct := cnt_take p (j + 1)
   have m2 : m + 3 * xs.length ≤ 20000000000 := by have := hM.out; omega
   have HR := hid hrow
   have HP := hid hput
   have HB := hid hbd
   have HC := hid hch
   have HS := hid hs
   have HN := hid hnx
   clear hown hrow hput hbd hch hs hnx hct
   go_wp2_with fail
   refine (markStepS_any lo xs.length ci Ai xs m hxn rfl m0 m1 _ HR.out).mono ?_
   rintro e w1 ⟨rfl, o1, c1⟩
   have O1 := hid o1
   have C1 := hid c1
   clear o1 c1
   go_wp2_with fail
   go_roundw
   case rel =>
    refine ⟨j + 1, m + 3 * xs.length, by omega, by go_num, rfl, by omega, by omega, hid (by rw [hM.out, HN.out]; omega), ?_, ?_⟩
    ·rw [← part_set k p j xs HS.out, ← hM.out]
     exact HP.out _ _ (marks_length _ _) O1.out C1.out
    ·exact HC.out.trans C1.out (fun x _ hx => HB.out x hx)
   case measure => simp [intOf]; omega
  ·obtain rfl : j = n := by omega
   have hO := hid hown
   have hC := hid hch
   clear hown hch
   go_wp2
   go_ret
   have e1 : p.take j = p := List.take_of_length_le (by rw [hL.out]; omega)
   refine ⟨by rw [hM.out, e1]; rfl, ?_, hC.out⟩
   have := hO.out
   rwa [List.drop_eq_nil_of_le (by rw [hL.out]; omega), List.append_nil, e1] at this
theorem markProgram_any (lo hi n c : Nat) (A : Option Addr) (p : Pg) (k : Int) (hn : n ≤ 2000000) (hl : p.length = n) (hsm : Small p 2000000) (hk0 : 0 ≤ k) (hk : k + 3 * cnt p ≤ 20000000000) (w : World)
  (hh : hi ≤ w.heap.size) (ho : OwnH w lo hi (.slice A n c) p) :
  Calls Try.prog 21 #[.agg #[.slice A n c], .int .i64 k] w (MarkedP lo hi n c A p k w) := by
 have hO0 := hid ho
 have h1 : ∀ o : Obj, Below w.heap.size w (w.alloc o) := fun o => (Below.refl _ _).alloc (Nat.le_refl _) _
 have H1 := hid h1
 clear ho h1
 go_enter Try.func21, Try.ntmps21
 go_wp2_with fail
 refine (markStepSS_any lo hi n c A p k hn hl hsm hk0 hk _ (hO0.out.below ((H1.out _).mono hh))).mono ?_
 rintro e w1 ⟨rfl, o1, c1⟩
 go_wp2_with fail
 go_ret
 exact ⟨rfl, o1, (Chg.of_below (H1.out _)).trans c1 (fun _ _ h => h)⟩
end Go.Proofs.Ytdmcgkcpclepfaa.MarkP
-- squeezed
