/- resources: the open resources in the order of their last opening entries: a map ranged over, its keys sorted by their places. -/
import Derived.Test.YtikdcnlbjpabjaaDoorEmf
import Derived.Test.YtikdcnlbjpabjaaDoorShelfF
import Derived.Sort.OwnSortedInts
import Derived.Maps.RangeWalk
namespace Go.Proofs.YtikdcnlbjpabjaaDoor.EntL
set_option linter.unusedVariables false
set_option linter.unusedSimpArgs false
open Go.ChangeShapes Go.WideShapes Go.ChangeAt Go.RowKit Go.Maps
open Mem IntsP LiP EntP GrwP EntS

abbrev Al := { z : Int // inN z }
instance : Inhabited Al := ⟨⟨0, by unfold inN; omega⟩⟩
def encA (x : Al) : Value := .int .i64 x.1
theorem putCells_map (d : Array Al) (c : Array Value) : Go.Sort.putCells encA 0 d c = Go.Sort.putCells (Value.int .i64) 0 (d.map (fun x => x.1)) c := by
  unfold Go.Sort.putCells
  apply Array.ext
  · simp
  · intro i h1 h2
    simp only [Array.getElem_mapIdx, Array.size_map]
    by_cases h : 0 ≤ i ∧ i < 0 + d.size
    · rw [if_pos h, if_pos h]
      have hi : i - 0 < d.size := by omega
      rw [getElem!_pos d _ hi, getElem!_pos _ _ (by simpa using hi)]
      simp [encA]
    · rw [if_neg h, if_neg h]
theorem sortWorld_map (w : World) (g n : Nat) (d : Array Al) (os : Array Obj) : sortWorld encA w g 0 n d os = Go.Sort.grow (Go.Sort.putRow (Value.int .i64) (Go.Sort.ahead w n) g 0 (d.map (fun x => x.1))) os := by
  unfold sortWorld Go.Sort.putRow
  congr 2
  funext c
  exact putCells_map d c
/-- The place that a map tells of a number, or 0. -/
def fD (D : DataW Unit) (x : Int) : Int := match D.atKey (keyI x) (.lit (.int .i64 0)) with | .lit (.int .i64 c) => c | _ => 0
theorem fD_at {D : DataW Unit} {x c : Int} (h : D.atKey (keyI x) (.lit (.int .i64 0)) = .lit (.int .i64 c)) : fD D x = c := by unfold fD; rw [h]
theorem fD_le {D : DataW Unit} {o : List Int} {i : Nat} (h : MapO D o i) (x : Int) : 0 ≤ fD D x ∧ fD D x ≤ i := by
  by_cases hx : x ∈ o
  · obtain ⟨f, h1, _⟩ := h.pl
    rw [fD_at ((h1 x hx).2 _)]
    have := (h1 x hx).1
    omega
  · have hh := h.has_ x
    rw [decide_eq_false hx] at hh
    rw [fD_at (atKey_of_not_has hh _)]
    omega
theorem fD_pair {D : DataW Unit} {o : List Int} {i : Nat} (h : MapO D o i) : o.Pairwise (fun a b => fD D a < fD D b) := by
  obtain ⟨f, h1, h2⟩ := h.pl
  exact List.Pairwise.imp_of_mem (fun {a b} ha hb hab => by rw [fD_at ((h1 a ha).2 _), fD_at ((h1 b hb).2 _)]; omega) h2
theorem sorted_unique {f : Int → Int} : ∀ {o l : List Int}, o.Pairwise (fun a b => f a < f b) → l.Pairwise (fun a b => f a ≤ f b) → l.Perm o → l = o
  | [], l, _, _, hp => List.Perm.eq_nil hp
  | a :: o, [], _, _, hp => by have := hp.length_eq; simp at this
  | a :: o, x :: l, ho, hl, hp => by
    rw [List.pairwise_cons] at ho hl
    have hxa : x = a := by
      rcases List.mem_cons.1 (hp.mem_iff.1 (List.mem_cons_self ..)) with h | h
      · exact h
      · have h1 := ho.1 x h
        rcases List.mem_cons.1 (hp.mem_iff.2 (List.mem_cons_self ..)) with h2 | h2
        · exact h2.symm
        · have := hl.1 a h2; omega
    subst hxa
    rw [sorted_unique ho.2 hl.2 ((List.perm_cons x).1 hp)]
def cfA (D : DataW Unit) (x y : Al) : Int := fD D x.1 - fD D y.1
theorem ltA (D : DataW Unit) (x y : Al) : ltOf (cfA D) x y = decide (fD D x.1 < fD D y.1) := by
  unfold ltOf cfA
  by_cases h : fD D x.1 < fD D y.1
  · rw [decide_eq_true h]; exact decide_eq_true (by omega)
  · rw [decide_eq_false h]; exact decide_eq_false (by omega)
theorem swoA (D : DataW Unit) : Go.Sort.SWO (ltOf (cfA D)) where
  irrefl x := by rw [ltA]; simp
  trans x y z h1 h2 := by rw [ltA] at *; simp at *; omega
  ntrans x y z h1 h2 := by rw [ltA] at *; simp at *; omega
set_option maxRecDepth 100000 in
set_option maxHeartbeats 2000000 in
theorem cmp_any (b bx n i : Nat) (D : DataW Unit) (o : List Int) (hi : i ≤ 100000) (hm : MapO D o i) (x y : Int) (hx : inN x) (hy : inN y) (w : World) (c0 : w.cell? ⟨bx, 0, none⟩ = some (.map (some b)))
    (hown : w.ownsMap Tryd.prog 3 (plainElem Tryd.prog 3) b n D) :
    Calls Tryd.prog 61 #[.int .i64 x, .int .i64 y, .pointer (some ⟨bx, 0, none⟩)] w fun e w' => e = .returned (.int .i64 (fD D x - fD D y)) ∧ w' = w := by
  have hkx := keyOfI hx
  have hky := keyOfI hy
  have l1 := fD_le hm x
  have l2 := fD_le hm y
  clear hm
  go_enter Tryd.func61, Tryd.ntmps61
  go_wp2_with (first
    | (at_lookup; refine wpList_lookup_own_int _ rfl _ _ 61 rfl 3 3 .i64 lawI Tryd.underlying61 Tryd.underlying3 (zeroI _) b n D rfl hown _ _ rfl (by first | exact hkx | exact hky) ?_; intro c hat hwc)
    | go_in)
  rename_i c1 hat1 hwc1
  have e1 := Lib.hid (fD_at hat1)
  have e2 := Lib.hid (fD_at hat)
  rw [e1.out] at l1
  rw [e2.out] at l2
  go_ret
  exact ⟨by rw [e1.out, e2.out]; show Ending.returned (.int .i64 (wrap64 (c1 - c))) = _; rw [IntWalk.wrap64_in _ (by omega)], rfl⟩
def mkA : ∀ (ys : List Int), (∀ y ∈ ys, inN y) → List Al
  | [], _ => []
  | y :: ys, h => ⟨y, h y (List.mem_cons_self ..)⟩ :: mkA ys (fun z hz => h z (List.mem_cons_of_mem _ hz))
theorem mkA_val : ∀ (ys : List Int) (h : ∀ y ∈ ys, inN y), (mkA ys h).map (fun x => x.1) = ys
  | [], _ => rfl
  | y :: ys, h => by rw [mkA, List.map_cons, mkA_val]
theorem mkA_len (ys : List Int) (h : ∀ y ∈ ys, inN y) : (mkA ys h).length = ys.length := by rw [← List.length_map (f := fun x : Al => x.1), mkA_val]
theorem holdsA {w : World} {g : Nat} {l : List Al} (h : Go.Sort.Holds (Value.int .i64) w g 0 (l.map (fun x => x.1)).toArray) : Go.Sort.Holds encA w g 0 l.toArray := by
  intro j hj
  have hj' : j < l.length := by simpa using hj
  obtain ⟨h1, h2⟩ := h j (by simpa using hj)
  refine ⟨h1.trans ?_, h2⟩
  rw [getElem!_pos (l.map (fun x : Al => x.1)).toArray j (by simpa using hj), getElem!_pos l.toArray j hj]
  simp [encA]
set_option maxHeartbeats 2000000 in
theorem sortO_any (lo n c b bx nD i : Nat) (A : Option Addr) (ys o : List Int) (D : DataW Unit) (hl : ys.length = n) (hn : n ≤ 1000000) (hi : i ≤ 100000) (hp : ys.Perm o) (hin : ∀ y ∈ ys, inN y) (hm : MapO D o i) (w : World)
    (ho : w.ownsRow lo 3 1 (.slice A n c) n (cellsI ys)) (c0 : w.cell? ⟨bx, 0, none⟩ = some (.map (some b))) (hown : w.ownsMap Tryd.prog 3 (plainElem Tryd.prog 3) b nD D) (hb : b < lo) (hbx : bx < lo) :
    Calls Tryd.prog 60 #[.slice A n c, .func (.func 61) #[] #[.pointer (some ⟨bx, 0, none⟩)]] w fun e w' => e = .returned (.tuple #[]) ∧
      w'.ownsRow lo 3 1 (.slice A n c) n (cellsI o) ∧ Chg (fun k => (Value.slice A n c).ownBlock = some k) w w' := by
  have hlb : bx < w.heap.size := World.block_lt_of_cell? w _ c0
  rcases ho.2 with ⟨hv, h0⟩ | ⟨g, cap, cur, hv, hg, hh, hnc, hcap, hsz, htake⟩
  · simp only [Value.slice.injEq] at hv
    obtain ⟨rfl, rfl, rfl⟩ := hv
    obtain rfl : ys = [] := List.eq_nil_of_length_eq_zero hl
    obtain rfl : o = [] := (List.Perm.nil_eq hp).symm
    refine (Tryd.slices_SortFunc_none (α := Al) none 0 _ w).mono ?_
    rintro e w' ⟨rfl, rfl⟩
    exact ⟨rfl, ho, Chg.refl _ _⟩
  · simp only [Value.slice.injEq, true_and] at hv
    obtain ⟨rfl, rfl⟩ := hv
    subst hl
    have hH0 := holds_of_blockI (ss := ys) hh (by simpa [cellsI] using htake)
    have hH : Go.Sort.Holds encA w g 0 (mkA ys hin).toArray := holdsA (by rw [mkA_val]; exact hH0)
    have hsize : (mkA ys hin).toArray.size = ys.length := by simp [mkA_len]
    have hgr : ∀ (m : Nat) (os : Array Obj) (dk : Array Al), w.grownBy (sortWorld encA w g 0 m dk os) (some g) := fun m os dk => by rw [sortWorld_map]; exact grownBy_sortedI _
    have hcmp : CmpLays1 Tryd.prog 61 #[.pointer (some ⟨bx, 0, none⟩)] encA (cfA D) g 0 (mkA ys hin).toArray.size w := by
      refine CmpReads.lays (fun m os dk hs x y => ?_)
      have e : #[encA x, encA y] ++ #[Value.pointer (some ⟨bx, 0, none⟩)] = #[.int .i64 x.1, .int .i64 y.1, .pointer (some ⟨bx, 0, none⟩)] := rfl
      rw [e]
      have g1 := hgr m os dk
      refine (cmp_any b bx nD i D o hi hm x.1 y.1 x.2 y.2 _ (((Chg.of_grown g1).cell (p := ⟨bx, 0, none⟩) hlb (by intro hc; injection hc with hc; have : bx = g := hc; omega)).trans c0) (hown.kept g1 (by intro hc; injection hc with hc; omega))).mono ?_
      rintro e w' ⟨rfl, rfl⟩
      exact ⟨rfl, 0, rfl⟩
    have eg : ∀ args w, (callFunc 61 args).run Tryd.prog w = .ok (.enter 61 args) w := enters_of Tryd.func61 (by kernel_rfl) rfl
    have hc := Tryd.slices_SortFunc encA (fun _ => rfl) (cfA D) (swoA D) 61 #[.pointer (some ⟨bx, 0, none⟩)] g 0 c (mkA ys hin).toArray w eg hcmp hH (Array.getElem?_eq_some_iff.1 hh).1 (by rw [hsize]; omega)
    rw [hsize] at hc
    refine hc.mono ?_
    rintro e w' ⟨rfl, d', q, os, hperm, hsort, rfl⟩
    obtain ⟨p1, _, p3⟩ := hperm
    have hd : d'.size = ys.length := by rw [p1, hsize]
    have e1 : (d'.extract 0 ys.length).toList = d'.toList := by rw [← hd]; simp
    have e2 : ((mkA ys hin).toArray.extract 0 ys.length).toList = mkA ys hin := by rw [← hsize]; simp
    rw [e1, e2] at p3
    have hts : d'.toList.map (fun x => x.1) = o := by
      refine sorted_unique (fD_pair hm) ?_ ((p3.map (fun x => x.1)).trans (by rw [mkA_val]; exact hp))
      rw [List.pairwise_iff_getElem]
      intro a c' ha hc' hac
      have ha' : a < d'.size := by simpa using ha
      have hc2 : c' < d'.size := by simpa using hc'
      have h5 := hsort a c' (Nat.zero_le _) hac (by omega)
      rw [ltA, decide_eq_false_iff_not] at h5
      simp only [List.getElem_map, Array.getElem_toList]
      rw [getElem!_pos d' a ha', getElem!_pos d' c' hc2] at h5
      omega
    have e3 : d'.map (fun x => x.1) = o.toArray := by rw [← hts]; apply Array.ext' ; simp
    refine ⟨rfl, ?_, (Chg.of_grown (hgr q os d')).mono (fun k _ hk => hk.symm)⟩
    rw [sortWorld_map, e3]
    exact ownsRow_sortedI (ss := ys) (ts := o) hp.length_eq.symm hg hh hnc hcap hsz
end Go.Proofs.YtikdcnlbjpabjaaDoor.EntL
