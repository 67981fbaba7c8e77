/- The walks of DeferCalls, the program's and the model's. -/
import Derived.Test.YtgfjdfmmkomolaaDefer
namespace Go.Proofs.Ytgfjdfmmkomolaa.DeferW
set_option linter.unusedVariables false
set_option linter.unusedSimpArgs false
open Go.ChangeShapes Go.WideShapes Go.ChangeAt Go.RowKit
open PL Mem To MarkP Res Prg PrgS StpS DeferP

theorem own_at {w : World} {B e n c : Nat} {A : Option Addr} {xs : List Tr} (h : w.ownsRow B e 3 (.slice A n c) n (cells3 xs)) {k : Nat} {s : Tr} (hs : xs[k]? = some s) (hk : k < n) :
    ∃ g, A = some ⟨g, 0, none⟩ ∧ g < w.heap.size ∧ (∀ o, (w.alloc o).cell? ⟨g, k * 3, none⟩ = some (.int .i64 s.1)) ∧ (∀ o, (w.alloc o).frozen? ⟨g, k * 3, none⟩ = false) ∧ (∀ o, (w.alloc o).cell? ⟨g, k * 3 + 1, none⟩ = some (.int .i64 s.2.1)) ∧ (∀ o, (w.alloc o).frozen? ⟨g, k * 3 + 1, none⟩ = false) ∧
      w.cell? ⟨g, k * 3, none⟩ = some (.int .i64 s.1) ∧ w.cell? ⟨g, k * 3 + 1, none⟩ = some (.int .i64 s.2.1) ∧ w.cell? ⟨g, k * 3 + 2, none⟩ = some (.int .i64 s.2.2) ∧ w.frozen? ⟨g, k * 3, none⟩ = false ∧ w.frozen? ⟨g, k * 3 + 1, none⟩ = false := by
  rcases own_form h with ⟨h0, _⟩ | ⟨_, g, cap, hv, _, hg⟩
  · omega
  · simp only [Value.slice.injEq, true_and] at hv
    obtain ⟨rfl, rfl⟩ := hv
    obtain ⟨c0, c1, c2⟩ := cells3_at xs k s hs
    have b : ∀ o, Below w.heap.size w (w.alloc o) := fun o => (Below.refl _ _).alloc (Nat.le_refl _) o
    have d0 := (h.cellAt (k * 3) (by omega)).trans c0
    have d1 := (h.cellAt (k * 3 + 1) (by omega)).trans c1
    have d2 := (h.cellAt (k * 3 + 2) (by omega)).trans c2
    exact ⟨g, rfl, hg, fun o => ((b o).cell (p := ⟨g, k * 3, none⟩) hg).trans d0, fun o => ((b o).frozen (p := ⟨g, k * 3, none⟩) hg).trans (h.frozenAt _), fun o => ((b o).cell (p := ⟨g, k * 3 + 1, none⟩) hg).trans d1, fun o => ((b o).frozen (p := ⟨g, k * 3 + 1, none⟩) hg).trans (h.frozenAt _),
      d0, d1, d2, h.frozenAt _, h.frozenAt _⟩
theorem own_put {w : World} {B e n c : Nat} {A : Option Addr} {xs : List Tr} {k : Nat} {s : Tr} {g : Nat} {a : Int} (h : w.ownsRow B e 3 (.slice A n c) n (cells3 xs)) (hA : A = some ⟨g, 0, none⟩) (hs : xs[k]? = some s) :
    (w.setCell ⟨g, k * 3, none⟩ (.int .i64 a)).ownsRow B e 3 (.slice A n c) n (cells3 (xs.set k (a, s.2.1, s.2.2))) := by
  subst hA
  have := (h.stored (k * 3) (.int .i64 a)).1
  rwa [cells3_set0 xs k s a hs] at this
theorem own_put1 {w : World} {B e n c : Nat} {A : Option Addr} {xs : List Tr} {k : Nat} {s : Tr} {g : Nat} {a : Int} (h : w.ownsRow B e 3 (.slice A n c) n (cells3 xs)) (hA : A = some ⟨g, 0, none⟩) (hs : xs[k]? = some s) :
    (w.setCell ⟨g, k * 3 + 1, none⟩ (.int .i64 a)).ownsRow B e 3 (.slice A n c) n (cells3 (xs.set k (s.1, a, s.2.2))) := by
  subst hA
  have := (h.stored (k * 3 + 1) (.int .i64 a)).1
  rwa [cells3_set1 xs k s a hs] at this
theorem blk_new (w : World) (t : TypeId) (cs : Array Value) : Blk (w.alloc (.cells cs t)) w.heap.size t cs := heap_alloc_new w _

set_option maxHeartbeats 2000000 in
theorem implDefer_any (lo n c : Nat) (A : Option Addr) (p : Pg) (f : Int) (hn : n ≤ 2000000) (hl : p.length = n) (hsm : Small p 2000000) (w : World) (ho : OwnP w lo (.slice A n c) p) :
    Calls Try.prog 34 #[.agg #[.slice A n c], .int .i64 f] w (ProgR (deferR p f) w) := by
  have hF := Lib.hid (fun w hr hB => isFunction_any w.heap.size A n c p f (by omega) hl (hsm.mono (by omega)) w hr hB)
  have h2 : ∀ o o' : Obj, Below w.heap.size w ((w.alloc o).alloc o') := fun o o' => ((Below.refl _ _).alloc (Nat.le_refl _) _).alloc (by simp) _
  have H2 := Lib.hid h2
  have hO := Lib.hid ho
  clear ho h2
  have hk0 : ∀ w1 : World, Below ((w.alloc (.cells #[.slice A n c] 30)).alloc (.cells #[.slice none 0 0] 30)).heap.size ((w.alloc (.cells #[.slice A n c] 30)).alloc (.cells #[.slice none 0 0] 30)) w1 →
      Blk w1 w.heap.size 30 #[.slice A n c] ∧ Blk w1 (w.heap.size + 1) 30 #[.slice none 0 0] ∧ Below w.heap.size w w1 ∧ w.heap.size + 2 ≤ w1.heap.size :=
    fun w1 b => ⟨Blk.below (heap2_0 _ _ _) b (by simp; omega), Blk.below (heap2_1 _ _ _) b (by simp), (H2.out _ _).trans (b.mono (by simp; omega)), by have := b.size; simp at this; omega⟩
  have HK := Lib.hid hk0
  clear hk0
  cases hfn : isFn p f with
  | false =>
    have hs := Lib.hid (show deferR p f = ([], false) by unfold deferR; rw [hfn]; rfl)
    rw [hfn] at hF
    clear hfn hl hsm
    go_enter Try.func34, Try.ntmps34
    go_wp2_with fail
    refine (hF.out _ (hO.out.below (H2.out _ _)).rd (Nat.le_refl _)).mono ?_
    rintro e w1 ⟨rfl, b1⟩
    obtain ⟨d0, d1, bb1, s1⟩ := HK.out w1 b1
    have z0 : w1.cell? ⟨w.heap.size, 0, none⟩ = some (.slice A n c) := d0.cells 0
    have z1 : w1.cell? ⟨w.heap.size + 1, 0, none⟩ = some (.slice none 0 0) := d1.cells 0
    have f1 := d1.frozen 0
    clear d0 d1 b1
    go_wp2_with fail
    exact bodyPost_ret (v := .tuple #[.agg #[.slice none 0 0], .bool false]) (by simp [results, Try.results34, go_sem, z1]) rfl (by rw [hs.out]; exact ⟨none, 0, rfl, own_nil _ _, bb1.setCell (by show w.heap.size ≤ w.heap.size + 1; omega) _⟩)
  | true =>
    obtain ⟨hok, f0, fn, hx⟩ := isFn_parts hfn
    obtain ⟨j, rfl⟩ := Int.eq_ofNat_of_zero_le f0
    have hs := Lib.hid (show deferR p j = (p.set j ((body p j).map deferS), true) by unfold deferR deferP; rw [hfn]; rfl)
    rw [hfn] at hF
    obtain ⟨_, hn6, hsm8⟩ := okProg_parts hok
    have hC := Lib.hid (fun (W : World) (h : OwnP W lo (.slice A n c) p) => CopyP.copyProgram_any lo n c A p (by omega) hl (fun i xs h => Nat.le_trans (hsm8 i xs h).1 (by omega)) W h)
    rw [Int.toNat_natCast] at hx
    have hxl := (hsm8 j _ hx).1
    generalize body p j = xs at *
    have HX := Lib.hid hx
    have hjn : j < n := by omega
    have hL := Lib.hid hl
    clear hfn hl hsm hok fn hn6 hsm8 hx f0
    go_enter Try.func34, Try.ntmps34
    go_wp2_with fail
    refine (hF.out _ (hO.out.below (H2.out _ _)).rd (Nat.le_refl _)).mono ?_
    rintro e w1 ⟨rfl, b1⟩
    obtain ⟨d0, d1, bb1, s1⟩ := HK.out w1 b1
    have z0 : w1.cell? ⟨w.heap.size, 0, none⟩ = some (.slice A n c) := d0.cells 0
    clear b1
    go_wp2_with fail
    refine (hC.out _ (hO.out.below bb1)).mono ?_
    rintro e w2 ⟨A2, c2, rfl, o2, b2⟩
    have D1 := Lib.hid (d1.below b2 d1.lt)
    have bb2 := Lib.hid (bb1.trans (b2.mono bb1.size))
    have s2 := b2.size
    obtain ⟨g, Ai, ci, rfl, hc2, hrow, hbd, hput⟩ := (OwnH.of o2).row HX.out
    have hgl : g < w2.heap.size := World.block_lt_of_cell? w2 _ hc2
    have OH := Lib.hid o2
    have HP := Lib.hid hput
    have HB := Lib.hid hbd
    have HR := Lib.hid hrow
    have k2 : ∀ o, (w2.alloc o).cell? ⟨g, j, none⟩ = some (.slice Ai xs.length ci) := fun o => (((Below.refl _ _).alloc (Nat.le_refl _) o).cell (p := ⟨g, j, none⟩) hgl).trans hc2
    clear z0 d0 d1 bb1 b2 o2 hput hbd hrow
    go_wp2_with fail
    have W3 : ∃ W3, w2.alloc (.cells #[.slice (some ⟨g, 0, none⟩) n c2] 30) = W3 := ⟨_, rfl⟩
    obtain ⟨W3, hW3⟩ := W3
    have HW := Lib.hid hW3
    rw [hW3]
    have b3 : Below w2.heap.size w2 W3 := by rw [← hW3]; exact (Below.refl _ _).alloc (Nat.le_refl _) _
    have B3 : Blk W3 w2.heap.size 30 #[.slice (some ⟨g, 0, none⟩) n c2] := by rw [← hW3]; exact blk_new _ _ _
    have R3 := Lib.hid (own_below HR.out b3 (Nat.le_refl _))
    have D3 := Lib.hid (D1.out.below b3 D1.out.lt)
    have B3' := Lib.hid B3
    have b3' := Lib.hid b3
    clear hW3 k2 hc2 b3 B3
    go_loopw [24] (fun i wr => ∃ k : Nat, k ≤ xs.length ∧ i = .int .i64 k ∧ wr.ownsRow w1.heap.size 34 3 (.slice Ai xs.length ci) xs.length (cells3 (dpart deferS xs k)) ∧ Chg (fun b => (Value.slice Ai xs.length ci).ownBlock = some b) W3 wr) (fun i _ => xs.length - (intOf i).toNat)
    case atStart => exact ⟨0, Nat.zero_le _, rfl, by simpa [dpart] using R3.out, Chg.refl _ _⟩
    case round =>
      obtain ⟨k, hk, rfl, hown, hch⟩ := hrel
      have HO := Lib.hid hown
      have HC := Lib.hid hch
      clear hch
      by_cases hlt : k < xs.length
      · obtain ⟨s, hsx⟩ : ∃ s, xs[k]? = some s := ⟨_, List.getElem?_eq_getElem hlt⟩
        have hps := part_at deferS xs k s hsx
        obtain ⟨gi, rfl, hgi, a0, a1, a2, a3, y0, y1, y2, y3, y4⟩ := own_at hown hps hlt
        have HS := Lib.hid hsx
        have HPS := Lib.hid hps
        clear hown hsx hps
        by_cases h4 : s.1 = 4
        · have H4 := Lib.hid h4
          rw [h4] at a0 y0
          clear h4
          go_wp2
          go_roundw
          case rel =>
            refine ⟨k + 1, by omega, by go_num, ?_, ?_⟩
            · have := own_put (a := 5) HO.out rfl HPS.out
              rw [show ((5 : Int), s.2.1, s.2.2) = deferS s by unfold deferS; rw [if_pos H4.out], part_next deferS xs k s HS.out] at this
              exact this.alloc _
            · refine Chg.new (Chg.put HC.out _ _ ?_) _
              exact .inr rfl
          case measure => simp [intOf]; omega
        · have hd : (s.1 == 4) = false := by simpa using h4
          have H4 := Lib.hid h4
          clear h4
          go_wp2
          go_roundw
          case rel =>
            refine ⟨k + 1, by omega, by go_num, ?_, HC.out.new _⟩
            rw [← part_same deferS xs k s HS.out (by unfold deferS; rw [if_neg H4.out])]
            exact HO.out.alloc _
          case measure => simp [intOf]; omega
      · obtain rfl : k = xs.length := by omega
        have hb6 := (B3'.out.chg HC.out (App.own_blk_ne R3.out B3'.out (by decide)))
        have hb1 := (D3.out.chg HC.out (App.own_blk_ne R3.out D3.out (by decide)))
        have z6 : wr.cell? ⟨w2.heap.size, 0, none⟩ = some (.slice (some ⟨g, 0, none⟩) n c2) := hb6.cells 0
        have z1 : wr.cell? ⟨w.heap.size + 1, 0, none⟩ = some (.slice none 0 0) := hb1.cells 0
        have f1 := hb1.frozen 0
        clear hown hb6
        go_wp2
        refine bodyPost_ret (v := .tuple #[.agg #[.slice (some ⟨g, 0, none⟩) n c2], .bool true]) (by simp [results, Try.results34, go_sem, z1]) rfl ?_
        have e := part_all deferS xs xs.length rfl
        have fin := HP.out wr (xs.map deferS) (by simp) (by rw [← e]; exact HO.out) ((Chg.of_below b3'.out).trans HC.out (fun _ _ h => h))
        have fin2 := (fin.keep (w' := wr.setCell ⟨w.heap.size + 1, 0, none⟩ (.slice (some ⟨g, 0, none⟩) n c2)) (fun b h1 _ => Below.heap_setCell _ _ _ _ (by show b ≠ w.heap.size + 1; omega))).own.mono (Nat.le_trans (Nat.le_add_right _ 2) s1)
        rw [hs.out]
        have hl : (p.set j (xs.map deferS)).length = n := by rw [List.length_set]; exact hL.out
        have s3 := HC.out.size
        have s4 := b3'.out.size
        refine ⟨_, _, by rw [hl], by rw [hl]; exact fin2, ?_⟩
        have t := ((bb2.out.trans (b3'.out.mono bb2.out.size))).trans (HC.out.below (B := w.heap.size) (by have := bb2.out.size; omega) (fun x hx hx' => by have := (HB.out x hx').1; omega))
        exact t.setCell (by show w.heap.size ≤ w.heap.size + 1; omega) _

set_option maxHeartbeats 2000000 in
theorem specDefer_any (lo n c : Nat) (A : Option Addr) (p : Pg) (f : Int) (hn : n ≤ 2000000) (hl : p.length = n) (hsm : Small p 2000000) (w : World) (ho : OwnP w lo (.slice A n c) p) :
    Calls Try.prog 33 #[.agg #[.slice A n c], .int .i64 f] w (ProgR (deferR p f) w) := by
  have hF := Lib.hid (fun w hr hB => l2Program_any w.heap.size A n c p (by omega) hl (hsm.mono (by omega)) w hr hB)
  have hG := Lib.hid (fun w => l2Function_any A n c f (by omega) w)
  have h2 : ∀ o o' : Obj, Below w.heap.size w ((w.alloc o).alloc o') := fun o o' => ((Below.refl _ _).alloc (Nat.le_refl _) _).alloc (by simp) _
  have H2 := Lib.hid h2
  have hO := Lib.hid ho
  clear ho h2
  have hk0 : ∀ w1 : World, Below ((w.alloc (.cells #[.slice A n c] 30)).alloc (.cells #[.slice none 0 0] 30)).heap.size ((w.alloc (.cells #[.slice A n c] 30)).alloc (.cells #[.slice none 0 0] 30)) w1 →
      Blk w1 w.heap.size 30 #[.slice A n c] ∧ Blk w1 (w.heap.size + 1) 30 #[.slice none 0 0] ∧ Below w.heap.size w w1 ∧ w.heap.size + 2 ≤ w1.heap.size :=
    fun w1 b => ⟨Blk.below (heap2_0 _ _ _) b (by simp; omega), Blk.below (heap2_1 _ _ _) b (by simp), (H2.out _ _).trans (b.mono (by simp; omega)), by have := b.size; simp at this; omega⟩
  have HK := Lib.hid hk0
  clear hk0
  cases hok : okProg p with
  | false =>
    have hs := Lib.hid (show deferR p f = ([], false) by unfold deferR; rw [isFn_eq, hok]; rfl)
    rw [hok] at hF
    clear hok hl hsm hG
    go_enter Try.func33, Try.ntmps33
    go_wp2_with fail
    refine (hF.out _ (hO.out.below (H2.out _ _)).rd (Nat.le_refl _)).mono ?_
    rintro e w1 ⟨rfl, b1⟩
    obtain ⟨d0, d1, bb1, s1⟩ := HK.out w1 b1
    have z0 : w1.cell? ⟨w.heap.size, 0, none⟩ = some (.slice A n c) := d0.cells 0
    have z1 : w1.cell? ⟨w.heap.size + 1, 0, none⟩ = some (.slice none 0 0) := d1.cells 0
    have f1 := d1.frozen 0
    clear d0 d1 b1
    go_wp2_with fail
    exact bodyPost_ret (v := .tuple #[.agg #[.slice none 0 0], .bool false]) (by simp [results, Try.results33, go_sem, z1]) rfl (by rw [hs.out]; exact ⟨none, 0, rfl, own_nil _ _, bb1.setCell (by show w.heap.size ≤ w.heap.size + 1; omega) _⟩)
  | true =>
    cases hin : inP f n with
    | false =>
      have hs := Lib.hid (show deferR p f = ([], false) by unfold deferR; rw [isFn_eq, hok, hl, hin]; rfl)
      rw [hok] at hF
      rw [hin] at hG
      clear hok hl hsm hin
      go_enter Try.func33, Try.ntmps33
      go_wp2_with fail
      refine (hF.out _ (hO.out.below (H2.out _ _)).rd (Nat.le_refl _)).mono ?_
      rintro e w1 ⟨rfl, b1⟩
      obtain ⟨d0, d1, bb1, s1⟩ := HK.out w1 b1
      have z0 : w1.cell? ⟨w.heap.size, 0, none⟩ = some (.slice A n c) := d0.cells 0
      clear b1 d0
      go_wp2_with fail
      refine (hG.out _).mono ?_
      rintro e w3 ⟨rfl, hw3⟩
      have z1 : w3.cell? ⟨w.heap.size + 1, 0, none⟩ = some (.slice none 0 0) := by rw [← hw3]; exact (d1.alloc _).cells 0
      have f1 : w3.frozen? ⟨w.heap.size + 1, 0, none⟩ = false := by rw [← hw3]; exact (d1.alloc _).frozen 0
      have bb3 : Below w.heap.size w w3 := by rw [← hw3]; exact bb1.alloc bb1.size _
      clear d1 hw3
      go_wp2_with fail
      exact bodyPost_ret (v := .tuple #[.agg #[.slice none 0 0], .bool false]) (by simp [results, Try.results33, go_sem, z1]) rfl (by rw [hs.out]; exact ⟨none, 0, rfl, own_nil _ _, bb3.setCell (by show w.heap.size ≤ w.heap.size + 1; omega) _⟩)
    | true =>
      have hfn : isFn p f = true := by rw [isFn_eq, hok, hl, hin]; rfl
      obtain ⟨_, f0, fn, hx⟩ := isFn_parts hfn
      obtain ⟨j, rfl⟩ := Int.eq_ofNat_of_zero_le f0
      have hs := Lib.hid (show deferR p j = (p.set j ((body p j).map deferS), true) by unfold deferR deferP; rw [hfn]; rfl)
      rw [hok] at hF
      rw [hin] at hG
      obtain ⟨_, hn6, hsm8⟩ := okProg_parts hok
      have hC := Lib.hid (fun (W : World) (h : OwnP W lo (.slice A n c) p) => OwnS.l2Own_any lo n c A p (by omega) hl (fun i xs h => Nat.le_trans (hsm8 i xs h).1 (by omega)) W h)
      rw [Int.toNat_natCast] at hx
      have hxl := (hsm8 j _ hx).1
      generalize body p j = xs at *
      have HX := Lib.hid hx
      have hjn : j < n := by omega
      have hL := Lib.hid hl
      clear hfn hl hsm hok fn hn6 hsm8 hx f0 hin
      go_enter Try.func33, Try.ntmps33
      go_wp2_with fail
      refine (hF.out _ (hO.out.below (H2.out _ _)).rd (Nat.le_refl _)).mono ?_
      rintro e w1 ⟨rfl, b1⟩
      obtain ⟨d0, d1, bb1, s1⟩ := HK.out w1 b1
      have z0 : w1.cell? ⟨w.heap.size, 0, none⟩ = some (.slice A n c) := d0.cells 0
      clear b1
      go_wp2_with fail
      refine (hG.out _).mono ?_
      rintro e w4 ⟨rfl, hw4⟩
      have b4 : Below w1.heap.size w1 w4 := by rw [← hw4]; exact (Below.refl _ _).alloc (Nat.le_refl _) _
      have s4 := b4.size
      have d1' := d1.below b4 d1.lt
      have z0' : w4.cell? ⟨w.heap.size, 0, none⟩ = some (.slice A n c) := (d0.below b4 d0.lt).cells 0
      have bb4 := bb1.trans (b4.mono bb1.size)
      clear hw4 z0 d0 d1
      go_wp2_with fail
      refine (hC.out _ (hO.out.below bb4)).mono ?_
      rintro e w2 ⟨A2, c2, rfl, o2, b2⟩
      have D1 := Lib.hid (d1'.below b2 d1'.lt)
      have bb2 := Lib.hid (bb4.trans (b2.mono bb4.size))
      have s2 := b2.size
      obtain ⟨g, Ai, ci, rfl, hc2, hrow, hbd, hput⟩ := (OwnH.of o2).row HX.out
      have hne : (Value.slice Ai xs.length ci).ownBlock ≠ some g := by
        obtain ⟨vals, _, ho2, _⟩ := o2
        exact App.own_ne ho2 hrow (by decide) rfl
      have hgl : g < w2.heap.size := World.block_lt_of_cell? w2 _ hc2
      have HP := Lib.hid hput
      have HB := Lib.hid hbd
      have HR := Lib.hid hrow
      have hc2' : ∀ V, Below w2.heap.size w2 V → V.cell? ⟨g, j, none⟩ = some (.slice Ai xs.length ci) := fun V h => (h.cell (p := ⟨g, j, none⟩) hgl).trans hc2
      have HC2 := Lib.hid hc2'
      have HNE := Lib.hid hne
      clear z0' d1' bb1 bb4 b2 o2 hput hbd hrow hc2 hc2' hne
      go_wp2_with fail
      have W3 : ∃ W3, w2.alloc (.cells #[.slice (some ⟨g, 0, none⟩) n c2] 30) = W3 := ⟨_, rfl⟩
      obtain ⟨W3, hW3⟩ := W3
      have HW := Lib.hid hW3
      rw [hW3]
      have b3 : Below w2.heap.size w2 W3 := by rw [← hW3]; exact (Below.refl _ _).alloc (Nat.le_refl _) _
      have B3 : Blk W3 w2.heap.size 30 #[.slice (some ⟨g, 0, none⟩) n c2] := by rw [← hW3]; exact blk_new _ _ _
      have R3 := Lib.hid (own_below HR.out b3 (Nat.le_refl _))
      have D3 := Lib.hid (D1.out.below b3 D1.out.lt)
      have B3' := Lib.hid B3
      have b3' := Lib.hid b3
      have s3 := b3.size
      clear hW3 b3 B3
      go_loopw [7] (fun i wr => ∃ k : Nat, k ≤ xs.length ∧ i = .int .i64 k ∧ wr.ownsRow w4.heap.size 34 3 (.slice Ai xs.length ci) xs.length (cells3 (dpart deferS xs k)) ∧ Chg (fun b => (Value.slice Ai xs.length ci).ownBlock = some b) W3 wr) (fun i _ => xs.length - (intOf i).toNat)
      case atStart => exact ⟨0, Nat.zero_le _, rfl, by simpa [dpart] using R3.out, Chg.refl _ _⟩
      case round =>
        obtain ⟨k, hk, rfl, hown, hch⟩ := hrel
        have HO := Lib.hid hown
        have HC := Lib.hid hch
        have z6 : wr.cell? ⟨w2.heap.size, 0, none⟩ = some (.slice (some ⟨g, 0, none⟩) n c2) := (B3'.out.chg HC.out (App.own_blk_ne R3.out B3'.out (by decide))).cells 0
        have zg : wr.cell? ⟨g, j, none⟩ = some (.slice Ai xs.length ci) := (HC.out.cell (p := ⟨g, j, none⟩) (by show g < W3.heap.size; omega) HNE.out).trans (HC2.out _ b3'.out)
        clear hch
        by_cases hlt : k < xs.length
        · obtain ⟨s, hsx⟩ : ∃ s, xs[k]? = some s := ⟨_, List.getElem?_eq_getElem hlt⟩
          have hps := part_at deferS xs k s hsx
          obtain ⟨gi, rfl, hgi, a0, a1, a2, a3, y0, y1, y2, y3, y4⟩ := own_at hown hps hlt
          have HS := Lib.hid hsx
          have HPS := Lib.hid hps
          clear hown hsx hps a0 a1 a2 a3 y1 y2 y4
          by_cases h4 : s.1 = 4
          · have H4 := Lib.hid h4
            rw [h4] at y0
            clear h4
            go_wp2
            go_roundw
            case rel =>
              refine ⟨k + 1, by omega, by go_num, ?_, ?_⟩
              · have := own_put (a := 5) HO.out rfl HPS.out
                rwa [show ((5 : Int), s.2.1, s.2.2) = deferS s by unfold deferS; rw [if_pos H4.out], part_next deferS xs k s HS.out] at this
              · refine Chg.put HC.out _ _ ?_
                exact .inr rfl
            case measure => simp [intOf]; omega
          · have hd : (s.1 == 4) = false := by simpa using h4
            have H4 := Lib.hid h4
            clear h4
            go_wp2
            go_roundw
            case rel =>
              refine ⟨k + 1, by omega, by go_num, ?_, HC.out⟩
              rw [← part_same deferS xs k s HS.out (by unfold deferS; rw [if_neg H4.out])]
              exact HO.out
            case measure => simp [intOf]; omega
        · obtain rfl : k = xs.length := by omega
          have hb1 := (D3.out.chg HC.out (App.own_blk_ne R3.out D3.out (by decide)))
          have z1 : wr.cell? ⟨w.heap.size + 1, 0, none⟩ = some (.slice none 0 0) := hb1.cells 0
          have f1 := hb1.frozen 0
          clear hown
          go_wp2
          refine bodyPost_ret (v := .tuple #[.agg #[.slice (some ⟨g, 0, none⟩) n c2], .bool true]) (by simp [results, Try.results33, go_sem, z1]) rfl ?_
          have e := part_all deferS xs xs.length rfl
          have fin := HP.out wr (xs.map deferS) (by simp) (by rw [← e]; exact HO.out) ((Chg.of_below b3'.out).trans HC.out (fun _ _ h => h))
          have fin2 := (fin.keep (w' := wr.setCell ⟨w.heap.size + 1, 0, none⟩ (.slice (some ⟨g, 0, none⟩) n c2)) (fun b h1 _ => Below.heap_setCell _ _ _ _ (by show b ≠ w.heap.size + 1; omega))).own.mono (show w.heap.size ≤ w4.heap.size by omega)
          rw [hs.out]
          have hl : (p.set j (xs.map deferS)).length = n := by rw [List.length_set]; exact hL.out
          have s3 := HC.out.size
          refine ⟨_, _, by rw [hl], by rw [hl]; exact fin2, ?_⟩
          have t := ((bb2.out.trans (b3'.out.mono bb2.out.size))).trans (HC.out.below (B := w.heap.size) (by have := bb2.out.size; omega) (fun x hx hx' => by have := (HB.out x hx').1; omega))
          exact t.setCell (by show w.heap.size ≤ w.heap.size + 1; omega) _
end Go.Proofs.Ytgfjdfmmkomolaa.DeferW
