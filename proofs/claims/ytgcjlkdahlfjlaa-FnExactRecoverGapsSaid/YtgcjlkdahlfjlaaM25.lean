/- Ise Iex Irc Ipa, in one text. -/
import Derived.Test.YtgcjlkdahlfjlaaIpm
import Derived.Test.YtgcjlkdahlfjlaaM23
import Derived.Test.YtgcjlkdahlfjlaaM21
set_option linter.unusedVariables false
set_option linter.unusedSimpArgs false
/- The reader's settle. (Written by wip/tools/genise.py.) -/
namespace Go.Proofs.Ytgcjlkdahlfjlaa.Ise
open Go.ChangeShapes Go.WideShapes Go.ChangeAt Go.RowKit
open PL Mem Srun Sst IntsP RowA RowC AccP Swhole Pw Ipm Px

abbrev zarr (z : Rz) : Array Value := #[.int .i64 z.1, .int .i64 z.2.1, .int .i64 z.2.2.1, .int .i64 z.2.2.2.1, .int .i64 z.2.2.2.2]
def zagg (z : Rz) : Value := .agg (zarr z)
def SetC (ho hf : Hd) (x : Nat) : Prop := (Value.slice ho.A 0 0).ownBlock = some x ∨ (Value.slice hf.A 0 0).ownBlock = some x
def isOn (z : Rz) : Bool := z.1 == 5
theorem on_form {V : World} {lo g ga : Nat} {hp hf ho hr : Hd} {i : IS} (h : IW V lo g ga hp hf ho hr i) (hl : 0 < i.on.length) : ∃ b, b < V.heap.size ∧ ho.A = some ⟨b, 0, none⟩ := by
 rcases own_form h.on with ⟨h0, _⟩ | ⟨_, b, cap, hv, hb1, hb2⟩
 ·omega
 ·simp only [Value.slice.injEq, true_and] at hv
  exact ⟨b, hb2, hv.1⟩
theorem fo_form {V : World} {lo g ga : Nat} {hp hf ho hr : Hd} {i : IS} (h : IW V lo g ga hp hf ho hr i) (hl : 0 < i.forts.length) : ∃ b, lo ≤ b ∧ b < V.heap.size ∧ hf.A = some ⟨b, 0, none⟩ := by
 obtain ⟨L, _, hv, _⟩ := h.forts
 rcases own_form hv with ⟨h0, _⟩ | ⟨_, b, cap, hv, hb1, hb2⟩
 ·omega
 ·simp only [Value.slice.injEq, true_and] at hv
  exact ⟨b, hb1, hb2, hv.1⟩
theorem row_z {w : World} {B e n b cap : Nat} {xs : List Rz} (h : w.ownsRow B e 5 (.slice (some ⟨b, 0, none⟩) n cap) n (xs.flatMap z5)) (hn : xs.length = n) {c : Nat} {z : Rz} (hz : xs[c]? = some z) :
  w.cell? ⟨b, c * 5, none⟩ = some (.int .i64 z.1) ∧ w.cell? ⟨b, c * 5 + 1, none⟩ = some (.int .i64 z.2.1) ∧ w.cell? ⟨b, c * 5 + 2, none⟩ = some (.int .i64 z.2.2.1) ∧ w.cell? ⟨b, c * 5 + 3, none⟩ = some (.int .i64 z.2.2.2.1) ∧ w.cell? ⟨b, c * 5 + 4, none⟩ = some (.int .i64 z.2.2.2.2) :=
 ⟨row_at z5_len h hz (o := 0) (by decide) hn, row_at z5_len h hz (o := 1) (by decide) hn, row_at z5_len h hz (o := 2) (by decide) hn, row_at z5_len h hz (o := 3) (by decide) hn, row_at z5_len h hz (o := 4) (by decide) hn⟩
theorem fo_cells {V : World} {lo g ga bf cf k : Nat} {hp ho hr : Hd} {i : IS} {y : Fo} (h : IW V lo g ga hp ⟨some ⟨bf, 0, none⟩, cf⟩ ho hr i) (hy : i.forts[k]? = some y) :
  V.cell? ⟨bf, k * 4, none⟩ = some (.int .i64 y.fate) ∧ V.cell? ⟨bf, k * 4 + 1, none⟩ = some (.int .i64 y.replacer) ∧ V.cell? ⟨bf, k * 4 + 2, none⟩ = some (.int .i64 y.replaced) ∧ ∀ o, V.frozen? ⟨bf, o, none⟩ = false := by
 obtain ⟨L, hL, hv, _⟩ := h.forts
 obtain ⟨v, hLk⟩ : ∃ v, L[k]? = some (y, v) := by
  obtain ⟨⟨y1, v⟩, h1⟩ : ∃ s, L[k]? = some s := ⟨_, List.getElem?_eq_getElem (by rw [foLen hL]; exact (List.getElem?_eq_some_iff.1 hy).1)⟩
  have h2 : (L.map Prod.fst)[k]? = some y1 := by rw [List.getElem?_map, h1]; rfl
  rw [hL, hy] at h2
  obtain rfl : y = y1 := by simpa using h2
  exact ⟨v, h1⟩
 exact ⟨row_at f4_len hv hLk (o := 0) (by decide) (foLen hL), row_at f4_len hv hLk (o := 1) (by decide) (foLen hL), row_at f4_len hv hLk (o := 2) (by decide) (foLen hL), fun o => hv.frozenAt _⟩
theorem Blk.set5 {w : World} {g : Nat} {t : TypeId} {a0 a1 a2 a3 a4 : Value} (h : Blk w g t #[a0, a1, a2, a3, a4]) (z : Rz) : Blk (put5 w g 0 z) g t (zarr z) := by
 have := ((((h.put 0 (.int .i64 z.1)).put 1 (.int .i64 z.2.1)).put 2 (.int .i64 z.2.2.1)).put 3 (.int .i64 z.2.2.2.1)).put 4 (.int .i64 z.2.2.2.2)
 simpa only [Last2.s] using this
theorem IW.put5 {V : World} {lo g ga bz : Nat} {hp hf ho hr : Hd} {i : IS} {cs : Array Value} (h : IW V lo g ga hp hf ho hr i) (hb : Blk V bz 76 cs) (hp1 : (Value.slice hp.A i.pans.length hp.c).ownBlock ≠ some bz) (ho1 : (Value.slice ho.A i.on.length ho.c).ownBlock ≠ some bz) (o : Nat) (z : Rz) : IW (Ipm.put5 V bz o z) lo g ga hp hf ho hr i := by
 have hch := put5_chg V bz o z
 have f : ∀ {lo e sz n : Nat} {v : Value} {xs : List Value}, e ≠ 76 → V.ownsRow lo e sz v n xs → (Ipm.put5 V bz o z).ownsRow lo e sz v n xs := fun h1 hv =>
  own_chg hv hch (fun x hx e => blk_apart hv hb h1 (by subst e; exact hx))
 exact ⟨h.blk.chg hch (fun e => Px.blk_ne h.blk hb (by decide) e), own_chg h.pans hch (fun x hx e => hp1 (by subst e; exact hx)), h.forts.keep (fun _ hv => f (by decide) hv) (fun _ _ _ hv => f (by decide) hv), own_chg h.on hch (fun x hx e => ho1 (by subst e; exact hx)), f (by decide) h.rec_, h.apt⟩
set_option maxRecDepth 100000 in
set_option maxHeartbeats 4000000 in
theorem settle_any {w : World} {lo g ga c : Nat} {hp hf ho hr : Hd} {i : IS} {z : Rz} (h : IW w lo g ga hp hf ho hr i) (hz : i.on[c]? = some z) (n : Int) (hl : i.on.length ≤ 100000) (hfl : i.forts.length ≤ 100000) (hk : Zok z i.forts.length) :
  Calls Try.prog 117 #[.pointer (some ⟨g, 0, none⟩), .int .i64 c, .int .i64 n] w fun e w' => e = .returned (.tuple #[zagg z, .bool (isOn z)]) ∧ IW w' lo g ga hp hf ho hr (settleP i c n) ∧ Chg (SetC ho hf) w w' := by
 have hcl : c < i.on.length := (List.getElem?_eq_some_iff.1 hz).1
 obtain ⟨Ao, co⟩ := ho
 obtain ⟨b, hb2, hA⟩ := on_form h (by omega)
 dsimp only at hA
 subst hA
 have HPB := Lib.hid (fun k (hk : (Value.slice hp.A i.pans.length hp.c).ownBlock = some k) => (World.ownsRow.lt h.pans k hk).2)
 have H := Lib.hid h
 have hgl := h.lt
 clear h
 go_enter Try.func117, Try.ntmps117
 go_upto_region 1 with fail
 change (fun V => Code.wp _ _ _ _ V) _
 refine gen_world (X := fun V => IW V lo g ga hp hf ⟨some ⟨b, 0, none⟩, co⟩ hr i ∧ Blk V w.heap.size 76 (zarr rz0) ∧ Below w.heap.size w V) ⟨H.out.below ((Below.refl _ _).alloc (Nat.le_refl _) _), heap1_0 w _, (Below.refl _ _).alloc (Nat.le_refl _) _⟩ ?_
 rintro V ⟨hV, xV, bV⟩
 have q3 : V.cell? ⟨g, 3, none⟩ = some (.slice (some ⟨b, 0, none⟩) i.on.length co) := hV.blk.cells 3
 obtain ⟨c0, c1, c2, c3, c4⟩ := row_z hV.on rfl hz
 have BV := Lib.hid bV
 have HV := Lib.hid hV
 have XV := Lib.hid xV
 have hsz := bV.size
 have hsl := xV.lt
 clear hV xV bV H
 rcases hk with rfl | ⟨zf, zv, kk, zc, rfl, hkl⟩
 ·have HE := Lib.hid (show settleP i c n = i by unfold settleP; rw [hz]; exact if_pos rfl)
  dsimp only [rz0] at c0 c1 c2 c3 c4
  go_upto_region 2 with fail
  change (fun V => Code.wp _ _ _ _ V) _
  refine gen_world (X := fun Y => IW Y lo g ga hp hf ⟨some ⟨b, 0, none⟩, co⟩ hr i ∧ Blk Y w.heap.size 76 (zarr rz0) ∧ Blk Y V.heap.size 76 (zarr rz0) ∧ Below w.heap.size w Y) ⟨HV.out.below ((Below.refl _ _).alloc (Nat.le_refl _) _), XV.out.alloc _, heap1_0 V _, BV.out.trans ((Below.refl _ _).alloc hsz _)⟩ ?_
  clear HV XV BV q3 c0 c1 c2 c3 c4
  generalize V.heap.size = bx at *
  rintro Y ⟨hY, xY, yY, bY⟩
  have y0 := xY.cells
  have x0 := yY.cells
  have fy := xY.frozen
  have HY := Lib.hid hY
  have XY := Lib.hid xY
  have BY := Lib.hid bY
  clear hY xY yY bY
  go_wp2_with fail
  clear y0 x0 fy
  refine gen_post (X := fun U => IW U lo g ga hp hf ⟨some ⟨b, 0, none⟩, co⟩ hr i ∧ Blk U w.heap.size 76 (zarr rz0) ∧ Chg (SetC ⟨some ⟨b, 0, none⟩, co⟩ hf) w U) ⟨IW.put5 (bz := w.heap.size) (o := 0) (z := rz0) HY.out XY.out (fun e => by have := HPB.out _ e; omega) (fun e => by simp only [Value.ownBlock, Option.some.injEq] at e; omega) , Blk.set5 XY.out rz0, ((Chg.of_below (C := fun _ => False) BY.out).trans (put5_chg Y w.heap.size 0 rz0) (fun x hx e => by omega)).mono (fun _ _ f => f.elim)⟩ ?_
  clear HY XY BY
  intro U hU
  have U1 := hU.2.1.cells
  have HU := Lib.hid hU
  clear hU
  exact bodyPost_ret (v := .tuple #[zagg rz0, .bool (isOn rz0)]) (by simp [results, Try.results117, go_sem, U1, zagg, zarr, isOn, rz0]) rfl ⟨rfl, by rw [HE.out]; exact HU.out.1, HU.out.2.2⟩
 ·obtain ⟨Af, cf⟩ := hf
  obtain ⟨bf, hbf1, hbf2, hA⟩ := fo_form HV.out (by omega)
  dsimp only at hA
  subst hA
  obtain ⟨y, hy⟩ : ∃ y, i.forts[kk]? = some y := ⟨_, List.getElem?_eq_getElem hkl⟩
  have HE := Lib.hid (show settleP i c n = ⟨i.pans, i.forts.set kk { y with fate := n }, i.on.set c rz0, i.rec_⟩ by
   unfold settleP
   rw [hz]
   dsimp only
   rw [if_neg (by unfold rz0; intro e; have := congrArg Prod.fst e; simp at this), Int.toNat_natCast, hy])
  have HFY := Lib.hid hy
  dsimp only at c0 c1 c2 c3 c4
  clear hy
  go_upto_region 2 with fail
  change (fun V => Code.wp _ _ _ _ V) _
  refine gen_world (X := fun Y => IW Y lo g ga hp ⟨some ⟨bf, 0, none⟩, cf⟩ ⟨some ⟨b, 0, none⟩, co⟩ hr i ∧ Blk Y w.heap.size 76 (zarr rz0) ∧ Blk Y V.heap.size 76 (zarr (5, zf, zv, (kk : Int), zc)) ∧ Below w.heap.size w Y) ⟨HV.out.below ((Below.refl _ _).alloc (Nat.le_refl _) _), XV.out.alloc _, heap1_0 V _, BV.out.trans ((Below.refl _ _).alloc hsz _)⟩ ?_
  clear HV XV BV q3 c0 c1 c2 c3 c4
  generalize V.heap.size = bx at *
  rintro Y ⟨hY, xY, yY, bY⟩
  have x0 := yY.cells
  have q2 : Y.cell? ⟨g, 2, none⟩ = some (.slice (some ⟨bf, 0, none⟩) i.forts.length cf) := hY.blk.cells 2
  have HY := Lib.hid hY
  have XY := Lib.hid xY
  have YY := Lib.hid yY
  have BY := Lib.hid bY
  clear hY xY yY bY
  obtain ⟨k0, -, -, ff⟩ := fo_cells HY.out HFY.out
  go_upto_region 4 with fail
  have kx : Y.cell? ⟨bx, 3, none⟩ = some (.int .i64 kk) := x0 3
  have S0 : (fun V : World => V.cell? ⟨g, 2, none⟩ = some (.slice (some ⟨bf, 0, none⟩) i.forts.length cf) ∧ V.cell? ⟨bx, 3, none⟩ = some (.int .i64 kk)) Y.drew := ⟨q2, kx⟩
  refine Last2.region_last [9] (fun V : World => V.cell? ⟨g, 2, none⟩ = some (.slice (some ⟨bf, 0, none⟩) i.forts.length cf) ∧ V.cell? ⟨bx, 3, none⟩ = some (.int .i64 kk)) (by kernel_rfl) ?_
  refine Last2.tk 0 20 (.pointer (some ⟨g, 0, none⟩)) S0 ?_
  simp only [Act.put, Last2.s]
  refine Last2.tk 1 21 (.pointer (some ⟨g, 0, none⟩)) S0 ?_
  simp only [Act.put, Last2.s]
  refine Last2.tk 2 22 (.pointer (some ⟨g, 2, none⟩)) S0 ?_
  simp only [Act.put, Last2.s]
  refine Last2.tk 3 23 (.slice (some ⟨bf, 0, none⟩) i.forts.length cf) S0 ?_
  simp only [Act.put, Last2.s]
  refine Last2.tk 4 24 (.pointer (some ⟨bx, 3, none⟩)) S0 ?_
  simp only [Act.put, Last2.s]
  refine Last2.tk 5 25 (.int .i64 kk) S0 ?_
  simp only [Act.put, Last2.s]
  refine Last2.tk 6 26 (.int .i64 n) S0 ?_
  simp only [Act.put, Last2.s]
  refine Last2.tk 7 27 (.pointer (some ⟨bf, kk * 4, none⟩)) S0 ?_
  simp only [Act.put, Last2.s]
  refine Last2.tk 8 28 (.pointer (some ⟨bf, kk * 4, none⟩)) S0 ?_
  simp only [Act.put, Last2.s]
  refine Last2.last_one (i := 9) (o := { dst := none, op := .store 3 (.tmp 28) (.tmp 26), type := _, pos := _, after := _, guard := none }) (by kernel_rfl) rfl rfl (fun K hK => ?_)
  go_simp
  refine hK.out _ _ (fun h => (h (by decide)).elim) ?_
  clear hK K
  refine Last2.last_done (by kernel_rfl) ?_ _
  clear S0 kx q2 x0 k0 ff
  have hbfo : bf ≠ bx := fun e => by
   obtain ⟨L, _, hv, _⟩ := HY.out.forts
   exact blk_apart hv YY.out (by decide) (by subst e; rfl)
  have hbfw : bf ≠ w.heap.size := fun e => by
   obtain ⟨L, _, hv, _⟩ := HY.out.forts
   exact blk_apart hv XY.out (by decide) (by subst e; rfl)
  change (fun V => Exit.then _ _ Exit.normal _ V) _
  refine gen_world (X := fun U => IW U lo g ga hp ⟨some ⟨bf, 0, none⟩, cf⟩ ⟨some ⟨b, 0, none⟩, co⟩ hr ⟨i.pans, i.forts.set kk { y with fate := n }, i.on, i.rec_⟩ ∧ Blk U w.heap.size 76 (zarr rz0) ∧ Blk U bx 76 (zarr (5, zf, zv, (kk : Int), zc)) ∧ Chg (SetC ⟨some ⟨b, 0, none⟩, co⟩ ⟨some ⟨bf, 0, none⟩, cf⟩) w U)
   ⟨(HY.out.putFort (o := 0) (y' := { y with fate := n }) HFY.out (by decide) (fun v => rfl) rfl).below ((Below.refl _ _).drew), XY.out.far ⟨bf, kk * 4, none⟩ (.int .i64 n) (Ne.symm hbfw), YY.out.far ⟨bf, kk * 4, none⟩ (.int .i64 n) (Ne.symm hbfo), ((Chg.of_below (C := SetC ⟨some ⟨b, 0, none⟩, co⟩ ⟨some ⟨bf, 0, none⟩, cf⟩) BY.out).put ⟨bf, kk * 4, none⟩ (.int .i64 n) (.inr (.inr rfl))).trans (Chg.drew (fun _ => False) _) (fun _ _ h => h.elim)⟩ ?_
  clear HY XY YY BY
  rintro U ⟨hU, xU, yU, cU⟩
  have CU := Lib.hid cU
  clear cU
  have q3 : U.cell? ⟨g, 3, none⟩ = some (.slice (some ⟨b, 0, none⟩) i.on.length co) := hU.blk.cells 3
  obtain ⟨c0, c1, c2, c3, c4⟩ := row_z hU.on rfl hz
  have fo := hU.on.frozenAt
  have HU := Lib.hid hU
  have XU := Lib.hid xU
  have YU := Lib.hid yU
  clear hU xU yU
  dsimp only at c0 c1 c2 c3 c4
  go_upto_region 6 with fail
  change (fun V => Code.wp _ _ _ _ V) _
  have hbx : b ≠ bx := by omega
  have hbw : b ≠ w.heap.size := by omega
  refine gen_world (X := fun U => IW U lo g ga hp ⟨some ⟨bf, 0, none⟩, cf⟩ ⟨some ⟨b, 0, none⟩, co⟩ hr ⟨i.pans, i.forts.set kk { y with fate := n }, i.on.set c rz0, i.rec_⟩ ∧ Blk U w.heap.size 76 (zarr rz0) ∧ Blk U bx 76 (zarr (5, zf, zv, (kk : Int), zc)) ∧ Chg (SetC ⟨some ⟨b, 0, none⟩, co⟩ ⟨some ⟨bf, 0, none⟩, cf⟩) w U)
   ⟨HU.out.putOn (z' := rz0) hz, XU.out.chg (put5_chg U b (c * 5) rz0) (fun e => hbw e.symm), YU.out.chg (put5_chg U b (c * 5) rz0) (fun e => hbx e.symm), CU.out.trans (put5_chg U b (c * 5) rz0) (fun x hx e => .inl (by rw [e]; rfl))⟩ ?_
  clear HU XU YU CU q3 c0 c1 c2 c3 c4 fo
  rintro Z ⟨hZ, xZ, yZ, cZ⟩
  have CZ := Lib.hid cZ
  clear cZ
  have x0 := yZ.cells
  have fz := xZ.frozen
  have y0 := xZ.cells
  have HZ := Lib.hid hZ
  have XZ := Lib.hid xZ
  clear hZ xZ yZ
  go_wp2_with fail
  clear x0 fz y0
  refine gen_post (X := fun U => IW U lo g ga hp ⟨some ⟨bf, 0, none⟩, cf⟩ ⟨some ⟨b, 0, none⟩, co⟩ hr ⟨i.pans, i.forts.set kk { y with fate := n }, i.on.set c rz0, i.rec_⟩ ∧ Blk U w.heap.size 76 (zarr (5, zf, zv, (kk : Int), zc)) ∧ Chg (SetC ⟨some ⟨b, 0, none⟩, co⟩ ⟨some ⟨bf, 0, none⟩, cf⟩) w U) ⟨IW.put5 (bz := w.heap.size) (o := 0) (z := (5, zf, zv, (kk : Int), zc)) HZ.out XZ.out (fun e => by have := HPB.out _ e; omega) (fun e => by simp only [Value.ownBlock, Option.some.injEq] at e; omega), Blk.set5 XZ.out (5, zf, zv, (kk : Int), zc), CZ.out.trans (put5_chg Z w.heap.size 0 (5, zf, zv, (kk : Int), zc)) (fun x hx e => by omega)⟩ ?_
  clear HZ XZ CZ
  intro U hU
  have U1 := hU.2.1.cells
  have HU := Lib.hid hU
  clear hU
  exact bodyPost_ret (v := .tuple #[zagg (5, zf, zv, (kk : Int), zc), .bool (isOn (5, zf, zv, (kk : Int), zc))]) (by simp [results, Try.results117, go_sem, U1, zagg, zarr, isOn]) rfl ⟨rfl, by rw [HE.out]; exact HU.out.1, HU.out.2.2⟩
end Go.Proofs.Ytgcjlkdahlfjlaa.Ise

/- The reader's readExit. (Written by wip/tools/genirx.py.) -/
namespace Go.Proofs.Ytgcjlkdahlfjlaa.Iex
open Go.ChangeShapes Go.WideShapes Go.ChangeAt Go.RowKit
open PL Mem Srun Sst IntsP RowA RowC AccP Pw Ipm Px Ise

theorem call_form {V : World} {ga : Nat} {k v s cur : Int} {tv cv ov : Value} {cs : List CI} {os : List Int} (h : Acc ga k v s tv cv ov cs os cur V) (hl : 0 < cs.length) : ∃ b cap, ga ≤ b ∧ b < V.heap.size ∧ cv = .slice (some ⟨b, 0, none⟩) cs.length cap := by
 rcases own_form h.calls with ⟨h0, _⟩ | ⟨_, b, cap, hv, hb1, hb2⟩
 ·omega
 ·exact ⟨b, cap, hb1, hb2, hv⟩
theorem setX {V : World} {lo g ga : Nat} {hp hf ho hr : Hd} {i : IS} (h : IW V lo g ga hp hf ho hr i) {x : Nat} (e : SetC ho hf x) : OwnX lo g ho x := e.elim (fun e => .inr (.inl e)) (fun e => .inr (.inr (h.setc e)))
set_option maxRecDepth 100000 in
set_option maxHeartbeats 4000000 in
theorem readExit_any {w : World} {lo g ga c : Nat} {hp hf ho hr : Hd} {i : IS} {k v s cur : Int} {tv cv ov : Value} {cs : List CI} {os : List Int} {x : CI} (h : IW w lo g ga hp hf ho hr i) (ha : Acc ga k v s tv cv ov cs os cur w) (hx : cs[c]? = some x) (e0 e1 e2 : Int)
  (hl : i.on.length ≤ 100000) (hfl : i.forts.length ≤ 100000) (hpr : x.par = -1 ∨ ∃ (o : Nat) (z : Rz), x.par = o ∧ i.on[o]? = some z ∧ Zok z i.forts.length) :
  Calls Try.prog 91 #[.pointer (some ⟨g, 0, none⟩), .int .i64 c, .agg #[.int .i64 e0, .int .i64 e1, .int .i64 e2]] w fun e w' => e = .returned (.tuple #[]) ∧ IW w' lo g ga hp hf ho hr (exitP i x.par) ∧ Chg (OwnX lo g ho) w w' := by
 have hcl : c < cs.length := (List.getElem?_eq_some_iff.1 hx).1
 obtain ⟨b, cap, hb1, hb2, rfl⟩ := call_form ha (by omega)
 have H := Lib.hid h
 have HA := Lib.hid ha
 have hgl := h.lt
 clear h ha
 go_enter Try.func91, Try.ntmps91
 go_upto_region 1 with fail
 change (fun V => Code.wp _ _ _ _ V) _
 refine gen_world (X := fun V => IW V lo g ga hp hf ho hr i ∧ Acc ga k v s tv (.slice (some ⟨b, 0, none⟩) cs.length cap) ov cs os cur V ∧ Below w.heap.size w V) ⟨H.out.below ((Below.refl _ _).alloc (Nat.le_refl _) _), HA.out.below ((Below.refl _ _).alloc (Nat.le_refl _) _), (Below.refl _ _).alloc (Nat.le_refl _) _⟩ ?_
 rintro V ⟨hV, aV, bV⟩
 have q0 : V.cell? ⟨g, 0, none⟩ = some (.pointer (some ⟨ga, 0, none⟩)) := hV.blk.cells 0
 have q4 : V.cell? ⟨ga, 4, none⟩ = some (.slice (some ⟨b, 0, none⟩) cs.length cap) := aV.blk.cells 4
 obtain ⟨-, p1, -, -, -⟩ := own_cell5 aV.calls hx
 have HV := Lib.hid hV
 have BV := Lib.hid (Chg.of_below (C := OwnX lo g ho) bV)
 clear hV aV bV H HA
 rcases hpr with hpr | ⟨o, z, hpr, hz, hk⟩
 ·rw [hpr] at p1
  have HE := Lib.hid (show exitP i x.par = i by unfold exitP; rw [if_pos hpr])
  go_wp2_with fail
  go_end0
  exact ⟨rfl, by rw [HE.out]; exact HV.out, BV.out⟩
 ·rw [hpr] at p1
  have HE := Lib.hid (show exitP i x.par = settleP i o 4 by unfold exitP; rw [if_neg (by omega), hpr, Int.toNat_natCast])
  have HS := Lib.hid (settle_any HV.out hz 4 hl hfl hk)
  have hne : ((o : Int) != -1) = true := by simp
  clear hz hk
  go_wp2_with fail
  refine HS.out.mono ?_
  rintro e' U ⟨rfl, hU, bU⟩
  have HU := Lib.hid hU
  have BU := Lib.hid (BV.out.trans bU (fun x hx e => setX HV.out e))
  clear hU bU HS
  go_wp2_with fail
  go_end0
  exact ⟨rfl, by rw [HE.out]; exact HU.out, BU.out⟩
end Go.Proofs.Ytgcjlkdahlfjlaa.Iex

/- The reader's readRecover. (Written by wip/tools/genirx.py.) -/
namespace Go.Proofs.Ytgcjlkdahlfjlaa.Irc
open Go.ChangeShapes Go.WideShapes Go.ChangeAt Go.RowKit
open PL Mem Srun Sst IntsP RowA RowC AccP Pw Ipm Px Ise Iex

theorem two_own {V : World} {g e : Nat} {x y : Value} (h : V.heap[g]? = some (.cells #[x, y] e)) : V.ownsRow 0 e 2 (.slice (some ⟨g, 0, none⟩) 1 1) 1 [x, y] :=
 ⟨by simp, .inr ⟨g, 1, #[x, y], rfl, Nat.zero_le _, h, Nat.le_refl _, by decide, by simp, by simp⟩⟩
theorem infoQ : (Try.prog.info? 85).map (fun i => (i.zero, i.size, i.bytes)) = some (some (.agg #[.int .i64 0, .int .i64 0]), 2, 16) := by kernel_rfl
set_option maxRecDepth 100000 in
set_option maxHeartbeats 4000000 in
theorem readRecover_any {w : World} {lo g ga c o : Nat} {hp hf ho hr : Hd} {i : IS} {k v s cur : Int} {tv cv ov : Value} {cs : List CI} {os : List Int} {x : CI} {z : Rz} (h : IW w lo g ga hp hf ho hr i) (ha : Acc ga k v s tv cv ov cs os cur w) (hx : cs[c]? = some x) (e0 e1 e2 : Int)
  (hl : i.on.length ≤ 100000) (hfl : i.forts.length ≤ 100000) (hrl : i.rec_.length ≤ 100000) (hlo : lo ≤ w.heap.size) (hpar : x.par = o) (hz : i.on[o]? = some z) (hk : Zok z i.forts.length) :
  Calls Try.prog 89 #[.pointer (some ⟨g, 0, none⟩), .int .i64 c, .agg #[.int .i64 e0, .int .i64 e1, .int .i64 e2]] w fun e w' => ∃ hr', e = .returned (.tuple #[]) ∧ IW w' lo g ga hp hf ho hr' (recoverP i o c) ∧ Chg (OwnX lo g ho) w w' := by
 obtain ⟨i0, hi, hz0, hz1, hz2⟩ := info_parts infoQ
 have hcl : c < cs.length := (List.getElem?_eq_some_iff.1 hx).1
 have hol : o < i.on.length := (List.getElem?_eq_some_iff.1 hz).1
 obtain ⟨b, cap, hb1, hb2, rfl⟩ := call_form ha (by omega)
 obtain ⟨Ao, co⟩ := ho
 obtain ⟨bo, hbo2, hA⟩ := on_form h (by omega)
 dsimp only at hA
 subst hA
 have H := Lib.hid h
 have HA := Lib.hid ha
 have hgl := h.lt
 clear h ha
 go_enter Try.func89, Try.ntmps89
 go_upto_region 1 with fail
 change (fun V => Code.wp _ _ _ _ V) _
 refine gen_world (X := fun V => IW V lo g ga hp hf ⟨some ⟨bo, 0, none⟩, co⟩ hr i ∧ Acc ga k v s tv (.slice (some ⟨b, 0, none⟩) cs.length cap) ov cs os cur V ∧ Below w.heap.size w V) ⟨H.out.below ((Below.refl _ _).alloc (Nat.le_refl _) _), HA.out.below ((Below.refl _ _).alloc (Nat.le_refl _) _), (Below.refl _ _).alloc (Nat.le_refl _) _⟩ ?_
 rintro V ⟨hV, aV, bV⟩
 have q0 : V.cell? ⟨g, 0, none⟩ = some (.pointer (some ⟨ga, 0, none⟩)) := hV.blk.cells 0
 have q40 : V.cell? ⟨ga, 4, none⟩ = some (.slice (some ⟨b, 0, none⟩) cs.length cap) := aV.blk.cells 4
 obtain ⟨-, p1, -, -, -⟩ := own_cell5 aV.calls hx
 rw [hpar] at p1
 have q4 : V.cell? ⟨g, 4, none⟩ = some (.slice hr.A i.rec_.length hr.c) := hV.blk.cells 4
 have q3 : V.cell? ⟨g, 3, none⟩ = some (.slice (some ⟨bo, 0, none⟩) i.on.length co) := hV.blk.cells 3
 obtain ⟨z0, z1, z2, z3, z4⟩ := z
 have c3 : V.cell? ⟨bo, o * 5 + 3, none⟩ = some (.int .i64 z3) := (row_z hV.on rfl hz).2.2.2.1
 have hsz := bV.size
 have HV := Lib.hid hV
 have BV := Lib.hid (Chg.of_below (C := OwnX lo g ⟨some ⟨bo, 0, none⟩, co⟩) bV)
 clear hV aV bV H HA
 go_upto_region 2 with fail
 clear p1 q40 q0
 have S0 : (fun V : World => V.cell? ⟨g, 4, none⟩ = some (.slice hr.A i.rec_.length hr.c) ∧ V.cell? ⟨g, 3, none⟩ = some (.slice (some ⟨bo, 0, none⟩) i.on.length co) ∧ V.cell? ⟨bo, o * 5 + 3, none⟩ = some (.int .i64 z3)) V.drew := ⟨q4, q3, c3⟩
 refine Last2.region_last [19] (fun V : World => V.cell? ⟨g, 4, none⟩ = some (.slice hr.A i.rec_.length hr.c) ∧ V.cell? ⟨g, 3, none⟩ = some (.slice (some ⟨bo, 0, none⟩) i.on.length co) ∧ V.cell? ⟨bo, o * 5 + 3, none⟩ = some (.int .i64 z3)) (by kernel_rfl) ?_
 refine Last2.tk 0 18 (.pointer (some ⟨g, 0, none⟩)) S0 ?_
 simp only [Act.put, Last2.s]
 refine Last2.tk 1 19 (.pointer (some ⟨g, 0, none⟩)) S0 ?_
 simp only [Act.put, Last2.s]
 refine Last2.tk 2 20 (.pointer (some ⟨g, 0, none⟩)) S0 ?_
 simp only [Act.put, Last2.s]
 refine Last2.tk 3 21 (.pointer (some ⟨g, 4, none⟩)) S0 ?_
 simp only [Act.put, Last2.s]
 refine Last2.tk 4 22 (.slice hr.A i.rec_.length hr.c) S0 ?_
 simp only [Act.put, Last2.s]
 refine Last2.tk 5 23 (.pointer (some ⟨g, 0, none⟩)) S0 ?_
 simp only [Act.put, Last2.s]
 refine Last2.tk 6 24 (.pointer (some ⟨g, 0, none⟩)) S0 ?_
 simp only [Act.put, Last2.s]
 refine Last2.tk 7 25 (.pointer (some ⟨g, 3, none⟩)) S0 ?_
 simp only [Act.put, Last2.s]
 refine Last2.tk 8 26 (.slice (some ⟨bo, 0, none⟩) i.on.length co) S0 ?_
 simp only [Act.put, Last2.s]
 refine Last2.tk 9 27 (.int .i64 o) S0 ?_
 simp only [Act.put, Last2.s]
 refine Last2.tk 10 28 (.pointer (some ⟨bo, o * 5, none⟩)) S0 ?_
 simp only [Act.put, Last2.s]
 refine Last2.tk 11 29 (.pointer (some ⟨bo, o * 5 + 3, none⟩)) S0 ?_
 simp only [Act.put, Last2.s]
 refine Last2.tk 12 30 (.int .i64 z3) S0 ?_
 simp only [Act.put, Last2.s]
 refine Last2.tk 13 31 (.int .i64 c) S0 ?_
 simp only [Act.put, Last2.s]
 refine Last2.tk 14 32 (.agg #[.int .i64 z3, .int .i64 c]) S0 ?_
 simp only [Act.put, Last2.s]
 refine Last2.last_one (i := 15) (o := { dst := some 33, op := .buildSlice 70 1 #[(0, .tmp 32)], type := _, pos := _, after := _, guard := none }) (by kernel_rfl) rfl rfl (fun K hK => ?_)
 go_simp
 have HW := Lib.hid (HV.out.below (V' := V.alloc (.cells #[.int .i64 z3, .int .i64 c] 85)) ((Below.refl _ _).alloc (Nat.le_refl _) _))
 have S1 : (fun V : World => V.cell? ⟨g, 4, none⟩ = some (.slice hr.A i.rec_.length hr.c) ∧ V.cell? ⟨g, 3, none⟩ = some (.slice (some ⟨bo, 0, none⟩) i.on.length co) ∧ V.cell? ⟨bo, o * 5 + 3, none⟩ = some (.int .i64 z3)) (V.alloc (.cells #[.int .i64 z3, .int .i64 c] 85)).drew := ⟨HW.out.blk.cells 4, HW.out.blk.cells 3, (row_z HW.out.on rfl hz).2.2.2.1⟩
 refine hK.out _ _ (fun _ => S1) ?_
 clear hK K S0 q3 q4 c3
 try simp only [Act.put, Last2.s]
 have o0 := World.ownsRow.alloc HV.out.rec_ (.cells #[.int .i64 z3, .int .i64 c] 85)
 have p0 := two_own (heap1_0 V (.cells #[.int .i64 z3, .int .i64 c] 85))
 refine Last2.last_one (i := 16) (o := { dst := some 34, op := .call { callee := .builtin .append, args := #[.tmp 22, .tmp 33], argTypes := #[70, 70] }, type := _, pos := _, after := _, guard := none }) (by kernel_rfl) rfl rfl (fun K hK => ?_)
 refine App.row_wp _ (.tmp 22) (.tmp 33) 70 rfl lo 0 85 i0 _ 2 16 Try.underlying70 hi hz0 hz1 hz2 rfl (by decide) _ _ _ rfl o0 _ 1 [.int .i64 z3, .int .i64 c] rfl p0 (by intro u hu; simp at hu; rcases hu with rfl | rfl <;> rfl) (by unfold maxLen; omega) (by omega) (by show lo ≤ (V.alloc _).heap.size; rw [World.size_alloc]; omega) ?_
 intro v1 w1 o1 g1 t1
 have ch : Chg (fun x => (Value.slice hr.A i.rec_.length hr.c).ownBlock = some x) V w1 := Chg.trans (b := (V.alloc (.cells #[.int .i64 z3, .int .i64 c] 85)).drew) (Chg.trans (Chg.alloc _ V _) (Chg.drew (fun _ => False) _) (fun _ _ h => h.elim)) (Chg.of_grown g1) (fun x _ hx => hx.symm)
 have b1 := HV.out.blk.chg ch (blk_apart HV.out.rec_ HV.out.blk (by decide))
 have on1 := own_chg HV.out.on ch (fun x hx => apart HV.out.on HV.out.rec_ (by decide) x hx)
 have S2 : (fun V : World => V.cell? ⟨g, 4, none⟩ = some (.slice hr.A i.rec_.length hr.c) ∧ V.cell? ⟨g, 3, none⟩ = some (.slice (some ⟨bo, 0, none⟩) i.on.length co) ∧ V.cell? ⟨bo, o * 5 + 3, none⟩ = some (.int .i64 z3)) w1 := ⟨b1.cells 4, b1.cells 3, (row_z on1 rfl hz).2.2.2.1⟩
 refine hK.out _ _ (fun _ => S2) ?_
 clear hK K o0 p0 S1
 obtain ⟨A1, c1, rfl⟩ := own_slice o1
 have k4 : w1.cell? ⟨g, 4, none⟩ = some (.slice hr.A i.rec_.length hr.c) := b1.cells 4
 have f4 : w1.frozen? ⟨g, 4, none⟩ = false := b1.frozen 4
 have O1 := Lib.hid o1
 have CH := Lib.hid ch
 have SH := Lib.hid S2
 clear o1 g1 t1 ch b1 S2 HW on1
 try simp only [Act.put, Last2.s]
 refine Last2.last_one (i := 17) (o := { dst := some 35, op := .nilCheck (.tmp 18), type := _, pos := _, after := _, guard := none }) (by kernel_rfl) rfl rfl (fun K hK => ?_)
 go_simp
 refine hK.out _ _ (fun _ => SH.out) ?_
 clear hK K
 refine Last2.last_one (i := 18) (o := { dst := some 36, op := .fieldAddr 72 (.tmp 35) 4, type := _, pos := _, after := _, guard := none }) (by kernel_rfl) rfl rfl (fun K hK => ?_)
 go_simp
 refine hK.out _ _ (fun _ => SH.out) ?_
 clear hK K
 refine Last2.last_one (i := 19) (o := { dst := none, op := .store 70 (.tmp 36) (.tmp 34), type := _, pos := _, after := _, guard := none }) (by kernel_rfl) rfl rfl (fun K hK => ?_)
 go_simp
 refine hK.out _ _ (fun h => (h (by decide)).elim) ?_
 clear hK K
 refine Last2.last_done (by kernel_rfl) ?_ _
 have HN := Lib.hid (HV.out.putRec (hr' := ⟨A1, c1⟩) (rs := i.rec_ ++ [(z3, (c : Int))]) CH.out (by
  rw [List.length_append, List.length_singleton, rk_snoc]
  exact O1.out))
 have BN := Lib.hid (BV.out.trans ((CH.out.mono (D := OwnX lo g ⟨some ⟨bo, 0, none⟩, co⟩) (fun x _ hx => .inr (.inr (World.ownsRow.lt HV.out.rec_ x hx).1))).put ⟨g, 4, none⟩ (.slice A1 (i.rec_.length + 1) c1) (.inr (.inl rfl))) (fun x _ h => h))
 clear O1 CH SH k4 f4 HV BV
 rw [List.length_append, List.length_singleton] at HN
 change (fun V => Exit.then _ _ Exit.normal _ V) _
 refine gen_world (X := fun V => IW V lo g ga hp hf ⟨some ⟨bo, 0, none⟩, co⟩ ⟨A1, c1⟩ ⟨i.pans, i.forts, i.on, i.rec_ ++ [(z3, (c : Int))]⟩ ∧ Chg (OwnX lo g ⟨some ⟨bo, 0, none⟩, co⟩) w V) ⟨HN.out, BN.out⟩ ?_
 clear HN BN
 rintro U ⟨hU, bU⟩
 have HS := Lib.hid (settle_any hU hz 1 hl hfl hk)
 have BU := Lib.hid bU
 have HU := Lib.hid hU
 have HE := Lib.hid (show recoverP i o c = settleP ⟨i.pans, i.forts, i.on, i.rec_ ++ [(z3, (c : Int))]⟩ o 1 by unfold recoverP; rw [List.getD_eq_getElem?_getD, hz]; rfl)
 clear hU bU hz hk
 go_wp2_with fail
 refine HS.out.mono ?_
 rintro e' Y ⟨rfl, hY, bY⟩
 have HY := Lib.hid hY
 have BY := Lib.hid (BU.out.trans bY (fun x hx e => setX HU.out e))
 clear hY bY HS
 go_wp2_with fail
 go_end0
 rw [HE.out]
 first | exact ⟨_, rfl, HY.out, BY.out⟩ | exact ⟨rfl, ⟨_, HY.out⟩, BY.out⟩
end Go.Proofs.Ytgcjlkdahlfjlaa.Irc

/- The reader's readPanic. (Written by wip/tools/genipa.py.) -/
namespace Go.Proofs.Ytgcjlkdahlfjlaa.Ipa
open Go.ChangeShapes Go.WideShapes Go.ChangeAt Go.RowKit
open PL Mem Srun Sst IntsP RowA RowC AccP Pw Ipm Px Ise Iex Irc

theorem infoZ : (Try.prog.info? 76).map (fun i => (i.zero, i.size, i.bytes)) = some (some (.agg #[.int .i64 0, .int .i64 0, .int .i64 0, .int .i64 0, .int .i64 0]), 5, 40) := by kernel_rfl
theorem infoF : (Try.prog.info? 78).map (fun i => (i.zero, i.size, i.bytes)) = some (some (.agg #[.int .i64 0, .int .i64 0, .int .i64 0, .slice none 0 0]), 4, 48) := by kernel_rfl
theorem four_own {V : World} {g e : Nat} {x y z u : Value} (h : V.heap[g]? = some (.cells #[x, y, z, u] e)) : V.ownsRow 0 e 4 (.slice (some ⟨g, 0, none⟩) 1 1) 1 [x, y, z, u] :=
 ⟨by simp, .inr ⟨g, 1, #[x, y, z, u], rfl, Nat.zero_le _, h, Nat.le_refl _, by decide, by simp, by simp⟩⟩
set_option maxRecDepth 100000 in
set_option maxHeartbeats 8000000 in
theorem readPanic_any {w : World} {lo g ga c : Nat} {hp hf ho hr : Hd} {i : IS} (h : IW w lo g ga hp hf ho hr i) (hc : c < i.on.length) (f v : Int) (hpl : i.pans.length ≤ 100000) (hl : i.on.length ≤ 100000) (hfl : i.forts.length ≤ 100000) (hlo : lo ≤ w.heap.size) :
  Calls Try.prog 88 #[.pointer (some ⟨g, 0, none⟩), .int .i64 c, .agg #[.int .i64 5, .int .i64 f, .int .i64 v]] w fun e w' => ∃ hp' hf', e = .returned (.tuple #[]) ∧ IW w' lo g ga hp' hf' ho hr (panicP i c f v) ∧ Chg (OwnX lo g ho) w w' := by
 obtain ⟨iZ, hiZ, hz0, hz1, hz2⟩ := info_parts infoZ
 obtain ⟨iF, hiF, hy0, hy1, hy2⟩ := info_parts infoF
 obtain ⟨np, hNP⟩ : ∃ np, i.pans.length = np := ⟨_, rfl⟩
 obtain ⟨zc, hzc⟩ : ∃ zc, i.on[c]? = some zc := ⟨_, List.getElem?_eq_getElem hc⟩
 obtain ⟨Ao, co⟩ := ho
 obtain ⟨bo, hbo2, hA⟩ := on_form h (by omega)
 dsimp only at hA
 subst hA
 have H := Lib.hid h
 have hgl := h.lt
 have hPB := Lib.hid (fun k (hk : (Value.slice hp.A i.pans.length hp.c).ownBlock = some k) => (World.ownsRow.lt h.pans k hk).2)
 clear h
 go_enter Try.func88, Try.ntmps88
 go_upto_region 1 with fail
 change (fun V => Code.wp _ _ _ _ V) _
 refine gen_world (X := fun V => IW V lo g ga hp hf ⟨some ⟨bo, 0, none⟩, co⟩ hr i ∧ Blk V w.heap.size 74 #[.int .i64 5, .int .i64 f, .int .i64 v] ∧ Below w.heap.size w V) ⟨H.out.below ((Below.refl _ _).alloc (Nat.le_refl _) _), heap1_0 w _, (Below.refl _ _).alloc (Nat.le_refl _) _⟩ ?_
 rintro V ⟨hV, xV, bV⟩
 have q1 : V.cell? ⟨g, 1, none⟩ = some (.slice hp.A np hp.c) := hNP ▸ hV.blk.cells 1
 have v0 : V.cell? ⟨w.heap.size, 0, none⟩ = some (.int .i64 5) := xV.cells 0
 have v1 : V.cell? ⟨w.heap.size, 1, none⟩ = some (.int .i64 f) := xV.cells 1
 have v2 : V.cell? ⟨w.heap.size, 2, none⟩ = some (.int .i64 v) := xV.cells 2
 have hsz := bV.size
 have hsl := xV.lt
 obtain ⟨be, hbe⟩ : ∃ be, w.heap.size = be := ⟨_, rfl⟩
 rw [hbe] at v0 v1 v2 hsz hsl xV
 have HV := Lib.hid hV
 have XV := Lib.hid xV
 have BV := Lib.hid bV
 rw [← hbe] at hsz
 clear hV xV bV H
 simp only [hbe]
 have S0 : (fun V : World => V.cell? ⟨g, 1, none⟩ = some (.slice hp.A np hp.c) ∧ V.cell? ⟨be, 0, none⟩ = some (.int .i64 5) ∧ V.cell? ⟨be, 1, none⟩ = some (.int .i64 f) ∧ V.cell? ⟨be, 2, none⟩ = some (.int .i64 v)) V.drew := ⟨q1, v0, v1, v2⟩
 refine Last2.region_last [9] (fun V : World => V.cell? ⟨g, 1, none⟩ = some (.slice hp.A np hp.c) ∧ V.cell? ⟨be, 0, none⟩ = some (.int .i64 5) ∧ V.cell? ⟨be, 1, none⟩ = some (.int .i64 f) ∧ V.cell? ⟨be, 2, none⟩ = some (.int .i64 v)) (by kernel_rfl) ?_
 refine Last2.tk 0 7 (.agg #[.int .i64 5, .int .i64 f, .int .i64 v]) S0 ?_
 simp only [Act.put, Last2.s]
 refine Last2.tk 1 8 (.pointer (some ⟨g, 0, none⟩)) S0 ?_
 simp only [Act.put, Last2.s]
 refine Last2.tk 2 9 (.pointer (some ⟨g, 0, none⟩)) S0 ?_
 simp only [Act.put, Last2.s]
 refine Last2.tk 3 10 (.pointer (some ⟨g, 1, none⟩)) S0 ?_
 simp only [Act.put, Last2.s]
 refine Last2.tk 4 11 (.slice hp.A np hp.c) S0 ?_
 simp only [Act.put, Last2.s]
 refine Last2.tk 5 12 (.int .i64 np) S0 ?_
 simp only [Act.put, Last2.s]
 refine Last2.tk 6 13 (.int .i64 c) S0 ?_
 simp only [Act.put, Last2.s]
 refine Last2.tk 7 14 (.agg #[.int .i64 5, .int .i64 f, .int .i64 v, .int .i64 np, .int .i64 c]) S0 ?_
 simp only [Act.put, Last2.s]
 refine Last2.last_one (i := 8) (o := { dst := some 6, op := .alloc 76, type := _, pos := _, after := _, guard := none }) (by kernel_rfl) rfl rfl (fun K hK => ?_)
 go_simp
 have HW := Lib.hid (HV.out.below (V' := V.alloc (.cells #[.int .i64 0, .int .i64 0, .int .i64 0, .int .i64 0, .int .i64 0] 76)) ((Below.refl _ _).alloc (Nat.le_refl _) _))
 have XW := Lib.hid (XV.out.alloc (.cells #[.int .i64 0, .int .i64 0, .int .i64 0, .int .i64 0, .int .i64 0] 76))
 have S1 : (fun V : World => V.cell? ⟨g, 1, none⟩ = some (.slice hp.A np hp.c) ∧ V.cell? ⟨be, 0, none⟩ = some (.int .i64 5) ∧ V.cell? ⟨be, 1, none⟩ = some (.int .i64 f) ∧ V.cell? ⟨be, 2, none⟩ = some (.int .i64 v)) (V.alloc (.cells #[.int .i64 0, .int .i64 0, .int .i64 0, .int .i64 0, .int .i64 0] 76)).drew := ⟨hNP ▸ HW.out.blk.cells 1, XW.out.cells 0, XW.out.cells 1, XW.out.cells 2⟩
 refine hK.out _ _ (fun _ => S1) ?_
 clear hK K S0 S1 q1 v0 v1 v2
 have HB := Lib.hid (show Blk (V.alloc (.cells #[.int .i64 0, .int .i64 0, .int .i64 0, .int .i64 0, .int .i64 0] 76)).drew V.heap.size 76 #[.int .i64 0, .int .i64 0, .int .i64 0, .int .i64 0, .int .i64 0] from heap1_0 V _)
 have HWD := Lib.hid (HW.out.below (Below.drew (Below.refl _ _)))
 have HBW := Lib.hid (show Below w.heap.size w (V.alloc (.cells #[.int .i64 0, .int .i64 0, .int .i64 0, .int .i64 0, .int .i64 0] 76)).drew from Below.drew (BV.out.trans ((Below.refl _ _).alloc hsz _)))
 clear HW XW HV XV BV
 generalize (V.alloc (.cells #[.int .i64 0, .int .i64 0, .int .i64 0, .int .i64 0, .int .i64 0] 76)).drew = V1 at *
 generalize V.heap.size = bx at *
 have hbc := HB.out.cells
 have hbf := HB.out.frozen
 try simp only [Act.put, Last2.s]
 refine Last2.last_one (i := 9) (o := { dst := none, op := .store 76 (.tmp 6) (.tmp 14), type := _, pos := _, after := _, guard := none }) (by kernel_rfl) rfl rfl (fun K hK => ?_)
 go_simp
 refine hK.out _ _ (fun h => (h (by decide)).elim) ?_
 clear hK K
 refine Last2.last_done (by kernel_rfl) ?_ _
 have HPX := Lib.hid (show (Value.slice hp.A i.pans.length hp.c).ownBlock ≠ some bx from fun e => by have := hPB.out bx e; omega)
 change (fun V => Exit.then _ _ Exit.normal _ V) _
 refine gen_world (X := fun V => IW V lo g ga hp hf ⟨some ⟨bo, 0, none⟩, co⟩ hr i ∧ Blk V bx 76 (zarr (5, f, v, (np : Int), (c : Int))) ∧ Chg (OwnX lo g ⟨some ⟨bo, 0, none⟩, co⟩) w V) ⟨IW.put5 HWD.out HB.out HPX.out (fun e => by simp only [Value.ownBlock, Option.some.injEq] at e; omega) 0 (5, f, v, (np : Int), (c : Int)), Blk.set5 HB.out (5, f, v, (np : Int), (c : Int)), (Chg.of_below HBW.out).trans (put5_chg V1 bx 0 (5, f, v, (np : Int), (c : Int))) (fun x hx e => by omega)⟩ ?_
 clear HWD HB HBW hbc hbf
 rintro V ⟨hV, xV, bV⟩
 have q1 : V.cell? ⟨g, 1, none⟩ = some (.slice hp.A np hp.c) := hNP ▸ hV.blk.cells 1
 have v0 : V.cell? ⟨bx, 0, none⟩ = some (.int .i64 5) := xV.cells 0
 have v1 : V.cell? ⟨bx, 1, none⟩ = some (.int .i64 f) := xV.cells 1
 have v2 : V.cell? ⟨bx, 2, none⟩ = some (.int .i64 v) := xV.cells 2
 have v3 : V.cell? ⟨bx, 3, none⟩ = some (.int .i64 np) := xV.cells 3
 have v4 : V.cell? ⟨bx, 4, none⟩ = some (.int .i64 c) := xV.cells 4
 have HV := Lib.hid hV
 have XV := Lib.hid xV
 have BV := Lib.hid bV
 have hszV := bV.size
 clear hV xV bV
 have S0 : (fun V : World => V.cell? ⟨g, 1, none⟩ = some (.slice hp.A np hp.c) ∧ V.cell? ⟨bx, 0, none⟩ = some (.int .i64 5) ∧ V.cell? ⟨bx, 1, none⟩ = some (.int .i64 f) ∧ V.cell? ⟨bx, 2, none⟩ = some (.int .i64 v) ∧ V.cell? ⟨bx, 3, none⟩ = some (.int .i64 np) ∧ V.cell? ⟨bx, 4, none⟩ = some (.int .i64 c)) V.drew := ⟨q1, v0, v1, v2, v3, v4⟩
 go_wp2_with fail
 refine Last2.region_last [10] (fun V : World => V.cell? ⟨g, 1, none⟩ = some (.slice hp.A np hp.c) ∧ V.cell? ⟨bx, 0, none⟩ = some (.int .i64 5) ∧ V.cell? ⟨bx, 1, none⟩ = some (.int .i64 f) ∧ V.cell? ⟨bx, 2, none⟩ = some (.int .i64 v) ∧ V.cell? ⟨bx, 3, none⟩ = some (.int .i64 np) ∧ V.cell? ⟨bx, 4, none⟩ = some (.int .i64 c)) (by kernel_rfl) ?_
 refine Last2.tk 0 15 (.pointer (some ⟨g, 0, none⟩)) S0 ?_
 simp only [Act.put, Last2.s]
 refine Last2.tk 1 16 (.pointer (some ⟨g, 0, none⟩)) S0 ?_
 simp only [Act.put, Last2.s]
 refine Last2.tk 2 17 (.pointer (some ⟨g, 0, none⟩)) S0 ?_
 simp only [Act.put, Last2.s]
 refine Last2.tk 3 18 (.pointer (some ⟨g, 1, none⟩)) S0 ?_
 simp only [Act.put, Last2.s]
 refine Last2.tk 4 19 (.slice hp.A np hp.c) S0 ?_
 simp only [Act.put, Last2.s]
 refine Last2.tk 5 20 (.agg #[.int .i64 5, .int .i64 f, .int .i64 v, .int .i64 np, .int .i64 c]) S0 ?_
 simp only [Act.put, Last2.s]
 refine Last2.last_one (i := 6) (o := { dst := some 21, op := .buildSlice 68 1 #[(0, .tmp 20)], type := _, pos := _, after := _, guard := none }) (by kernel_rfl) rfl rfl (fun K hK => ?_)
 go_simp
 have HW := Lib.hid (HV.out.below (V' := V.alloc (.cells #[.int .i64 5, .int .i64 f, .int .i64 v, .int .i64 np, .int .i64 c] 76)) ((Below.refl _ _).alloc (Nat.le_refl _) _))
 have XW := Lib.hid (XV.out.alloc (.cells #[.int .i64 5, .int .i64 f, .int .i64 v, .int .i64 np, .int .i64 c] 76))
 have S1 : (fun V : World => V.cell? ⟨g, 1, none⟩ = some (.slice hp.A np hp.c) ∧ V.cell? ⟨bx, 0, none⟩ = some (.int .i64 5) ∧ V.cell? ⟨bx, 1, none⟩ = some (.int .i64 f) ∧ V.cell? ⟨bx, 2, none⟩ = some (.int .i64 v) ∧ V.cell? ⟨bx, 3, none⟩ = some (.int .i64 np) ∧ V.cell? ⟨bx, 4, none⟩ = some (.int .i64 c)) (V.alloc (.cells #[.int .i64 5, .int .i64 f, .int .i64 v, .int .i64 np, .int .i64 c] 76)).drew := ⟨hNP ▸ HW.out.blk.cells 1, XW.out.cells 0, XW.out.cells 1, XW.out.cells 2, XW.out.cells 3, XW.out.cells 4⟩
 refine hK.out _ _ (fun _ => S1) ?_
 clear hK K S0 q1 v0 v1 v2 v3 v4
 try simp only [Act.put, Last2.s]
 have o0 := World.ownsRow.alloc (show V.ownsRow lo 76 5 (.slice hp.A np hp.c) np (i.pans.flatMap z5) from hNP ▸ HV.out.pans) (.cells #[.int .i64 5, .int .i64 f, .int .i64 v, .int .i64 np, .int .i64 c] 76)
 have p0 := five_own (heap1_0 V (.cells #[.int .i64 5, .int .i64 f, .int .i64 v, .int .i64 np, .int .i64 c] 76))
 refine Last2.last_one (i := 7) (o := { dst := some 22, op := .call { callee := .builtin .append, args := #[.tmp 19, .tmp 21], argTypes := #[68, 68] }, type := _, pos := _, after := _, guard := none }) (by kernel_rfl) rfl rfl (fun K hK => ?_)
 refine App.row_wp _ (.tmp 19) (.tmp 21) 68 rfl lo 0 76 iZ _ 5 40 Try.underlying68 hiZ hz0 hz1 hz2 rfl (by decide) _ _ _ rfl o0 _ 1 (z5 (5, f, v, (np : Int), (c : Int))) rfl p0 (by intro u hu; simp [z5] at hu; rcases hu with rfl | rfl | rfl | rfl | rfl <;> rfl) (by unfold maxLen; omega) (by omega) (by show lo ≤ (V.alloc _).heap.size; rw [World.size_alloc]; omega) ?_
 intro v1 w1 o1 g1 t1
 have ch : Chg (fun x => (Value.slice hp.A np hp.c).ownBlock = some x) V w1 := Chg.trans (b := (V.alloc (.cells #[.int .i64 5, .int .i64 f, .int .i64 v, .int .i64 np, .int .i64 c] 76)).drew) (Chg.trans (Chg.alloc _ V _) (Chg.drew (fun _ => False) _) (fun _ _ h => h.elim)) (Chg.of_grown g1) (fun x _ hx => hx.symm)
 have b1 := HV.out.blk.chg ch (fun e => blk_apart HV.out.pans HV.out.blk (by decide) (by rw [hNP]; exact e))
 have x1 := XV.out.chg ch (fun e => HPX.out (by rw [hNP]; exact e))
 have S2 : (fun V : World => V.cell? ⟨g, 1, none⟩ = some (.slice hp.A np hp.c) ∧ V.cell? ⟨bx, 0, none⟩ = some (.int .i64 5) ∧ V.cell? ⟨bx, 1, none⟩ = some (.int .i64 f) ∧ V.cell? ⟨bx, 2, none⟩ = some (.int .i64 v) ∧ V.cell? ⟨bx, 3, none⟩ = some (.int .i64 np) ∧ V.cell? ⟨bx, 4, none⟩ = some (.int .i64 c)) w1 := ⟨hNP ▸ b1.cells 1, x1.cells 0, x1.cells 1, x1.cells 2, x1.cells 3, x1.cells 4⟩
 refine hK.out _ _ (fun _ => S2) ?_
 clear hK K o0 p0 S1
 obtain ⟨A1, c1, rfl⟩ := own_slice o1
 have k1 : w1.cell? ⟨g, 1, none⟩ = some (.slice hp.A np hp.c) := hNP ▸ b1.cells 1
 have f1 : w1.frozen? ⟨g, 1, none⟩ = false := b1.frozen 1
 have O1 := Lib.hid o1
 have CH := Lib.hid ch
 have SH := Lib.hid S2
 have X1 := Lib.hid x1
 have T1 := Lib.hid (show (Value.slice A1 (np + 1) c1).ownBlock = (Value.slice hp.A np hp.c).ownBlock ∨ ∀ x, (Value.slice A1 (np + 1) c1).ownBlock = some x → V.heap.size ≤ x from t1.imp id (fun e x hx => by rw [e] at hx; simp only [Option.some.injEq] at hx; rw [← hx]; show V.heap.size ≤ (V.alloc _).heap.size; rw [World.size_alloc]; omega))
 clear o1 g1 t1 ch b1 S2 HW XW x1
 try simp only [Act.put, Last2.s]
 refine Last2.last_one (i := 8) (o := { dst := some 23, op := .nilCheck (.tmp 15), type := _, pos := _, after := _, guard := none }) (by kernel_rfl) rfl rfl (fun K hK => ?_)
 go_simp
 refine hK.out _ _ (fun _ => SH.out) ?_
 clear hK K
 refine Last2.last_one (i := 9) (o := { dst := some 24, op := .fieldAddr 72 (.tmp 23) 1, type := _, pos := _, after := _, guard := none }) (by kernel_rfl) rfl rfl (fun K hK => ?_)
 go_simp
 refine hK.out _ _ (fun _ => SH.out) ?_
 clear hK K
 refine Last2.last_one (i := 10) (o := { dst := none, op := .store 68 (.tmp 24) (.tmp 22), type := _, pos := _, after := _, guard := none }) (by kernel_rfl) rfl rfl (fun K hK => ?_)
 go_simp
 refine hK.out _ _ (fun h => (h (by decide)).elim) ?_
 clear hK K
 refine Last2.last_done (by kernel_rfl) ?_ _
 have hpl1 : (i.pans ++ [(5, f, v, (np : Int), (c : Int))]).length = np + 1 := by rw [List.length_append, List.length_singleton, hNP]
 have HN := Lib.hid (HV.out.putPans (hp' := ⟨A1, c1⟩) (ps := i.pans ++ [(5, f, v, (np : Int), (c : Int))]) (hNP ▸ CH.out) (by
  rw [hpl1, rk_snoc]
  exact O1.out) (by
  rw [hpl1]
  rcases T1.out with h | h
  ·exact fun k hk => HV.out.apt k (by rw [hNP, ← h]; exact hk)
  ·exact fun k hk hk' => by
    have := h k hk
    have := (World.ownsRow.lt HV.out.on k hk').2
    omega))
 have BN := Lib.hid (BV.out.trans ((CH.out.mono (D := OwnX lo g ⟨some ⟨bo, 0, none⟩, co⟩) (fun x _ hx => .inr (.inr (World.ownsRow.lt HV.out.pans x (by rw [hNP]; exact hx)).1))).put ⟨g, 1, none⟩ (.slice A1 (np + 1) c1) (.inr (.inl rfl))) (fun x _ h => h))
 have XN := Lib.hid (X1.out.far ⟨g, 1, none⟩ (.slice A1 (np + 1) c1) (by show bx ≠ g; omega))
 rw [hpl1] at HN
 clear O1 CH SH k1 f1 HV BV XV X1 T1
 change (fun V => Exit.then _ _ Exit.normal _ V) _
 refine gen_world (X := fun V => IW V lo g ga ⟨A1, c1⟩ hf ⟨some ⟨bo, 0, none⟩, co⟩ hr ⟨i.pans ++ [(5, f, v, (np : Int), (c : Int))], i.forts, i.on, i.rec_⟩ ∧ Blk V bx 76 (zarr (5, f, v, (np : Int), (c : Int))) ∧ Chg (OwnX lo g ⟨some ⟨bo, 0, none⟩, co⟩) w V) ⟨HN.out, XN.out, BN.out⟩ ?_
 clear HN BN XN
 rintro V ⟨hV, xV, bV⟩
 obtain ⟨L, hL, hv, hrow, hapt⟩ := hV.forts
 have q2 : V.cell? ⟨g, 2, none⟩ = some (.slice hf.A i.forts.length hf.c) := hV.blk.cells 2
 have HV := Lib.hid hV
 have XV := Lib.hid xV
 have BV := Lib.hid bV
 have HVV := Lib.hid hv
 have HROW := Lib.hid hrow
 have HAPT := Lib.hid hapt
 have hszV := bV.size
 dsimp only at hL
 clear hV xV bV hv hrow hapt
 go_wp2_with (at_builtin; refine App.row_list _ rfl (.tmp 29) (.tmp 31) 69 rfl lo 0 78 iF _ 4 48 Try.underlying69 hiF hy0 hy1 hy2 rfl (by decide) (.slice hf.A i.forts.length hf.c) i.forts.length (L.flatMap f4) rfl (World.ownsRow.alloc HVV.out _) (.slice (some ⟨V.heap.size, 0, none⟩) 1 1) 1 (f4 (⟨0, -1, -1, []⟩, .slice none 0 0)) rfl (four_own (heap1_0 V _)) (by intro u hu; simp [f4] at hu; rcases hu with rfl | rfl | rfl | rfl <;> rfl) (by unfold maxLen; omega) (by omega) (by show lo ≤ (V.alloc _).heap.size; rw [World.size_alloc]; omega) ?_)
 intro v1 w1 o1 g1 t1
 have ch : Chg (fun x => (Value.slice hf.A i.forts.length hf.c).ownBlock = some x) V w1 := Chg.trans (b := V.alloc (.cells #[.int .i64 0, .int .i64 (-1), .int .i64 (-1), .slice none 0 0] 78)) (Chg.trans (Chg.alloc _ V _) (Chg.refl (fun _ => False) _) (fun _ _ h => h.elim)) (Chg.of_grown g1) (fun x _ hx => hx.symm)
 obtain ⟨A2, c2, rfl⟩ := own_slice o1
 have b1 := HV.out.blk.chg ch (blk_apart HVV.out HV.out.blk (by decide))
 have k2 : w1.cell? ⟨g, 2, none⟩ = some (.slice hf.A i.forts.length hf.c) := b1.cells 2
 have f2 : w1.frozen? ⟨g, 2, none⟩ = false := b1.frozen 2
 have X1 := Lib.hid (XV.out.chg ch (fun e => blk_apart HVV.out XV.out (by decide) e))
 have O1 := Lib.hid o1
 have CH := Lib.hid ch
 clear o1 g1 t1 ch b1
 go_upto_region 4 with fail
 have HN := Lib.hid (HV.out.addFort (hf' := ⟨A2, c2⟩) (y := ⟨0, -1, -1, []⟩) rfl L hL HROW.out HAPT.out HVV.out CH.out O1.out)
 have BN := Lib.hid (BV.out.trans ((CH.out.mono (D := OwnX lo g ⟨some ⟨bo, 0, none⟩, co⟩) (fun x _ hx => .inr (.inr (World.ownsRow.lt HVV.out x hx).1))).put ⟨g, 2, none⟩ (.slice A2 (i.forts.length + 1) c2) (.inr (.inl rfl))) (fun x _ h => h))
 have XN := Lib.hid (X1.out.far ⟨g, 2, none⟩ (.slice A2 (i.forts.length + 1) c2) (by show bx ≠ g; omega))
 clear O1 CH k2 f2 HV BV XV X1 HVV HROW HAPT
 change (fun V => Code.wp _ _ _ _ V) _
 refine gen_world (X := fun V => IW V lo g ga ⟨A1, c1⟩ ⟨A2, c2⟩ ⟨some ⟨bo, 0, none⟩, co⟩ hr ⟨i.pans ++ [(5, f, v, (np : Int), (c : Int))], i.forts ++ [⟨0, -1, -1, []⟩], i.on, i.rec_⟩ ∧ Blk V bx 76 (zarr (5, f, v, (np : Int), (c : Int))) ∧ Chg (OwnX lo g ⟨some ⟨bo, 0, none⟩, co⟩) w V) ⟨HN.out, XN.out, BN.out⟩ ?_
 clear HN BN XN
 rintro V ⟨hV, xV, bV⟩
 have q3 : V.cell? ⟨g, 3, none⟩ = some (.slice (some ⟨bo, 0, none⟩) i.on.length co) := hV.blk.cells 3
 have v0 : V.cell? ⟨bx, 0, none⟩ = some (.int .i64 5) := xV.cells 0
 have v1 : V.cell? ⟨bx, 1, none⟩ = some (.int .i64 f) := xV.cells 1
 have v2 : V.cell? ⟨bx, 2, none⟩ = some (.int .i64 v) := xV.cells 2
 have v3 : V.cell? ⟨bx, 3, none⟩ = some (.int .i64 np) := xV.cells 3
 have v4 : V.cell? ⟨bx, 4, none⟩ = some (.int .i64 c) := xV.cells 4
 have fo := hV.on.frozenAt
 obtain ⟨c0, c1, c2, c3, c4⟩ := row_z hV.on rfl hzc
 have HV := Lib.hid hV
 have BV := Lib.hid bV
 clear hV xV bV
 have S0 : (fun V : World => V.cell? ⟨g, 3, none⟩ = some (.slice (some ⟨bo, 0, none⟩) i.on.length co) ∧ V.cell? ⟨bx, 0, none⟩ = some (.int .i64 5) ∧ V.cell? ⟨bx, 1, none⟩ = some (.int .i64 f) ∧ V.cell? ⟨bx, 2, none⟩ = some (.int .i64 v) ∧ V.cell? ⟨bx, 3, none⟩ = some (.int .i64 np) ∧ V.cell? ⟨bx, 4, none⟩ = some (.int .i64 c)) V.drew := ⟨q3, v0, v1, v2, v3, v4⟩
 refine Last2.region_last [7] (fun V : World => V.cell? ⟨g, 3, none⟩ = some (.slice (some ⟨bo, 0, none⟩) i.on.length co) ∧ V.cell? ⟨bx, 0, none⟩ = some (.int .i64 5) ∧ V.cell? ⟨bx, 1, none⟩ = some (.int .i64 f) ∧ V.cell? ⟨bx, 2, none⟩ = some (.int .i64 v) ∧ V.cell? ⟨bx, 3, none⟩ = some (.int .i64 np) ∧ V.cell? ⟨bx, 4, none⟩ = some (.int .i64 c)) (by kernel_rfl) ?_
 refine Last2.tk 0 35 (.pointer (some ⟨g, 0, none⟩)) S0 ?_
 simp only [Act.put, Last2.s]
 refine Last2.tk 1 36 (.pointer (some ⟨g, 0, none⟩)) S0 ?_
 simp only [Act.put, Last2.s]
 refine Last2.tk 2 37 (.pointer (some ⟨g, 3, none⟩)) S0 ?_
 simp only [Act.put, Last2.s]
 refine Last2.tk 3 38 (.slice (some ⟨bo, 0, none⟩) i.on.length co) S0 ?_
 simp only [Act.put, Last2.s]
 refine Last2.tk 4 39 (.int .i64 c) S0 ?_
 simp only [Act.put, Last2.s]
 refine Last2.tk 5 40 (.agg #[.int .i64 5, .int .i64 f, .int .i64 v, .int .i64 np, .int .i64 c]) S0 ?_
 simp only [Act.put, Last2.s]
 refine Last2.tk 6 41 (.pointer (some ⟨bo, c * 5, none⟩)) S0 ?_
 simp only [Act.put, Last2.s]
 refine Last2.last_one (i := 7) (o := { dst := none, op := .store 76 (.tmp 41) (.tmp 40), type := _, pos := _, after := _, guard := none }) (by kernel_rfl) rfl rfl (fun K hK => ?_)
 go_simp
 refine hK.out _ _ (fun h => (h (by decide)).elim) ?_
 clear hK K
 refine Last2.last_done (by kernel_rfl) ?_ _
 have HN := Lib.hid (HV.out.putOn (z' := (5, f, v, (np : Int), (c : Int))) hzc)
 have BN := Lib.hid (BV.out.trans (put5_chg V bo (c * 5) (5, f, v, (np : Int), (c : Int))) (fun x hx e => .inr (.inl (by rw [e]; rfl))))
 clear HV BV S0 q3 v0 v1 v2 v3 v4 c0 c1 c2 c3 c4 fo
 have HE := Lib.hid (show panicP i c f v = ⟨i.pans ++ [(5, f, v, (np : Int), (c : Int))], i.forts ++ [⟨0, -1, -1, []⟩], i.on.set c (5, f, v, (np : Int), (c : Int)), i.rec_⟩ by unfold panicP; rw [hNP])
 have HD := Lib.hid (HN.out.below (Below.drew (Below.refl _ _)))
 have BD := Lib.hid (BN.out.trans (Chg.drew (fun _ => False) _) (fun _ _ h => h.elim))
 clear HN BN
 go_wp2_with fail
 go_end0
 rw [HE.out]
 first | exact ⟨_, _, rfl, HD.out, BD.out⟩ | exact ⟨rfl, ⟨_, _, HD.out⟩, BD.out⟩ | exact ⟨_, rfl, ⟨_, HD.out⟩, BD.out⟩
end Go.Proofs.Ytgcjlkdahlfjlaa.Ipa
