/- The reader's readUnwind. (Written by wip/tools/geniun.py.) -/
import Derived.Test.YtgcjlkdahlfjlaaM25
set_option linter.unusedVariables false
set_option linter.unusedSimpArgs false
namespace Go.Proofs.Ytgcjlkdahlfjlaa.Iun
open Go.ChangeShapes Go.WideShapes Go.ChangeAt Go.RowKit
open PL Mem Srun Sst IntsP RowA RowC AccP Pw Ipm Px Ise Iex Irc

theorem settle_len (i : IS) (c : Nat) (n : Int) : (settleP i c n).forts.length = i.forts.length ∧ (settleP i c n).on.length = i.on.length := by
 unfold settleP
 split
 ·split
  ·exact ⟨rfl, rfl⟩
  ·refine ⟨?_, List.length_set⟩
   dsimp only
   split
   ·exact List.length_set
   ·rfl
 ·exact ⟨rfl, rfl⟩
theorem un_none {i : IS} {c kk : Nat} {zf zv zc f : Int} {y : Fo} (hz : i.on[c]? = some (5, zf, zv, (kk : Int), zc)) (hy : i.forts[kk]? = some y) :
  unwindP i c none f = settleP ⟨i.pans, i.forts.set kk { y with unwound := y.unwound ++ [f] }, i.on, i.rec_⟩ c 3 := by
 unfold unwindP
 dsimp only
 rw [List.getD_eq_getElem?_getD, hz]
 dsimp only [Option.getD_some]
 rw [Int.toNat_natCast, hy]
theorem un_some {i i2 : IS} {c kk o : Nat} {zf zv zc f : Int} {y : Fo} {old : Rz} (hz : i.on[c]? = some (5, zf, zv, (kk : Int), zc)) (hy : i.forts[kk]? = some y) (ho : i.on[o]? = some old)
  (h2 : settleP ⟨i.pans, i.forts.set kk { y with unwound := y.unwound ++ [f] }, i.on, i.rec_⟩ o 2 = i2) :
  unwindP i c (some o) f = ⟨i2.pans, (if old = rz0 then i2.forts else (match (match i2.forts[old.2.2.2.1.toNat]? with
    | some y => i2.forts.set old.2.2.2.1.toNat { y with replacer := (kk : Int) }
    | none => i2.forts)[kk]? with
    | some y => (match i2.forts[old.2.2.2.1.toNat]? with
    | some y => i2.forts.set old.2.2.2.1.toNat { y with replacer := (kk : Int) }
    | none => i2.forts).set kk { y with replaced := old.2.2.2.1 }
    | none => (match i2.forts[old.2.2.2.1.toNat]? with
    | some y => i2.forts.set old.2.2.2.1.toNat { y with replacer := (kk : Int) }
    | none => i2.forts))), i2.on.set o (5, zf, zv, (kk : Int), zc), i2.rec_⟩ := by
 unfold unwindP
 dsimp only
 rw [List.getD_eq_getElem?_getD, List.getD_eq_getElem?_getD, hz, ho]
 dsimp only [Option.getD_some]
 rw [Int.toNat_natCast, hy]
 dsimp only
 rw [h2]
 by_cases h0 : old = rz0
 ·rw [if_pos h0, if_pos h0]
 ·rw [if_neg h0, if_neg h0]
  rfl
set_option maxRecDepth 100000 in
set_option maxHeartbeats 8000000 in
theorem readUnwind_any {w : World} {lo g ga c kk : Nat} {hp hf ho hr : Hd} {i : IS} {k v s cur : Int} {tv cv ov : Value} {cs : List CI} {os : List Int} {x : CI} {zf zv zc : Int} {out : Option Nat} (h : IW w lo g ga hp hf ho hr i) (ha : Acc ga k v s tv cv ov cs os cur w) (hlo : lo ≤ w.heap.size) (hacc : ∀ V, Chg (OwnX lo g ho) w V → Acc ga k v s tv cv ov cs os cur V) (hx : cs[c]? = some x) (e0 e1 e2 : Int)
  (hl : i.on.length ≤ 100000) (hfl : i.forts.length ≤ 100000) (hul : ∀ y ∈ i.forts, y.unwound.length ≤ 100000) (hz : i.on[c]? = some (5, zf, zv, (kk : Int), zc)) (hk : kk < i.forts.length)
  (hpr : (x.par = -1 ∧ out = none) ∨ ∃ (o : Nat) (old : Rz), x.par = o ∧ out = some o ∧ i.on[o]? = some old ∧ Zok old i.forts.length) :
  Calls Try.prog 90 #[.pointer (some ⟨g, 0, none⟩), .int .i64 c, .agg #[.int .i64 e0, .int .i64 e1, .int .i64 e2]] w fun e w' => e = .returned (.tuple #[]) ∧ IW w' lo g ga hp hf ho hr (unwindP i c out e1) ∧ Chg (OwnX lo g ho) w w' := by
 obtain ⟨i0, hi, hz0, hz1, hz2⟩ := info_parts info3
 have hcl : c < cs.length := (List.getElem?_eq_some_iff.1 hx).1
 have hco : c < i.on.length := (List.getElem?_eq_some_iff.1 hz).1
 obtain ⟨b, cap, hb1, hb2, rfl⟩ := call_form ha (by omega)
 obtain ⟨Ao, co⟩ := ho
 obtain ⟨bo, hbo2, hA⟩ := on_form h (by omega)
 dsimp only at hA
 subst hA
 obtain ⟨Af, cf⟩ := hf
 obtain ⟨bf, hbf1, hbf2, hA⟩ := fo_form h (by omega)
 dsimp only at hA
 subst hA
 obtain ⟨y, hy⟩ : ∃ y, i.forts[kk]? = some y := ⟨_, List.getElem?_eq_getElem hk⟩
 obtain ⟨n, hn⟩ : ∃ n, y.unwound.length = n := ⟨_, rfl⟩
 have hnl : n ≤ 100000 := hn ▸ hul y (List.mem_of_getElem? hy)
 have H := Lib.hid h
 have HA := Lib.hid ha
 have HACC := Lib.hid (fun (V : World) (b : Chg (OwnX lo g ⟨some ⟨bo, 0, none⟩, co⟩) w V) => hacc V b)
 have hgl := h.lt
 clear h ha hul
 go_enter Try.func90, Try.ntmps90
 go_upto_region 1 with fail
 change (fun V => Code.wp _ _ _ _ V) _
 refine gen_world (X := fun V => IW V lo g ga hp ⟨some ⟨bf, 0, none⟩, cf⟩ ⟨some ⟨bo, 0, none⟩, co⟩ hr i ∧ Acc ga k v s tv (.slice (some ⟨b, 0, none⟩) cs.length cap) ov cs os cur V ∧ Blk V w.heap.size 74 #[.int .i64 e0, .int .i64 e1, .int .i64 e2] ∧ Below w.heap.size w V) ⟨H.out.below ((Below.refl _ _).alloc (Nat.le_refl _) _), HA.out.below ((Below.refl _ _).alloc (Nat.le_refl _) _), heap1_0 w _, (Below.refl _ _).alloc (Nat.le_refl _) _⟩ ?_
 rintro V ⟨hV, aV, eV, bV⟩
 have q3 : V.cell? ⟨g, 3, none⟩ = some (.slice (some ⟨bo, 0, none⟩) i.on.length co) := hV.blk.cells 3
 obtain ⟨c0, c1, c2, c3, c4⟩ := row_z hV.on rfl hz
 dsimp only at c0 c1 c2 c3 c4
 have hsz := bV.size
 have hsl := eV.lt
 have HV := Lib.hid hV
 have AV := Lib.hid aV
 have EV := Lib.hid eV
 have BV := Lib.hid bV
 clear hV aV eV bV H HA
 go_upto_region 2 with fail
 change (fun V => Code.wp _ _ _ _ V) _
 refine gen_world (X := fun Y => IW Y lo g ga hp ⟨some ⟨bf, 0, none⟩, cf⟩ ⟨some ⟨bo, 0, none⟩, co⟩ hr i ∧ Acc ga k v s tv (.slice (some ⟨b, 0, none⟩) cs.length cap) ov cs os cur Y ∧ Blk Y w.heap.size 74 #[.int .i64 e0, .int .i64 e1, .int .i64 e2] ∧ Blk Y V.heap.size 76 (zarr (5, zf, zv, (kk : Int), zc)) ∧ Below w.heap.size w Y) ⟨HV.out.below ((Below.refl _ _).alloc (Nat.le_refl _) _), AV.out.below ((Below.refl _ _).alloc (Nat.le_refl _) _), EV.out.alloc _, heap1_0 V _, BV.out.trans ((Below.refl _ _).alloc hsz _)⟩ ?_
 clear HV AV EV BV q3 c0 c1 c2 c3 c4
 generalize V.heap.size = bx at *
 obtain ⟨be, hbe⟩ : ∃ be, w.heap.size = be := ⟨_, rfl⟩
 simp only [hbe]
 rintro V ⟨hV, aV, eV, xV, bV⟩
 rw [hbe] at hsl hsz hbo2 hbf2 hgl hb2
 have q2 : V.cell? ⟨g, 2, none⟩ = some (.slice (some ⟨bf, 0, none⟩) i.forts.length cf) := hV.blk.cells 2
 have v3 : V.cell? ⟨bx, 3, none⟩ = some (.int .i64 kk) := xV.cells 3
 have HV := Lib.hid hV
 have AV := Lib.hid aV
 have EV := Lib.hid eV
 have XV := Lib.hid xV
 have BV := Lib.hid bV
 clear hV aV eV xV bV
 have S0 : (fun V : World => V.cell? ⟨g, 2, none⟩ = some (.slice (some ⟨bf, 0, none⟩) i.forts.length cf) ∧ V.cell? ⟨bx, 3, none⟩ = some (.int .i64 kk)) V.drew := ⟨q2, v3⟩
 refine Last2.region_last [] (fun V : World => V.cell? ⟨g, 2, none⟩ = some (.slice (some ⟨bf, 0, none⟩) i.forts.length cf) ∧ V.cell? ⟨bx, 3, none⟩ = some (.int .i64 kk)) (by kernel_rfl) ?_
 refine Last2.tk 0 18 (.pointer (some ⟨g, 0, none⟩)) S0 ?_
 simp only [Act.put, Last2.s]
 refine Last2.tk 1 19 (.pointer (some ⟨g, 0, none⟩)) S0 ?_
 simp only [Act.put, Last2.s]
 refine Last2.tk 2 20 (.pointer (some ⟨g, 2, none⟩)) S0 ?_
 simp only [Act.put, Last2.s]
 refine Last2.tk 3 21 (.slice (some ⟨bf, 0, none⟩) i.forts.length cf) S0 ?_
 simp only [Act.put, Last2.s]
 refine Last2.tk 4 22 (.pointer (some ⟨bx, 3, none⟩)) S0 ?_
 simp only [Act.put, Last2.s]
 refine Last2.tk 5 23 (.int .i64 kk) S0 ?_
 simp only [Act.put, Last2.s]
 refine Last2.tk 6 24 (.pointer (some ⟨bf, kk * 4, none⟩)) S0 ?_
 simp only [Act.put, Last2.s]
 refine Last2.tk 7 7 (.pointer (some ⟨bf, kk * 4, none⟩)) S0 ?_
 simp only [Act.put, Last2.s]
 refine Last2.last_done (by kernel_rfl) ?_ _
 have HDR := Lib.hid (Below.drew (Below.refl V.heap.size V))
 change (fun V => Exit.then _ _ Exit.normal _ V) _
 refine gen_world (X := fun V => IW V lo g ga hp ⟨some ⟨bf, 0, none⟩, cf⟩ ⟨some ⟨bo, 0, none⟩, co⟩ hr i ∧ Acc ga k v s tv (.slice (some ⟨b, 0, none⟩) cs.length cap) ov cs os cur V ∧ Blk V be 74 #[.int .i64 e0, .int .i64 e1, .int .i64 e2] ∧ Blk V bx 76 (zarr (5, zf, zv, (kk : Int), zc)) ∧ Chg (OwnX lo g ⟨some ⟨bo, 0, none⟩, co⟩) w V) ⟨HV.out.below HDR.out, AV.out.below HDR.out, EV.out, XV.out, Chg.of_below (by rw [hbe]; exact Below.drew BV.out)⟩ ?_
 clear HV AV EV XV BV S0 q2 v3 HDR
 rintro V ⟨hV, aV, eV, xV, bV⟩
 obtain ⟨L, hL, hv, hrow, hapt⟩ := hV.forts
 try dsimp only at hL
 obtain ⟨u, hLk⟩ : ∃ u, L[kk]? = some (y, u) := by
  obtain ⟨⟨y1, u⟩, h1⟩ : ∃ s, L[kk]? = some s := ⟨_, List.getElem?_eq_getElem (by rw [foLen hL]; exact hk)⟩
  have h2 : (L.map Prod.fst)[kk]? = some y1 := by rw [List.getElem?_map, h1]; rfl
  rw [hL, hy] at h2
  obtain rfl : y = y1 := by simpa using h2
  exact ⟨u, h1⟩
 obtain ⟨Au, cu, rfl, hu⟩ := hrow kk y u hLk
 rw [hn] at hLk hu
 have q3 : V.cell? ⟨bf, kk * 4 + 3, none⟩ = some (.slice Au n cu) := row_at f4_len hv hLk (o := 3) (by decide) (foLen hL)
 have v1 : V.cell? ⟨be, 1, none⟩ = some (.int .i64 e1) := eV.cells 1
 have hszV := bV.size
 have HV := Lib.hid hV
 have AV := Lib.hid aV
 have EV := Lib.hid eV
 have XV := Lib.hid xV
 have BV := Lib.hid bV
 have HVV := Lib.hid hv
 have HROW := Lib.hid hrow
 have HAPT := Lib.hid hapt
 have HU := Lib.hid hu
 clear hV aV eV xV bV hv hrow hapt hu
 go_wp2_with fail
 have S0 : (fun V : World => V.cell? ⟨bf, kk * 4 + 3, none⟩ = some (.slice Au n cu) ∧ V.cell? ⟨be, 1, none⟩ = some (.int .i64 e1)) V.drew := ⟨q3, v1⟩
 refine Last2.region_last [11] (fun V : World => V.cell? ⟨bf, kk * 4 + 3, none⟩ = some (.slice Au n cu) ∧ V.cell? ⟨be, 1, none⟩ = some (.int .i64 e1)) (by kernel_rfl) ?_
 refine Last2.tk 0 25 (.pointer (some ⟨bf, kk * 4, none⟩)) S0 ?_
 simp only [Act.put, Last2.s]
 refine Last2.tk 1 26 (.pointer (some ⟨bf, kk * 4, none⟩)) S0 ?_
 simp only [Act.put, Last2.s]
 refine Last2.tk 2 27 (.pointer (some ⟨bf, kk * 4, none⟩)) S0 ?_
 simp only [Act.put, Last2.s]
 refine Last2.tk 3 28 (.pointer (some ⟨bf, kk * 4 + 3, none⟩)) S0 ?_
 simp only [Act.put, Last2.s]
 refine Last2.tk 4 29 (.slice Au n cu) S0 ?_
 simp only [Act.put, Last2.s]
 refine Last2.tk 5 30 (.pointer (some ⟨be, 1, none⟩)) S0 ?_
 simp only [Act.put, Last2.s]
 refine Last2.tk 6 31 (.int .i64 e1) S0 ?_
 simp only [Act.put, Last2.s]
 refine Last2.last_one (i := 7) (o := { dst := some 32, op := .buildSlice 38 1 #[(0, .tmp 31)], type := _, pos := _, after := _, guard := none }) (by kernel_rfl) rfl rfl (fun K hK => ?_)
 go_simp
 have hva := World.ownsRow.alloc HVV.out (.cells #[.int .i64 e1] 3)
 have XW := Lib.hid (EV.out.alloc (.cells #[.int .i64 e1] 3))
 have S1 : (fun V : World => V.cell? ⟨bf, kk * 4 + 3, none⟩ = some (.slice Au n cu) ∧ V.cell? ⟨be, 1, none⟩ = some (.int .i64 e1)) (V.alloc (.cells #[.int .i64 e1] 3)).drew := ⟨row_at f4_len hva hLk (o := 3) (by decide) (foLen hL), XW.out.cells 1⟩
 refine hK.out _ _ (fun _ => S1) ?_
 clear hK K S0 q3 v1
 try simp only [Act.put, Last2.s]
 have o0 := World.ownsRow.alloc HU.out (.cells #[.int .i64 e1] 3)
 have p0 := App.one_own (heap1_0 V (.cells #[.int .i64 e1] 3))
 refine Last2.last_one (i := 8) (o := { dst := some 33, op := .call { callee := .builtin .append, args := #[.tmp 29, .tmp 32], argTypes := #[38, 38] }, type := _, pos := _, after := _, guard := none }) (by kernel_rfl) rfl rfl (fun K hK => ?_)
 refine App.row_wp _ (.tmp 29) (.tmp 32) 38 rfl lo 0 3 i0 _ 1 8 Try.underlying38 hi hz0 hz1 hz2 rfl (by decide) _ _ _ rfl o0 _ 1 [.int .i64 e1] rfl p0 (by intro u hu; simp at hu; rcases hu with rfl; rfl) (by unfold maxLen; omega) (by omega) (by show lo ≤ (V.alloc _).heap.size; rw [World.size_alloc]; omega) ?_
 intro v1 w1 o1 g1 t1
 have ch : Chg (fun x => (Value.slice Au n cu).ownBlock = some x) V w1 := Chg.trans (b := (V.alloc (.cells #[.int .i64 e1] 3)).drew) (Chg.trans (Chg.alloc _ V _) (Chg.drew (fun _ => False) _) (fun _ _ h => h.elim)) (Chg.of_grown g1) (fun x _ hx => hx.symm)
 have hv1 := own_chg HVV.out ch (fun x hx => apart HVV.out HU.out (by decide) x hx)
 have x1 := EV.out.chg ch (fun e => blk_apart HU.out EV.out (by decide) e)
 have S2 : (fun V : World => V.cell? ⟨bf, kk * 4 + 3, none⟩ = some (.slice Au n cu) ∧ V.cell? ⟨be, 1, none⟩ = some (.int .i64 e1)) w1 := ⟨row_at f4_len hv1 hLk (o := 3) (by decide) (foLen hL), x1.cells 1⟩
 refine hK.out _ _ (fun _ => S2) ?_
 clear hK K o0 p0 S1
 obtain ⟨A1, c1, rfl⟩ := own_slice o1
 have k3 : w1.cell? ⟨bf, kk * 4 + 3, none⟩ = some (.slice Au n cu) := row_at f4_len hv1 hLk (o := 3) (by decide) (foLen hL)
 have f3 : w1.frozen? ⟨bf, kk * 4 + 3, none⟩ = false := hv1.frozenAt _
 have O1 := Lib.hid o1
 have CH := Lib.hid ch
 have SH := Lib.hid S2
 have T1 := Lib.hid (show (Value.slice A1 (n + 1) c1).ownBlock = (Value.slice Au n cu).ownBlock ∨ ∀ x, (Value.slice A1 (n + 1) c1).ownBlock = some x → V.heap.size ≤ x from t1.imp id (fun e x hx => by rw [e] at hx; simp only [Option.some.injEq] at hx; rw [← hx]; show V.heap.size ≤ (V.alloc _).heap.size; rw [World.size_alloc]; omega))
 clear o1 g1 t1 ch S2 XW x1 hv1 hva
 try simp only [Act.put, Last2.s]
 refine Last2.last_one (i := 9) (o := { dst := some 34, op := .nilCheck (.tmp 25), type := _, pos := _, after := _, guard := none }) (by kernel_rfl) rfl rfl (fun K hK => ?_)
 go_simp
 refine hK.out _ _ (fun _ => SH.out) ?_
 clear hK K
 refine Last2.last_one (i := 10) (o := { dst := some 35, op := .fieldAddr 78 (.tmp 34) 3, type := _, pos := _, after := _, guard := none }) (by kernel_rfl) rfl rfl (fun K hK => ?_)
 go_simp
 refine hK.out _ _ (fun _ => SH.out) ?_
 clear hK K
 refine Last2.last_one (i := 11) (o := { dst := none, op := .store 38 (.tmp 35) (.tmp 33), type := _, pos := _, after := _, guard := none }) (by kernel_rfl) rfl rfl (fun K hK => ?_)
 go_simp
 refine hK.out _ _ (fun h => (h (by decide)).elim) ?_
 clear hK K
 refine Last2.last_done (by kernel_rfl) ?_ _
 have HN := Lib.hid (HV.out.putUnw hy hL HVV.out HROW.out HAPT.out hLk hn CH.out T1.out (by rw [cellsI_append]; exact O1.out))
 have hlu := fun x (hx : (Value.slice Au n cu).ownBlock = some x) => (World.ownsRow.lt HU.out x hx).1
 have CW := Lib.hid (CH.out.mono (D := fun x => x = bf ∨ (Value.slice Au n cu).ownBlock = some x) (fun _ _ h => .inr h))
 have CB := Lib.hid (CW.out.put ⟨bf, kk * 4 + 3, none⟩ (.slice A1 (n + 1) c1) (.inr (.inl rfl)))
 have BN := Lib.hid (BV.out.trans CB.out (D := fun x => x = bf ∨ (Value.slice Au n cu).ownBlock = some x) (fun x _ hc => .inr (.inr (by
  rcases hc with rfl | hc
  ·exact hbf1
  ·exact hlu x hc))))
 have XN := Lib.hid (XV.out.chg CB.out (fun e => by
  rcases e with e | e
  ·exact blk_apart HVV.out XV.out (by decide) (by rw [e]; rfl)
  ·exact blk_apart HU.out XV.out (by decide) e))
 have AN := Lib.hid (show Acc ga k v s tv (.slice (some ⟨b, 0, none⟩) cs.length cap) ov cs os cur (w1.setCell ⟨bf, kk * 4 + 3, none⟩ (.slice A1 (n + 1) c1)) from HACC.out _ BN.out)
 have HN2 := Lib.hid (show (i.forts.set kk { y with unwound := y.unwound ++ [e1] }).length = i.forts.length from List.length_set)
 obtain ⟨i1, hi1⟩ : ∃ i1 : IS, (⟨i.pans, i.forts.set kk { y with unwound := y.unwound ++ [e1] }, i.on, i.rec_⟩ : IS) = i1 := ⟨_, rfl⟩
 have hon1 : i1.on = i.on := by rw [← hi1]
 have hfl1 : i1.forts.length = i.forts.length := by rw [← hi1]; exact HN2.out
 rw [hi1] at HN
 have HY := Lib.hid hy
 have HZ := Lib.hid hz
 have HI1 := Lib.hid hi1
 clear HV AV EV XV BV HVV HROW HAPT HU O1 CH SH T1 k3 f3 CW CB hlu hLk hL HN2 hy hz hi1 hn
 change (fun V => Exit.then _ _ Exit.normal _ V) _
 refine gen_world (X := fun V => IW V lo g ga hp ⟨some ⟨bf, 0, none⟩, cf⟩ ⟨some ⟨bo, 0, none⟩, co⟩ hr i1 ∧ Acc ga k v s tv (.slice (some ⟨b, 0, none⟩) cs.length cap) ov cs os cur V ∧ Blk V bx 76 (zarr (5, zf, zv, (kk : Int), zc)) ∧ Chg (OwnX lo g ⟨some ⟨bo, 0, none⟩, co⟩) w V) ⟨HN.out, AN.out, XN.out, BN.out⟩ ?_
 clear HN AN XN BN
 rintro V ⟨hV, aV, xV, bV⟩
 have q0 : V.cell? ⟨g, 0, none⟩ = some (.pointer (some ⟨ga, 0, none⟩)) := hV.blk.cells 0
 have q40 : V.cell? ⟨ga, 4, none⟩ = some (.slice (some ⟨b, 0, none⟩) cs.length cap) := aV.blk.cells 4
 obtain ⟨-, p1, -, -, -⟩ := own_cell5 aV.calls hx
 have hszV2 := bV.size
 rw [hbe] at hszV2
 have HV := Lib.hid hV
 have XV := Lib.hid xV
 have BV := Lib.hid bV
 clear hV aV xV bV
 rcases hpr with ⟨hpr, rfl⟩ | ⟨o, old, hpr, rfl, hoo, hold⟩
 ·rw [hpr] at p1
  have HE := Lib.hid (show unwindP i c none e1 = settleP i1 c 3 by rw [un_none HZ.out HY.out, HI1.out])
  have HS := Lib.hid (settle_any (z := (5, zf, zv, (kk : Int), zc)) HV.out (by rw [hon1]; exact HZ.out) 3 (by rw [hon1]; exact hl) (by omega) (.inr ⟨_, _, _, _, rfl, by omega⟩))
  go_wp2_with fail
  refine HS.out.mono ?_
  rintro e' U ⟨rfl, hU, bU⟩
  have HU := Lib.hid hU
  have BU := Lib.hid (BV.out.trans bU (fun x hx e => setX HV.out e))
  clear hU bU HS
  go_wp2_with fail
  (try simp only [Exit.inBlock, Exit.then])
  refine bodyPost_ret (results_none rfl _ _ _) rfl ?_
  rw [HE.out]
  exact ⟨rfl, HU.out, BU.out⟩
 ·rw [hpr] at p1
  have hol1 : o < i1.on.length := by rw [hon1]; exact (List.getElem?_eq_some_iff.1 hoo).1
  obtain ⟨i2, hi2⟩ : ∃ i2, settleP i1 o 2 = i2 := ⟨_, rfl⟩
  have hl2 : i2.forts.length = i.forts.length := by rw [← hi2, (settle_len _ _ _).1]; exact hfl1
  have hl3 : i2.on.length = i1.on.length := by rw [← hi2, (settle_len _ _ _).2]
  have HS := Lib.hid (settle_any HV.out (c := o) (by rw [hon1]; exact hoo) 2 (by rw [hon1]; exact hl) (by omega) (by rw [hfl1]; exact hold))
  have HE0 := Lib.hid (un_some (i2 := i2) HZ.out HY.out hoo ((congrArg (fun i => settleP i o 2) HI1.out).trans hi2))
  rw [hi2] at HS
  have hne : ((o : Int) == -1) = false := by simp
  clear hoo hi2
  rcases hold with rfl | ⟨qf, qv, q, qc, rfl, hql⟩
  ·have HE := Lib.hid (show unwindP i c (some o) e1 = ⟨i2.pans, i2.forts, i2.on.set o (5, zf, zv, (kk : Int), zc), i2.rec_⟩ by rw [HE0.out, if_pos rfl])
   go_wp2_with fail
   refine HS.out.mono ?_
   rintro e' U ⟨he, hU, cU⟩
   obtain rfl := he.trans (show _ = Ending.returned (.tuple #[.agg #[.int .i64 0, .int .i64 0, .int .i64 0, .int .i64 0, .int .i64 0], .bool false]) from rfl)
   have HU := Lib.hid hU
   have BU := Lib.hid (BV.out.trans cU (fun x hx e => setX HV.out e))
   have XU := Lib.hid (XV.out.chg cU (fun e => by
    rcases e with e | e <;> simp only [Value.ownBlock, Option.some.injEq] at e <;> omega))
   clear hU HS he cU
   go_upto_region 11 with fail
   have hal := Lib.hid (show Below U.heap.size U (U.alloc (.cells #[.int .i64 0, .int .i64 0, .int .i64 0, .int .i64 0, .int .i64 0] 76)) from (Below.refl _ _).alloc (Nat.le_refl _) _)
   change (fun V => Code.wp _ _ _ _ V) _
   have hol : o < i2.on.length := by omega
   have hol0 : o < i.on.length := by rw [← hon1]; exact hol1
   refine gen_world (X := fun V => IW V lo g ga hp ⟨some ⟨bf, 0, none⟩, cf⟩ ⟨some ⟨bo, 0, none⟩, co⟩ hr i2 ∧ Blk V bx 76 (zarr (5, zf, zv, (kk : Int), zc)) ∧ Chg (OwnX lo g ⟨some ⟨bo, 0, none⟩, co⟩) w V) ⟨HU.out.below hal.out, XU.out.alloc _, BU.out.trans (Chg.of_below (C := fun _ => False) hal.out) (fun _ _ f => f.elim)⟩ ?_
   clear HU XU BU hal
   rintro V ⟨hV, xV, bV⟩
   have q3 : V.cell? ⟨g, 3, none⟩ = some (.slice (some ⟨bo, 0, none⟩) i2.on.length co) := hV.blk.cells 3
   have v0 : V.cell? ⟨bx, 0, none⟩ = some (.int .i64 5) := xV.cells 0
   have v1 : V.cell? ⟨bx, 1, none⟩ = some (.int .i64 zf) := xV.cells 1
   have v2 : V.cell? ⟨bx, 2, none⟩ = some (.int .i64 zv) := xV.cells 2
   have v3 : V.cell? ⟨bx, 3, none⟩ = some (.int .i64 kk) := xV.cells 3
   have v4 : V.cell? ⟨bx, 4, none⟩ = some (.int .i64 zc) := xV.cells 4
   have fo := hV.on.frozenAt
   obtain ⟨y0, hy0⟩ : ∃ y0, i2.on[o]? = some y0 := ⟨_, List.getElem?_eq_getElem hol⟩
   obtain ⟨c0, c1, c2, c3, c4⟩ := row_z hV.on rfl hy0
   have HV := Lib.hid hV
   have BV := Lib.hid bV
   have HY0 := Lib.hid hy0
   clear hV xV bV hy0
   go_wp2_with fail
   have S0 : (fun V : World => V.cell? ⟨g, 3, none⟩ = some (.slice (some ⟨bo, 0, none⟩) i2.on.length co) ∧ V.cell? ⟨bx, 0, none⟩ = some (.int .i64 5) ∧ V.cell? ⟨bx, 1, none⟩ = some (.int .i64 zf) ∧ V.cell? ⟨bx, 2, none⟩ = some (.int .i64 zv) ∧ V.cell? ⟨bx, 3, none⟩ = some (.int .i64 kk) ∧ V.cell? ⟨bx, 4, none⟩ = some (.int .i64 zc)) V.drew := ⟨q3, v0, v1, v2, v3, v4⟩
   refine Last2.region_last [7] (fun V : World => V.cell? ⟨g, 3, none⟩ = some (.slice (some ⟨bo, 0, none⟩) i2.on.length co) ∧ V.cell? ⟨bx, 0, none⟩ = some (.int .i64 5) ∧ V.cell? ⟨bx, 1, none⟩ = some (.int .i64 zf) ∧ V.cell? ⟨bx, 2, none⟩ = some (.int .i64 zv) ∧ V.cell? ⟨bx, 3, none⟩ = some (.int .i64 kk) ∧ V.cell? ⟨bx, 4, none⟩ = some (.int .i64 zc)) (by kernel_rfl) ?_
   refine Last2.tk 0 74 (.pointer (some ⟨g, 0, none⟩)) S0 ?_
   simp only [Act.put, Last2.s]
   refine Last2.tk 1 75 (.pointer (some ⟨g, 0, none⟩)) S0 ?_
   simp only [Act.put, Last2.s]
   refine Last2.tk 2 76 (.pointer (some ⟨g, 3, none⟩)) S0 ?_
   simp only [Act.put, Last2.s]
   refine Last2.tk 3 77 (.slice (some ⟨bo, 0, none⟩) i2.on.length co) S0 ?_
   simp only [Act.put, Last2.s]
   refine Last2.tk 4 78 (.int .i64 o) S0 ?_
   simp only [Act.put, Last2.s]
   refine Last2.tk 5 79 (.agg #[.int .i64 5, .int .i64 zf, .int .i64 zv, .int .i64 kk, .int .i64 zc]) S0 ?_
   simp only [Act.put, Last2.s]
   refine Last2.tk 6 80 (.pointer (some ⟨bo, o * 5, none⟩)) S0 ?_
   simp only [Act.put, Last2.s]
   refine Last2.last_one (i := 7) (o := { dst := none, op := .store 76 (.tmp 80) (.tmp 79), type := _, pos := _, after := _, guard := none }) (by kernel_rfl) rfl rfl (fun K hK => ?_)
   go_simp
   refine hK.out _ _ (fun h => (h (by decide)).elim) ?_
   clear hK K
   refine Last2.last_done (by kernel_rfl) ?_ _
   have HD := Lib.hid ((HV.out.putOn (z' := (5, zf, zv, (kk : Int), zc)) HY0.out).below (Below.drew (Below.refl _ _)))
   have BD := Lib.hid ((BV.out.trans (put5_chg V bo (o * 5) (5, zf, zv, (kk : Int), zc)) (fun x hx e => .inr (.inl (by rw [e]; rfl)))).trans (Chg.drew (fun _ => False) _) (fun _ _ h => h.elim))
   clear HV BV S0 q3 v0 v1 v2 v3 v4 c0 c1 c2 c3 c4 fo
   go_wp2_with fail
   go_end0
   rw [HE.out]
   exact ⟨rfl, HD.out, BD.out⟩
  ·have hlq : q < i2.forts.length := by omega
   have hlk : kk < i2.forts.length := by omega
   obtain ⟨y1, hy1⟩ : ∃ y1, i2.forts[q]? = some y1 := ⟨_, List.getElem?_eq_getElem hlq⟩
   obtain ⟨y2, hy2⟩ : ∃ y2, (i2.forts.set q { y1 with replacer := (kk : Int) })[kk]? = some y2 := ⟨_, List.getElem?_eq_getElem (by rw [List.length_set]; exact hlk)⟩
   have HE := Lib.hid (show unwindP i c (some o) e1 = ⟨i2.pans, (i2.forts.set q { y1 with replacer := (kk : Int) }).set kk { y2 with replaced := (q : Int) }, i2.on.set o (5, zf, zv, (kk : Int), zc), i2.rec_⟩ by
    rw [HE0.out, if_neg (by unfold rz0; intro e; have := congrArg Prod.fst e; simp at this)]
    dsimp only
    rw [Int.toNat_natCast, hy1]
    dsimp only
    rw [hy2])
   have HY1 := Lib.hid hy1
   have HY2 := Lib.hid hy2
   clear hy1 hy2
   go_wp2_with fail
   refine HS.out.mono ?_
   rintro e' U ⟨he, hU, cU⟩
   obtain rfl := he.trans (show _ = Ending.returned (.tuple #[.agg #[.int .i64 5, .int .i64 qf, .int .i64 qv, .int .i64 q, .int .i64 qc], .bool true]) from rfl)
   have HU := Lib.hid hU
   have BU := Lib.hid (BV.out.trans cU (fun x hx e => setX HV.out e))
   have XU := Lib.hid (XV.out.chg cU (fun e => by
    rcases e with e | e <;> simp only [Value.ownBlock, Option.some.injEq] at e <;> omega))
   clear hU HS he cU
   go_upto_region 9 with fail
   have hal := Lib.hid (show Below U.heap.size U (U.alloc (.cells #[.int .i64 5, .int .i64 qf, .int .i64 qv, .int .i64 q, .int .i64 qc] 76)) from (Below.refl _ _).alloc (Nat.le_refl _) _)
   change (fun V => Code.wp _ _ _ _ V) _
   refine gen_world (X := fun V => IW V lo g ga hp ⟨some ⟨bf, 0, none⟩, cf⟩ ⟨some ⟨bo, 0, none⟩, co⟩ hr i2 ∧ Blk V bx 76 (zarr (5, zf, zv, (kk : Int), zc)) ∧ Blk V U.heap.size 76 (zarr (5, qf, qv, (q : Int), qc)) ∧ Chg (OwnX lo g ⟨some ⟨bo, 0, none⟩, co⟩) w V) ⟨HU.out.below hal.out, XU.out.alloc _, heap1_0 U _, BU.out.trans (Chg.of_below (C := fun _ => False) hal.out) (fun _ _ f => f.elim)⟩ ?_
   clear HU XU BU hal
   generalize U.heap.size = b9
   rintro V ⟨hV, xV, zV, bV⟩
   have q2 : V.cell? ⟨g, 2, none⟩ = some (.slice (some ⟨bf, 0, none⟩) i2.forts.length cf) := hV.blk.cells 2
   have v3 : V.cell? ⟨bx, 3, none⟩ = some (.int .i64 kk) := xV.cells 3
   have z3 : V.cell? ⟨b9, 3, none⟩ = some (.int .i64 q) := zV.cells 3
   obtain ⟨-, k1, -, ff⟩ := fo_cells hV HY1.out
   have hb9 : bf ≠ b9 := fun e => by
    obtain ⟨L, _, hv, _⟩ := hV.forts
    exact blk_apart hv zV (by decide) (by subst e; rfl)
   have hbx9 : bf ≠ bx := by omega
   have HV := Lib.hid hV
   have XV := Lib.hid xV
   have ZV := Lib.hid zV
   have BV := Lib.hid bV
   clear hV xV zV bV
   have S0 : (fun V : World => V.cell? ⟨g, 2, none⟩ = some (.slice (some ⟨bf, 0, none⟩) i2.forts.length cf) ∧ V.cell? ⟨b9, 3, none⟩ = some (.int .i64 q) ∧ V.cell? ⟨bx, 3, none⟩ = some (.int .i64 kk)) V.drew := ⟨q2, z3, v3⟩
   refine Last2.region_last [10] (fun V : World => V.cell? ⟨g, 2, none⟩ = some (.slice (some ⟨bf, 0, none⟩) i2.forts.length cf) ∧ V.cell? ⟨b9, 3, none⟩ = some (.int .i64 q) ∧ V.cell? ⟨bx, 3, none⟩ = some (.int .i64 kk)) (by kernel_rfl) ?_
   refine Last2.tk 0 59 (.pointer (some ⟨g, 0, none⟩)) S0 ?_
   simp only [Act.put, Last2.s]
   refine Last2.tk 1 60 (.pointer (some ⟨g, 0, none⟩)) S0 ?_
   simp only [Act.put, Last2.s]
   refine Last2.tk 2 61 (.pointer (some ⟨g, 2, none⟩)) S0 ?_
   simp only [Act.put, Last2.s]
   refine Last2.tk 3 62 (.slice (some ⟨bf, 0, none⟩) i2.forts.length cf) S0 ?_
   simp only [Act.put, Last2.s]
   refine Last2.tk 4 63 (.pointer (some ⟨b9, 3, none⟩)) S0 ?_
   simp only [Act.put, Last2.s]
   refine Last2.tk 5 64 (.int .i64 q) S0 ?_
   simp only [Act.put, Last2.s]
   refine Last2.tk 6 65 (.pointer (some ⟨bx, 3, none⟩)) S0 ?_
   simp only [Act.put, Last2.s]
   refine Last2.tk 7 66 (.int .i64 kk) S0 ?_
   simp only [Act.put, Last2.s]
   refine Last2.tk 8 67 (.pointer (some ⟨bf, q * 4, none⟩)) S0 ?_
   simp only [Act.put, Last2.s]
   refine Last2.tk 9 68 (.pointer (some ⟨bf, q * 4 + 1, none⟩)) S0 ?_
   simp only [Act.put, Last2.s]
   refine Last2.last_one (i := 10) (o := { dst := none, op := .store 3 (.tmp 68) (.tmp 66), type := _, pos := _, after := _, guard := none }) (by kernel_rfl) rfl rfl (fun K hK => ?_)
   go_simp
   refine hK.out _ _ (fun h => (h (by decide)).elim) ?_
   clear hK K
   refine Last2.last_done (by kernel_rfl) ?_ _
   have HDR := Lib.hid (Below.drew (Below.refl (V.setCell ⟨bf, q * 4 + 1, none⟩ (.int .i64 kk)).heap.size (V.setCell ⟨bf, q * 4 + 1, none⟩ (.int .i64 kk))))
   change (fun V => Exit.then _ _ Exit.normal _ V) _
   refine gen_world (X := fun V => IW V lo g ga hp ⟨some ⟨bf, 0, none⟩, cf⟩ ⟨some ⟨bo, 0, none⟩, co⟩ hr ⟨i2.pans, i2.forts.set q { y1 with replacer := (kk : Int) }, i2.on, i2.rec_⟩ ∧ Blk V bx 76 (zarr (5, zf, zv, (kk : Int), zc)) ∧ Blk V b9 76 (zarr (5, qf, qv, (q : Int), qc)) ∧ Chg (OwnX lo g ⟨some ⟨bo, 0, none⟩, co⟩) w V)
    ⟨(HV.out.putFort (o := 1) (y' := { y1 with replacer := (kk : Int) }) HY1.out (by decide) (fun v => rfl) rfl).below HDR.out, XV.out.far ⟨bf, q * 4 + 1, none⟩ (.int .i64 kk) (Ne.symm hbx9), ZV.out.far ⟨bf, q * 4 + 1, none⟩ (.int .i64 kk) (Ne.symm hb9), (BV.out.put ⟨bf, q * 4 + 1, none⟩ (.int .i64 kk) (.inr (.inr (.inr hbf1)))).trans (Chg.drew (fun _ => False) _) (fun _ _ h => h.elim)⟩ ?_
   clear HV XV ZV BV S0 q2 v3 z3 k1 ff HDR
   rintro V ⟨hV, xV, zV, bV⟩
   have z3 : V.cell? ⟨b9, 3, none⟩ = some (.int .i64 q) := zV.cells 3
   obtain ⟨-, -, k2, ff⟩ := fo_cells hV HY2.out
   have HV := Lib.hid hV
   have XV := Lib.hid xV
   have BV := Lib.hid bV
   clear hV xV zV bV
   go_upto_region 11 with fail
   change (fun V => Code.wp _ _ _ _ V) _
   have hol : o < i2.on.length := by omega
   have hol0 : o < i.on.length := by rw [← hon1]; exact hol1
   refine gen_world (X := fun V => IW V lo g ga hp ⟨some ⟨bf, 0, none⟩, cf⟩ ⟨some ⟨bo, 0, none⟩, co⟩ hr ⟨i2.pans, (i2.forts.set q { y1 with replacer := (kk : Int) }).set kk { y2 with replaced := (q : Int) }, i2.on, i2.rec_⟩ ∧ Blk V bx 76 (zarr (5, zf, zv, (kk : Int), zc)) ∧ Chg (OwnX lo g ⟨some ⟨bo, 0, none⟩, co⟩) w V)
    ⟨HV.out.putFort (o := 2) (y' := { y2 with replaced := (q : Int) }) HY2.out (by decide) (fun v => rfl) rfl, XV.out.far ⟨bf, kk * 4 + 2, none⟩ (.int .i64 q) (Ne.symm hbx9), BV.out.put ⟨bf, kk * 4 + 2, none⟩ (.int .i64 q) (.inr (.inr (.inr hbf1)))⟩ ?_
   clear HV XV BV z3 k2 ff
   rintro V ⟨hV, xV, bV⟩
   have q3 : V.cell? ⟨g, 3, none⟩ = some (.slice (some ⟨bo, 0, none⟩) i2.on.length co) := hV.blk.cells 3
   have v0 : V.cell? ⟨bx, 0, none⟩ = some (.int .i64 5) := xV.cells 0
   have v1 : V.cell? ⟨bx, 1, none⟩ = some (.int .i64 zf) := xV.cells 1
   have v2 : V.cell? ⟨bx, 2, none⟩ = some (.int .i64 zv) := xV.cells 2
   have v3 : V.cell? ⟨bx, 3, none⟩ = some (.int .i64 kk) := xV.cells 3
   have v4 : V.cell? ⟨bx, 4, none⟩ = some (.int .i64 zc) := xV.cells 4
   have fo := hV.on.frozenAt
   obtain ⟨y0, hy0⟩ : ∃ y0, i2.on[o]? = some y0 := ⟨_, List.getElem?_eq_getElem hol⟩
   obtain ⟨c0, c1, c2, c3, c4⟩ := row_z hV.on rfl hy0
   have HV := Lib.hid hV
   have BV := Lib.hid bV
   have HY0 := Lib.hid hy0
   clear hV xV bV hy0
   go_wp2_with fail
   have S0 : (fun V : World => V.cell? ⟨g, 3, none⟩ = some (.slice (some ⟨bo, 0, none⟩) i2.on.length co) ∧ V.cell? ⟨bx, 0, none⟩ = some (.int .i64 5) ∧ V.cell? ⟨bx, 1, none⟩ = some (.int .i64 zf) ∧ V.cell? ⟨bx, 2, none⟩ = some (.int .i64 zv) ∧ V.cell? ⟨bx, 3, none⟩ = some (.int .i64 kk) ∧ V.cell? ⟨bx, 4, none⟩ = some (.int .i64 zc)) V.drew := ⟨q3, v0, v1, v2, v3, v4⟩
   refine Last2.region_last [7] (fun V : World => V.cell? ⟨g, 3, none⟩ = some (.slice (some ⟨bo, 0, none⟩) i2.on.length co) ∧ V.cell? ⟨bx, 0, none⟩ = some (.int .i64 5) ∧ V.cell? ⟨bx, 1, none⟩ = some (.int .i64 zf) ∧ V.cell? ⟨bx, 2, none⟩ = some (.int .i64 zv) ∧ V.cell? ⟨bx, 3, none⟩ = some (.int .i64 kk) ∧ V.cell? ⟨bx, 4, none⟩ = some (.int .i64 zc)) (by kernel_rfl) ?_
   refine Last2.tk 0 74 (.pointer (some ⟨g, 0, none⟩)) S0 ?_
   simp only [Act.put, Last2.s]
   refine Last2.tk 1 75 (.pointer (some ⟨g, 0, none⟩)) S0 ?_
   simp only [Act.put, Last2.s]
   refine Last2.tk 2 76 (.pointer (some ⟨g, 3, none⟩)) S0 ?_
   simp only [Act.put, Last2.s]
   refine Last2.tk 3 77 (.slice (some ⟨bo, 0, none⟩) i2.on.length co) S0 ?_
   simp only [Act.put, Last2.s]
   refine Last2.tk 4 78 (.int .i64 o) S0 ?_
   simp only [Act.put, Last2.s]
   refine Last2.tk 5 79 (.agg #[.int .i64 5, .int .i64 zf, .int .i64 zv, .int .i64 kk, .int .i64 zc]) S0 ?_
   simp only [Act.put, Last2.s]
   refine Last2.tk 6 80 (.pointer (some ⟨bo, o * 5, none⟩)) S0 ?_
   simp only [Act.put, Last2.s]
   refine Last2.last_one (i := 7) (o := { dst := none, op := .store 76 (.tmp 80) (.tmp 79), type := _, pos := _, after := _, guard := none }) (by kernel_rfl) rfl rfl (fun K hK => ?_)
   go_simp
   refine hK.out _ _ (fun h => (h (by decide)).elim) ?_
   clear hK K
   refine Last2.last_done (by kernel_rfl) ?_ _
   have HD := Lib.hid ((HV.out.putOn (z' := (5, zf, zv, (kk : Int), zc)) HY0.out).below (Below.drew (Below.refl _ _)))
   have BD := Lib.hid ((BV.out.trans (put5_chg V bo (o * 5) (5, zf, zv, (kk : Int), zc)) (fun x hx e => .inr (.inl (by rw [e]; rfl)))).trans (Chg.drew (fun _ => False) _) (fun _ _ h => h.elim))
   clear HV BV S0 q3 v0 v1 v2 v3 v4 c0 c1 c2 c3 c4 fo
   go_wp2_with fail
   go_end0
   rw [HE.out]
   exact ⟨rfl, HD.out, BD.out⟩
end Go.Proofs.Ytgcjlkdahlfjlaa.Iun
-- squeezed
