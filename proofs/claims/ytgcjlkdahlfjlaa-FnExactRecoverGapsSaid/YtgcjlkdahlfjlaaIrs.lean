/- impl.readPanics. (Written by wip/tools/genirs.py.) -/
import Derived.Test.YtgcjlkdahlfjlaaM25
import Derived.Test.YtgcjlkdahlfjlaaIun
import Derived.Test.YtgcjlkdahlfjlaaTree
import Derived.Laws.EntriesVeiled
set_option linter.unusedVariables false
set_option linter.unusedSimpArgs false
namespace Go.Proofs.Ytgcjlkdahlfjlaa.Irs
open Go.ChangeShapes Go.WideShapes Go.ChangeAt Go.RowKit
open PL Mem Srun Sst IntsP RowA RowC AccP Pw Ipm Px Ise Iex Irc Ipa Iun To OwnS AskP Res Sout Irp RunF AcctP TreeP

theorem runR_pds (p : Pg) (f arg fuel : Int) : (pds (runR p f arg fuel).1.trace).2 = true := by
 unfold runR
 split
 ·exact whole_p p fuel f arg
 ·rfl
theorem runR_fds (p : Pg) (f arg fuel : Int) : (fds (runR p f arg fuel).1.trace).2 = true := by
 unfold runR
 split
 ·exact whole_f p fuel f arg
 ·rfl
theorem made_const (v : Value) (n : Nat) : (madeCells #[v, v, v, v, v] n).toList = List.replicate n v := by
 apply List.ext_getElem
 ·simp [madeCells]
 ·intro i h1 h2
  simp only [madeCells, Array.toList_map, Array.toList_range, List.getElem_map, List.getElem_range, List.getElem_replicate]
  have hk : i % 5 < 5 := Nat.mod_lt _ (by decide)
  show #[v, v, v, v, v][i % 5]! = v
  generalize i % 5 = k at hk
  match k, hk with
  | 0, _ => rfl
  | 1, _ => rfl
  | 2, _ => rfl
  | 3, _ => rfl
  | 4, _ => rfl
theorem zeros_rows : ∀ M : Nat, (List.replicate M rz0).flatMap z5 = List.replicate (M * 5) (.int .i64 0)
 | 0 => rfl
 | M + 1 => by
  rw [List.replicate_succ, List.flatMap_cons, zeros_rows M, Nat.succ_mul]
  simp only [List.replicate_succ]
  rfl
theorem made_own (W : World) (M : Nat) (hM : M ≤ 100000) : (W.alloc (.cells (madeCells #[.int .i64 0, .int .i64 0, .int .i64 0, .int .i64 0, .int .i64 0] (M * 5)) 76)).ownsRow 0 76 5 (.slice (some ⟨W.heap.size, 0, none⟩) M M) M ((List.replicate M rz0).flatMap z5) := by
 have := World.ownsRow_lit (base := 0) (e := 76) (size := 5) W (madeCells #[.int .i64 0, .int .i64 0, .int .i64 0, .int .i64 0, .int .i64 0] (M * 5)) M (Nat.zero_le _) (by unfold maxLen; omega) (size_madeCells _ _)
 rw [made_const] at this
 rw [zeros_rows]
 exact this
def ReadR (r : Out × Bool) (w : World) (e : Ending) (w' : World) : Prop :=
 ∃ (g ga lo : Nat) (k v s : Int) (At : Option Addr) (ct : Nat) (cv ov : Value) (cur : Int) (hp hf ho hr : Hd) (i : IS), e = .returned (.tuple #[.pointer (some ⟨g, 0, none⟩), .bool r.2]) ∧
  Acc ga k v s (.slice At r.1.trace.length ct) cv ov (tds r.1.trace).calls (tds r.1.trace).owners cur w' ∧ Rd3 w' ga At r.1.trace ∧ IW w' lo g ga hp hf ho hr i ∧ Sim (tds r.1.trace).calls.length (mds r.1.trace) i ∧
  i.rec_.map Prod.snd = recO r.1.trace (tds r.1.trace).owners r.1.trace.length ∧ w.heap.size ≤ ga ∧ w.heap.size ≤ g ∧ w.heap.size ≤ lo ∧ (∀ x, (Value.slice ho.A 0 0).ownBlock = some x → w.heap.size ≤ x) ∧ Below w.heap.size w w'
def tbl : Array Value := #[.nilFunc, .nilFunc, .nilFunc, .nilFunc, .nilFunc, .func (.func 88) #[] #[], .func (.func 89) #[] #[], .nilFunc, .func (.func 90) #[] #[], .func (.func 91) #[] #[]]
theorem neq_nil (w : World) : (binOp BinOp.neq 124 .nilFunc .nilFunc).run Try.prog w = .ok (.bool false) w := by kernel_rfl
theorem neq_fun (fn : Fn) (w : World) : (binOp BinOp.neq 124 (.func fn #[] #[]) .nilFunc).run Try.prog w = .ok (.bool true) w := by kernel_rfl
theorem iw_drew {V : World} {lo g ga : Nat} {hp hf ho hr : Hd} {i : IS} (h : IW V lo g ga hp hf ho hr i) : IW V.drew lo g ga hp hf ho hr i := h.below (Below.drew (Below.refl _ _))
theorem acc_drew {ga : Nat} {k v s cur : Int} {tv cv ov : Value} {cs : List CI} {os : List Int} {V : World} (h : Acc ga k v s tv cv ov cs os cur V) : Acc ga k v s tv cv ov cs os cur V.drew := h.below (Below.drew (Below.refl _ _))
set_option maxRecDepth 100000 in
set_option maxHeartbeats 16000000 in
theorem readPanics_any (lo0 n c : Nat) (A : Option Addr) (p : Pg) (f arg fuel : Int) (hn : n ≤ 9223372036854775807) (hl : p.length = n) (hsm : Small p 9223372036854775807) (w : World) (ho : OwnP w lo0 (.slice A n c) p) :
  Calls Try.prog 57 #[.agg #[.slice A n c], .int .i64 f, .int .i64 arg, .int .i64 fuel] w (ReadR (runR p f arg fuel) w) := by
 obtain ⟨iZ, hiZ, hz0, hz1, hz2⟩ := info_parts infoZ
 have hq := Lib.hid (fun W (h : Below w.heap.size w W) => accountOf_any lo0 n c A p f arg fuel hn hl hsm W (ho.below h))
 have hal : ∀ o1 : Obj, Below w.heap.size w (w.alloc o1) := fun o1 => (Below.refl _ _).alloc (Nat.le_refl _) _
 have HALs := Lib.hid (hal (.cells #[.slice A n c] 31))
 have hMl := Nat.le_trans (tds_len (runR p f arg fuel).1.trace).2 (runR_len p f arg fuel)
 have hlen := runR_len p f arg fuel
 have hpd := runR_pds p f arg fuel
 have hfd := runR_fds p f arg fuel
 generalize runR p f arg fuel = r at *
 obtain ⟨⟨rk, rv, t, rs⟩, rb⟩ := r
 dsimp only at hMl hlen hpd hfd
 obtain ⟨N, hN⟩ : ∃ N, t.length = N := ⟨_, rfl⟩
 obtain ⟨M, hM⟩ : ∃ M, (tds t).calls.length = M := ⟨_, rfl⟩
 have howl : (tds t).owners.length = N := by have := owners_lens t t.length (Nat.le_refl _); rwa [List.take_length, hN] at this
 rw [hN] at hlen
 rw [hM] at hMl
 have HPD := Lib.hid hpd
 have HFD := Lib.hid hfd
 have HN := Lib.hid hN
 have HM := Lib.hid hM
 have HOL := Lib.hid howl
 have HLN := Lib.hid (fun (j : Nat) (h : j ≤ N) => mds_lens hpd j (by rw [hN]; exact h))
 clear ho hsm hal hpd hfd hN hM howl
 go_enter Try.func57, Try.ntmps57
 go_wp2_with fail
 refine (hq.out _ HALs.out).mono ?_
 rintro e w2 ⟨ga, k, v, s, At, ct, cv, ov, cur, rfl, hacc, hrd, hg, b2⟩
 obtain ⟨Ac, cc, rfl⟩ := own_slice hacc.calls
 obtain ⟨Ao, co, rfl⟩ := own_slice hacc.owners
 dsimp only at hacc hrd
 have BB := Lib.hid (HALs.out.trans (b2.mono HALs.out.size))
 have HGA := Lib.hid (Nat.le_trans HALs.out.size hg)
 have hgal := hacc.lt
 have q4 : w2.cell? ⟨ga, 4, none⟩ = some (.slice Ac M cc) := HM.out ▸ hacc.blk.cells 4
 have HACC := Lib.hid (fun V (b : Below w2.heap.size w2 V) => hacc.below b)
 have HRD := Lib.hid (fun V (b : Below w2.heap.size w2 V) => hrd.below (b.mono (Nat.le_of_lt hacc.lt)))
 have HOW := Lib.hid hacc.owners
 have hmk := fun W => run_make_rowN (P := Try.prog) 68 76 iZ _ Try.underlying68 hiZ hz0 .i64 .i64 M M (Nat.le_refl _) (by rw [hz2]; omega) (by omega) W
 rw [hz1] at hmk
 clear hacc hrd hg b2 hq
 go_upto_region 3 with fail
 change (fun V => Code.wp _ _ _ _ V) _
 refine gen_world (X := fun V => IW V (w2.heap.size + 3) (w2.heap.size + 1) ga ⟨none, 0⟩ ⟨none, 0⟩ ⟨some ⟨w2.heap.size, 0, none⟩, M⟩ ⟨none, 0⟩ ⟨[], [], List.replicate M rz0, []⟩ ∧ Below w2.heap.size w2 V ∧ V.heap.size = w2.heap.size + 2) ⟨?_, ((Below.refl _ _).alloc (Nat.le_refl _) _).alloc (by simp) _, by simp⟩ ?_
 ·have hsz : (w2.alloc (.cells (madeCells #[.int .i64 0, .int .i64 0, .int .i64 0, .int .i64 0, .int .i64 0] (M * 5)) 76)).heap.size = w2.heap.size + 1 := by simp
  refine ⟨?_, ⟨rfl, .inl ⟨rfl, rfl⟩⟩, ⟨[], rfl, ⟨rfl, .inl ⟨rfl, rfl⟩⟩, fun k y u hk => (by cases k <;> cases hk), fun j k y z _ hy => (by cases j <;> cases hy)⟩, ?_, ⟨rfl, .inl ⟨rfl, rfl⟩⟩, fun x hx => by simp [Value.ownBlock] at hx⟩
  ·unfold rcells
   dsimp only
   rw [List.length_replicate]
   have := heap1_0 (w2.alloc (.cells (madeCells #[.int .i64 0, .int .i64 0, .int .i64 0, .int .i64 0, .int .i64 0] (M * 5)) 76)) (.cells #[.pointer (some ⟨ga, 0, none⟩), .slice none 0 0, .slice none 0 0, .slice (some ⟨w2.heap.size, 0, none⟩) M M, .slice none 0 0] 72)
   rw [hsz] at this
   exact this
  ·dsimp only
   rw [List.length_replicate]
   exact World.ownsRow.alloc (made_own w2 M hMl) _
 obtain ⟨b0, hb0⟩ : ∃ b0, w2.heap.size = b0 := ⟨_, rfl⟩
 rw [hb0] at HACC HRD hgal
 simp only [hb0]
 rintro V ⟨hV, bV, sV⟩
 have HV := Lib.hid hV
 have BV := Lib.hid bV
 have SV := Lib.hid sV
 have hz := (show Blk (V.alloc (.cells #[.nilFunc, .nilFunc, .nilFunc, .nilFunc, .nilFunc, .nilFunc, .nilFunc, .nilFunc, .nilFunc, .nilFunc] 126)) V.heap.size 126 #[.nilFunc, .nilFunc, .nilFunc, .nilFunc, .nilFunc, .nilFunc, .nilFunc, .nilFunc, .nilFunc, .nilFunc] from heap1_0 V _)
 have xc := hz.cells
 have xf := hz.frozen
 have HZ := Lib.hid hz
 clear hV bV sV q4 hmk hz
 go_upto_region 4 with fail
 change (fun V => Code.wp _ _ _ _ V) _
 rw [SV.out]
 refine gen_world (X := fun V => IW V (b0 + 3) (b0 + 1) ga ⟨none, 0⟩ ⟨none, 0⟩ ⟨some ⟨b0, 0, none⟩, M⟩ ⟨none, 0⟩ ⟨[], [], List.replicate M rz0, []⟩ ∧ Blk V (b0 + 2) 126 tbl ∧ Below b0 w2 V) ⟨HV.out.below ((Below.refl _ _).alloc (Nat.le_refl _) _), (by have := heap1_0 V (.cells tbl 126); rw [SV.out] at this; exact this), BV.out.trans ((Below.refl _ _).alloc (by have := SV.out; omega) _)⟩ ?_
 clear HV BV SV HZ xc xf
 rintro V ⟨hV, tV, bV⟩
 have q2 : V.cell? ⟨ga, 2, none⟩ = some (.slice At N ct) := HN.out ▸ (HACC.out V bV).blk.cells 2
 have HV := Lib.hid hV
 have TV := Lib.hid tV
 have BV := Lib.hid bV
 clear hV tV bV
 go_wp2_with fail
 go_loopw [41] (fun v wr => ∃ (j : Nat) (hp hf hr : Hd) (i : IS), j ≤ N ∧ v = .int .i64 j ∧ IW wr (b0 + 3) (b0 + 1) ga hp hf ⟨some ⟨b0, 0, none⟩, M⟩ hr i ∧ Sim (tds t).calls.length (mds (t.take j)) i ∧ i.rec_.map Prod.snd = recO t (tds t).owners j ∧ Blk wr (b0 + 2) 126 tbl ∧ Below b0 w2 wr) (fun v _ => N - (intOf v).toNat)
 case atStart => exact ⟨0, _, _, _, _, Nat.zero_le _, rfl, HV.out, by rw [HM.out]; exact sim0 M, rfl, TV.out, BV.out⟩
 case round =>
  obtain ⟨j, hp, hf, hr, i, hj, rfl, hW, hS, hrec, hT, hB⟩ := hrel
  clear HV TV BV q2
  by_cases hlt : j < N
  ·obtain ⟨⟨e0, e1, e2⟩, hs⟩ : ∃ s, t[j]? = some s := ⟨_, List.getElem?_eq_getElem (by rw [HN.out]; exact hlt)⟩
   obtain ⟨ad, rfl, hab, h0', h1', h2'⟩ := (HRD.out wr hB) j _ hs
   dsimp only at h0' h1' h2'
   have HE := Lib.hid hs
   have hkind := kind_at HFD.out hs
   have HW := Lib.hid hW
   have HT := Lib.hid hT
   have HB := Lib.hid hB
   have hsz := hB.size
   clear hs hW hT hB
   go_upto_region 7 with fail
   change (fun V => Code.wp _ _ _ _ V) _
   refine gen_world (X := fun V => IW V (b0 + 3) (b0 + 1) ga hp hf ⟨some ⟨b0, 0, none⟩, M⟩ hr i ∧ Blk V (b0 + 2) 126 tbl ∧ Below b0 w2 V ∧ Blk V wr.heap.size 74 #[.int .i64 e0, .int .i64 e1, .int .i64 e2]) ⟨HW.out.below ((Below.refl _ _).alloc (Nat.le_refl _) _), HT.out.alloc _, HB.out.trans ((Below.refl _ _).alloc (by omega) _), heap1_0 wr _⟩ ?_
   clear HW HT HB h0' h1' h2'
   generalize wr.heap.size = be at *
   rintro V ⟨hV, tV, bV, eV⟩
   obtain ⟨oo, hoj⟩ : ∃ o, (tds t).owners[j]? = some o := ⟨_, List.getElem?_eq_getElem (by rw [HOL.out]; exact hlt)⟩
   obtain ⟨bw, hbw⟩ : ∃ bw, Ao = some ⟨bw, 0, none⟩ := by
    rcases own_form HOW.out with ⟨h0, _⟩ | ⟨_, bw, cap, hv, _⟩
    ·have := HOL.out
     omega
    ·simp only [Value.slice.injEq] at hv
     exact ⟨bw, hv.1⟩
   subst hbw
   have HOWC := Lib.hid (fun V (b : Below b0 w2 V) (o : Int) (ho : (tds t).owners[j]? = some o) => (show V.cell? ⟨bw, j, none⟩ = some (.int .i64 o) from ((HACC.out V b).owners.cellAt j (by rw [HOL.out]; omega)).trans (by unfold cellsI; rw [List.getElem?_map, ho]; rfl)))
   have hall : e0 = 0 ∨ e0 = 1 ∨ e0 = 2 ∨ e0 = 3 ∨ e0 = 4 ∨ e0 = 5 ∨ e0 = 6 ∨ e0 = 7 ∨ e0 = 8 ∨ e0 = 9 := by dsimp only at hkind; omega
   clear hkind
   rcases hall with rfl | rfl | rfl | rfl | rfl | rfl | rfl | rfl | rfl | rfl
   ·have HS0 := Lib.hid (find0 HPD.out HE.out (by dsimp only; omega) hS)
    have v0 : V.cell? ⟨be, 0, none⟩ = some (.int .i64 0) := eV.cells 0
    have t5 : V.cell? ⟨b0 + 2, 0, none⟩ = some .nilFunc := tV.cells 0
    have HV := Lib.hid hV
    have BV := Lib.hid bV
    have TV := Lib.hid tV
    have HRC := Lib.hid hrec
    have hoo := recO_succ HE.out hoj
    clear hV bV tV eV hrec hoj hS
    have hneq := neq_nil
    go_wp2_with fail
    go_roundw
    case rel => exact ⟨j + 1, hp, hf, hr, i, by omega, by go_num, HV.out, HS0.out, by rw [HRC.out, hoo]; simp, TV.out, BV.out⟩
    case measure => simp [intOf]; omega
   ·have HS0 := Lib.hid (find0 HPD.out HE.out (by dsimp only; omega) hS)
    have v0 : V.cell? ⟨be, 0, none⟩ = some (.int .i64 1) := eV.cells 0
    have t5 : V.cell? ⟨b0 + 2, 1, none⟩ = some .nilFunc := tV.cells 1
    have HV := Lib.hid hV
    have BV := Lib.hid bV
    have TV := Lib.hid tV
    have HRC := Lib.hid hrec
    have hoo := recO_succ HE.out hoj
    clear hV bV tV eV hrec hoj hS
    have hneq := neq_nil
    go_wp2_with fail
    go_roundw
    case rel => exact ⟨j + 1, hp, hf, hr, i, by omega, by go_num, HV.out, HS0.out, by rw [HRC.out, hoo]; simp, TV.out, BV.out⟩
    case measure => simp [intOf]; omega
   ·have HS0 := Lib.hid (find0 HPD.out HE.out (by dsimp only; omega) hS)
    have v0 : V.cell? ⟨be, 0, none⟩ = some (.int .i64 2) := eV.cells 0
    have t5 : V.cell? ⟨b0 + 2, 2, none⟩ = some .nilFunc := tV.cells 2
    have HV := Lib.hid hV
    have BV := Lib.hid bV
    have TV := Lib.hid tV
    have HRC := Lib.hid hrec
    have hoo := recO_succ HE.out hoj
    clear hV bV tV eV hrec hoj hS
    have hneq := neq_nil
    go_wp2_with fail
    go_roundw
    case rel => exact ⟨j + 1, hp, hf, hr, i, by omega, by go_num, HV.out, HS0.out, by rw [HRC.out, hoo]; simp, TV.out, BV.out⟩
    case measure => simp [intOf]; omega
   ·have HS0 := Lib.hid (find0 HPD.out HE.out (by dsimp only; omega) hS)
    have v0 : V.cell? ⟨be, 0, none⟩ = some (.int .i64 3) := eV.cells 0
    have t5 : V.cell? ⟨b0 + 2, 3, none⟩ = some .nilFunc := tV.cells 3
    have HV := Lib.hid hV
    have BV := Lib.hid bV
    have TV := Lib.hid tV
    have HRC := Lib.hid hrec
    have hoo := recO_succ HE.out hoj
    clear hV bV tV eV hrec hoj hS
    have hneq := neq_nil
    go_wp2_with fail
    go_roundw
    case rel => exact ⟨j + 1, hp, hf, hr, i, by omega, by go_num, HV.out, HS0.out, by rw [HRC.out, hoo]; simp, TV.out, BV.out⟩
    case measure => simp [intOf]; omega
   ·have HS0 := Lib.hid (find0 HPD.out HE.out (by dsimp only; omega) hS)
    have v0 : V.cell? ⟨be, 0, none⟩ = some (.int .i64 4) := eV.cells 0
    have t5 : V.cell? ⟨b0 + 2, 4, none⟩ = some .nilFunc := tV.cells 4
    have HV := Lib.hid hV
    have BV := Lib.hid bV
    have TV := Lib.hid tV
    have HRC := Lib.hid hrec
    have hoo := recO_succ HE.out hoj
    clear hV bV tV eV hrec hoj hS
    have hneq := neq_nil
    go_wp2_with fail
    go_roundw
    case rel => exact ⟨j + 1, hp, hf, hr, i, by omega, by go_num, HV.out, HS0.out, by rw [HRC.out, hoo]; simp, TV.out, BV.out⟩
    case measure => simp [intOf]; omega
   ·have hfl : i.forts.length ≤ 100000 := by rw [hS.flen]; exact Nat.le_trans (HLN.out j (Nat.le_of_lt hlt)).pan (by omega)
    have hol : i.on.length ≤ 100000 := by rw [hS.olen, HM.out]; exact hMl
    have hpl : i.pans.length ≤ 100000 := by rw [hS.plen]; exact Nat.le_trans (HLN.out j (Nat.le_of_lt hlt)).pan (by omega)
    have hrl : i.rec_.length ≤ 100000 := by rw [hS.rlen]; exact Nat.le_trans (HLN.out j (Nat.le_of_lt hlt)).rcv (by omega)
    have hul : ∀ y ∈ i.forts, y.unwound.length ≤ 100000 := hS.unw (fun x hx => Nat.le_trans ((HLN.out j (Nat.le_of_lt hlt)).by_ x hx) (by omega))
    obtain ⟨a, ho, hal, hS'⟩ := find5 HPD.out HE.out rfl hS
    have hoo := recO_succ HE.out ho
    have HS' := Lib.hid hS'
    have HOO := Lib.hid hoo
    clear hS' hS hoo
    have v0 : V.cell? ⟨be, 0, none⟩ = some (.int .i64 5) := eV.cells 0
    have v1 : V.cell? ⟨be, 1, none⟩ = some (.int .i64 e1) := eV.cells 1
    have v2 : V.cell? ⟨be, 2, none⟩ = some (.int .i64 e2) := eV.cells 2
    have aV := HACC.out V bV
    have z5 : V.cell? ⟨ga, 5, none⟩ = some (.slice (some ⟨bw, 0, none⟩) N co) := by have := aV.blk.cells 5; rw [HOL.out] at this; exact this
    have zj : V.cell? ⟨bw, j, none⟩ = some (.int .i64 a) := HOWC.out V bV _ ho
    have tc : ∀ k, V.cell? ⟨b0 + 2, k, none⟩ = tbl[k]? := tV.cells
    have t5 : V.cell? ⟨b0 + 2, 5, none⟩ = some (.func (.func 88) #[] #[]) := tc 5
    have HV := Lib.hid hV
    have BV := Lib.hid bV
    have TV := Lib.hid tV
    have AV := Lib.hid aV
    have HRC := Lib.hid hrec
    have hszV := bV.size
    have hbt := tV.lt

    clear hV bV tV aV eV hrec tc
    have hneq := neq_fun
    go_upto_region 9 with fail
    have S0 : (fun V : World => V.cell? ⟨ga, 5, none⟩ = some (.slice (some ⟨bw, 0, none⟩) N co) ∧ V.cell? ⟨bw, j, none⟩ = some (.int .i64 a) ∧ V.cell? ⟨be, 0, none⟩ = some (.int .i64 5) ∧ V.cell? ⟨be, 1, none⟩ = some (.int .i64 e1) ∧ V.cell? ⟨be, 2, none⟩ = some (.int .i64 e2)) V.drew := ⟨z5, zj, v0, v1, v2⟩
    refine Last2.region_last [10] (fun V : World => V.cell? ⟨ga, 5, none⟩ = some (.slice (some ⟨bw, 0, none⟩) N co) ∧ V.cell? ⟨bw, j, none⟩ = some (.int .i64 a) ∧ V.cell? ⟨be, 0, none⟩ = some (.int .i64 5) ∧ V.cell? ⟨be, 1, none⟩ = some (.int .i64 e1) ∧ V.cell? ⟨be, 2, none⟩ = some (.int .i64 e2)) (by kernel_rfl) ?_
    refine Last2.tk 0 52 (.func (.func 88) #[] #[]) S0 ?_
    simp only [Act.put, Last2.s]
    refine Last2.tk 1 53 (.pointer (some ⟨b0 + 1, 0, none⟩)) S0 ?_
    simp only [Act.put, Last2.s]
    refine Last2.tk 2 54 (.pointer (some ⟨ga, 0, none⟩)) S0 ?_
    simp only [Act.put, Last2.s]
    refine Last2.tk 3 55 (.pointer (some ⟨ga, 0, none⟩)) S0 ?_
    simp only [Act.put, Last2.s]
    refine Last2.tk 4 56 (.pointer (some ⟨ga, 5, none⟩)) S0 ?_
    simp only [Act.put, Last2.s]
    refine Last2.tk 5 57 (.slice (some ⟨bw, 0, none⟩) N co) S0 ?_
    simp only [Act.put, Last2.s]
    refine Last2.tk 6 58 (.int .i64 j) S0 ?_
    simp only [Act.put, Last2.s]
    refine Last2.tk 7 59 (.pointer (some ⟨bw, j, none⟩)) S0 ?_
    simp only [Act.put, Last2.s]
    refine Last2.tk 8 60 (.int .i64 a) S0 ?_
    simp only [Act.put, Last2.s]
    refine Last2.tk 9 61 (.agg #[.int .i64 5, .int .i64 e1, .int .i64 e2]) S0 ?_
    simp only [Act.put, Last2.s]
    refine Last2.last_one (i := 10) (o := { dst := some 62, op := .call { callee := .value (.tmp 52), args := #[.tmp 53, .tmp 60, .tmp 61], argTypes := #[64, 3, 74] }, type := _, pos := _, after := _, guard := none }) (by kernel_rfl) rfl rfl (fun K hK => ?_)
    go_simp
    refine (readPanic_any (iw_drew HV.out) hal e1 e2 hpl hol hfl (by show b0 + 3 ≤ V.heap.size; omega)).mono ?_
    rintro e' U ⟨hp', hf', rfl, hU, cU⟩
    replace cU := (Chg.drew _ V).trans cU (fun x _ h => h)
    refine hK.out _ _ (fun h => (h (by decide)).elim) ?_
    clear hK K S0
    refine Last2.last_done (by kernel_rfl) ?_ _
    have BU := Lib.hid (BV.out.trans (cU.below (show b0 ≤ V.heap.size by omega) (fun x hx e => by
     rcases e with e | e | e
     ·omega
     ·simp only [Value.ownBlock, Option.some.injEq] at e
      omega
     ·omega)))
    have TU := Lib.hid (TV.out.chg (cU : Chg _ V _) (fun e => by
     rcases e with e | e | e
     ·omega
     ·simp only [Value.ownBlock, Option.some.injEq] at e
      omega
     ·omega))
    have HU := Lib.hid hU
    clear hU cU HV BV TV AV z5 zj v0 v1 v2 t5
    go_wp2_with fail
    go_roundw
    case rel => exact ⟨j + 1, hp', hf', hr, _, by omega, by go_num, HU.out, HS'.out, by rw [panic_rec, HRC.out, HOO.out]; simp, TU.out, BU.out⟩
    case measure => simp [intOf]; omega
   ·have hfl : i.forts.length ≤ 100000 := by rw [hS.flen]; exact Nat.le_trans (HLN.out j (Nat.le_of_lt hlt)).pan (by omega)
    have hol : i.on.length ≤ 100000 := by rw [hS.olen, HM.out]; exact hMl
    have hpl : i.pans.length ≤ 100000 := by rw [hS.plen]; exact Nat.le_trans (HLN.out j (Nat.le_of_lt hlt)).pan (by omega)
    have hrl : i.rec_.length ≤ 100000 := by rw [hS.rlen]; exact Nat.le_trans (HLN.out j (Nat.le_of_lt hlt)).rcv (by omega)
    have hul : ∀ y ∈ i.forts, y.unwound.length ≤ 100000 := hS.unw (fun x hx => Nat.le_trans ((HLN.out j (Nat.le_of_lt hlt)).by_ x hx) (by omega))
    obtain ⟨a, o, x, z, ho, hx, hxp, hz, hzk, hS'⟩ := find6 HPD.out HE.out rfl hS
    have hoo := recO_succ HE.out ho
    have HS' := Lib.hid hS'
    have HOO := Lib.hid hoo
    clear hS' hS hoo
    have v0 : V.cell? ⟨be, 0, none⟩ = some (.int .i64 6) := eV.cells 0
    have v1 : V.cell? ⟨be, 1, none⟩ = some (.int .i64 e1) := eV.cells 1
    have v2 : V.cell? ⟨be, 2, none⟩ = some (.int .i64 e2) := eV.cells 2
    have aV := HACC.out V bV
    have z5 : V.cell? ⟨ga, 5, none⟩ = some (.slice (some ⟨bw, 0, none⟩) N co) := by have := aV.blk.cells 5; rw [HOL.out] at this; exact this
    have zj : V.cell? ⟨bw, j, none⟩ = some (.int .i64 a) := HOWC.out V bV _ ho
    have tc : ∀ k, V.cell? ⟨b0 + 2, k, none⟩ = tbl[k]? := tV.cells
    have t5 : V.cell? ⟨b0 + 2, 6, none⟩ = some (.func (.func 89) #[] #[]) := tc 6
    have HV := Lib.hid hV
    have BV := Lib.hid bV
    have TV := Lib.hid tV
    have AV := Lib.hid aV
    have HRC := Lib.hid hrec
    have hszV := bV.size
    have hbt := tV.lt

    clear hV bV tV aV eV hrec tc
    have hneq := neq_fun
    go_upto_region 9 with fail
    have S0 : (fun V : World => V.cell? ⟨ga, 5, none⟩ = some (.slice (some ⟨bw, 0, none⟩) N co) ∧ V.cell? ⟨bw, j, none⟩ = some (.int .i64 a) ∧ V.cell? ⟨be, 0, none⟩ = some (.int .i64 6) ∧ V.cell? ⟨be, 1, none⟩ = some (.int .i64 e1) ∧ V.cell? ⟨be, 2, none⟩ = some (.int .i64 e2)) V.drew := ⟨z5, zj, v0, v1, v2⟩
    refine Last2.region_last [10] (fun V : World => V.cell? ⟨ga, 5, none⟩ = some (.slice (some ⟨bw, 0, none⟩) N co) ∧ V.cell? ⟨bw, j, none⟩ = some (.int .i64 a) ∧ V.cell? ⟨be, 0, none⟩ = some (.int .i64 6) ∧ V.cell? ⟨be, 1, none⟩ = some (.int .i64 e1) ∧ V.cell? ⟨be, 2, none⟩ = some (.int .i64 e2)) (by kernel_rfl) ?_
    refine Last2.tk 0 52 (.func (.func 89) #[] #[]) S0 ?_
    simp only [Act.put, Last2.s]
    refine Last2.tk 1 53 (.pointer (some ⟨b0 + 1, 0, none⟩)) S0 ?_
    simp only [Act.put, Last2.s]
    refine Last2.tk 2 54 (.pointer (some ⟨ga, 0, none⟩)) S0 ?_
    simp only [Act.put, Last2.s]
    refine Last2.tk 3 55 (.pointer (some ⟨ga, 0, none⟩)) S0 ?_
    simp only [Act.put, Last2.s]
    refine Last2.tk 4 56 (.pointer (some ⟨ga, 5, none⟩)) S0 ?_
    simp only [Act.put, Last2.s]
    refine Last2.tk 5 57 (.slice (some ⟨bw, 0, none⟩) N co) S0 ?_
    simp only [Act.put, Last2.s]
    refine Last2.tk 6 58 (.int .i64 j) S0 ?_
    simp only [Act.put, Last2.s]
    refine Last2.tk 7 59 (.pointer (some ⟨bw, j, none⟩)) S0 ?_
    simp only [Act.put, Last2.s]
    refine Last2.tk 8 60 (.int .i64 a) S0 ?_
    simp only [Act.put, Last2.s]
    refine Last2.tk 9 61 (.agg #[.int .i64 6, .int .i64 e1, .int .i64 e2]) S0 ?_
    simp only [Act.put, Last2.s]
    refine Last2.last_one (i := 10) (o := { dst := some 62, op := .call { callee := .value (.tmp 52), args := #[.tmp 53, .tmp 60, .tmp 61], argTypes := #[64, 3, 74] }, type := _, pos := _, after := _, guard := none }) (by kernel_rfl) rfl rfl (fun K hK => ?_)
    go_simp
    refine (readRecover_any (iw_drew HV.out) (acc_drew AV.out) hx 6 e1 e2 hol hfl hrl (by show b0 + 3 ≤ V.heap.size; omega) hxp hz hzk).mono ?_
    rintro e' U ⟨hr', rfl, hU, cU⟩
    replace cU := (Chg.drew _ V).trans cU (fun x _ h => h)
    refine hK.out _ _ (fun h => (h (by decide)).elim) ?_
    clear hK K S0
    refine Last2.last_done (by kernel_rfl) ?_ _
    have BU := Lib.hid (BV.out.trans (cU.below (show b0 ≤ V.heap.size by omega) (fun x hx e => by
     rcases e with e | e | e
     ·omega
     ·simp only [Value.ownBlock, Option.some.injEq] at e
      omega
     ·omega)))
    have TU := Lib.hid (TV.out.chg (cU : Chg _ V _) (fun e => by
     rcases e with e | e | e
     ·omega
     ·simp only [Value.ownBlock, Option.some.injEq] at e
      omega
     ·omega))
    have HU := Lib.hid hU
    clear hU cU HV BV TV AV z5 zj v0 v1 v2 t5
    go_wp2_with fail
    go_roundw
    case rel => exact ⟨j + 1, hp, hf, hr', _, by omega, by go_num, HU.out, HS'.out, by rw [recover_rec, List.map_append, HRC.out, HOO.out]; rfl, TU.out, BU.out⟩
    case measure => simp [intOf]; omega
   ·have HS0 := Lib.hid (find0 HPD.out HE.out (by dsimp only; omega) hS)
    have v0 : V.cell? ⟨be, 0, none⟩ = some (.int .i64 7) := eV.cells 0
    have t5 : V.cell? ⟨b0 + 2, 7, none⟩ = some .nilFunc := tV.cells 7
    have HV := Lib.hid hV
    have BV := Lib.hid bV
    have TV := Lib.hid tV
    have HRC := Lib.hid hrec
    have hoo := recO_succ HE.out hoj
    clear hV bV tV eV hrec hoj hS
    have hneq := neq_nil
    go_wp2_with fail
    go_roundw
    case rel => exact ⟨j + 1, hp, hf, hr, i, by omega, by go_num, HV.out, HS0.out, by rw [HRC.out, hoo]; simp, TV.out, BV.out⟩
    case measure => simp [intOf]; omega
   ·have hfl : i.forts.length ≤ 100000 := by rw [hS.flen]; exact Nat.le_trans (HLN.out j (Nat.le_of_lt hlt)).pan (by omega)
    have hol : i.on.length ≤ 100000 := by rw [hS.olen, HM.out]; exact hMl
    have hpl : i.pans.length ≤ 100000 := by rw [hS.plen]; exact Nat.le_trans (HLN.out j (Nat.le_of_lt hlt)).pan (by omega)
    have hrl : i.rec_.length ≤ 100000 := by rw [hS.rlen]; exact Nat.le_trans (HLN.out j (Nat.le_of_lt hlt)).rcv (by omega)
    have hul : ∀ y ∈ i.forts, y.unwound.length ≤ 100000 := hS.unw (fun x hx => Nat.le_trans ((HLN.out j (Nat.le_of_lt hlt)).by_ x hx) (by omega))
    obtain ⟨a, x, zf, zv, zc, kk, ho, hx, hz, hkk, hout, hS'⟩ := find8 HPD.out HE.out rfl hS
    have hoo := recO_succ HE.out ho
    have HS' := Lib.hid hS'
    have HOO := Lib.hid hoo
    clear hS' hS hoo
    have v0 : V.cell? ⟨be, 0, none⟩ = some (.int .i64 8) := eV.cells 0
    have v1 : V.cell? ⟨be, 1, none⟩ = some (.int .i64 e1) := eV.cells 1
    have v2 : V.cell? ⟨be, 2, none⟩ = some (.int .i64 e2) := eV.cells 2
    have aV := HACC.out V bV
    have z5 : V.cell? ⟨ga, 5, none⟩ = some (.slice (some ⟨bw, 0, none⟩) N co) := by have := aV.blk.cells 5; rw [HOL.out] at this; exact this
    have zj : V.cell? ⟨bw, j, none⟩ = some (.int .i64 a) := HOWC.out V bV _ ho
    have tc : ∀ k, V.cell? ⟨b0 + 2, k, none⟩ = tbl[k]? := tV.cells
    have t5 : V.cell? ⟨b0 + 2, 8, none⟩ = some (.func (.func 90) #[] #[]) := tc 8
    have HV := Lib.hid hV
    have BV := Lib.hid bV
    have TV := Lib.hid tV
    have AV := Lib.hid aV
    have HRC := Lib.hid hrec
    have hszV := bV.size
    have hbt := tV.lt

    clear hV bV tV aV eV hrec tc
    have hneq := neq_fun
    go_upto_region 9 with fail
    have S0 : (fun V : World => V.cell? ⟨ga, 5, none⟩ = some (.slice (some ⟨bw, 0, none⟩) N co) ∧ V.cell? ⟨bw, j, none⟩ = some (.int .i64 a) ∧ V.cell? ⟨be, 0, none⟩ = some (.int .i64 8) ∧ V.cell? ⟨be, 1, none⟩ = some (.int .i64 e1) ∧ V.cell? ⟨be, 2, none⟩ = some (.int .i64 e2)) V.drew := ⟨z5, zj, v0, v1, v2⟩
    refine Last2.region_last [10] (fun V : World => V.cell? ⟨ga, 5, none⟩ = some (.slice (some ⟨bw, 0, none⟩) N co) ∧ V.cell? ⟨bw, j, none⟩ = some (.int .i64 a) ∧ V.cell? ⟨be, 0, none⟩ = some (.int .i64 8) ∧ V.cell? ⟨be, 1, none⟩ = some (.int .i64 e1) ∧ V.cell? ⟨be, 2, none⟩ = some (.int .i64 e2)) (by kernel_rfl) ?_
    refine Last2.tk 0 52 (.func (.func 90) #[] #[]) S0 ?_
    simp only [Act.put, Last2.s]
    refine Last2.tk 1 53 (.pointer (some ⟨b0 + 1, 0, none⟩)) S0 ?_
    simp only [Act.put, Last2.s]
    refine Last2.tk 2 54 (.pointer (some ⟨ga, 0, none⟩)) S0 ?_
    simp only [Act.put, Last2.s]
    refine Last2.tk 3 55 (.pointer (some ⟨ga, 0, none⟩)) S0 ?_
    simp only [Act.put, Last2.s]
    refine Last2.tk 4 56 (.pointer (some ⟨ga, 5, none⟩)) S0 ?_
    simp only [Act.put, Last2.s]
    refine Last2.tk 5 57 (.slice (some ⟨bw, 0, none⟩) N co) S0 ?_
    simp only [Act.put, Last2.s]
    refine Last2.tk 6 58 (.int .i64 j) S0 ?_
    simp only [Act.put, Last2.s]
    refine Last2.tk 7 59 (.pointer (some ⟨bw, j, none⟩)) S0 ?_
    simp only [Act.put, Last2.s]
    refine Last2.tk 8 60 (.int .i64 a) S0 ?_
    simp only [Act.put, Last2.s]
    refine Last2.tk 9 61 (.agg #[.int .i64 8, .int .i64 e1, .int .i64 e2]) S0 ?_
    simp only [Act.put, Last2.s]
    refine Last2.last_one (i := 10) (o := { dst := some 62, op := .call { callee := .value (.tmp 52), args := #[.tmp 53, .tmp 60, .tmp 61], argTypes := #[64, 3, 74] }, type := _, pos := _, after := _, guard := none }) (by kernel_rfl) rfl rfl (fun K hK => ?_)
    go_simp
    refine (readUnwind_any (iw_drew HV.out) (acc_drew AV.out) (by show b0 + 3 ≤ V.heap.size; omega) (fun Y cY => HACC.out Y (BV.out.trans (((Chg.drew _ V).trans cY (fun x _ h => h)).below (show b0 ≤ V.heap.size by omega) (fun x hx e => by
     rcases e with e | e | e
     ·omega
     ·simp only [Value.ownBlock, Option.some.injEq] at e
      omega
     ·omega)))) hx 8 e1 e2 hol hfl hul hz hkk hout).mono ?_
    rintro e' U ⟨rfl, hU, cU⟩
    replace cU := (Chg.drew _ V).trans cU (fun x _ h => h)
    refine hK.out _ _ (fun h => (h (by decide)).elim) ?_
    clear hK K S0
    refine Last2.last_done (by kernel_rfl) ?_ _
    have BU := Lib.hid (BV.out.trans (cU.below (show b0 ≤ V.heap.size by omega) (fun x hx e => by
     rcases e with e | e | e
     ·omega
     ·simp only [Value.ownBlock, Option.some.injEq] at e
      omega
     ·omega)))
    have TU := Lib.hid (TV.out.chg (cU : Chg _ V _) (fun e => by
     rcases e with e | e | e
     ·omega
     ·simp only [Value.ownBlock, Option.some.injEq] at e
      omega
     ·omega))
    have HU := Lib.hid hU
    clear hU cU HV BV TV AV z5 zj v0 v1 v2 t5
    go_wp2_with fail
    go_roundw
    case rel => exact ⟨j + 1, hp, hf, hr, _, by omega, by go_num, HU.out, HS'.out, by rw [unwind_rec, HRC.out, HOO.out]; simp, TU.out, BU.out⟩
    case measure => simp [intOf]; omega
   ·have hfl : i.forts.length ≤ 100000 := by rw [hS.flen]; exact Nat.le_trans (HLN.out j (Nat.le_of_lt hlt)).pan (by omega)
    have hol : i.on.length ≤ 100000 := by rw [hS.olen, HM.out]; exact hMl
    have hpl : i.pans.length ≤ 100000 := by rw [hS.plen]; exact Nat.le_trans (HLN.out j (Nat.le_of_lt hlt)).pan (by omega)
    have hrl : i.rec_.length ≤ 100000 := by rw [hS.rlen]; exact Nat.le_trans (HLN.out j (Nat.le_of_lt hlt)).rcv (by omega)
    have hul : ∀ y ∈ i.forts, y.unwound.length ≤ 100000 := hS.unw (fun x hx => Nat.le_trans ((HLN.out j (Nat.le_of_lt hlt)).by_ x hx) (by omega))
    obtain ⟨a, x, ho, hx, hout, hS'⟩ := find9 HPD.out HE.out rfl hS
    have hoo := recO_succ HE.out ho
    have HS' := Lib.hid hS'
    have HOO := Lib.hid hoo
    clear hS' hS hoo
    have v0 : V.cell? ⟨be, 0, none⟩ = some (.int .i64 9) := eV.cells 0
    have v1 : V.cell? ⟨be, 1, none⟩ = some (.int .i64 e1) := eV.cells 1
    have v2 : V.cell? ⟨be, 2, none⟩ = some (.int .i64 e2) := eV.cells 2
    have aV := HACC.out V bV
    have z5 : V.cell? ⟨ga, 5, none⟩ = some (.slice (some ⟨bw, 0, none⟩) N co) := by have := aV.blk.cells 5; rw [HOL.out] at this; exact this
    have zj : V.cell? ⟨bw, j, none⟩ = some (.int .i64 a) := HOWC.out V bV _ ho
    have tc : ∀ k, V.cell? ⟨b0 + 2, k, none⟩ = tbl[k]? := tV.cells
    have t5 : V.cell? ⟨b0 + 2, 9, none⟩ = some (.func (.func 91) #[] #[]) := tc 9
    have HV := Lib.hid hV
    have BV := Lib.hid bV
    have TV := Lib.hid tV
    have AV := Lib.hid aV
    have HRC := Lib.hid hrec
    have hszV := bV.size
    have hbt := tV.lt

    clear hV bV tV aV eV hrec tc
    have hneq := neq_fun
    go_upto_region 9 with fail
    have S0 : (fun V : World => V.cell? ⟨ga, 5, none⟩ = some (.slice (some ⟨bw, 0, none⟩) N co) ∧ V.cell? ⟨bw, j, none⟩ = some (.int .i64 a) ∧ V.cell? ⟨be, 0, none⟩ = some (.int .i64 9) ∧ V.cell? ⟨be, 1, none⟩ = some (.int .i64 e1) ∧ V.cell? ⟨be, 2, none⟩ = some (.int .i64 e2)) V.drew := ⟨z5, zj, v0, v1, v2⟩
    refine Last2.region_last [10] (fun V : World => V.cell? ⟨ga, 5, none⟩ = some (.slice (some ⟨bw, 0, none⟩) N co) ∧ V.cell? ⟨bw, j, none⟩ = some (.int .i64 a) ∧ V.cell? ⟨be, 0, none⟩ = some (.int .i64 9) ∧ V.cell? ⟨be, 1, none⟩ = some (.int .i64 e1) ∧ V.cell? ⟨be, 2, none⟩ = some (.int .i64 e2)) (by kernel_rfl) ?_
    refine Last2.tk 0 52 (.func (.func 91) #[] #[]) S0 ?_
    simp only [Act.put, Last2.s]
    refine Last2.tk 1 53 (.pointer (some ⟨b0 + 1, 0, none⟩)) S0 ?_
    simp only [Act.put, Last2.s]
    refine Last2.tk 2 54 (.pointer (some ⟨ga, 0, none⟩)) S0 ?_
    simp only [Act.put, Last2.s]
    refine Last2.tk 3 55 (.pointer (some ⟨ga, 0, none⟩)) S0 ?_
    simp only [Act.put, Last2.s]
    refine Last2.tk 4 56 (.pointer (some ⟨ga, 5, none⟩)) S0 ?_
    simp only [Act.put, Last2.s]
    refine Last2.tk 5 57 (.slice (some ⟨bw, 0, none⟩) N co) S0 ?_
    simp only [Act.put, Last2.s]
    refine Last2.tk 6 58 (.int .i64 j) S0 ?_
    simp only [Act.put, Last2.s]
    refine Last2.tk 7 59 (.pointer (some ⟨bw, j, none⟩)) S0 ?_
    simp only [Act.put, Last2.s]
    refine Last2.tk 8 60 (.int .i64 a) S0 ?_
    simp only [Act.put, Last2.s]
    refine Last2.tk 9 61 (.agg #[.int .i64 9, .int .i64 e1, .int .i64 e2]) S0 ?_
    simp only [Act.put, Last2.s]
    refine Last2.last_one (i := 10) (o := { dst := some 62, op := .call { callee := .value (.tmp 52), args := #[.tmp 53, .tmp 60, .tmp 61], argTypes := #[64, 3, 74] }, type := _, pos := _, after := _, guard := none }) (by kernel_rfl) rfl rfl (fun K hK => ?_)
    go_simp
    refine (readExit_any (iw_drew HV.out) (acc_drew AV.out) hx 9 e1 e2 hol hfl hout).mono ?_
    rintro e' U ⟨rfl, hU, cU⟩
    replace cU := (Chg.drew _ V).trans cU (fun x _ h => h)
    refine hK.out _ _ (fun h => (h (by decide)).elim) ?_
    clear hK K S0
    refine Last2.last_done (by kernel_rfl) ?_ _
    have BU := Lib.hid (BV.out.trans (cU.below (show b0 ≤ V.heap.size by omega) (fun x hx e => by
     rcases e with e | e | e
     ·omega
     ·simp only [Value.ownBlock, Option.some.injEq] at e
      omega
     ·omega)))
    have TU := Lib.hid (TV.out.chg (cU : Chg _ V _) (fun e => by
     rcases e with e | e | e
     ·omega
     ·simp only [Value.ownBlock, Option.some.injEq] at e
      omega
     ·omega))
    have HU := Lib.hid hU
    clear hU cU HV BV TV AV z5 zj v0 v1 v2 t5
    go_wp2_with fail
    go_roundw
    case rel => exact ⟨j + 1, hp, hf, hr, _, by omega, by go_num, HU.out, HS'.out, by rw [exit_rec, HRC.out, HOO.out]; simp, TU.out, BU.out⟩
    case measure => simp [intOf]; omega
  ·go_wp2_with fail
   go_ret2
   have hjN : j = N := by omega
   subst hjN
   have e1 : t.take j = t := by rw [← HN.out, List.take_length]
   rw [e1] at hS
   refine ⟨b0 + 1, ga, b0 + 3, k, v, s, _, ct, _, _, cur, hp, hf, _, hr, i, rfl, HACC.out wr hB, HRD.out wr hB, hW, hS, by dsimp only; rw [HN.out]; exact hrec, HGA.out, by have := BB.out.size; omega, by have := BB.out.size; omega, fun x hx => ?_, BB.out.trans (hB.mono (by have := BB.out.size; omega))⟩
   simp only [Value.ownBlock, Option.some.injEq] at hx
   have := BB.out.size
   omega
end Go.Proofs.Ytgcjlkdahlfjlaa.Irs
-- squeezed
