/- FnStrings, walked: it returns true for every slice of bytes and writes nothing that was there, where the listed table and errors stand. -/
import Derived.Test.YtlcgfohljkcngaaDoorMore
import Derived.StillTailTactics
namespace Go.Proofs.YtlcgfohljkcngaaDoor.StrWalk
open Go.ChangeShapes Go.WideShapes Go.ChangeAt Go.RowKit
open Laid Num Parse NumRead ReadPlain Seal Ver Back Cur More
open Draw (fmt_draw parse_draw app_draw)
set_option maxRecDepth 10000 in
theorem big (a : Option Addr) (len cap : Nat) (hl : len ≤ maxLen) (h : 65536 < len) (w : World) :
    Calls Tryd.prog 3 #[.slice a len cap] w fun e w' => e = .returned (.bool true) ∧ Below w.heap.size w w' := by
  unfold maxLen at hl
  have hd : decide ((65536 : Int) < (len : Int)) = true := by simp; omega
  go_enter Tryd.func3, Tryd.ntmps3
  go_wp2
  go_ret
  exact ⟨rfl, Below.refl _ _⟩
theorem o2_none : out2 none = (⟨#[]⟩, false) := rfl
theorem o2_some (s : ByteArray) : out2 (some s) = (s, true) := rfl
theorem o_some (n : Int) : out (some n) = (n, true) := rfl
theorem vbig (a : Option Addr) (len cap : Nat) (hl : len ≤ 65536) (w : World) :
    Calls Tryd.prog 8 #[.slice a len cap] w fun e w' => e = .returned (.bool false) ∧ w = w' := by
  have hd : decide ((65536 : Int) < (len : Int)) = false := by simp; omega
  go_enter Tryd.func8, Tryd.ntmps8
  go_wp2
  go_ret
  exact ⟨rfl, rfl⟩
set_option maxHeartbeats 2000000 in
set_option maxRecDepth 100000 in
theorem small (a : Option Addr) (len cap : Nat) (w : World) (hC : CodeIn w w.heap.size a len) (hS : Std w) :
    Calls Tryd.prog 3 #[.slice a len cap] w fun e w' => e = .returned (.bool true) ∧ Below w.heap.size w w' := by
  have he : (⟨#[]⟩ : ByteArray).toList.isEmpty = true := by rw [ByteArray.toList_eq]; rfl
  have hv := Lib.hid (vbig a len cap hC.1 w)
  have hF := Lib.hid (fmt_draw w a len cap hC)
  have hP := Lib.hid (fun w' (hb : Below w.heap.size w w') => parse_draw w' a len cap (code_below hC hb))
  have hA := Lib.hid (fun w' (hb : Below w.heap.size w w') => app_draw w' a len cap (code_below hC hb))
  have h9 := Lib.hid (fun w' (hb : Below w.heap.size w w') => at_told w' a len cap w'.heap.size 9 (by omega) (by omega) (code_below hC hb))
  have h10 := Lib.hid (fun w' (hb : Below w.heap.size w w') => at_told w' a len cap w'.heap.size 10 (by omega) (by omega) (code_below hC hb))
  have hT := Lib.hid (fun w' (hb : Below w.heap.size w w') => hS.below hb)
  clear hC hS
  go_enter Tryd.func3, Tryd.ntmps3
  go_wp2_with fail
  refine hv.out.mono ?_
  rintro e w1 ⟨rfl, rfl⟩
  go_wp2_with fail
  refine hF.out.mono ?_
  rintro e w1 ⟨⟨n, n0, n1, rfl⟩, b1⟩
  have c1 := Lib.hid b1
  have t1 := Lib.hid (hT.out _ b1)
  clear b1
  have hI := Lib.hid (fmtI n w1 t1.out.tab)
  have hJ := Lib.hid (fun w => fmtS n w)
  have hrd := Lib.hid (fun s => fm_read (n := n) (s := s))
  generalize fm n = fo at *
  go_wp2_with fail
  refine hI.out.mono ?_
  rintro e w2 ⟨rfl, b2⟩
  have c2 := Lib.hid (c1.out.trans (b2.mono c1.out.size))
  clear b2
  go_wp2_with fail
  refine (hJ.out _).mono ?_
  rintro e w3 ⟨rfl, q3, rfl⟩
  have c3 := Lib.hid (below_redrew (q := q3) c2.out)
  clear hI hJ
  go_wp2_with fail
  refine (hP.out _ c3.out).mono ?_
  rintro e w4 ⟨⟨t, ht, rfl⟩, b4⟩
  have c4 := Lib.hid (c3.out.trans (b4.mono c3.out.size))
  clear b4
  have t4 := Lib.hid (hT.out _ c4.out)
  have hI := Lib.hid (parse_any t (by omega) w4 t4.out.tab t4.out.syn t4.out.ran)
  have hJ := Lib.hid (fun w => specParse t w (by omega))
  generalize rd t.data.toList = po at *
  go_wp2_with fail
  refine hI.out.mono ?_
  rintro e w5 ⟨rfl, b5⟩
  have c5 := Lib.hid (c4.out.trans (b5.mono c4.out.size))
  clear b5
  go_wp2_with fail
  refine (hJ.out _).mono ?_
  rintro e w6 ⟨rfl, q6, rfl⟩
  have c6 := Lib.hid (below_redrew (q := q6) c5.out)
  clear hI hJ
  go_wp2_with fail
  refine (hA.out _ c6.out).mono ?_
  rintro e w7 ⟨⟨x, hx, rfl⟩, b7⟩
  have c7 := Lib.hid (c6.out.trans (b7.mono c6.out.size))
  clear b7
  have t7 := Lib.hid (hT.out _ c7.out)
  have hI := Lib.hid (implApp x (by omega) w7 t7.out.tab)
  have hJ := Lib.hid (fun w => specApp x (by omega) w)
  have hback := Lib.hid (fun y => ver_back (x := x) (y := y))
  have hset := Lib.hid (fun y => ver_set (x := x) (y := y))
  have hparts := Lib.hid (fun y => app_parts (x := x) (y := y))
  generalize app x = ao at *
  go_wp2_with fail
  refine hI.out.mono ?_
  rintro e w8 ⟨rfl, b8⟩
  have c8 := Lib.hid (c7.out.trans (b8.mono c7.out.size))
  clear b8
  go_wp2_with fail
  refine (hJ.out _).mono ?_
  rintro e w9 ⟨rfl, q9, rfl⟩
  have c9 := Lib.hid (below_redrew (q := q9) c8.out)
  clear hI hJ
  have t9 := Lib.hid (hT.out _ c9.out)
  cases fo with
  | none =>
    have hI := Lib.hid (parse_any ⟨#[]⟩ (by decide) _ t9.out.tab t9.out.syn t9.out.ran)
    generalize rd _ = bo at hI
    go_wp2_with fail
    refine hI.out.mono ?_
    rintro e w10 ⟨rfl, b10⟩
    simp only [o2_none]
    have c10 := Lib.hid (c9.out.trans (b10.mono c9.out.size))
    clear b10
    cases ao with
    | none =>
      simp only [o2_none]
      go_wp2_with fail
      go_ret
      exact ⟨rfl, c10.out⟩
    | some y =>
      simp only [o2_some]
      have y2 := (hparts.out y rfl).2.2.1
      have y3 := (hparts.out y rfl).2.2.2
      have hV := Lib.hid (implVer y (by omega) _ (hT.out _ c10.out).tab)
      rw [hback.out y rfl] at hV
      go_wp2_with fail
      refine hV.out.mono ?_
      rintro e w11 ⟨rfl, b11⟩
      simp only [o2_some]
      have c11 := Lib.hid (c10.out.trans (b11.mono c10.out.size))
      clear b11
      obtain ⟨g, cp, w12, hconv, hg, hb, hcell, hfro⟩ := bytes_told w11 y
      have c12 := Lib.hid (c11.out.trans (hb.mono c11.out.size))
      obtain ⟨z9, z9b, hz9⟩ := h9.out w12 c12.out
      have hz9' := Lib.hid hz9
      have hfro' := Lib.hid hfro
      have hcell' := Lib.hid hcell
      clear hfro hcell hz9 hb
      go_wp2_with (go_at_call 19; refine hz9'.out.mono ?_; rintro e w13 ⟨rfl, rfl⟩)
      obtain ⟨k, hk, hk2⟩ : ∃ k : Nat, (z9 : Int) % (y.size : Int) = k ∧ k < y.size := ⟨z9 % y.size, by simp, Nat.mod_lt _ (by omega)⟩
      rw [hk]
      have c13 : Hid (Below w.heap.size w w13.drew) := Lib.hid ⟨c12.out.os, c12.out.tape, c12.out.output, c12.out.size, c12.out.block⟩
      obtain ⟨z10, z10b, hz10⟩ := h10.out w13.drew c13.out
      have hz10' := Lib.hid hz10
      clear hz10 hk
      have e13 : w13.drew.cell? ⟨g, k, none⟩ = some (.int .u8 (y[k].toNat : Int)) := hcell'.out k hk2
      have f13 : w13.drew.frozen? ⟨g, k, none⟩ = false := hfro'.out k hk2
      obtain ⟨c, hc, hne⟩ := xor_byte y[k] (1 + (z10 : Int) % 255) (by omega) (by omega)
      refine wp_region_still_tail 13 (by kernel_rfl) (by kernel_rfl) ?_
      simp only [List.take_succ_cons, List.take_zero, List.drop_succ_cons, List.drop_zero]
      change wpStill _ _ w13.drew _ _ _
      repeat still_step
      still_call hz10'.out
      repeat still_step
      refine wpStill_nil ?_
      change wpList _ _ _ _ _ w13.drew
      have i13 := Lib.hid (fun j (h : j < y.size) => (show w13.drew.cell? ⟨g, j, none⟩ = some (.int .u8 (y[j].toNat : Int)) from hcell'.out j h))
      have g13 : Hid (w.heap.size ≤ g) := Lib.hid (Nat.le_trans c11.out.size hg)
      clear hz10' hz9' hconv hg hI hV
      generalize w13.drew = w14 at *
      have hb2 := back_told w14 y g cp k c hk2 i13.out
      have hn2 := hset.out y rfl k hk2 c hne
      have c15 := Lib.hid (c13.out.trans ((below_set (w := w14) (k := k) (v := .int .u8 (c.toNat : Int)) g13.out)))
      have hs2 : (⟨(y.data.toList.set k c).toArray⟩ : ByteArray).size ≤ 1048576 := by
        show (y.data.toList.set k c).toArray.size ≤ 1048576
        simp; omega
      generalize (⟨(y.data.toList.set k c).toArray⟩ : ByteArray) = v at *
      have hV := Lib.hid (implVer v hs2 _ (hT.out _ c15.out).tab)
      rw [hn2] at hV
      clear i13 hn2
      go_wp2_with (go_at_call 18; refine hV.out.mono ?_; rintro e w16 ⟨rfl, b16⟩; simp only [o2_none])
      go_ret
      exact ⟨rfl, c15.out.trans (b16.mono c15.out.size)⟩
  | some s =>
    obtain ⟨r1, r2⟩ := hrd.out s rfl
    have hI := Lib.hid (parse_any s (by omega) _ t9.out.tab t9.out.syn t9.out.ran)
    rw [r1] at hI
    go_wp2_with fail
    refine hI.out.mono ?_
    rintro e w10 ⟨rfl, b10⟩
    simp only [o2_some, o_some]
    have c10 := Lib.hid (c9.out.trans (b10.mono c9.out.size))
    clear b10
    cases ao with
    | none =>
      simp only [o2_none]
      go_wp2_with fail
      go_ret
      exact ⟨rfl, c10.out⟩
    | some y =>
      simp only [o2_some]
      have y2 := (hparts.out y rfl).2.2.1
      have y3 := (hparts.out y rfl).2.2.2
      have hV := Lib.hid (implVer y (by omega) _ (hT.out _ c10.out).tab)
      rw [hback.out y rfl] at hV
      go_wp2_with fail
      refine hV.out.mono ?_
      rintro e w11 ⟨rfl, b11⟩
      simp only [o2_some]
      have c11 := Lib.hid (c10.out.trans (b11.mono c10.out.size))
      clear b11
      obtain ⟨g, cp, w12, hconv, hg, hb, hcell, hfro⟩ := bytes_told w11 y
      have c12 := Lib.hid (c11.out.trans (hb.mono c11.out.size))
      obtain ⟨z9, z9b, hz9⟩ := h9.out w12 c12.out
      have hz9' := Lib.hid hz9
      have hfro' := Lib.hid hfro
      have hcell' := Lib.hid hcell
      clear hfro hcell hz9 hb
      go_wp2_with (go_at_call 19; refine hz9'.out.mono ?_; rintro e w13 ⟨rfl, rfl⟩)
      obtain ⟨k, hk, hk2⟩ : ∃ k : Nat, (z9 : Int) % (y.size : Int) = k ∧ k < y.size := ⟨z9 % y.size, by simp, Nat.mod_lt _ (by omega)⟩
      rw [hk]
      have c13 : Hid (Below w.heap.size w w13.drew) := Lib.hid ⟨c12.out.os, c12.out.tape, c12.out.output, c12.out.size, c12.out.block⟩
      obtain ⟨z10, z10b, hz10⟩ := h10.out w13.drew c13.out
      have hz10' := Lib.hid hz10
      clear hz10 hk
      have e13 : w13.drew.cell? ⟨g, k, none⟩ = some (.int .u8 (y[k].toNat : Int)) := hcell'.out k hk2
      have f13 : w13.drew.frozen? ⟨g, k, none⟩ = false := hfro'.out k hk2
      obtain ⟨c, hc, hne⟩ := xor_byte y[k] (1 + (z10 : Int) % 255) (by omega) (by omega)
      refine wp_region_still_tail 13 (by kernel_rfl) (by kernel_rfl) ?_
      simp only [List.take_succ_cons, List.take_zero, List.drop_succ_cons, List.drop_zero]
      change wpStill _ _ w13.drew _ _ _
      repeat still_step
      still_call hz10'.out
      repeat still_step
      refine wpStill_nil ?_
      change wpList _ _ _ _ _ w13.drew
      have i13 := Lib.hid (fun j (h : j < y.size) => (show w13.drew.cell? ⟨g, j, none⟩ = some (.int .u8 (y[j].toNat : Int)) from hcell'.out j h))
      have g13 : Hid (w.heap.size ≤ g) := Lib.hid (Nat.le_trans c11.out.size hg)
      clear hz10' hz9' hconv hg hI hV
      generalize w13.drew = w14 at *
      have hb2 := back_told w14 y g cp k c hk2 i13.out
      have hn2 := hset.out y rfl k hk2 c hne
      have c15 := Lib.hid (c13.out.trans ((below_set (w := w14) (k := k) (v := .int .u8 (c.toNat : Int)) g13.out)))
      have hs2 : (⟨(y.data.toList.set k c).toArray⟩ : ByteArray).size ≤ 1048576 := by
        show (y.data.toList.set k c).toArray.size ≤ 1048576
        simp; omega
      generalize (⟨(y.data.toList.set k c).toArray⟩ : ByteArray) = v at *
      have hV := Lib.hid (implVer v hs2 _ (hT.out _ c15.out).tab)
      rw [hn2] at hV
      clear i13 hn2
      go_wp2_with (go_at_call 18; refine hV.out.mono ?_; rintro e w16 ⟨rfl, b16⟩; simp only [o2_none])
      go_ret
      exact ⟨rfl, c15.out.trans (b16.mono c15.out.size)⟩
/-- What the walk is told of a slice of bytes that came in. -/
def IsBytes (w : World) (a : Option Addr) (len : Nat) : Prop :=
  len ≤ maxLen ∧ (len = 0 ∨ ∃ b off, a = some ⟨b, off, none⟩ ∧ b < w.heap.size ∧ ∀ j, j < len → ∃ z : Int, 0 ≤ z ∧ z ≤ 255 ∧ w.cell? ⟨b, off + j, none⟩ = some (.int .u8 z))
theorem walk (a : Option Addr) (len cap : Nat) (w : World) (h : IsBytes w a len) (hL : laidMetH Tryd.prog laid5 w) :
    Calls Tryd.prog 3 #[.slice a len cap] w fun e w' => e = .returned (.bool true) ∧ Below w.heap.size w w' := by
  by_cases hb : 65536 < len
  · exact big a len cap h.1 hb w
  · exact small a len cap w ⟨by omega, h.2⟩ (Std.of5 hL)
end Go.Proofs.YtlcgfohljkcngaaDoor.StrWalk
