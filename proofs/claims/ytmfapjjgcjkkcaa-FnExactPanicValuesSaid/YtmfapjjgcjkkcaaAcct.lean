/- impl.accountOf: a run, and what its trace tells, in an account. -/
import Derived.Test.YtmfapjjgcjkkcaaIrp
import Derived.Test.YtmfapjjgcjkkcaaM12
import Derived.Test.YtmfapjjgcjkkcaaRead
import Derived.Test.YtmfapjjgcjkkcaaM14
namespace Go.Proofs.Ytmfapjjgcjkkcaa.AcctP
set_option linter.unusedVariables false
set_option linter.unusedSimpArgs false
open Go.ChangeShapes Go.WideShapes Go.ChangeAt Go.RowKit
open PL Mem Srun Sst To OwnS AskP Res Swhole Sout Irp RunF IntsP RowC AccP ReadP

theorem runR_whole {p : Pg} {f arg fuel : Int} (h : (runR p f arg fuel).2 = true) : Whole (runR p f arg fuel).1.trace := by
  unfold runR at h ⊢
  split
  · show Whole (whole p fuel f arg).1.trace
    exact whole_W p fuel f arg
  · rename_i hx
    rw [if_neg hx] at h
    cases h
theorem runR_none {p : Pg} {f arg fuel : Int} (h : (runR p f arg fuel).2 = false) : (runR p f arg fuel).1.trace = [] := by
  unfold runR at h ⊢
  split
  · rename_i hx
    rw [if_pos hx] at h
    cases h
  · rfl
/-- What accountOf leaves. -/
def AcctR (r : Out × Bool) (w : World) (e : Ending) (w' : World) : Prop :=
  ∃ (g : Nat) (k v s : Int) (At : Option Addr) (ct : Nat) (cv ov : Value) (cur : Int), e = .returned (.tuple #[.pointer (some ⟨g, 0, none⟩), .bool r.2]) ∧
    Acc g k v s (.slice At r.1.trace.length ct) cv ov (tds r.1.trace).calls (tds r.1.trace).owners cur w' ∧ Rd3 w' g At r.1.trace ∧ w.heap.size ≤ g ∧ Below w.heap.size w w'
set_option maxRecDepth 100000 in
set_option maxHeartbeats 8000000 in
theorem accountOf_any (lo n c : Nat) (A : Option Addr) (p : Pg) (f arg fuel : Int) (hn : n ≤ 9223372036854775807) (hl : p.length = n) (hsm : Small p 9223372036854775807) (w : World) (ho : OwnP w lo (.slice A n c) p) :
    Calls Try.prog 53 #[.agg #[.slice A n c], .int .i64 f, .int .i64 arg, .int .i64 fuel] w (AcctR (runR p f arg fuel) w) := by
  have hq := Lib.hid (fun W (h : Below w.heap.size w W) => runI_any lo n c A p f arg fuel hn hl hsm W (ho.below h))
  have hal : ∀ o1 : Obj, Below w.heap.size w (w.alloc o1) := fun o1 => (Below.refl _ _).alloc (Nat.le_refl _) _
  have HAL := Lib.hid hal
  have hlen := runR_len p f arg fuel
  have hwh : (runR p f arg fuel).2 = true → Whole (runR p f arg fuel).1.trace := runR_whole
  have hnone : (runR p f arg fuel).2 = false → (runR p f arg fuel).1.trace = [] := runR_none
  generalize runR p f arg fuel = r at *
  obtain ⟨⟨k, v, t, s⟩, b⟩ := r
  dsimp only at hlen hwh hnone
  unfold OutR outval at hq
  unfold AcctR
  dsimp only at hq ⊢
  clear ho hsm hal
  cases b with
  | false =>
    obtain rfl := hnone rfl
    clear hwh hnone
    go_enter Try.func53, Try.ntmps53
    go_wp2_with fail
    refine (hq.out _ (HAL.out _)).mono ?_
    rintro e w2 ⟨A2, c2, rfl, ht, b2⟩
    have BB := Lib.hid ((HAL.out (.cells #[.slice A n c] 31)).trans (b2.mono (HAL.out _).size))
    clear ht b2 hq
    go_upto_region 2 with fail
    change (fun V => Code.wp _ _ _ _ V) _
    refine gen_world (X := fun V => Below w2.heap.size w2 V) ((Below.refl _ _).alloc (Nat.le_refl _) _) ?_
    rintro w3 b3
    have B3 := Lib.hid (BB.out.trans (b3.mono BB.out.size))
    clear b3 BB
    go_wp2_with fail
    go_ret2
    exact ⟨w3.heap.size, 0, 0, 0, none, 0, .slice none 0 0, .slice none 0 0, 0, rfl, ⟨heap1_0 w3 _, World.ownsRow_nil _ _ _ _, World.ownsRow_nil _ _ _ _⟩, (fun j s hs => by simp at hs), B3.out.size, B3.out.alloc B3.out.size _⟩
  | true =>
    have hw := hwh rfl
    have HW := Lib.hid hw
    have HL := Lib.hid hlen
    clear hwh hnone hw hlen
    go_enter Try.func53, Try.ntmps53
    go_wp2_with fail
    refine (hq.out _ (HAL.out _)).mono ?_
    rintro e w2 ⟨A2, c2, rfl, ht, b2⟩
    have hR := Lib.hid (show Rd3 w2 w2.heap.size A2 t from rd_own ht)
    have BB := Lib.hid ((HAL.out (.cells #[.slice A n c] 31)).trans (b2.mono (HAL.out _).size))
    clear ht b2 hq
    go_upto_region 2 with fail
    change (fun V => Code.wp _ _ _ _ V) _
    refine gen_world (X := fun V => Blk V w2.heap.size 56 #[.int .i64 k, .int .i64 v, .slice A2 t.length c2, .int .i64 s] ∧ Below w2.heap.size w2 V) ⟨heap1_0 w2 _, (Below.refl _ _).alloc (Nat.le_refl _) _⟩ ?_
    rintro w3 ⟨h3, b3⟩
    have z3 := h3.cells
    have B3 := Lib.hid (BB.out.trans (b3.mono BB.out.size))
    have R3 := Lib.hid (hR.out.below b3)
    have l3 := b3.size
    clear b3 BB hR h3
    go_upto_region 5 with fail
    change (fun V => Code.wp _ _ _ _ V) _
    refine gen_world (X := fun V => Acc w3.heap.size k v s (.slice A2 t.length c2) (.slice none 0 0) (.slice none 0 0) (tds (t.take 0)).calls (tds (t.take 0)).owners (tds (t.take 0)).now V ∧ Below w3.heap.size w3 V) ⟨⟨heap1_0 w3 _, World.ownsRow_nil _ _ _ _, World.ownsRow_nil _ _ _ _⟩, (Below.refl _ _).alloc (Nat.le_refl _) _⟩ ?_
    rintro w4 ⟨h4, b4⟩
    have hrd := read_any (g := w3.heap.size) (k := k) (v := v) (s := s) (ct := c2) HW.out rfl HL.out t.length 0 w4 _ _ (by omega) HW.out.beg h4 ((R3.out.more l3).below b4)
    have HRD := Lib.hid hrd
    have HR4 := Lib.hid ((R3.out.more l3).below b4)
    have B4 := Lib.hid (B3.out.trans (b4.mono B3.out.size))
    have l4 := B3.out.size
    clear h4 b4 hrd z3
    go_wp2_with fail
    refine HRD.out.mono ?_
    rintro e w5 ⟨j, cv', ov', rfl, hj, h5, b5⟩
    obtain rfl := HW.out.all hj
    rw [List.take_length] at h5
    have H5 := Lib.hid h5
    have B5 := Lib.hid (B4.out.trans (b5.mono l4))
    have R5 := Lib.hid (HR4.out.below b5)
    clear h5 b5
    go_wp2_with fail
    go_ret2
    exact ⟨w3.heap.size, k, v, s, A2, c2, cv', ov', _, rfl, H5.out, R5.out, l4, B5.out⟩
end Go.Proofs.Ytmfapjjgcjkkcaa.AcctP
