/- impl.DeepestCall: the most calls that were open in the trace. -/
import Derived.Test.YteagmmmniffibaaDeepS
import Derived.Test.YteagmmmniffibaaIrp
import Derived.Test.YteagmmmniffibaaM12
namespace Go.Proofs.Yteagmmmniffibaa.DeepP
set_option linter.unusedVariables false
set_option linter.unusedSimpArgs false
open Go.ChangeShapes Go.WideShapes Go.ChangeAt Go.RowKit
open PL Mem Srun Sst Imem To OwnS AskP Res Swhole Sout Irp LawN RunF

theorem ods_take {l : List Tr} {j : Nat} {e : Tr} (h : l[j]? = some e) : ods (l.take (j + 1)) = od (ods (l.take j)) e := by
  rw [List.take_add_one, h]
  exact ods_snoc _ _
theorem ods_bound (l : List Tr) : ∀ j, j ≤ l.length → -(j : Int) ≤ (ods (l.take j)).1 ∧ (ods (l.take j)).1 ≤ j ∧ 0 ≤ (ods (l.take j)).2 ∧ (ods (l.take j)).2 ≤ j
  | 0, _ => by simp [ods]
  | j + 1, hj => by
    obtain ⟨e, he⟩ : ∃ e, l[j]? = some e := ⟨_, List.getElem?_eq_getElem (by omega)⟩
    have ih := ods_bound l j (by omega)
    rw [ods_take he]
    generalize ods (l.take j) = x at *
    obtain ⟨o, d⟩ := x
    obtain ⟨h1, h2, h3, h4⟩ := ih
    unfold od
    dsimp only at *
    split
    · dsimp only
      split <;> omega
    · split <;> dsimp only <;> omega
set_option maxRecDepth 100000 in
set_option maxHeartbeats 8000000 in
theorem deepI_any (lo n c : Nat) (A : Option Addr) (p : Pg) (f arg fuel : Int) (hn : n ≤ 9223372036854775807) (hl : p.length = n) (hsm : Small p 9223372036854775807) (w : World) (ho : OwnP w lo (.slice A n c) p) :
    Calls Try.prog 31 #[.agg #[.slice A n c], .int .i64 f, .int .i64 arg, .int .i64 fuel] w (NumR (deepR p f arg fuel) w) := by
  have hq := Lib.hid (fun W (h : Below w.heap.size w W) => runI_any lo n c A p f arg fuel hn hl hsm W (ho.below h))
  have hal : ∀ o1 : Obj, Below w.heap.size w (w.alloc o1) := fun o1 => (Below.refl _ _).alloc (Nat.le_refl _) _
  have HAL := Lib.hid hal
  have hr := Lib.hid (show deepR p f arg fuel = ((ods (runR p f arg fuel).1.trace).2, (runR p f arg fuel).2) from rfl)
  have hlen := runR_len p f arg fuel
  generalize runR p f arg fuel = r at *
  obtain ⟨⟨k, v, t, s⟩, b⟩ := r
  dsimp only at hr hlen
  have hbd := Lib.hid (fun j (hj : j ≤ t.length) => ods_bound t j hj)
  have hnx := Lib.hid (fun j e (h : t[j]? = some e) => ods_take h)
  have hfull := Lib.hid (show ods (t.take t.length) = ods t by rw [List.take_length])
  have h0 := Lib.hid (show ods (t.take 0) = (0, 0) from rfl)
  unfold OutR at hq
  dsimp only at hq
  obtain ⟨N, hN⟩ : ∃ N, t.length = N := ⟨_, rfl⟩
  rw [hN] at hq hbd hfull hlen
  have HN := Lib.hid hN
  clear ho hsm hal hN
  go_enter Try.func31, Try.ntmps31
  go_wp2_with fail
  refine (hq.out _ (HAL.out _)).mono ?_
  rintro e w2 ⟨A2, c2, rfl, ht, b2⟩
  have hR := Lib.hid (show Rd3 w2 w2.heap.size A2 t by unfold Tre at ht; rw [HN.out] at ht; exact rd_own ht)
  have BB := Lib.hid ((HAL.out (.cells #[.slice A n c] 33)).trans (b2.mono (HAL.out _).size))
  unfold outval
  dsimp only
  clear ht b2 hq
  go_upto_region 2 with fail
  change (fun V => Code.wp _ _ _ _ V) _
  refine gen_world (X := fun V => Blk V w2.heap.size 28 #[.int .i64 k, .int .i64 v, .slice A2 N c2, .int .i64 s] ∧ Below w2.heap.size w2 V) ⟨heap1_0 w2 _, (Below.refl _ _).alloc (Nat.le_refl _) _⟩ ?_
  rintro w3 ⟨h3, b3⟩
  have z2 : w3.cell? ⟨w2.heap.size, 2, none⟩ = some (.slice A2 N c2) := h3.cells 2
  have l3 := h3.lt
  have B3 := Lib.hid b3
  clear b3 h3
  go_wp2_with fail
  go_loopw [12, 13, 27] (fun o d i wr => ∃ j : Nat, j ≤ N ∧ i = .int .i64 j ∧ o = .int .i64 (ods (t.take j)).1 ∧ d = .int .i64 (ods (t.take j)).2 ∧ Below w2.heap.size w2 wr) (fun _ _ i _ => N - (intOf i).toNat)
  case atStart => exact ⟨0, Nat.zero_le _, rfl, by rw [h0.out], by rw [h0.out], B3.out⟩
  case round =>
    obtain ⟨j, hj, rfl, rfl, rfl, hb⟩ := hrel
    by_cases hlt : j < N
    · obtain ⟨⟨e0, e1, e2⟩, hs⟩ : ∃ s, t[j]? = some s := ⟨_, List.getElem?_eq_getElem (by rw [HN.out]; exact hlt)⟩
      obtain ⟨ad, rfl, hab, h0', h1', h2'⟩ := (hR.out.below hb) j _ hs
      obtain ⟨q1, q2, q3, q4⟩ := hbd.out j hj
      have hx := Lib.hid (hnx.out j _ hs)
      have HB := Lib.hid hb
      dsimp only at h0' h1' h2'
      clear hs hb z2
      generalize ods (t.take j) = x at *
      obtain ⟨o, d⟩ := x
      dsimp only at q1 q2 q3 q4
      by_cases k1 : e0 = 1 ∨ e0 = 3
      · by_cases hd : d > o + 1
        · have hx' := Lib.hid (show ods (t.take (j + 1)) = (o + 1, d) by rw [hx.out]; unfold od; rw [if_pos k1]; dsimp only; rw [if_pos hd])
          rcases k1 with rfl | rfl <;>
          · go_wp2_with fail
            go_roundw
            case rel => exact ⟨j + 1, by omega, by go_num, by rw [hx'.out], by rw [hx'.out] <;> go_num, (HB.out.alloc HB.out.size _)⟩
            case measure => simp [intOf]; omega
        · have hx' := Lib.hid (show ods (t.take (j + 1)) = (o + 1, o + 1) by rw [hx.out]; unfold od; rw [if_pos k1]; dsimp only; rw [if_neg hd])
          rcases k1 with rfl | rfl <;>
          · go_wp2_with fail
            go_roundw
            case rel => exact ⟨j + 1, by omega, by go_num, by rw [hx'.out], by rw [hx'.out] <;> go_num, (HB.out.alloc HB.out.size _)⟩
            case measure => simp [intOf]; omega
      · by_cases k2 : e0 = 7 ∨ e0 = 8 ∨ e0 = 9
        · have hx' := Lib.hid (show ods (t.take (j + 1)) = (o - 1, d) by rw [hx.out]; unfold od; rw [if_neg k1, if_pos k2])
          rcases k2 with rfl | rfl | rfl <;>
          · go_wp2_with fail
            go_roundw
            case rel => exact ⟨j + 1, by omega, by go_num, by rw [hx'.out], by rw [hx'.out], (HB.out.alloc HB.out.size _)⟩
            case measure => simp [intOf]; omega
        · have hx' := Lib.hid (show ods (t.take (j + 1)) = (o, d) by rw [hx.out]; unfold od; rw [if_neg k1, if_neg k2])
          have c1 : (e0 == 1) = false := by simp; omega
          have c3 : (e0 == 3) = false := by simp; omega
          have c7 : (e0 == 7) = false := by simp; omega
          have c8 : (e0 == 8) = false := by simp; omega
          have c9 : (e0 == 9) = false := by simp; omega
          go_wp2_with fail
          go_roundw
          case rel => exact ⟨j + 1, by omega, by go_num, by rw [hx'.out], by rw [hx'.out], (HB.out.alloc HB.out.size _)⟩
          case measure => simp [intOf]; omega
    · obtain rfl : j = N := by omega
      have HB := Lib.hid hb
      rw [hfull.out]
      clear hb
      go_wp2_with fail
      go_ret2
      exact ⟨by rw [hr.out] <;> rfl, BB.out.trans (HB.out.mono BB.out.size)⟩
end Go.Proofs.Yteagmmmniffibaa.DeepP
