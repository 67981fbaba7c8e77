/- What the draws of the law on strings return: a number from -1000000 to 1000000, and texts of at most 4010 bytes, for at most 65536 bytes of choices; nothing that was there is written. -/
import Derived.Test.YtlcgfohljkcngaaDoorCur
import Derived.Test.YtlcgfohljkcngaaDoorNum
import Derived.Laws.BytesString
import Derived.OwnWalk
import Derived.Laws.OwnMore
namespace Go.Proofs.YtlcgfohljkcngaaDoor.Draw
open Go.ChangeShapes Go.WideShapes Go.ChangeAt Go.RowKit
open Cur Num
/-- The bytes that came in, below a block. -/
theorem reads_new {w : World} {ca : Option Addr} {n cc : Nat} (h : CodeIn w w.heap.size ca n) : Reads (w.alloc (.cells #[.slice ca n cc, .int .i64 0, .int .u64 0] 37)) w.heap.size ca n cc 0 := by
  refine ⟨0, 0, Nat.le_refl _, by omega, by omega, heap_alloc_new w _, h.1, ?_⟩
  rcases h.2 with h0 | ⟨b, off, e, hb, hc⟩
  · exact .inl h0
  · refine .inr ⟨b, off, e, hb, fun j hj => ?_⟩
    obtain ⟨z, z0, z1, hz⟩ := hc j hj
    exact ⟨z, z0, z1, (World.cell?_of_block (a := ⟨b, off + j, none⟩) (Below.heap_alloc w _ b hb)).trans hz⟩
theorem below_grown {w w' : World} {bc B : Nat} (h : w.grownBy w' (some bc)) (hB : B ≤ bc) (hw : B ≤ w.heap.size) : Below B w w' :=
  (Below.refl B w).grown h hw (fun k e => by cases e; exact hB)
theorem reads_lt {w : World} {bc n cc m : Nat} {ca : Option Addr} (h : Reads w bc ca n cc m) : bc < w.heap.size := by
  obtain ⟨k, sd, _, _, _, hb, _⟩ := h; exact (Array.getElem?_eq_some_iff.1 hb).1
theorem info5 : (Tryd.prog.info? 5).map (fun i => (i.zero, i.size, i.bytes)) = some (some (.int .u8 0), 1, 1) := by kernel_rfl
theorem push_size (ns : List Int) : ∀ s : ByteArray, (ns.foldl (fun r n => r.push (UInt8.ofNat n.toNat)) s).size = s.size + ns.length := by
  induction ns with
  | nil => intro s; simp
  | cons a r ih => intro s; rw [List.foldl_cons, ih]; simp; omega
theorem zeros (w : World) (B g n : Nat) (h : w.ownsRow B 5 1 (.slice (some ⟨g, 0, none⟩) n n) n (List.replicate n (Value.int .u8 0))) :
    ∃ S : ByteArray, S.size = n ∧ (convert 22 9 (.slice (some ⟨g, 0, none⟩) n n)).run Tryd.prog w = .ok (.string S) w := by
  refine ⟨(List.replicate n (0 : Int)).foldl (fun r n => r.push (UInt8.ofNat n.toNat)) ByteArray.empty, by rw [push_size]; simp, ?_⟩
  rw [run_convert_bytes_string _ 22 9 5 _ n n Tryd.underlying22 Tryd.underlying5 Tryd.underlying9]
  refine run_bytesToString _ ⟨g, 0, none⟩ n n (List.replicate n 0) ?_
  have hl := run_loadCells_list (P := Tryd.prog) (w := w) ⟨g, 0, none⟩ ((List.replicate n (0 : Int)).map (Value.int .u8)) (fun j v hv => by
    have := h.cells (g := g) rfl j v (by simpa using hv)
    exact this)
  simpa using hl
theorem below_drewN (w : World) (n : Nat) : Below w.heap.size w (w.drewN n) := ⟨rfl, rfl, rfl, Nat.le_refl _, fun _ _ => rfl⟩
theorem ints_cells (w : World) (xs : List Int) (t : TypeId) : ∀ j x, xs[j]? = some x → (w.alloc (.cells (xs.map (Value.int .i64)).toArray t)).cell? ⟨w.heap.size, j, none⟩ = some (.int .i64 x) := by
  intro j x h
  rw [World.cell?_alloc_new]
  simp [h]
/-- A number out of a list that lies in a block of its own. -/
theorem among_any (w : World) (bc n cc m : Nat) (ca : Option Addr) (hm : m ≤ 900000) (h : Reads w bc ca n cc m) (g N cap : Nat) (xs : List Int) (hN : xs.length = N) (n0 : 1 < N) (n1 : N ≤ 1000) (hne : g ≠ bc) (hc : ∀ j x, xs[j]? = some x → w.cell? ⟨g, j, none⟩ = some (.int .i64 x)) :
    Calls Tryd.prog 21 #[.pointer (some ⟨bc, 0, none⟩), .slice (some ⟨g, 0, none⟩) N cap] w fun e w' => (∃ x, x ∈ xs ∧ e = .returned (.int .i64 x)) ∧ Reads w' bc ca n cc (m + 2) ∧ w.grownBy w' (some bc) := by
  have hP := Lib.hid (pick_any w bc n cc m ca hm h (N : Int) (by omega) (by omega))
  have hC := Lib.hid hc
  have hL := Lib.hid hN
  clear h hc hN
  go_enter Tryd.func21, Tryd.ntmps21
  go_wp2_with fail
  refine hP.out.mono ?_
  rintro e w1 ⟨⟨z, z0, z1, rfl⟩, hr, hg⟩
  obtain ⟨j, rfl⟩ := Int.eq_ofNat_of_zero_le z0
  have hj : j < xs.length := by rw [hL.out]; omega
  have hx : xs[j]? = some xs[j] := by simp
  have hcell : w1.cell? ⟨g, j, none⟩ = some (.int .i64 xs[j]) := by
    have h1 := hC.out j _ hx
    have hlt : g < w.heap.size := World.block_lt_of_cell? w _ h1
    exact (World.cell?_of_block (a := ⟨g, j, none⟩) (hg.block g hlt (fun e => by cases e; exact hne rfl))).trans h1
  have hm := Lib.hid (List.mem_of_getElem? hx)
  clear hx
  generalize xs[j] = x at *
  go_wp2
  go_ret
  exact ⟨⟨x, hm.out, rfl⟩, hr, hg⟩
def nums (z : Int) : List Int := [0, 1, -1, 10, 999999, -999999, 1000000, -1000000, z - 500]
theorem nums_bd (z : Int) (h0 : 0 ≤ z) (h1 : z < 1000) : ∀ x ∈ nums z, -1000000 ≤ x ∧ x ≤ 1000000 := by
  intro x hx
  simp only [nums, List.mem_cons, List.not_mem_nil, or_false] at hx
  omega
set_option maxHeartbeats 1000000 in
theorem fmt_draw (w : World) (ca : Option Addr) (n cc : Nat) (h : CodeIn w w.heap.size ca n) :
    Calls Tryd.prog 9 #[.slice ca n cc] w fun e w' => (∃ x : Int, -1000000 ≤ x ∧ x ≤ 1000000 ∧ e = .returned (.int .i64 x)) ∧ Below w.heap.size w w' := by
  have hP := Lib.hid (pick_any _ w.heap.size n cc 0 ca (by omega) (reads_new (cc := cc) h) 1000 (by omega) (by omega))
  have hA := Lib.hid (fun w1 z (h1 : Reads w1 w.heap.size ca n cc (0 + 2)) => among_any (w1.alloc (.cells ((nums z).map (Value.int .i64)).toArray 3)) w.heap.size n cc (0 + 2) ca (by omega) (reads_alloc h1 _) w1.heap.size 9 9 (nums z) rfl (by omega) (by omega) (by have := reads_lt h1; omega) (ints_cells w1 (nums z) 3))
  clear h
  go_enter Tryd.func9, Tryd.ntmps9
  go_wp2_with fail
  refine hP.out.mono ?_
  rintro e w1 ⟨⟨z, z0, z1, rfl⟩, hr, hg⟩
  have hR := Lib.hid hr
  clear hr
  go_wp2_with fail
  refine (hA.out w1 z hR.out).mono ?_
  rintro e w2 ⟨⟨x, hx, rfl⟩, hr2, hg2⟩
  have hb := nums_bd z z0 z1 x hx
  go_wp2
  go_ret
  refine ⟨⟨x, hb.1, hb.2, rfl⟩, ?_⟩
  have b1 : Below w.heap.size w w1 := ((Below.refl _ w).alloc (Nat.le_refl _) _).trans (below_grown hg (Nat.le_refl _) (by simp))
  have b2 : Below w.heap.size w (w1.alloc (.cells ((nums z).map (Value.int .i64)).toArray 3)) := b1.alloc b1.size _
  exact b2.trans (below_grown hg2 (Nat.le_refl _) b2.size)
def eleven : List ByteArray := [⟨#[]⟩, ⟨#[45]⟩, ⟨#[45, 48]⟩, ⟨#[48, 48]⟩, ⟨#[48, 49]⟩, ⟨#[45, 45, 49]⟩, ⟨#[49, 120]⟩, ⟨#[57, 57, 57, 57, 57, 57]⟩, ⟨#[49, 48, 48, 48, 48, 48, 48]⟩, ⟨#[45, 57, 57, 57, 57, 57, 57]⟩, ⟨#[49, 56, 52, 52, 54, 55, 52, 52, 48, 55, 51, 55, 48, 57, 53, 53, 49, 54, 49, 55]⟩]
theorem eleven_size : ∀ x ∈ eleven, x.size ≤ 20 := by decide
set_option maxHeartbeats 1000000 in
theorem parse_draw (w : World) (ca : Option Addr) (n cc : Nat) (h : CodeIn w w.heap.size ca n) :
    Calls Tryd.prog 12 #[.slice ca n cc] w fun e w' => (∃ x : ByteArray, x.size ≤ 20 ∧ e = .returned (.string x)) ∧ Below w.heap.size w w' := by
  have h1 := Lib.hid (one_any _ w.heap.size n cc 0 ca (by omega) (reads_new (cc := cc) h) 2 (by omega) (by omega))
  have hO := Lib.hid (fun w1 (h1 : Reads w1 w.heap.size ca n cc (0 + 2)) => of_any (w1.alloc (.cells (eleven.map Value.string).toArray 9)) w.heap.size n cc (0 + 2) ca (by omega) (reads_alloc h1 _) w1.heap.size 11 11 eleven rfl (by omega) (by omega) (by have := reads_lt h1; omega) (list_cells w1 eleven 9))
  have hP := Lib.hid (fun w1 (h1 : Reads w1 w.heap.size ca n cc (0 + 2)) => pick_any w1 w.heap.size n cc (0 + 2) ca (by omega) h1 2000 (by omega) (by omega))
  clear h
  go_enter Tryd.func12, Tryd.ntmps12
  go_wp2_with fail
  refine h1.out.mono ?_
  rintro e w1 ⟨⟨b, rfl⟩, hr, hg⟩
  have hR := Lib.hid hr
  have b1 : Below w.heap.size w w1 := ((Below.refl _ w).alloc (Nat.le_refl _) _).trans (below_grown hg (Nat.le_refl _) (by simp))
  clear hr hg
  cases b with
  | true =>
    go_wp2_with fail
    refine (hO.out w1 hR.out).mono ?_
    rintro e w2 ⟨⟨x, hx, rfl⟩, hr2, hg2⟩
    have hs := eleven_size x hx
    go_wp2
    go_ret
    refine ⟨⟨x, hs, rfl⟩, ?_⟩
    have b2 : Below w.heap.size w (w1.alloc (.cells (eleven.map Value.string).toArray 9)) := b1.alloc b1.size _
    exact b2.trans (below_grown hg2 (Nat.le_refl _) b2.size)
  | false =>
    go_wp2_with fail
    refine (hP.out w1 hR.out).mono ?_
    rintro e w2 ⟨⟨z, z0, z1, rfl⟩, hr2, hg2⟩
    have hlen := itoa_len (z - 1000) (by omega) (by omega)
    go_wp2_with (go_at_call 25; refine (num_any _ (by omega) (by omega) _).mono ?_; rintro e w3 ⟨rfl, q, rfl⟩)
    go_ret
    refine ⟨⟨⟨(Lib.itoa (z - 1000)).toArray⟩, by show (Lib.itoa (z - 1000)).toArray.size ≤ 20; simp; omega, rfl⟩, ?_⟩
    have b2 := b1.trans (below_grown hg2 (Nat.le_refl _) b1.size)
    exact b2.trans ((below_drewN _ _).mono b2.size)
set_option maxHeartbeats 1000000 in
theorem app_draw (w : World) (ca : Option Addr) (n cc : Nat) (h : CodeIn w w.heap.size ca n) :
    Calls Tryd.prog 15 #[.slice ca n cc] w fun e w' => (∃ x : ByteArray, x.size ≤ 4010 ∧ e = .returned (.string x)) ∧ Below w.heap.size w w' := by
  obtain ⟨j0, hj, hy0, hy1, hy2⟩ := info_parts info5
  have h1 := Lib.hid (one_any _ w.heap.size n cc 0 ca (by omega) (reads_new (cc := cc) h) 20 (by omega) (by omega))
  have hA := Lib.hid (fun w1 (h1 : Reads w1 w.heap.size ca n cc (0 + 2)) => any1_any w1 w.heap.size n cc (0 + 2) ca (by omega) h1)
  have hP := Lib.hid (fun w1 (h1 : Reads w1 w.heap.size ca n cc (0 + 2)) => pick_any w1 w.heap.size n cc (0 + 2) ca (by omega) h1 10 (by omega) (by omega))
  clear h
  go_enter Tryd.func15, Tryd.ntmps15
  go_wp2_with fail
  refine h1.out.mono ?_
  rintro e w1 ⟨⟨b, rfl⟩, hr, hg⟩
  have hR := Lib.hid hr
  have b1 : Below w.heap.size w w1 := ((Below.refl _ w).alloc (Nat.le_refl _) _).trans (below_grown hg (Nat.le_refl _) (by simp))
  clear hr hg
  cases b with
  | false =>
    go_wp2_with fail
    refine (hA.out w1 hR.out).mono ?_
    rintro e w2 ⟨⟨x, hx, rfl⟩, hr2, hg2⟩
    go_wp2
    go_ret
    exact ⟨⟨x, by omega, rfl⟩, b1.trans (below_grown hg2 (Nat.le_refl _) b1.size)⟩
  | true =>
    go_wp2_with fail
    refine (hP.out w1 hR.out).mono ?_
    rintro e w2 ⟨⟨z, z0, z1, rfl⟩, hr2, hg2⟩
    have b2 := Lib.hid (b1.trans (below_grown hg2 (Nat.le_refl _) b1.size))
    have s2 : w.heap.size ≤ w2.heap.size := b2.out.size
    obtain ⟨N, hN⟩ : ∃ N : Nat, 3990 + z = (N : Int) := ⟨(3990 + z).toNat, by omega⟩
    have n1 : N ≤ 4000 := by omega
    have hNN := Lib.hid hN
    have hM : Hid ((madeCells (Value.int .u8 0).cells (N * 1)).toList = List.replicate N (Value.int .u8 0)) := Lib.hid (by rw [Nat.mul_one]; exact toList_madeCells_one (.int .u8 0) N)
    clear hr2 hg2 hN
    go_wp2_with (at_make; refine wpList_make_full _ rfl _ _ 22 rfl w.heap.size 5 j0 (.int .u8 0) 1 Tryd.underlying22 hj hy0 hy1 .i64 .i64 (3990 + z) (3990 + z) N rfl rfl hNN.out hNN.out (by rw [hy2]; omega) (by unfold maxLen; omega) s2 ?_; intro w6 hown6 hgrow6; rw [hM.out] at hown6; obtain ⟨S, hS, hrun⟩ := zeros w6 _ _ N hown6)
    go_ret
    exact ⟨⟨S, by omega, rfl⟩, b2.out.grown hgrow6 s2 (by simp)⟩
set_option maxHeartbeats 1000000 in
theorem at_any (w : World) (ca : Option Addr) (n cc bc : Nat) (i : Int) (hi : 0 ≤ i) (hi2 : i ≤ 100) (h : CodeIn w bc ca n) :
    Calls Tryd.prog 19 #[.slice ca n cc, .int .i64 i] w fun e w' => (∃ z : Int, 0 ≤ z ∧ z ≤ 255 ∧ e = .returned (.int .i64 z)) ∧ w = w' := by
  have hn := h.1
  by_cases hk : i < (n : Int)
  · rcases h.2 with h0 | ⟨b, off, rfl, hb, hc⟩
    · omega
    · obtain ⟨j, rfl⟩ := Int.eq_ofNat_of_zero_le hi
      obtain ⟨z, z0, z1, hz⟩ := hc j (by omega)
      clear h hc
      go_enter Tryd.func19, Tryd.ntmps19
      go_wp2
      go_ret
      exact ⟨⟨z, z0, z1, rfl⟩, rfl⟩
  · clear h
    go_enter Tryd.func19, Tryd.ntmps19
    go_wp2
    go_ret
    exact ⟨⟨_, by omega, by omega, rfl⟩, rfl⟩
end Go.Proofs.YtlcgfohljkcngaaDoor.Draw
