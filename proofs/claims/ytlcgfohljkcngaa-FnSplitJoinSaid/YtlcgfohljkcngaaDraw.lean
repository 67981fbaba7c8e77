/- What the draws of the law on splitting and joining return: short texts, and at most four texts of at most 5000 bytes in all, for at most 65536 bytes of choices; nothing that was there is written. -/
import Derived.Test.YtlcgfohljkcngaaCur
import Derived.Test.YtlcgfohljkcngaaJoinPlain
import Derived.Laws.BytesString
import Derived.OwnWalk
import Derived.Laws.OwnMore
namespace Go.Proofs.Ytlcgfohljkcngaa.Draw
open Go.ChangeShapes Go.WideShapes Go.ChangeAt Go.RowKit
open Cur JoinPlain
/-- The bytes that came in, below a block. -/
theorem reads_new {w : World} {ca : Option Addr} {n cc : Nat} (h : CodeIn w w.heap.size ca n) : Reads (w.alloc (.cells #[.slice ca n cc, .int .i64 0, .int .u64 0] 44)) w.heap.size ca n cc 0 := by
  refine ⟨0, 0, Nat.le_refl _, by omega, by omega, heap_alloc_new w _, h.1, ?_⟩
  rcases h.2 with h0 | ⟨b, off, e, hb, hc⟩
  · exact .inl h0
  · refine .inr ⟨b, off, e, hb, fun j hj => ?_⟩
    obtain ⟨z, z0, z1, hz⟩ := hc j hj
    exact ⟨z, z0, z1, (World.cell?_of_block (a := ⟨b, off + j, none⟩) (Below.heap_alloc w _ b hb)).trans hz⟩
theorem below_grown {w w' : World} {bc B : Nat} (h : w.grownBy w' (some bc)) (hB : B ≤ bc) (hw : B ≤ w.heap.size) : Below B w w' :=
  (Below.refl B w).grown h hw (fun k e => by cases e; exact hB)
set_option maxHeartbeats 1000000 in
theorem less_draw (w : World) (ca : Option Addr) (n cc : Nat) (h : CodeIn w w.heap.size ca n) :
    Calls Try.prog 14 #[.slice ca n cc] w fun e w' => (∃ x y : ByteArray, x.size ≤ 10 ∧ y.size ≤ 10 ∧ e = .returned (.tuple #[.string x, .string y])) ∧ Below w.heap.size w w' := by
  have hA := Lib.hid (any1_any _ w.heap.size n cc 0 ca (by omega) (reads_new (cc := cc) h))
  have hA2 := Lib.hid (fun w1 (h1 : Reads w1 w.heap.size ca n cc (0 + 2)) => any1_any w1 w.heap.size n cc (0 + 2) ca (by omega) h1)
  clear h
  go_enter Try.func14, Try.ntmps14
  go_wp2_with fail
  refine hA.out.mono ?_
  rintro e w1 ⟨⟨x, hx, rfl⟩, hr, hg⟩
  have hR := Lib.hid hr
  clear hr
  go_wp2_with fail
  refine (hA2.out _ hR.out).mono ?_
  rintro e w2 ⟨⟨y, hy, rfl⟩, hr2, hg2⟩
  go_wp2
  go_ret2
  refine ⟨⟨x, y, hx, hy, rfl⟩, ?_⟩
  have b1 : Below w.heap.size w w1 := ((Below.refl _ w).alloc (Nat.le_refl _) _).trans (below_grown hg (Nat.le_refl _) (by simp))
  exact b1.trans (below_grown hg2 (Nat.le_refl _) b1.size)
def five1 : List ByteArray := [⟨#[44]⟩, ⟨#[44]⟩, ⟨#[32]⟩, ⟨#[]⟩, ⟨#[44, 44]⟩]
theorem five1_size : ∀ x ∈ five1, x.size ≤ 2 := by decide
def five2 : List ByteArray := [⟨#[44]⟩, ⟨#[59]⟩, ⟨#[59]⟩, ⟨#[]⟩, ⟨#[97, 98]⟩]
theorem five2_size : ∀ x ∈ five2, x.size ≤ 2 := by decide
theorem reads_lt {w : World} {bc n cc m : Nat} {ca : Option Addr} (h : Reads w bc ca n cc m) : bc < w.heap.size := by
  obtain ⟨k, sd, _, _, _, hb, _⟩ := h; exact (Array.getElem?_eq_some_iff.1 hb).1
set_option maxHeartbeats 1000000 in
theorem split_draw (w : World) (ca : Option Addr) (n cc : Nat) (h : CodeIn w w.heap.size ca n) :
    Calls Try.prog 9 #[.slice ca n cc] w fun e w' => (∃ x y : ByteArray, x.size ≤ 10 ∧ y.size ≤ 2 ∧ e = .returned (.tuple #[.string x, .string y])) ∧ Below w.heap.size w w' := by
  have hA := Lib.hid (any1_any _ w.heap.size n cc 0 ca (by omega) (reads_new (cc := cc) h))
  have hO := Lib.hid (fun w1 (h1 : Reads w1 w.heap.size ca n cc (0 + 2)) => of_any (w1.alloc (.cells (five1.map Value.string).toArray 9)) w.heap.size n cc (0 + 2) ca (by omega) (reads_alloc h1 _) w1.heap.size 5 5 five1 rfl (by omega) (by omega) (by have := reads_lt h1; omega) (list_cells w1 five1 9))
  clear h
  go_enter Try.func9, Try.ntmps9
  go_wp2_with fail
  refine hA.out.mono ?_
  rintro e w1 ⟨⟨x, hx, rfl⟩, hr, hg⟩
  have hR := Lib.hid hr
  clear hr
  go_wp2_with fail
  refine (hO.out _ hR.out).mono ?_
  rintro e w2 ⟨⟨y, hy, rfl⟩, hr2, hg2⟩
  have hys := five1_size y hy
  go_wp2
  go_ret2
  refine ⟨⟨x, y, hx, hys, rfl⟩, ?_⟩
  have b1 : Below w.heap.size w w1 := ((Below.refl _ w).alloc (Nat.le_refl _) _).trans (below_grown hg (Nat.le_refl _) (by simp))
  have b2 : Below w.heap.size w (w1.alloc (.cells (five1.map Value.string).toArray 9)) := b1.alloc b1.size _
  exact b2.trans (below_grown hg2 (Nat.le_refl _) b2.size)
theorem info9 : (Try.prog.info? 9).map (fun i => (i.zero, i.size, i.bytes)) = some (some (.string ByteArray.empty), 1, 16) := by kernel_rfl
theorem info5 : (Try.prog.info? 5).map (fun i => (i.zero, i.size, i.bytes)) = some (some (.int .u8 0), 1, 1) := by kernel_rfl
theorem push_size (ns : List Int) : ∀ s : ByteArray, (ns.foldl (fun r n => r.push (UInt8.ofNat n.toNat)) s).size = s.size + ns.length := by
  induction ns with
  | nil => intro s; simp
  | cons a r ih => intro s; rw [List.foldl_cons, ih]; simp; omega
theorem zeros (w : World) (B g n : Nat) (h : w.ownsRow B 5 1 (.slice (some ⟨g, 0, none⟩) n n) n (List.replicate n (Value.int .u8 0))) :
    ∃ S : ByteArray, S.size = n ∧ (convert 22 9 (.slice (some ⟨g, 0, none⟩) n n)).run Try.prog w = .ok (.string S) w := by
  refine ⟨(List.replicate n (0 : Int)).foldl (fun r n => r.push (UInt8.ofNat n.toNat)) ByteArray.empty, by rw [push_size]; simp, ?_⟩
  rw [run_convert_bytes_string _ 22 9 5 _ n n Try.underlying22 Try.underlying5 Try.underlying9]
  refine run_bytesToString _ ⟨g, 0, none⟩ n n (List.replicate n 0) ?_
  have hl := run_loadCells_list (P := Try.prog) (w := w) ⟨g, 0, none⟩ ((List.replicate n (0 : Int)).map (Value.int .u8)) (fun j v hv => by
    have := h.cells (g := g) rfl j v (by simpa using hv)
    exact this)
  simpa using hl
/-- What the drawn texts are good for. -/
def Texts (w : World) (B : Nat) (v : Value) (xs : List ByteArray) : Prop := w.ownsRow B 9 1 v xs.length (xs.map Value.string) ∧ xs.length ≤ 4 ∧ tot xs ≤ 5000
theorem rel_app {B : Nat} {w wr w1 : World} {v v' : Value} {xs : List ByteArray} {x : ByteArray} (hbel : Below w.heap.size w wr) (hB : w.heap.size ≤ B) (hBr : B ≤ wr.heap.size) (hlt : ∀ k, v.ownBlock = some k → B ≤ k)
    (hown : w1.ownsRow B 9 1 v' (xs.length + 1) (xs.map Value.string ++ [.string x])) (hg : (wr.alloc (.cells #[.string x] 9)).grownBy w1 v.ownBlock) :
    w1.ownsRow B 9 1 v' (xs ++ [x]).length ((xs ++ [x]).map Value.string) ∧ Below w.heap.size w w1 := by
  refine ⟨by simpa using hown, ?_⟩
  exact (hbel.alloc hbel.size _).grown hg (by simp; omega) (fun k e => by have := hlt k e; omega)
theorem reads_kept {w w' : World} {bc n cc m : Nat} {ca : Option Addr} {row : Option Nat} (h : Reads w bc ca n cc m) (hg : w.grownBy w' row) (hr : ∀ k, row = some k → bc < k) : Reads w' bc ca n cc m := by
  obtain ⟨k, sd, hk, s0, s1, hb, hc⟩ := h
  have hlt : bc < w.heap.size := (Array.getElem?_eq_some_iff.1 hb).1
  refine ⟨k, sd, hk, s0, s1, (hg.block bc hlt (fun e => by have := hr bc e.symm; omega)).trans hb, hc.1, ?_⟩
  rcases hc.2 with h0 | ⟨b, off, e, hbb, hcs⟩
  · exact .inl h0
  · refine .inr ⟨b, off, e, hbb, fun j hj => ?_⟩
    obtain ⟨z, z0, z1, hz⟩ := hcs j hj
    exact ⟨z, z0, z1, (World.cell?_of_block (a := ⟨b, off + j, none⟩) (hg.block b (by omega) (fun e => by have := hr b e.symm; omega))).trans hz⟩
theorem own_other {w w' : World} {B bc n : Nat} {v : Value} {xs : List Value} (h : w.ownsRow B 9 1 v n xs) (hg : w.grownBy w' (some bc)) (hb : bc < B) : w'.ownsRow B 9 1 v n xs :=
  h.kept hg (by
    cases hv : v.ownBlock with
    | none => exact .inl rfl
    | some k => exact .inr (fun e => by have h1 := (h.lt k hv).1; rw [Option.some.injEq] at e; omega))
theorem own_grown_none {w w' : World} {B n : Nat} {v : Value} {xs : List Value} (h : w.ownsRow B 9 1 v n xs) (hg : w.grownBy w' none) : w'.ownsRow B 9 1 v n xs :=
  h.kept hg (by cases hv : v.ownBlock <;> simp)
theorem one_new (w : World) (v : Value) (t : TypeId) : ∀ j u, [v][j]? = some u → (w.alloc (.cells #[v] t)).cell? ((⟨w.heap.size, 0, none⟩ : Addr).add j) = some u := by
  intro j u hj
  match j, hj with
  | 0, hj => simp at hj; subst hj; simp [Addr.add]
def Drawn (w : World) (B : Nat) (e : Ending) (w' : World) : Prop := (∃ v xs y, y.size ≤ 2 ∧ e = .returned (.tuple #[v, .string y]) ∧ Texts w' B v xs) ∧ Below w.heap.size w w'
set_option maxHeartbeats 2000000 in
theorem join_draw (w : World) (ca : Option Addr) (n cc : Nat) (h : CodeIn w w.heap.size ca n) :
    Calls Try.prog 11 #[.slice ca n cc] w (Drawn w (w.heap.size + 1)) := by
  obtain ⟨i0, hi, hz0, hz1, hz2⟩ := info_parts info9
  obtain ⟨j0, hj, hy0, hy1, hy2⟩ := info_parts info5
  have hP := Lib.hid (fun w1 (h1 : Reads w1 w.heap.size ca n cc 0) => pick_any w1 w.heap.size n cc 0 ca (by omega) h1 4 (by omega) (by omega))
  have hA := Lib.hid (fun w1 m (hm : m ≤ 100) (h1 : Reads w1 w.heap.size ca n cc m) => any1_any w1 w.heap.size n cc m ca (by omega) h1)
  have h1 := Lib.hid (fun w1 m (hm : m ≤ 100) (h1 : Reads w1 w.heap.size ca n cc m) => one_any w1 w.heap.size n cc m ca (by omega) h1 20 (by omega) (by omega))
  have hQ := Lib.hid (fun w1 m (hm : m ≤ 100) (h1 : Reads w1 w.heap.size ca n cc m) => pick_any w1 w.heap.size n cc m ca (by omega) h1 20 (by omega) (by omega))
  have hO := Lib.hid (fun w1 m (hm : m ≤ 100) (h1 : Reads w1 w.heap.size ca n cc m) => of_any (w1.alloc (.cells (five2.map Value.string).toArray 9)) w.heap.size n cc m ca (by omega) (reads_alloc h1 _) w1.heap.size 5 5 five2 rfl (by omega) (by omega) (by have := reads_lt h1; omega) (list_cells w1 five2 9))
  have hnew := Lib.hid (reads_new (cc := cc) h)
  clear h
  go_enter Try.func11, Try.ntmps11
  go_wp2_with fail
  refine (hP.out _ (reads_alloc hnew.out _)).mono ?_
  rintro e w1 ⟨⟨q, q0, q1, rfl⟩, hr, hg⟩
  have hR := Lib.hid hr
  have b1 : Below w.heap.size w w1 := (((Below.refl _ w).alloc (Nat.le_refl _) _).alloc (by simp) _).trans (below_grown hg (Nat.le_refl _) (by simp; omega))
  have s1 : w.heap.size + 2 ≤ w1.heap.size := by have := hg.size; simp at this; omega
  have o1 : Hid (w1.ownsRow (w.heap.size + 1) 9 1 (.slice (some ⟨w.heap.size + 1, 0, none⟩) 0 0) 0 []) := Lib.hid (by
    have h0 := World.ownsRow_made (base := w.heap.size + 1) (e := 9) (size := 1) (w.alloc (.cells #[.slice ca n cc, .int .i64 0, .int .u64 0] 44)) #[] 0 (by simp) (Nat.zero_le _) rfl
    rw [World.size_alloc] at h0
    exact own_other h0 hg (by omega))
  clear hr hg
  go_wp2_with fail
  go_loopw [5, 7] (fun v i wr => ∃ (k : Nat) (xs : List ByteArray), k ≤ 3 ∧ (k : Int) ≤ q ∧ i = .int .i64 k ∧ Hid (xs.length = k) ∧ Hid (tot xs ≤ 10 * k) ∧ Hid (wr.ownsRow (w.heap.size + 1) 9 1 v xs.length (xs.map Value.string)) ∧ Hid (Reads wr w.heap.size ca n cc (2 + 2 * k)) ∧ Hid (Below w.heap.size w wr) ∧ w.heap.size + 2 ≤ wr.heap.size) (fun _ i _ => (q - intOf i).toNat)
  case atStart => exact ⟨0, [], by omega, by omega, rfl, rfl, by simp [Hid, tot], o1.out, hR.out, b1, s1⟩
  case round =>
    obtain ⟨k, xs, hk, hkq, rfl, hlen, htot, hown, hr, hb, hs⟩ := hrel
    by_cases hlt : (k : Int) < q
    · go_wp2_with fail
      refine (hA.out wr (2 + 2 * k) (by omega) hr.out).mono ?_
      rintro e w2 ⟨⟨x, hx, rfl⟩, hr2, hg2⟩
      have o2 := own_other hown.out hg2 (by omega)
      have l2 := Lib.hid o2.lt
      have R2 := Lib.hid hr2
      have b2 := Lib.hid (hb.out.trans (below_grown hg2 (Nat.le_refl _) (by omega)))
      have s2 : w.heap.size + 2 ≤ w2.heap.size := by have := hg2.size; omega
      have hl3 : xs.length ≤ 3 := by rw [hlen.out]; exact hk
      clear hr2 hg2
      go_wp2_with (at_builtin; refine wpList_append_own _ rfl _ _ 26 rfl (w.heap.size + 1) 9 i0 (.string ByteArray.empty) 1 16 Try.underlying26 hi hz0 hz1 hz2 rfl (by decide) _ _ _ rfl (o2.alloc _) ⟨w2.heap.size, 0, none⟩ 1 1 [.string x] rfl rfl ?c1 ?c2 ?c3 ?c4 ?c5 ?_)
      case c1 =>
        intro j u hj
        match j, hj with
        | 0, hj => simp at hj; subst hj; simp [Addr.add]
      case c2 => intro u hu; simp at hu; subst hu; rfl
      case c3 => unfold maxLen; omega
      case c4 => omega
      case c5 => simp; omega
      · intro v' w3 hown' hgrow _
        have A3 := Lib.hid (rel_app b2.out (by omega) (by omega) (fun k e => (l2.out k e).1) hown' hgrow)
        have R3 := Lib.hid (reads_kept (reads_alloc R2.out (.cells #[.string x] 9)) hgrow (fun k e => by have := (l2.out k e).1; omega))
        have s3 : w.heap.size + 2 ≤ w3.heap.size := by have := hgrow.size; simp at this; omega
        have t3 : Hid (tot (xs ++ [x]) ≤ 10 * (k + 1)) := Lib.hid (by rw [tot_snoc]; have := htot.out; omega)
        have n3 : Hid ((xs ++ [x]).length = k + 1) := Lib.hid (by rw [List.length_append, hlen.out]; rfl)
        clear hown' hgrow o2
        go_wp2
        go_roundw
        case rel => exact ⟨k + 1, xs ++ [x], by omega, by omega, by go_num, n3, t3, A3.out.1, by have := R3.out; exact this, A3.out.2, s3⟩
        case measure => simp [intOf]; omega
    · go_wp2_with fail
      refine (h1.out wr (2 + 2 * k) (by omega) hr.out).mono ?_
      rintro e w4 ⟨⟨b, rfl⟩, hr4, hg4⟩
      have o4 := own_other hown.out hg4 (by omega)
      have R4 := Lib.hid hr4
      have b4 := Lib.hid (hb.out.trans (below_grown hg4 (Nat.le_refl _) (by omega)))
      have s4 : w.heap.size + 2 ≤ w4.heap.size := by have := hg4.size; omega
      have hl4 : xs.length ≤ 3 := by rw [hlen.out]; exact hk
      have ht4 : Hid (tot xs ≤ 30) := Lib.hid (by have := htot.out; omega)
      clear hr4 hg4
      cases b with
      | false =>
        have O4 := Lib.hid o4
        clear o4
        go_wp2_with fail
        refine (hO.out w4 _ (by omega) R4.out).mono ?_
        rintro e w5 ⟨⟨y, hy, rfl⟩, hr5, hg5⟩
        have hys := five2_size y hy
        go_wp2
        refine bodyPost_ret (v := .tuple #[u5, .string y]) (by simp [results, Try.results11, go_sem]) rfl ⟨⟨u5, xs, y, hys, rfl, ?_, by omega, by have := ht4.out; omega⟩, ?_⟩
        · exact own_other (O4.out.alloc _) hg5 (by omega)
        · exact (b4.out.alloc b4.out.size _).trans (below_grown hg5 (Nat.le_refl _) (by simp; omega))
      | true =>
        go_wp2_with fail
        refine (hQ.out w4 _ (by omega) R4.out).mono ?_
        rintro e w5 ⟨⟨z, z0, z1, rfl⟩, hr5, hg5⟩
        have o5 := own_other o4 hg5 (by omega)
        have l5 := Lib.hid o5.lt
        have O5 := Lib.hid o5
        have R5 := Lib.hid hr5
        have b5 := Lib.hid (b4.out.trans (below_grown hg5 (Nat.le_refl _) (by omega)))
        have s5 : w.heap.size + 2 ≤ w5.heap.size := by have := hg5.size; omega
        obtain ⟨N, hN⟩ : ∃ N : Nat, 3990 + z = (N : Int) := ⟨(3990 + z).toNat, by omega⟩
        have n1 : N ≤ 4010 := by omega
        have hNN := Lib.hid hN
        clear o5 o4 hr5 hg5 hN
        have hM : Hid ((madeCells (Value.int .u8 0).cells (N * 1)).toList = List.replicate N (Value.int .u8 0)) := Lib.hid (by rw [Nat.mul_one]; exact toList_madeCells_one (.int .u8 0) N)
        go_wp2_with (first | (at_make; refine wpList_make_full _ rfl _ _ 22 rfl (w.heap.size + 1) 5 j0 (.int .u8 0) 1 Try.underlying22 hj hy0 hy1 .i64 .i64 (3990 + z) (3990 + z) N rfl rfl hNN.out hNN.out (by rw [hy2]; omega) (by unfold maxLen; omega) (by omega) ?_; intro w6 hown6 hgrow6; rw [hM.out] at hown6; obtain ⟨S, hS, hrun⟩ := zeros w6 _ _ N hown6; have hsz6 := hgrow6.size; have O6 := Lib.hid (own_grown_none O5.out hgrow6); have l6 := Lib.hid O6.out.lt; have R6 := Lib.hid (reads_kept R5.out hgrow6 (fun k e => by cases e)); have b6 := Lib.hid (b5.out.grown hgrow6 b5.out.size (by simp)); have s6 : w.heap.size + 2 ≤ w6.heap.size := (by omega); clear hgrow6 hown6) | (at_builtin; refine wpList_append_own _ rfl _ _ 26 rfl (w.heap.size + 1) 9 i0 (.string ByteArray.empty) 1 16 Try.underlying26 hi hz0 hz1 hz2 rfl (by decide) _ _ _ rfl (O6.out.alloc _) ⟨w6.heap.size, 0, none⟩ 1 1 [.string S] rfl rfl (one_new w6 (.string S) 9) (by simp [Value.oneCell']) (by unfold maxLen; omega) (by omega) (by simp; omega) ?_; intro v' w7 hown' hgrow _; have A7 := Lib.hid (rel_app b6.out (by omega) (by omega) (fun k e => (l6.out k e).1) hown' hgrow); have R7 := Lib.hid (reads_kept (reads_alloc R6.out (.cells #[.string S] 9)) hgrow (fun k e => by have := (l6.out k e).1; omega)); have s7 : w.heap.size + 2 ≤ w7.heap.size := (by have := hgrow.size; simp at this; omega); have g7 := Lib.hid hgrow; clear hown' hgrow) | fail)
        · have t7 : Hid (tot (xs ++ [S]) ≤ 5000) := Lib.hid (by rw [tot_snoc]; have := ht4.out; omega)
          have n7 : Hid ((xs ++ [S]).length ≤ 4) := Lib.hid (by rw [List.length_append]; simp; omega)
          refine (hO.out w7 _ (by omega) R7.out).mono ?_
          rintro e w8 ⟨⟨y, hy, rfl⟩, hr8, hg8⟩
          have hys := five2_size y hy
          go_wp2
          refine bodyPost_ret (v := .tuple #[v', .string y]) (by simp [results, Try.results11, go_sem]) rfl ⟨⟨v', xs ++ [S], y, hys, rfl, ?_, n7.out, t7.out⟩, ?_⟩
          · exact own_other (A7.out.1.alloc _) hg8 (by omega)
          · exact (A7.out.2.alloc A7.out.2.size _).trans (below_grown hg8 (Nat.le_refl _) (by simp; omega))
end Go.Proofs.Ytlcgfohljkcngaa.Draw
