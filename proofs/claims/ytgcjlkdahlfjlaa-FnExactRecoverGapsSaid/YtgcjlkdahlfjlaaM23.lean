/- Pip Pil DepP Pid Pfn Ipl, in one text. -/
import Derived.Test.YtgcjlkdahlfjlaaM20
import Derived.Test.YtgcjlkdahlfjlaaM14
set_option linter.unusedVariables false
set_option linter.unusedSimpArgs false
/- The program's reading of a run's panics as pure functions, and that it goes with the model's. -/
namespace Go.Proofs.Ytgcjlkdahlfjlaa.PL

abbrev Rz := Int × Int × Int × Int × Int
def rz0 : Rz := (0, 0, 0, 0, 0)
structure Fo where
 fate : Int
 replacer : Int
 replaced : Int
 unwound : List Int
def fo (x : PF) : Fo := ⟨x.fate, x.rep, x.bef, x.by_⟩
structure IS where
 pans : List Rz
 forts : List Fo
 on : List Rz
 rec_ : List (Int × Int)
def rzOf (pan : List PF) (k : Nat) : Rz := match pan[k]? with
 | some x => (5, x.f, x.v, k, x.call)
 | none => rz0
def rzE (pan : List PF) (o : Option Nat) : Rz := match o with
 | some k => rzOf pan k
 | none => rz0
theorem rzOf_some {pan : List PF} {k : Nat} {x : PF} (h : pan[k]? = some x) : rzOf pan k = (5, x.f, x.v, (k : Int), (x.call : Int)) := by unfold rzOf; rw [h]
theorem rzOf_upd {l : List PF} {q : Nat} {g : PF → PF} (hf : ∀ x, (g x).f = x.f) (hv : ∀ x, (g x).v = x.v) (hc : ∀ x, (g x).call = x.call) (k : Nat) : rzOf (upd l q g) k = rzOf l k := by
 unfold rzOf
 cases h : l[k]? with
 | none =>
  have : (upd l q g)[k]? = none := by
   rw [List.getElem?_eq_none_iff] at h ⊢
   rw [upd_len]
   exact h
  rw [this]
 | some x =>
  rw [upd_at h]
  dsimp only
  split
  ·rw [hf, hv, hc]
  ·rfl
theorem rzE_upd {l : List PF} {q : Nat} {g : PF → PF} (hf : ∀ x, (g x).f = x.f) (hv : ∀ x, (g x).v = x.v) (hc : ∀ x, (g x).call = x.call) (o : Option Nat) : rzE (upd l q g) o = rzE l o := by
 cases o with
 | none => rfl
 | some k => exact rzOf_upd hf hv hc k
theorem rzOf_app {l : List PF} {x : PF} {k : Nat} (h : k < l.length) : rzOf (l ++ [x]) k = rzOf l k := by
 unfold rzOf
 rw [List.getElem?_append_left h]
theorem rzOf_ne {l : List PF} {k : Nat} (h : k < l.length) : rzOf l k ≠ rz0 := by
 rw [rzOf_some (List.getElem?_eq_getElem h)]
 unfold rz0
 intro e
 have := congrArg Prod.fst e
 simp at this
structure Sim (M : Nat) (s : MS) (i : IS) : Prop where
 plen : i.pans.length = s.pan.length
 pans : ∀ k, k < s.pan.length → i.pans[k]? = some (rzOf s.pan k)
 forts : i.forts = s.pan.map fo
 olen : i.on.length = M
 on : ∀ a ∈ s.stk, i.on[a.no]? = some (rzE s.pan a.on)
 fresh : ∀ c, s.next ≤ c → c < M → i.on[c]? = some rz0
 rec_ : i.rec_.map Prod.fst = s.rcv.map Prod.fst
theorem sim0 (M : Nat) : Sim M ms0 ⟨[], [], List.replicate M rz0, []⟩ :=
 ⟨rfl, fun k h => absurd h (Nat.not_lt_zero _), rfl, List.length_replicate, fun a h => (by cases h), fun c _ h => by rw [List.getElem?_replicate, if_pos h], rfl⟩
def settleP (i : IS) (c : Nat) (n : Int) : IS := match i.on[c]? with
 | some z => if z = rz0 then i else ⟨i.pans, (match i.forts[z.2.2.2.1.toNat]? with
   | some y => i.forts.set z.2.2.2.1.toNat { y with fate := n }
   | none => i.forts), i.on.set c rz0, i.rec_⟩
 | none => i
theorem settle_none {M : Nat} {s : MS} {i : IS} {c : Nat} {n : Int} (h : i.on[c]? = some rz0) : settleP i c n = i := by
 unfold settleP
 rw [h]
 exact if_pos rfl
theorem map_set' {l : List PF} {k : Nat} {x : PF} {g : PF → PF} (h : l[k]? = some x) : (upd l k g).map fo = (l.map fo).set k (fo (g x)) := by
 rw [upd_some _ h, List.map_set]
theorem settle_some {pan : List PF} {i : IS} {c k : Nat} {n : Int} (hf : i.forts = pan.map fo) (hk : k < pan.length) (h : i.on[c]? = some (rzOf pan k)) :
  settleP i c n = ⟨i.pans, (upd pan k (fun x => setFate x n)).map fo, i.on.set c rz0, i.rec_⟩ := by
 unfold settleP
 rw [h]
 dsimp only
 rw [if_neg (rzOf_ne hk)]
 have hx := List.getElem?_eq_getElem hk
 rw [rzOf_some hx]
 dsimp only
 rw [Int.toNat_natCast, hf, List.getElem?_map, hx]
 dsimp only [Option.map_some]
 rw [map_set' hx]
 rfl
theorem sim_settle {M k : Nat} {next : Nat} {pan : List PF} {rcv : List (Int × Int)} {S O : List Ent} {b : Ent} {i : IS} {n : Int} (h : Sim M ⟨S ++ b :: O, next, pan, rcv⟩ i) (hb : b.on = some k) (hk : k < pan.length) (hn : b.no < next) (hd : ∀ a ∈ S ++ O, a.no ≠ b.no) :
  Sim M ⟨S ++ ⟨b.no, b.dfr, none⟩ :: O, next, upd pan k (fun x => setFate x n), rcv⟩ (settleP i b.no n) := by
 have hbn : i.on[b.no]? = some (rzOf pan k) := by
  have := h.on b (by simp)
  rw [hb] at this
  exact this
 rw [settle_some h.forts hk hbn]
 have hlt : b.no < i.on.length := (List.getElem?_eq_some_iff.1 hbn).1
 refine ⟨by show _ = (upd pan k _).length; rw [upd_len]; exact h.plen, fun q hq => ?_, rfl, by rw [List.length_set]; exact h.olen, fun a ha => ?_, fun c hc hcm => ?_, h.rec_⟩
 ·dsimp only at hq ⊢
  rw [upd_len] at hq
  rw [rzOf_upd (g := fun x => setFate x n) (fun _ => rfl) (fun _ => rfl) (fun _ => rfl)]
  exact h.pans q hq
 ·dsimp only at ha ⊢
  rw [rzE_upd (g := fun x => setFate x n) (fun _ => rfl) (fun _ => rfl) (fun _ => rfl)]
  rw [List.mem_append, List.mem_cons] at ha
  have key : ∀ a ∈ S ++ O, (i.on.set b.no rz0)[a.no]? = some (rzE pan a.on) := fun a ha => by
   rw [List.getElem?_set_ne (Ne.symm (hd a ha))]
   refine h.on a ?_
   rw [List.mem_append] at ha
   show a ∈ S ++ b :: O
   rw [List.mem_append, List.mem_cons]
   exact ha.elim .inl (fun x => .inr (.inr x))
  rcases ha with ha | rfl | ha
  ·exact key a (List.mem_append.2 (.inl ha))
  ·exact List.getElem?_set_self hlt
  ·exact key a (List.mem_append.2 (.inr ha))
 ·dsimp only at hc
  rw [List.getElem?_set_ne (by omega)]
  exact h.fresh c hc hcm
theorem sim_begin {M next : Nat} {pan : List PF} {rcv : List (Int × Int)} {stk : List Ent} {i : IS} {dv : Bool} (h : Sim M ⟨stk, next, pan, rcv⟩ i) (hn : next < M) : Sim M ⟨⟨next, dv, none⟩ :: stk, next + 1, pan, rcv⟩ i := by
 refine ⟨h.plen, h.pans, h.forts, h.olen, fun a ha => ?_, fun c hc hcm => h.fresh c (by dsimp only at hc ⊢; omega) hcm, h.rec_⟩
 rcases List.mem_cons.1 ha with rfl | ha
 ·exact h.fresh next (Nat.le_refl _) hn
 ·exact h.on a ha
theorem sim_pop {M next : Nat} {pan : List PF} {rcv : List (Int × Int)} {a : Ent} {O : List Ent} {i : IS} (h : Sim M ⟨a :: O, next, pan, rcv⟩ i) : Sim M ⟨O, next, pan, rcv⟩ i :=
 ⟨h.plen, h.pans, h.forts, h.olen, fun b hb => h.on b (List.mem_cons_of_mem _ hb), h.fresh, h.rec_⟩
def panicP (i : IS) (c : Nat) (f v : Int) : IS := ⟨i.pans ++ [(5, f, v, (i.pans.length : Int), (c : Int))], i.forts ++ [⟨0, -1, -1, []⟩], i.on.set c (5, f, v, (i.pans.length : Int), (c : Int)), i.rec_⟩
theorem sim_panic {M next : Nat} {pan : List PF} {rcv : List (Int × Int)} {a : Ent} {O : List Ent} {i : IS} {f v : Int} (h : Sim M ⟨a :: O, next, pan, rcv⟩ i) (hn : a.no < next) (hd : ∀ b ∈ O, b.no ≠ a.no) (hon : ∀ b ∈ O, ∀ k, b.on = some k → k < pan.length) :
  Sim M ⟨⟨a.no, a.dfr, some pan.length⟩ :: O, next, pan ++ [⟨f, v, 0, a.no, O.length + 1, [], -1, -1⟩], rcv⟩ (panicP i a.no f v) := by
 have hpl : i.pans.length = pan.length := h.plen
 have hlast : rzOf (pan ++ [⟨f, v, 0, a.no, O.length + 1, [], -1, -1⟩]) pan.length = (5, f, v, (i.pans.length : Int), (a.no : Int)) := by
  rw [rzOf_some (x := ⟨f, v, 0, a.no, O.length + 1, [], -1, -1⟩) (by simp), hpl]
 have hlt : a.no < i.on.length := (List.getElem?_eq_some_iff.1 (h.on a List.mem_cons_self)).1
 refine ⟨by simp [panicP, hpl], fun k hk => ?_, by simp [panicP, h.forts, fo], by simp [panicP, h.olen], fun b hb => ?_, fun c hc hcm => ?_, h.rec_⟩
 ·dsimp only [panicP] at hk ⊢
  rw [List.length_append, List.length_singleton] at hk
  by_cases hkl : k < pan.length
  ·rw [List.getElem?_append_left (by omega), rzOf_app hkl]
   exact h.pans k hkl
  ·obtain rfl : k = pan.length := by omega
   rw [hlast, List.getElem?_append_right (by omega), hpl, Nat.sub_self]
   rfl
 ·dsimp only [panicP] at hb ⊢
  rcases List.mem_cons.1 hb with rfl | hb
  ·rw [List.getElem?_set_self hlt]
   show _ = some (rzOf _ _)
   rw [hlast]
  ·rw [List.getElem?_set_ne (Ne.symm (hd b hb))]
   have h1 := h.on b (List.mem_cons_of_mem _ hb)
   cases hbo : b.on with
   | none => rw [hbo] at h1; exact h1
   | some k =>
    rw [hbo] at h1
    show _ = some (rzOf _ _)
    rw [rzOf_app (hon b hb k hbo)]
    exact h1
 ·dsimp only [panicP] at hc ⊢
  rw [List.getElem?_set_ne (by omega)]
  exact h.fresh c hc hcm
def recoverP (i : IS) (c : Nat) (r : Int) : IS := settleP ⟨i.pans, i.forts, i.on, i.rec_ ++ [((i.on.getD c rz0).2.2.2.1, r)]⟩ c 1
theorem sim_recover {M next k : Nat} {pan : List PF} {rcv : List (Int × Int)} {a b : Ent} {S : List Ent} {i : IS} {f r : Int} (h : Sim M ⟨a :: b :: S, next, pan, rcv⟩ i) (hb : b.on = some k) (hk : k < pan.length) (hn : b.no < next) (hd : ∀ x ∈ [a] ++ S, x.no ≠ b.no) :
  Sim M ⟨a :: ⟨b.no, b.dfr, none⟩ :: S, next, upd pan k (fun x => setFate x 1), rcv ++ [((k : Int), f)]⟩ (recoverP i b.no r) := by
 have hbn : i.on[b.no]? = some (rzOf pan k) := by
  have := h.on b (by simp)
  rw [hb] at this
  exact this
 have e : (i.on.getD b.no rz0).2.2.2.1 = (k : Int) := by
  rw [List.getD_eq_getElem?_getD, hbn, rzOf_some (List.getElem?_eq_getElem hk)]
  rfl
 unfold recoverP
 rw [e]
 have h' : Sim M ⟨[a] ++ b :: S, next, pan, rcv ++ [((k : Int), f)]⟩ ⟨i.pans, i.forts, i.on, i.rec_ ++ [((k : Int), r)]⟩ := ⟨h.plen, h.pans, h.forts, h.olen, h.on, h.fresh, by show (i.rec_ ++ [((k : Int), r)]).map Prod.fst = (rcv ++ [((k : Int), f)]).map Prod.fst; rw [List.map_append, List.map_append]; have := h.rec_; dsimp only at this; rw [this]; rfl⟩
 exact sim_settle h' hb hk hn hd
theorem settle_rec (i : IS) (c : Nat) (n : Int) : (settleP i c n).rec_ = i.rec_ := by
 unfold settleP
 split
 ·split <;> rfl
 ·rfl
theorem recover_rec (i : IS) (c : Nat) (r : Int) : (recoverP i c r).rec_ = i.rec_ ++ [((i.on.getD c rz0).2.2.2.1, r)] := settle_rec _ _ _
theorem sim_exit {M next : Nat} {pan : List PF} {rcv : List (Int × Int)} {a : Ent} {O : List Ent} {i : IS} (h : Sim M ⟨a :: O, next, pan, rcv⟩ i) (hv : Val ⟨a :: O, next, pan, rcv⟩) :
  Sim M ⟨putE O none, next, fatesOf pan (onE O) 4, rcv⟩ (match O with
   | [] => i
   | b :: _ => settleP i b.no 4) := by
 cases O with
 | nil => exact sim_pop h
 | cons b S =>
  have h1 := sim_pop h
  obtain ⟨bno, bdfr, bon⟩ := b
  cases bon with
  | none =>
   dsimp only
   rw [settle_none (M := M) (s := ms0) (h1.on ⟨bno, bdfr, none⟩ List.mem_cons_self)]
   exact h1
  | some k =>
   refine sim_settle (S := []) (b := ⟨bno, bdfr, some k⟩) h1 rfl (hv.on ⟨bno, bdfr, some k⟩ (by simp) k rfl) (hv.no ⟨bno, bdfr, some k⟩ (by simp)) (fun x hx => ?_)
   have hp := (List.pairwise_cons.1 (List.pairwise_cons.1 hv.dec).2).1 x (by simpa using hx)
   dsimp only at hp ⊢
   omega
def unwindP (i : IS) (c : Nat) (out : Option Nat) (f : Int) : IS :=
 let z := i.on.getD c rz0
 let k := z.2.2.2.1.toNat
 let i1 : IS := ⟨i.pans, (match i.forts[k]? with
  | some y => i.forts.set k { y with unwound := y.unwound ++ [f] }
  | none => i.forts), i.on, i.rec_⟩
 match out with
 | none => settleP i1 c 3
 | some o =>
  let old := i1.on.getD o rz0
  let i2 := settleP i1 o 2
  let i3 : IS := if old = rz0 then i2 else ⟨i2.pans, (let q := old.2.2.2.1.toNat
   let f1 := match i2.forts[q]? with
    | some y => i2.forts.set q { y with replacer := z.2.2.2.1 }
    | none => i2.forts
   match f1[k]? with
    | some y => f1.set k { y with replaced := old.2.2.2.1 }
    | none => f1), i2.on, i2.rec_⟩
  ⟨i3.pans, i3.forts, i3.on.set o z, i3.rec_⟩
theorem sim_upd {M next k : Nat} {pan : List PF} {rcv : List (Int × Int)} {stk : List Ent} {i : IS} {g : PF → PF} (h : Sim M ⟨stk, next, pan, rcv⟩ i) (hf : ∀ x, (g x).f = x.f) (hv : ∀ x, (g x).v = x.v) (hc : ∀ x, (g x).call = x.call) :
  Sim M ⟨stk, next, upd pan k g, rcv⟩ ⟨i.pans, (upd pan k g).map fo, i.on, i.rec_⟩ := by
 refine ⟨by show _ = (upd pan k g).length; rw [upd_len]; exact h.plen, fun q hq => ?_, rfl, h.olen, fun a ha => ?_, h.fresh, h.rec_⟩
 ·dsimp only at hq ⊢
  rw [upd_len] at hq
  rw [rzOf_upd hf hv hc]
  exact h.pans q hq
 ·dsimp only at ha ⊢
  rw [rzE_upd hf hv hc]
  exact h.on a ha
theorem forts_at {pan : List PF} {k : Nat} {x : PF} {g : PF → PF} {G : Fo → Fo} (hx : pan[k]? = some x) (hG : G (fo x) = fo (g x)) : (match (pan.map fo)[k]? with
  | some y => (pan.map fo).set k (G y)
  | none => pan.map fo) = (upd pan k g).map fo := by
 rw [List.getElem?_map, hx, map_set' hx, ← hG]
 rfl
theorem sim_unwind {M next k : Nat} {pan : List PF} {rcv : List (Int × Int)} {ano : Nat} {adfr : Bool} {O : List Ent} {i : IS} {f : Int} (h : Sim M ⟨⟨ano, adfr, some k⟩ :: O, next, pan, rcv⟩ i) (hv : Val ⟨⟨ano, adfr, some k⟩ :: O, next, pan, rcv⟩) :
  Sim M ⟨putE O (some k), next, if O = [] then upd (upd pan k (fun x => addBy x f)) k (fun x => setFate x 3) else replOf (upd pan k (fun x => addBy x f)) (onE O) k, rcv⟩ (unwindP i ano (match O with
   | [] => none
   | b :: _ => some b.no) f) := by
 have hk : k < pan.length := hv.on ⟨ano, adfr, some k⟩ List.mem_cons_self k rfl
 have hx := List.getElem?_eq_getElem hk
 have hz : i.on.getD ano rz0 = rzOf pan k := by
  rw [List.getD_eq_getElem?_getD, h.on ⟨ano, adfr, some k⟩ List.mem_cons_self]
  rfl
 have hzk : (rzOf pan k).2.2.2.1 = (k : Int) := by rw [rzOf_some hx]
 have h1 : Sim M ⟨⟨ano, adfr, some k⟩ :: O, next, upd pan k (fun x => addBy x f), rcv⟩ ⟨i.pans, (upd pan k (fun x => addBy x f)).map fo, i.on, i.rec_⟩ := sim_upd (g := fun x => addBy x f) h (fun _ => rfl) (fun _ => rfl) (fun _ => rfl)
 unfold unwindP
 dsimp only
 rw [hz, hzk, Int.toNat_natCast, h.forts, forts_at (g := fun x => addBy x f) (G := fun y => { y with unwound := y.unwound ++ [f] }) hx rfl]
 have hzr : rzOf (upd pan k (fun x => addBy x f)) k = rzOf pan k := rzOf_upd (g := fun x => addBy x f) (fun _ => rfl) (fun _ => rfl) (fun _ => rfl) k
 have hkl : k < (upd pan k (fun x => addBy x f)).length := by rw [upd_len]; exact hk
 rw [← hzr]
 generalize upd pan k (fun x => addBy x f) = pan1 at *
 cases O with
 | nil =>
  rw [if_pos rfl]
  exact sim_pop (sim_settle (S := []) (b := ⟨ano, adfr, some k⟩) h1 rfl hkl (hv.no ⟨ano, adfr, some k⟩ (by simp)) (fun x hx => by cases hx))
 | cons b S =>
  rw [if_neg (List.cons_ne_nil _ _)]
  obtain ⟨bno, bdfr, bon⟩ := b
  have h2 := sim_pop h1
  have hd : ∀ x ∈ S, x.no ≠ bno := fun x hx => by
   have hp := (List.pairwise_cons.1 (List.pairwise_cons.1 hv.dec).2).1 x hx
   dsimp only at hp
   omega
  have hnx : bno < next := hv.no ⟨bno, bdfr, bon⟩ (by simp)
  have key : ∀ (pan2 : List PF) (i2 : IS) (bon2 : Option Nat), Sim M ⟨⟨bno, bdfr, bon2⟩ :: S, next, pan2, rcv⟩ i2 → rzOf pan2 k = rzOf pan1 k → Sim M ⟨⟨bno, bdfr, some k⟩ :: S, next, pan2, rcv⟩ ⟨i2.pans, i2.forts, i2.on.set bno (rzOf pan1 k), i2.rec_⟩ := fun pan2 i2 bon2 hs he => by
   have hlt : bno < i2.on.length := (List.getElem?_eq_some_iff.1 (hs.on ⟨bno, bdfr, bon2⟩ List.mem_cons_self)).1
   refine ⟨hs.plen, hs.pans, hs.forts, by rw [List.length_set]; exact hs.olen, fun c hc => ?_, fun c hc hcm => ?_, hs.rec_⟩
   ·dsimp only at hc ⊢
    rcases List.mem_cons.1 hc with rfl | hc
    ·rw [List.getElem?_set_self hlt, ← he]
     rfl
    ·rw [List.getElem?_set_ne (Ne.symm (hd c hc))]
     exact hs.on c (List.mem_cons_of_mem _ hc)
   ·dsimp only at hc ⊢
    rw [List.getElem?_set_ne (by omega)]
    exact hs.fresh c hc hcm
  have hbn := h2.on ⟨bno, bdfr, bon⟩ List.mem_cons_self
  dsimp only at hbn ⊢
  cases bon with
  | none =>
   have hbn' : i.on[bno]? = some rz0 := hbn
   have e1 : i.on.getD bno rz0 = rz0 := by rw [List.getD_eq_getElem?_getD, hbn']; rfl
   rw [settle_none (M := M) (s := ms0) (i := ⟨i.pans, pan1.map fo, i.on, i.rec_⟩) hbn', e1, if_pos rfl]
   exact key pan1 _ none h2 rfl
  | some q =>
   have hbn' : i.on[bno]? = some (rzOf pan1 q) := hbn
   have hql0 : q < pan.length := hv.on ⟨bno, bdfr, some q⟩ (by simp) q rfl
   have hql : q < pan1.length := by have := h1.plen; have := h.plen; dsimp only at *; omega
   have e1 : i.on.getD bno rz0 = rzOf pan1 q := by rw [List.getD_eq_getElem?_getD, hbn']; rfl
   have h3 := sim_settle (S := []) (b := ⟨bno, bdfr, some q⟩) (n := 2) h2 rfl hql hnx (fun x hx => hd x (by simpa using hx))
   rw [e1, if_neg (rzOf_ne hql), rzOf_some (List.getElem?_eq_getElem hql)]
   dsimp only
   rw [Int.toNat_natCast]
   have hf3 := h3.forts
   dsimp only at hf3
   rw [hf3]
   have hq2 : (upd pan1 q (fun x => setFate x 2))[q]? = some (setFate pan1[q] 2) := by rw [upd_at (List.getElem?_eq_getElem hql), if_pos rfl]
   have hzk1 : (rzOf pan1 k).2.2.2.1 = (k : Int) := by rw [hzr]; exact hzk
   rw [forts_at (g := fun x => setRep x k) (G := fun y => { y with replacer := (k : Int) }) hq2 rfl]
   obtain ⟨x3, hx3⟩ : ∃ x3, (upd (upd pan1 q (fun x => setFate x 2)) q (fun x => setRep x k))[k]? = some x3 := ⟨_, List.getElem?_eq_getElem (by rw [upd_len, upd_len]; exact hkl)⟩
   rw [forts_at (g := fun x => setBef x q) (G := fun y => { y with replaced := (q : Int) }) hx3 rfl]
   have h4 := sim_upd (k := k) (g := fun x => setBef x q) (sim_upd (k := q) (g := fun x => setRep x k) h3 (fun _ => rfl) (fun _ => rfl) (fun _ => rfl)) (fun _ => rfl) (fun _ => rfl) (fun _ => rfl)
   refine key _ _ none h4 ?_
   rw [rzOf_upd (g := fun x => setBef x q) (fun _ => rfl) (fun _ => rfl) (fun _ => rfl), rzOf_upd (g := fun x => setRep x k) (fun _ => rfl) (fun _ => rfl) (fun _ => rfl), rzOf_upd (g := fun x => setFate x 2) (fun _ => rfl) (fun _ => rfl) (fun _ => rfl)]
end Go.Proofs.Ytgcjlkdahlfjlaa.PL

/- The stack of the model's reading and the account's calls and owners. -/
namespace Go.Proofs.Ytgcjlkdahlfjlaa.PL

def topN : List Nat → Int
 | [] => -1
 | a :: _ => a
def ChnN (cs : List CI) : List Nat → Prop
 | [] => True
 | a :: O => (∃ c, cs[a]? = some c ∧ c.par = topN O) ∧ ChnN cs O
theorem ChnN.kept {a b : List CI} (hk : Kept a b) : ∀ {l : List Nat}, ChnN a l → ChnN b l
 | [], _ => trivial
 | x :: O, h => by
  obtain ⟨⟨c, h1, h2⟩, h3⟩ := h
  obtain ⟨c', k1, k2⟩ := hk x c h1
  exact ⟨⟨c', k1, by rw [k2]; exact h2⟩, ChnN.kept hk h3⟩
def nos (s : MS) : List Nat := s.stk.map Ent.no
theorem putE_nos (O : List Ent) (x : Option Nat) : (putE O x).map Ent.no = O.map Ent.no := by cases O <;> rfl
theorem nos_beg {s : MS} {e : Tr} (h : Beg e.1) : nos (md s e) = s.next :: nos s ∧ (md s e).next = s.next + 1 := by
 rw [md_beg h]
 exact ⟨rfl, rfl⟩
theorem nos_fin {s : MS} {e : Tr} (h : Fin e.1) (ho : InOrd s e) : ∃ a O, nos s = a :: O ∧ nos (md s e) = O ∧ (md s e).next = s.next := by
 rcases h with h | h | h
 ·obtain ⟨a, O, hs⟩ := ho.top (by omega)
  rw [md_7 hs h]
  exact ⟨a.no, O.map Ent.no, by unfold nos; rw [hs]; rfl, rfl, rfl⟩
 ·obtain ⟨a, O, k, hs, ha, _⟩ := ho.unw h
  rw [md_8 hs ha h]
  exact ⟨a.no, O.map Ent.no, by unfold nos; rw [hs]; rfl, putE_nos _ _, rfl⟩
 ·obtain ⟨a, O, hs, _⟩ := ho.exi h
  rw [md_9 hs h]
  exact ⟨a.no, O.map Ent.no, by unfold nos; rw [hs]; rfl, putE_nos _ _, rfl⟩
theorem nos_else {s : MS} {e : Tr} (hb : ¬ Beg e.1) (hf : ¬ Fin e.1) (ho : InOrd s e) : nos (md s e) = nos s ∧ (md s e).next = s.next := by
 unfold Beg at hb
 unfold Fin at hf
 by_cases h5 : e.1 = 5
 ·obtain ⟨a, O, hs⟩ := ho.top hb
  rw [md_5 hs h5]
  exact ⟨by unfold nos; rw [hs]; rfl, rfl⟩
 ·by_cases h6 : e.1 = 6
  ·obtain ⟨a, b, S, k, hs, hb'⟩ := ho.rec6 h6
   rw [md_6 hs hb' h6]
   exact ⟨by unfold nos; rw [hs]; rfl, rfl⟩
  ·rw [md_else hb ⟨h5, h6, by omega, by omega, by omega⟩]
   exact ⟨rfl, rfl⟩
structure Lk (T : Told) (s : MS) : Prop where
 next : s.next = T.calls.length
 now : T.now = topN (nos s)
 chn : ChnN T.calls (nos s)
theorem lk0 : Lk ⟨[], [], -1⟩ ms0 := ⟨rfl, rfl, trivial⟩
theorem lk_md {T : Told} {s : MS} {e : Tr} (h : Lk T s) (ho : InOrd s e) : Lk (td T e) (md s e) := by
 by_cases hb : Beg e.1
 ·obtain ⟨h1, h2⟩ := nos_beg (s := s) hb
  have et : td T e = ⟨T.calls ++ [⟨e.2.1, T.now, e.1 == 3, 4, 0⟩], T.owners ++ [(T.calls.length : Int)], T.calls.length⟩ := by unfold td; rw [if_pos hb]
  refine ⟨?_, ?_, ?_⟩
  ·rw [et, h2, h.next]
   simp
  ·rw [et, h1, h.next]
   rfl
  ·rw [h1, et]
   refine ⟨⟨⟨e.2.1, T.now, e.1 == 3, 4, 0⟩, by rw [h.next]; simp, h.now⟩, ?_⟩
   exact h.chn.kept (kept_append _ _)
 ·by_cases hf : Fin e.1
  ·obtain ⟨a, O, h1, h2, h3⟩ := nos_fin hf ho
   have et : td T e = ⟨closeAt T.calls T.now (endOf e.1) e.2.2, T.owners ++ [T.now], parAt T.calls T.now⟩ := by unfold td; rw [if_neg hb, if_pos hf]
   have hc := h.chn
   have hn := h.now
   rw [h1] at hc hn
   obtain ⟨⟨c, c1, c2⟩, c3⟩ := hc
   refine ⟨?_, ?_, ?_⟩
   ·rw [et, h3, h.next]
    exact (closeAt_length _ _ _ _).symm
   ·rw [et, h2]
    show parAt T.calls T.now = _
    rw [hn]
    unfold parAt topN
    rw [Int.toNat_natCast, c1]
    exact c2
   ·rw [et, h2]
    exact c3.kept (kept_close _ _ _ _)
  ·obtain ⟨h1, h2⟩ := nos_else hb hf ho
   have et : td T e = ⟨T.calls, T.owners ++ [T.now], T.now⟩ := by unfold td; rw [if_neg hb, if_neg hf]
   exact ⟨by rw [et, h2]; exact h.next, by rw [et, h1]; exact h.now, by rw [et, h1]; exact h.chn⟩
theorem lk_all {t : List Tr} (h : (pds t).2 = true) : ∀ j, j ≤ t.length → Lk (tds (t.take j)) (mds (t.take j))
 | 0, _ => lk0
 | j + 1, hj => by
  obtain ⟨e, he⟩ : ∃ e, t[j]? = some e := ⟨_, List.getElem?_eq_getElem (by omega)⟩
  rw [tds_take he, mds_take he]
  exact lk_md (lk_all h j (by omega)) (mds_ord h he)
theorem owners_lens (t : List Tr) : ∀ j, j ≤ t.length → (tds (t.take j)).owners.length = j
 | 0, _ => rfl
 | j + 1, hj => by
  obtain ⟨e, he⟩ : ∃ e, t[j]? = some e := ⟨_, List.getElem?_eq_getElem (by omega)⟩
  rw [tds_take he, td_owners, owners_lens t j (by omega)]
theorem owners_td (T : Told) (e : Tr) : (td T e).owners = T.owners ++ [if Beg e.1 then (T.calls.length : Int) else T.now] := by
 unfold td
 split
 ·rfl
 ·split <;> rfl
theorem owners_pre {t : List Tr} {j i : Nat} (hj : j < i) : ∀ d, i + d ≤ t.length → (tds (t.take (i + d))).owners[j]? = (tds (t.take i)).owners[j]?
 | 0, _ => rfl
 | d + 1, hd => by
  obtain ⟨e, he⟩ : ∃ e, t[i + d]? = some e := ⟨_, List.getElem?_eq_getElem (by omega)⟩
  rw [← Nat.add_assoc, tds_take he, owners_td, List.getElem?_append_left, owners_pre hj d (by omega)]
  rw [owners_lens t (i + d) (by omega)]
  omega
theorem owner_at {t : List Tr} (h : (pds t).2 = true) {j : Nat} {e : Tr} (he : t[j]? = some e) (hb : ¬ Beg e.1) : (tds t).owners[j]? = some (topN (nos (mds (t.take j)))) := by
 have hj : j < t.length := (List.getElem?_eq_some_iff.1 he).1
 have h1 := owners_pre (t := t) (i := j + 1) (j := j) (Nat.lt_succ_self _) (t.length - (j + 1)) (by omega)
 rw [show j + 1 + (t.length - (j + 1)) = t.length by omega, List.take_length] at h1
 rw [h1, tds_take he, owners_td, if_neg hb]
 have hl := owners_lens t j (Nat.le_of_lt hj)
 rw [List.getElem?_append_right (by omega), hl, Nat.sub_self, (lk_all h j (Nat.le_of_lt hj)).now]
 rfl
theorem par_at {t : List Tr} (h : (pds t).2 = true) {j : Nat} (hj : j ≤ t.length) {a : Nat} {O : List Nat} (hn : nos (mds (t.take j)) = a :: O) : ∃ c, (tds t).calls[a]? = some c ∧ c.par = topN O := by
 have hk := kept_le t hj
 rw [List.take_length] at hk
 have hc := (lk_all h j hj).chn.kept hk
 rw [hn] at hc
 exact hc.1
end Go.Proofs.Ytgcjlkdahlfjlaa.PL

/- How many calls stand outside each call of a run, itself included. -/
namespace Go.Proofs.Ytgcjlkdahlfjlaa.PL

def depL (cs : List CI) : Nat → List Int
 | 0 => []
 | j + 1 => match cs[j]? with
  | some c => depL cs j ++ [if c.par < 0 then 1 else (depL cs j).getD c.par.toNat 0 + 1]
  | none => depL cs j
theorem depL_next {cs : List CI} {j : Nat} {c : CI} (h : cs[j]? = some c) : depL cs (j + 1) = depL cs j ++ [if c.par < 0 then 1 else (depL cs j).getD c.par.toNat 0 + 1] := by rw [depL, h]
theorem depL_len (cs : List CI) : ∀ j, j ≤ cs.length → (depL cs j).length = j
 | 0, _ => rfl
 | j + 1, hj => by
  obtain ⟨c, hc⟩ : ∃ c, cs[j]? = some c := ⟨_, List.getElem?_eq_getElem (by omega)⟩
  rw [depL_next hc, List.length_append, List.length_singleton, depL_len cs j (by omega)]
theorem depL_bound (cs : List CI) : ∀ j, ∀ v ∈ depL cs j, 1 ≤ v ∧ v ≤ j
 | 0, v, hv => by simp [depL] at hv
 | j + 1, v, hv => by
  have ih := depL_bound cs j
  cases hc : cs[j]? with
  | none =>
   rw [depL, hc] at hv
   have := ih v hv
   omega
  | some c =>
   rw [depL_next hc] at hv
   rcases List.mem_append.1 hv with h | h
   ·have := ih v h
    omega
   ·obtain rfl := List.mem_singleton.1 h
    split
    ·omega
    ·have h2 : (depL cs j).getD c.par.toNat 0 = 0 ∨ (depL cs j).getD c.par.toNat 0 ∈ depL cs j := by
      rw [List.getD_eq_getElem?_getD]
      cases hx : (depL cs j)[c.par.toNat]? with
      | none => exact .inl rfl
      | some x => exact .inr (List.mem_of_getElem? hx)
     rcases h2 with h2 | h2
     ·omega
     ·have := ih _ h2
      omega
end Go.Proofs.Ytgcjlkdahlfjlaa.PL

/- The depths of the calls that make panics, by the model's stack and by the account's calls. -/
namespace Go.Proofs.Ytgcjlkdahlfjlaa.PL

theorem depL_pre {cs : List CI} {b i : Nat} (hb : b < i) : ∀ d, i + d ≤ cs.length → (depL cs (i + d))[b]? = (depL cs i)[b]?
 | 0, _ => rfl
 | d + 1, hd => by
  obtain ⟨c, hc⟩ : ∃ c, cs[i + d]? = some c := ⟨_, List.getElem?_eq_getElem (by omega)⟩
  rw [← Nat.add_assoc, depL_next hc, List.getElem?_append_left, depL_pre hb d (by omega)]
  rw [depL_len cs (i + d) (by omega)]
  omega
theorem depL_at {cs : List CI} {i : Nat} {c : CI} (hc : cs[i]? = some c) : (depL cs cs.length)[i]? = some (if c.par < 0 then 1 else (depL cs i).getD c.par.toNat 0 + 1) := by
 have hi : i < cs.length := (List.getElem?_eq_some_iff.1 hc).1
 have h1 := depL_pre (cs := cs) (b := i) (i := i + 1) (Nat.lt_succ_self _) (cs.length - (i + 1)) (by omega)
 rw [show i + 1 + (cs.length - (i + 1)) = cs.length by omega] at h1
 have hl := depL_len cs i (by omega)
 rw [h1, depL_next hc, List.getElem?_append_right (by omega), hl, Nat.sub_self]
 rfl
theorem dep_chain {cs : List CI} : ∀ (O : List Nat) (a : Nat), ChnN cs (a :: O) → (a :: O).Pairwise (fun a b => b < a) → (depL cs cs.length)[a]? = some ((O.length + 1 : Nat) : Int)
 | [], a, h, _ => by
  obtain ⟨⟨c, h1, h2⟩, _⟩ := h
  rw [depL_at h1, h2]
  rfl
 | b :: O, a, h, hp => by
  obtain ⟨⟨c, h1, h2⟩, h3⟩ := h
  have hd := dep_chain O b h3 (List.pairwise_cons.1 hp).2
  have hba : b < a := (List.pairwise_cons.1 hp).1 b List.mem_cons_self
  have hal : a < cs.length := (List.getElem?_eq_some_iff.1 h1).1
  have h4 := depL_pre (cs := cs) (b := b) (i := a) hba (cs.length - a) (by omega)
  rw [show a + (cs.length - a) = cs.length by omega, hd] at h4
  rw [depL_at h1, h2]
  unfold topN
  dsimp only
  rw [if_neg (by omega), Int.toNat_natCast, List.getD_eq_getElem?_getD, ← h4]
  show some (((O.length + 1 : Nat) : Int) + 1) = _
  simp
def DepOk (D : List Int) (pan : List PF) : Prop := ∀ x ∈ pan, D[x.call]? = some ((x.depth : Nat) : Int)
theorem DepOk.upd {D : List Int} {pan : List PF} {k : Nat} {g : PF → PF} (h : DepOk D pan) (hc : ∀ x, (g x).call = x.call) (hd : ∀ x, (g x).depth = x.depth) : DepOk D (upd pan k g) :=
 upd_mem (P := fun x => D[x.call]? = some ((x.depth : Nat) : Int)) h (fun x hx => by rw [hc, hd]; exact hx)
theorem DepOk.fates {D : List Int} {pan : List PF} {q : Option Nat} {n : Int} (h : DepOk D pan) : DepOk D (fatesOf pan q n) := by
 cases q with
 | none => exact h
 | some q => exact DepOk.upd (g := fun x => setFate x n) h (fun _ => rfl) (fun _ => rfl)
theorem DepOk.repl {D : List Int} {pan : List PF} {q : Option Nat} {k : Nat} (h : DepOk D pan) : DepOk D (replOf pan q k) := by
 cases q with
 | none => exact h
 | some q => exact DepOk.upd (g := fun x => setBef x q) (DepOk.upd (g := fun x => setRep x k) (DepOk.upd (g := fun x => setFate x 2) h (fun _ => rfl) (fun _ => rfl)) (fun _ => rfl) (fun _ => rfl)) (fun _ => rfl) (fun _ => rfl)
theorem dep_md {D : List Int} {s : MS} {e : Tr} (h : DepOk D s.pan) (ho : InOrd s e) (ht : ∀ a O, s.stk = a :: O → D[a.no]? = some ((O.length + 1 : Nat) : Int)) : DepOk D (md s e).pan := by
 by_cases hb : e.1 = 1 ∨ e.1 = 3
 ·rw [md_beg hb]; exact h
 ·by_cases h5 : e.1 = 5
  ·obtain ⟨a, O, hs⟩ := ho.top hb
   rw [md_5 hs h5]
   intro x hx
   rcases List.mem_append.1 hx with hx | hx
   ·exact h x hx
   ·obtain rfl := List.mem_singleton.1 hx
    exact ht a O hs
  ·by_cases h6 : e.1 = 6
   ·obtain ⟨a, b, S, k, hs, hb'⟩ := ho.rec6 h6
    rw [md_6 hs hb' h6]
    exact DepOk.upd (g := fun x => setFate x 1) h (fun _ => rfl) (fun _ => rfl)
   ·by_cases h7 : e.1 = 7
    ·obtain ⟨a, O, hs⟩ := ho.top hb
     rw [md_7 hs h7]; exact h
    ·by_cases h8 : e.1 = 8
     ·obtain ⟨a, O, k, hs, ha, _⟩ := ho.unw h8
      rw [md_8 hs ha h8]
      have h1 : DepOk D (upd s.pan k (fun x => addBy x e.2.1)) := DepOk.upd (g := fun x => addBy x e.2.1) h (fun _ => rfl) (fun _ => rfl)
      dsimp only
      split
      ·exact DepOk.upd (g := fun x => setFate x 3) h1 (fun _ => rfl) (fun _ => rfl)
      ·exact h1.repl
     ·by_cases h9 : e.1 = 9
      ·obtain ⟨a, O, hs, _⟩ := ho.exi h9
       rw [md_9 hs h9]
       exact h.fates
      ·rw [md_else hb ⟨h5, h6, h7, h8, h9⟩]; exact h
theorem dep_all {t : List Tr} (h : (pds t).2 = true) : ∀ j, j ≤ t.length → DepOk (depL (tds t).calls (tds t).calls.length) (mds (t.take j)).pan
 | 0, _ => fun x hx => by cases hx
 | j + 1, hj => by
  obtain ⟨e, he⟩ : ∃ e, t[j]? = some e := ⟨_, List.getElem?_eq_getElem (by omega)⟩
  rw [mds_take he]
  refine dep_md (dep_all h j (by omega)) (mds_ord h he) (fun a O hs => ?_)
  have hk := kept_le t (show j ≤ t.length by omega)
  rw [List.take_length] at hk
  have hc := (lk_all h j (by omega)).chn.kept hk
  have hv := (mds_val h j (by omega)).dec
  unfold nos at hc
  rw [hs] at hc hv
  have hp : ((a :: O).map Ent.no).Pairwise (fun a b => b < a) := List.pairwise_map.2 hv
  have := dep_chain (O.map Ent.no) a.no hc hp
  rw [List.length_map] at this
  exact this
end Go.Proofs.Ytgcjlkdahlfjlaa.PL

/- In a run's trace, events tell the function of the last call that is open; the owner of an event is a call of this function. -/
namespace Go.Proofs.Ytgcjlkdahlfjlaa.PL

def fd (s : List Int × Bool) (e : Tr) : List Int × Bool :=
 if Beg e.1 then (e.2.1 :: s.1, s.2)
 else (if Fin e.1 then s.1.tail else s.1, s.2 && (decide (0 ≤ e.1 ∧ e.1 ≤ 9) && (decide (e.1 < 5) || s.1.head? == some e.2.1)))
def fds (l : List Tr) : List Int × Bool := l.foldl fd ([], true)
theorem fds_snoc (l : List Tr) (e : Tr) : fds (l ++ [e]) = fd (fds l) e := by simp [fds]
theorem fds_take {l : List Tr} {j : Nat} {e : Tr} (h : l[j]? = some e) : fds (l.take (j + 1)) = fd (fds (l.take j)) e := by
 rw [List.take_add_one, h]
 simp [fds]
theorem fd_ok {s : List Int × Bool} {e : Tr} (h : (fd s e).2 = true) : s.2 = true := by
 unfold fd at h
 split at h
 ·exact h
 ·simp only [Bool.and_eq_true] at h
  exact h.1
theorem fds_ok {l : List Tr} (h : (fds l).2 = true) (j : Nat) : (fds (l.take j)).2 = true := by
 have : ∀ d, (fds (l.take (l.length - d))).2 = true := by
  intro d
  induction d with
  | zero => rw [Nat.sub_zero, List.take_length]; exact h
  | succ d ih =>
   by_cases hd : d < l.length
   ·have he : l[l.length - (d + 1)]? = some l[l.length - (d + 1)] := List.getElem?_eq_getElem (by omega)
    have h1 := fds_take he
    rw [show l.length - (d + 1) + 1 = l.length - d by omega] at h1
    rw [h1] at ih
    exact fd_ok ih
   ·rw [show l.length - (d + 1) = l.length - d by omega]
    exact ih
 rcases Nat.le_total j l.length with hj | hj
 ·have := this (l.length - j)
  rwa [show l.length - (l.length - j) = j by omega] at this
 ·rw [List.take_of_length_le hj]
  exact h
theorem fd_own {s : List Int × Bool} {a : Int} {O : List Int} (hs : s = (a :: O, true)) {e : Tr} (hb : ¬ Beg e.1) (hf : ¬ Fin e.1) (hk : 0 ≤ e.1 ∧ e.1 ≤ 9) (h : e.1 < 5 ∨ e.2.1 = a) : fd s e = s := by
 subst hs
 unfold fd
 rw [if_neg hb, if_neg hf]
 have : (decide (0 ≤ e.1 ∧ e.1 ≤ 9) && (decide (e.1 < 5) || (a :: O).head? == some e.2.1)) = true := by
  rw [decide_eq_true hk]
  rcases h with h | h
  ·simp [h]
  ·simp [h]
 dsimp only
 rw [this]
 rfl
theorem fd_fin {s : List Int × Bool} {a : Int} {O : List Int} (hs : s = (a :: O, true)) {e : Tr} (hf : Fin e.1) (h : e.2.1 = a) : fd s e = (O, true) := by
 subst hs
 have hb : ¬ Beg e.1 := fun hb => beg_fin hb hf
 unfold fd
 rw [if_neg hb, if_pos hf, decide_eq_true (show 0 ≤ e.1 ∧ e.1 ≤ 9 by unfold Fin at hf; omega)]
 simp [h]
structure FAt (O : List Int) (m : M) (c : Fr) : Prop where
 k : K3 c
 ok : (fds m.trace).2 = true
 now : m.spent = false → fds m.trace = (c.f :: O, true)
def FGood (inner : Call) : Prop := ∀ (m : M) (c : Fr) (O : List Int), fds m.trace = (O, true) → m.spent = false →
 (fds (inner m c).1.trace).2 = true ∧ ((inner m c).1.spent = false → fds (inner m c).1.trace = (O, true))
theorem FAt.tell {O : List Int} {m : M} {c : Fr} (h : FAt O m c) (hs : m.spent = false) (k f v : Int) (hb : ¬ Beg k) (hf : ¬ Fin k) (hk : 0 ≤ k ∧ k ≤ 9) (ho : k < 5 ∨ f = c.f) : FAt O (PL.tell m k f v) c := by
 have h1 : fds (PL.tell m k f v).trace = fds m.trace := by
  show fds (m.trace ++ [(k, f, v)]) = _
  rw [fds_snoc]
  exact fd_own (h.now hs) hb hf hk ho
 exact ⟨h.k, by rw [h1]; exact h.ok, fun _ => by rw [h1]; exact h.now hs⟩
theorem FAt.frame {O : List Int} {m : M} {c c' : Fr} (h : FAt O m c) (hk : K3 c') (hf : c'.f = c.f) : FAt O m c' := ⟨hk, h.ok, fun hs => by rw [hf]; exact h.now hs⟩
theorem FAt.set {O : List Int} {m : M} {c : Fr} (h : FAt O m c) (i v : Int) : FAt O m (setReg c i v) := h.frame (by unfold K3; rw [setReg_kind]; exact h.k) (setReg_f _ _ _)
theorem FAt.same {O : List Int} {m m' : M} {c : Fr} (h : FAt O m c) (ht : m'.trace = m.trace) (hs : m'.spent = false → m.spent = false) : FAt O m' c :=
 ⟨h.k, by rw [ht]; exact h.ok, fun h' => by rw [ht]; exact h.now (hs h')⟩
theorem simple_f {O : List Int} {m : M} {c : Fr} (hs : m.spent = false) (h : FAt O m c) (s : Tr) : FAt O (simple m c s).1 (simple m c s).2 := by
 unfold simple
 split
 ·exact h.set _ _
 ·split
  ·exact h.set _ _
  ·split
   ·exact h.tell hs _ _ _ (by unfold Beg; decide) (by unfold Fin; decide) (by decide) (.inl (by decide))
   ·split
    ·show FAt O m (if c.deferred then { c with outer := reg c s.2.1 } else c)
     split
     ·exact h.frame h.k rfl
     ·exact h
    ·split
     ·exact h.same rfl id
     ·split
      ·exact h.set _ _
      ·split
       ·split
        ·exact ((show FAt O (tell m 6 c.f c.panic) { c with recovered := true } from (h.tell hs 6 c.f c.panic (by unfold Beg; decide) (by unfold Fin; decide) (by decide) (.inr rfl)).frame h.k rfl).set s.2.1 c.panic).set 3 1
        ·exact (h.set s.2.1 0).set 3 0
       ·exact h
theorem innerEnd_f (c i : Fr) (a : Int) : (innerEnd c i a).1.f = c.f := by
 unfold innerEnd
 repeat' split
 all_goals rfl
theorem mk_f {O : List Int} {inner : Call} (hg : FGood inner) {m : M} {c : Fr} (hs : m.spent = false) (h : FAt O m c) (a : Int) (s : Tr) : FAt O (mk inner m c a s).1 (mk inner m c a s).2.1 := by
 unfold mk
 split
 ·obtain ⟨g1, g2⟩ := hg m (newFrame s.2.1 (c.depth + 1) (reg c s.2.2)) (c.f :: O) (h.now hs) hs
  obtain ⟨k1, k2⟩ := innerEnd_at c (inner m (newFrame s.2.1 (c.depth + 1) (reg c s.2.2))).2 a h.k
  exact ⟨k1, g1, fun hh => by show fds (inner m (newFrame s.2.1 (c.depth + 1) (reg c s.2.2))).1.trace = ((innerEnd c (inner m (newFrame s.2.1 (c.depth + 1) (reg c s.2.2))).2 a).1.f :: O, true); rw [innerEnd_f]; exact g2 hh⟩
 ·split
  ·exact (h.tell hs 2 s.2.1 (reg c s.2.2) (by unfold Beg; decide) (by unfold Fin; decide) (by decide) (.inl (by decide))).frame h.k rfl
  ·split
   ·exact (h.tell hs 5 c.f (reg c s.2.1) (by unfold Beg; decide) (by unfold Fin; decide) (by decide) (.inr rfl)).frame (.inr (.inl rfl)) rfl
   ·split
    ·exact h.frame h.k rfl
    ·split
     ·exact h.frame (.inr (.inr rfl)) rfl
     ·split
      ·exact h
      ·exact simple_f hs h s
theorem body_f {O : List Int} {inner : Call} (hg : FGood inner) {b : List Tr} {fuel : Int} :
  ∀ (k : Nat) (m : M) (c : Fr) (a : Int), m.spent = false → FAt O m c → FAt O (body inner b fuel k m c a).1 (body inner b fuel k m c a).2
 | 0, m, c, a, _, h => h
 | k + 1, m, c, a, hs, h => by
  unfold body
  split
  ·split
   ·exact h
   ·split
    ·exact h.same rfl (fun hh => by cases hh)
    ·rename_i s _ _
     have hc : FAt O (count m c.f a) c := h.same rfl id
     have g := mk_f hg (m := count m c.f a) hs hc a s
     generalize mk inner (count m c.f a) c a s = r at *
     obtain ⟨m', c', a'⟩ := r
     dsimp only at g ⊢
     split
     ·exact g
     ·rename_i hsp
      exact body_f hg k m' c' a' (by simpa using hsp) g
  ·exact h
theorem lastEnd_k (c i : Fr) (h : K3 c) : K3 (lastEnd c i) := by
 unfold K3 at h
 unfold K3 lastEnd
 dsimp only
 by_cases h2 : i.kind = 2
 ·rw [if_pos h2]; exact .inr (.inl rfl)
 ·rw [if_neg h2]
  by_cases h3 : i.kind = 3
  ·rw [if_pos h3]; exact .inr (.inr rfl)
  ·rw [if_neg h3]
   by_cases hr : i.recovered = true
   ·rw [if_pos hr]
    by_cases hv : (c.leaving || i.leaving) = true
    ·rw [if_pos hv]; exact .inr (.inr rfl)
    ·rw [if_neg hv]; exact .inl rfl
   ·rw [if_neg hr]; exact h
theorem dfr_f {O : List Int} {inner : Call} (hg : FGood inner) :
  ∀ (k : Nat) (m : M) (c : Fr), m.spent = false → FAt O m c → FAt O (dfr inner k m c).1 (dfr inner k m c).2
 | 0, m, c, _, h => h
 | k + 1, m, c, hs, h => by
  unfold dfr
  split
  ·exact h
  ·rename_i d hd
   obtain ⟨g1, g2⟩ := hg m (lastFrame c d) (c.f :: O) (h.now hs) hs
   generalize inner m (lastFrame c d) = r at *
   obtain ⟨m', i⟩ := r
   dsimp only at g1 g2 ⊢
   split
   ·rename_i hsp
    exact ⟨h.k, g1, fun hh => (by rw [hsp] at hh; cases hh)⟩
   ·rename_i hsp
    have hsp' : m'.spent = false := by simpa using hsp
    exact dfr_f hg k m' (lastEnd (dropL c) i) hsp' ⟨lastEnd_k (dropL c) i h.k, g1, fun _ => g2 hsp'⟩
theorem call_f {p : Pg} {fuel : Int} : ∀ d : Nat, FGood (call p fuel d)
 | 0 => fun m c O h hs => ⟨by show (fds m.trace).2 = true; rw [h], fun hh => by cases hh⟩
 | d + 1 => fun m c O h hs => by
  have hg : FGood (call p fuel d) := call_f d
  have hb : FAt O (begin_ m c) { c with kind := 1 } := by
   have h1 : fds (begin_ m c).trace = (c.f :: O, true) := by
    show fds (m.trace ++ [_]) = _
    rw [fds_snoc, h]
    unfold fd
    rw [if_pos (by unfold Beg; dsimp only; split <;> simp)]
   exact ⟨.inl rfl, by rw [h1], fun _ => h1⟩
  have hsb : (begin_ m c).spent = false := hs
  have g1 := body_f hg (b := p.getD c.f.toNat []) (fuel := fuel) (O := O) (fuel.toNat + 1) _ _ 0 hsb hb
  show (fds (afterB (call p fuel d) (body (call p fuel d) (p.getD c.f.toNat []) fuel (fuel.toNat + 1) (begin_ m c) { c with kind := 1 } 0)).1.trace).2 = true ∧
   ((afterB (call p fuel d) (body (call p fuel d) (p.getD c.f.toNat []) fuel (fuel.toNat + 1) (begin_ m c) { c with kind := 1 } 0)).1.spent = false →
    fds (afterB (call p fuel d) (body (call p fuel d) (p.getD c.f.toNat []) fuel (fuel.toNat + 1) (begin_ m c) { c with kind := 1 } 0)).1.trace = (O, true))
  generalize body (call p fuel d) (p.getD c.f.toNat []) fuel (fuel.toNat + 1) (begin_ m c) { c with kind := 1 } 0 = r at *
  unfold afterB
  split
  ·rename_i hsp
   exact ⟨g1.ok, fun hh => by rw [hsp] at hh; cases hh⟩
  ·rename_i hsp
   have g2 := dfr_f hg (O := O) r.2.defers.length r.1 r.2 (by simpa using hsp) g1
   generalize dfr (call p fuel d) r.2.defers.length r.1 r.2 = q at *
   unfold closeC
   split
   ·rename_i hsq
    exact ⟨g2.ok, fun hh => by rw [hsq] at hh; cases hh⟩
   ·rename_i hsq
    have hn := g2.now (by simpa using hsq)
    have h1 : fds (finish q.1 q.2).trace = (O, true) := by
     unfold finish
     rcases g2.k with h | h | h
     ·rw [if_pos h]
      show fds (q.1.trace ++ [_]) = _
      rw [fds_snoc]
      exact fd_fin hn (by unfold Fin; simp) rfl
     ·rw [if_neg (by omega), if_pos h]
      show fds (q.1.trace ++ [_]) = _
      rw [fds_snoc]
      exact fd_fin hn (by unfold Fin; simp) rfl
     ·rw [if_neg (by omega), if_neg (by omega), if_pos h]
      show fds (q.1.trace ++ [_]) = _
      rw [fds_snoc]
      exact fd_fin hn (by unfold Fin; simp) rfl
    exact ⟨by show (fds (finish q.1 q.2).trace).2 = true; rw [h1], fun _ => h1⟩
theorem whole_f (p : Pg) (fuel f arg : Int) : (fds (whole p fuel f arg).1.trace).2 = true := (call_f 8 start (newFrame f 1 arg) [] rfl rfl).1

def fAt (cs : List CI) (n : Nat) : Option Int := cs[n]?.map CI.f
theorem fAt_append (a : List CI) (x : CI) {n : Nat} (h : n < a.length) : fAt (a ++ [x]) n = fAt a n := by unfold fAt; rw [List.getElem?_append_left h]
theorem fAt_close (a : List CI) (i e v : Int) (n : Nat) : fAt (closeAt a i e v) n = fAt a n := by
 unfold closeAt fAt
 split
 ·rename_i c hc
  by_cases hn : i.toNat = n
  ·subst hn
   have hl := (List.getElem?_eq_some_iff.1 hc).1
   rw [List.getElem?_set_self hl, hc]
   rfl
  ·rw [List.getElem?_set_ne hn]
 ·rfl
theorem fAt_td (T : Told) (e : Tr) {n : Nat} (h : n < T.calls.length) : fAt (td T e).calls n = fAt T.calls n := by
 unfold td
 split
 ·exact fAt_append _ _ h
 ·split
  ·exact fAt_close _ _ _ _ _
  ·rfl
structure Lf (T : Told) (s : MS) (fs : List Int) : Prop where
 eq : (nos s).map (fAt T.calls) = fs.map some
 lt : ∀ n ∈ nos s, n < T.calls.length
theorem lf_md {T : Told} {s : MS} {fs : List Int} {e : Tr} {b : Bool} (hl : Lk T s) (h : Lf T s fs) (ho : InOrd s e) : Lf (td T e) (md s e) (fd (fs, b) e).1 := by
 have keep : (nos s).map (fAt (td T e).calls) = (nos s).map (fAt T.calls) := List.map_congr_left fun n hn => fAt_td T e (h.lt n hn)
 have le : T.calls.length ≤ (td T e).calls.length := (td_calls T e).1
 by_cases hb : Beg e.1
 ·obtain ⟨h1, h2⟩ := nos_beg (s := s) hb
  have et : td T e = ⟨T.calls ++ [⟨e.2.1, T.now, e.1 == 3, 4, 0⟩], T.owners ++ [(T.calls.length : Int)], T.calls.length⟩ := by unfold td; rw [if_pos hb]
  refine ⟨?_, fun n hn => ?_⟩
  ·rw [h1, List.map_cons, keep, h.eq]
   unfold fd
   rw [if_pos hb, List.map_cons, et, hl.next]
   unfold fAt
   simp
  ·rw [h1] at hn
   rcases List.mem_cons.1 hn with rfl | hn
   ·rw [et, hl.next]; simp
   ·exact Nat.lt_of_lt_of_le (h.lt n hn) le
 ·by_cases hf : Fin e.1
  ·obtain ⟨a, O, h1, h2, h3⟩ := nos_fin hf ho
   refine ⟨?_, fun n hn => Nat.lt_of_lt_of_le (h.lt n (by rw [h1]; rw [h2] at hn; exact List.mem_cons_of_mem _ hn)) le⟩
   unfold fd
   rw [if_neg hb, if_pos hf]
   have he := h.eq
   rw [← keep, h1] at he
   cases fs with
   | nil => simp at he
   | cons x xs =>
    rw [List.map_cons, List.map_cons] at he
    rw [h2]
    exact (List.cons.inj he).2
  ·obtain ⟨h1, h2⟩ := nos_else hb hf ho
   refine ⟨?_, fun n hn => Nat.lt_of_lt_of_le (h.lt n (by rw [h1] at hn; exact hn)) le⟩
   unfold fd
   rw [if_neg hb, if_neg hf, h1, keep]
   exact h.eq
theorem lf_all {t : List Tr} (h : (pds t).2 = true) : ∀ j, j ≤ t.length → Lf (tds (t.take j)) (mds (t.take j)) (fds (t.take j)).1
 | 0, _ => ⟨rfl, fun n hn => by cases hn⟩
 | j + 1, hj => by
  obtain ⟨e, he⟩ : ∃ e, t[j]? = some e := ⟨_, List.getElem?_eq_getElem (by omega)⟩
  rw [tds_take he, mds_take he, fds_take he]
  exact lf_md (b := (fds (t.take j)).2) (lk_all h j (by omega)) (lf_all h j (by omega)) (mds_ord h he)
theorem fAt_pre (t : List Tr) (j n : Nat) (h : n < (tds (t.take j)).calls.length) : ∀ d, j + d ≤ t.length → fAt (tds (t.take (j + d))).calls n = fAt (tds (t.take j)).calls n
 | 0, _ => rfl
 | d + 1, hd => by
  obtain ⟨e, he⟩ : ∃ e, t[j + d]? = some e := ⟨_, List.getElem?_eq_getElem (by omega)⟩
  rw [← Nat.add_assoc, tds_take he, fAt_td, fAt_pre t j n h d (by omega)]
  have : ∀ d, j + d ≤ t.length → (tds (t.take j)).calls.length ≤ (tds (t.take (j + d))).calls.length := by
   intro d
   induction d with
   | zero => intro _; exact Nat.le_refl _
   | succ d ih =>
    intro hd
    obtain ⟨e, he⟩ : ∃ e, t[j + d]? = some e := ⟨_, List.getElem?_eq_getElem (by omega)⟩
    rw [← Nat.add_assoc, tds_take he]
    exact Nat.le_trans (ih (by omega)) (td_calls _ _).1
  exact Nat.lt_of_lt_of_le h (this d (by omega))
theorem fun_at {t : List Tr} (h : (pds t).2 = true) (hf : (fds t).2 = true) {j : Nat} {e : Tr} (he : t[j]? = some e) (h5 : 5 ≤ e.1) {a : Nat} {O : List Nat} (hn : nos (mds (t.take j)) = a :: O) : ∃ c, (tds t).calls[a]? = some c ∧ c.f = e.2.1 := by
 have hj : j < t.length := (List.getElem?_eq_some_iff.1 he).1
 have hl := lf_all h j (Nat.le_of_lt hj)
 have h1 := fds_ok hf (j + 1)
 rw [fds_take he] at h1
 unfold fd at h1
 rw [if_neg (by unfold Beg; omega)] at h1
 simp only [Bool.and_eq_true, Bool.or_eq_true, decide_eq_true_eq, beq_iff_eq] at h1
 have h2 : (fds (t.take j)).1.head? = some e.2.1 := h1.2.2.resolve_left (by omega)
 have he1 := hl.eq
 rw [hn] at he1
 have hlt := hl.lt a (by rw [hn]; exact List.mem_cons_self)
 have hp := fAt_pre t j a hlt (t.length - j) (by omega)
 rw [show j + (t.length - j) = t.length by omega, List.take_length] at hp
 cases hfs : (fds (t.take j)).1 with
 | nil => rw [hfs] at h2; cases h2
 | cons x xs =>
  rw [hfs] at he1 h2
  simp only [List.head?_cons, Option.some.injEq] at h2
  rw [List.map_cons, List.map_cons] at he1
  have e1 := (List.cons.inj he1).1
  rw [← hp, h2] at e1
  unfold fAt at e1
  cases hc : (tds t).calls[a]? with
  | none => rw [hc] at e1; cases e1
  | some c => rw [hc] at e1; exact ⟨c, rfl, by simpa using e1⟩
theorem kind_at {t : List Tr} (hf : (fds t).2 = true) {j : Nat} {e : Tr} (he : t[j]? = some e) : 0 ≤ e.1 ∧ e.1 ≤ 9 := by
 by_cases hb : Beg e.1
 ·unfold Beg at hb
  omega
 ·have h1 := fds_ok hf (j + 1)
  rw [fds_take he] at h1
  unfold fd at h1
  rw [if_neg hb] at h1
  simp only [Bool.and_eq_true, decide_eq_true_eq] at h1
  exact h1.2.1
end Go.Proofs.Ytgcjlkdahlfjlaa.PL

/- An event, for the program's reading of panics: what it finds, and what it leaves. -/
namespace Go.Proofs.Ytgcjlkdahlfjlaa.PL

def Zok (z : Rz) (fl : Nat) : Prop := z = rz0 ∨ ∃ (f v : Int) (k : Nat) (cl : Int), z = (5, f, v, (k : Int), cl) ∧ k < fl
def exitP (i : IS) (par : Int) : IS := if par = -1 then i else settleP i par.toNat 4
def outP (par : Int) : Option Nat := if par = -1 then none else some par.toNat
theorem Sim.flen {M : Nat} {s : MS} {i : IS} (h : Sim M s i) : i.forts.length = s.pan.length := by rw [h.forts, List.length_map]
theorem Sim.rlen {M : Nat} {s : MS} {i : IS} (h : Sim M s i) : i.rec_.length = s.rcv.length := by
 have := congrArg List.length h.rec_
 rwa [List.length_map, List.length_map] at this
theorem Sim.unw {M n : Nat} {s : MS} {i : IS} (h : Sim M s i) (hb : ∀ x ∈ s.pan, x.by_.length ≤ n) : ∀ y ∈ i.forts, y.unwound.length ≤ n := by
 rw [h.forts]
 intro y hy
 obtain ⟨x, hx, rfl⟩ := List.mem_map.1 hy
 exact hb x hx
theorem Sim.zok {M : Nat} {s : MS} {i : IS} (h : Sim M s i) (hv : Val s) {b : Ent} (hb : b ∈ s.stk) : ∃ z, i.on[b.no]? = some z ∧ Zok z i.forts.length := by
 refine ⟨_, h.on b hb, ?_⟩
 rw [h.flen]
 cases hbo : b.on with
 | none => exact .inl rfl
 | some k =>
  have hk := hv.on b hb k hbo
  exact .inr ⟨_, _, k, _, (show rzE s.pan (some k) = _ from rzOf_some (List.getElem?_eq_getElem hk)), hk⟩
theorem Sim.lt {M : Nat} {s : MS} {i : IS} (h : Sim M s i) {b : Ent} (hb : b ∈ s.stk) : b.no < M := by
 have := (List.getElem?_eq_some_iff.1 (h.on b hb)).1
 rwa [h.olen] at this
theorem step5 {M : Nat} {s : MS} {i : IS} {e : Tr} (h : Sim M s i) (hv : Val s) {a : Ent} {O : List Ent} (hs : s.stk = a :: O) (he : e.1 = 5) : Sim M (md s e) (panicP i a.no e.2.1 e.2.2) := by
 rw [md_5 hs he]
 obtain ⟨stk, next, pan, rcv⟩ := s
 dsimp only at hs
 subst hs
 refine sim_panic h (hv.no a List.mem_cons_self) (fun b hb => ?_) (fun b hb k hk => hv.on b (List.mem_cons_of_mem _ hb) k hk)
 have := (List.pairwise_cons.1 hv.dec).1 b hb
 omega
theorem step6 {M k : Nat} {s : MS} {i : IS} {e : Tr} {r : Int} (h : Sim M s i) (hv : Val s) {a b : Ent} {S : List Ent} (hs : s.stk = a :: b :: S) (hb : b.on = some k) (he : e.1 = 6) : Sim M (md s e) (recoverP i b.no r) := by
 rw [md_6 hs hb he]
 obtain ⟨stk, next, pan, rcv⟩ := s
 dsimp only at hs
 subst hs
 refine sim_recover h hb (hv.on b (by simp) k hb) (hv.no b (by simp)) (fun x hx => ?_)
 have h1 := List.pairwise_cons.1 hv.dec
 have h2 := List.pairwise_cons.1 h1.2
 rw [List.singleton_append, List.mem_cons] at hx
 rcases hx with rfl | hx
 ·have := h1.1 b List.mem_cons_self
  omega
 ·have := h2.1 x hx
  omega
theorem step7 {M : Nat} {s : MS} {i : IS} {e : Tr} (h : Sim M s i) {a : Ent} {O : List Ent} (hs : s.stk = a :: O) (he : e.1 = 7) : Sim M (md s e) i := by
 rw [md_7 hs he]
 obtain ⟨stk, next, pan, rcv⟩ := s
 dsimp only at hs
 subst hs
 exact sim_pop h
theorem topN_out (O : List Ent) : outP (topN (O.map Ent.no)) = (match O with
  | [] => none
  | b :: _ => some b.no) := by
 cases O with
 | nil => rfl
 | cons b S =>
  show outP ((b.no : Nat) : Int) = some b.no
  unfold outP
  rw [if_neg (by omega), Int.toNat_natCast]
theorem step8 {M k : Nat} {s : MS} {i : IS} {e : Tr} (h : Sim M s i) (hv : Val s) {a : Ent} {O : List Ent} (hs : s.stk = a :: O) (ha : a.on = some k) (he : e.1 = 8) : Sim M (md s e) (unwindP i a.no (outP (topN (O.map Ent.no))) e.2.1) := by
 rw [md_8 hs ha he, topN_out]
 obtain ⟨stk, next, pan, rcv⟩ := s
 dsimp only at hs
 subst hs
 obtain ⟨no, df, on⟩ := a
 dsimp only at ha
 subst ha
 cases O with
 | nil => exact sim_unwind h hv
 | cons b S => exact sim_unwind h hv
theorem step9 {M : Nat} {s : MS} {i : IS} {e : Tr} (h : Sim M s i) (hv : Val s) {a : Ent} {O : List Ent} (hs : s.stk = a :: O) (he : e.1 = 9) : Sim M (md s e) (exitP i (topN (O.map Ent.no))) := by
 rw [md_9 hs he]
 obtain ⟨stk, next, pan, rcv⟩ := s
 dsimp only at hs
 subst hs
 have h1 := sim_exit h hv
 cases O with
 | nil => exact h1
 | cons b S =>
  show Sim M _ (exitP i ((b.no : Nat) : Int))
  unfold exitP
  rw [if_neg (by omega), Int.toNat_natCast]
  exact h1
theorem step_beg {t : List Tr} (hp : (pds t).2 = true) {j : Nat} {e : Tr} (he : t[j]? = some e) (hb : Beg e.1) {i : IS} (h : Sim (tds t).calls.length (mds (t.take j)) i) : Sim (tds t).calls.length (mds (t.take (j + 1))) i := by
 have hj : j < t.length := (List.getElem?_eq_some_iff.1 he).1
 have hl := lk_all hp j (Nat.le_of_lt hj)
 have hl' := lk_all hp (j + 1) hj
 have hk := kept_le t (i := j + 1) (j := t.length) hj
 rw [List.take_length] at hk
 have h2 := hl'.next
 rw [mds_take he, md_beg hb] at h2 ⊢
 dsimp only at h2
 generalize mds (t.take j) = s at *
 obtain ⟨stk, next, pan, rcv⟩ := s
 dsimp only at h2 ⊢
 refine sim_begin h ?_
 have hlt : next < (tds (t.take (j + 1))).calls.length := by omega
 obtain ⟨c', hc', _⟩ := hk next _ (List.getElem?_eq_getElem hlt)
 exact (List.getElem?_eq_some_iff.1 hc').1
theorem step_else {M : Nat} {s : MS} {i : IS} {e : Tr} (h : Sim M s i) (h0 : ¬ Beg e.1) (he : e.1 ≠ 5 ∧ e.1 ≠ 6 ∧ e.1 ≠ 7 ∧ e.1 ≠ 8 ∧ e.1 ≠ 9) : Sim M (md s e) i := by
 rw [md_else h0 he]
 exact h
def recO (t : List Tr) (os : List Int) (j : Nat) : List Int := ((t.zip os).take j).filterMap (fun x => if x.1.1 = 6 then some x.2 else none)
theorem recO_succ {t : List Tr} {os : List Int} {j : Nat} {e : Tr} {o : Int} (he : t[j]? = some e) (ho : os[j]? = some o) : recO t os (j + 1) = recO t os j ++ (if e.1 = 6 then [o] else []) := by
 have hz : (t.zip os)[j]? = some (e, o) := by
  rw [List.getElem?_zip_eq_some]
  exact ⟨he, ho⟩
 unfold recO
 rw [List.take_add_one, hz, List.filterMap_append]
 congr 1
 dsimp only [Option.toList]
 rw [List.filterMap_cons]
 by_cases h6 : e.1 = 6
 ·simp [h6]
 ·simp [h6]
theorem panic_rec (i : IS) (c : Nat) (f v : Int) : (panicP i c f v).rec_ = i.rec_ := rfl
theorem exit_rec (i : IS) (p : Int) : (exitP i p).rec_ = i.rec_ := by
 unfold exitP
 split
 ·rfl
 ·exact settle_rec _ _ _
theorem unwind_rec (i : IS) (c : Nat) (o : Option Nat) (f : Int) : (unwindP i c o f).rec_ = i.rec_ := by
 unfold unwindP
 dsimp only
 cases o with
 | none => exact settle_rec _ _ _
 | some o =>
  dsimp only
  split
  ·exact settle_rec _ _ _
  ·exact settle_rec _ _ _
section
variable {t : List Tr} {j : Nat} {e : Tr} {i : IS}
theorem own_top (hp : (pds t).2 = true) (he : t[j]? = some e) (hb : ¬ Beg e.1) {a : Ent} {O : List Ent} (hs : (mds (t.take j)).stk = a :: O) : (tds t).owners[j]? = some ((a.no : Nat) : Int) := by
 rw [owner_at hp he hb]
 unfold nos
 rw [hs]
 rfl
theorem par_top (hp : (pds t).2 = true) (he : t[j]? = some e) {a : Ent} {O : List Ent} (hs : (mds (t.take j)).stk = a :: O) : ∃ c, (tds t).calls[a.no]? = some c ∧ c.par = topN (O.map Ent.no) := by
 refine par_at hp (j := j) (Nat.le_of_lt (List.getElem?_eq_some_iff.1 he).1) ?_
 unfold nos
 rw [hs]
 rfl
theorem find5 (hp : (pds t).2 = true) (he : t[j]? = some e) (h5 : e.1 = 5) (h : Sim (tds t).calls.length (mds (t.take j)) i) :
  ∃ a : Nat, (tds t).owners[j]? = some (a : Int) ∧ a < i.on.length ∧ Sim (tds t).calls.length (mds (t.take (j + 1))) (panicP i a e.2.1 e.2.2) := by
 have hb : ¬ Beg e.1 := by unfold Beg; omega
 obtain ⟨a, O, hs⟩ := (mds_ord hp he).top hb
 have hv := mds_val hp j (Nat.le_of_lt (List.getElem?_eq_some_iff.1 he).1)
 refine ⟨a.no, own_top hp he hb hs, by rw [h.olen]; exact h.lt (by rw [hs]; exact List.mem_cons_self), ?_⟩
 rw [mds_take he]
 exact step5 h hv hs h5
theorem find6 (hp : (pds t).2 = true) (he : t[j]? = some e) (h6 : e.1 = 6) (h : Sim (tds t).calls.length (mds (t.take j)) i) :
  ∃ (a o : Nat) (x : CI) (z : Rz), (tds t).owners[j]? = some (a : Int) ∧ (tds t).calls[a]? = some x ∧ x.par = o ∧ i.on[o]? = some z ∧ Zok z i.forts.length ∧ Sim (tds t).calls.length (mds (t.take (j + 1))) (recoverP i o a) := by
 have hb : ¬ Beg e.1 := by unfold Beg; omega
 obtain ⟨a, b, S, k, hs, hbk⟩ := (mds_ord hp he).rec6 h6
 have hv := mds_val hp j (Nat.le_of_lt (List.getElem?_eq_some_iff.1 he).1)
 obtain ⟨c, hc, hcp⟩ := par_top hp he hs
 obtain ⟨z, hz, hzk⟩ := h.zok hv (b := b) (by rw [hs]; simp)
 refine ⟨a.no, b.no, c, z, own_top hp he hb hs, hc, hcp, hz, hzk, ?_⟩
 rw [mds_take he]
 exact step6 h hv hs hbk h6
theorem out_of (h : Sim (tds t).calls.length (mds (t.take j)) i) (hv : Val (mds (t.take j))) {a : Ent} {O : List Ent} (hs : (mds (t.take j)).stk = a :: O) :
  (topN (O.map Ent.no) = -1 ∧ outP (topN (O.map Ent.no)) = none) ∨ ∃ (o : Nat) (old : Rz), topN (O.map Ent.no) = o ∧ outP (topN (O.map Ent.no)) = some o ∧ i.on[o]? = some old ∧ Zok old i.forts.length := by
 cases O with
 | nil => exact .inl ⟨rfl, rfl⟩
 | cons b S =>
  obtain ⟨z, hz, hzk⟩ := h.zok hv (b := b) (by rw [hs]; simp)
  exact .inr ⟨b.no, z, rfl, topN_out (b :: S), hz, hzk⟩
theorem find8 (hp : (pds t).2 = true) (he : t[j]? = some e) (h8 : e.1 = 8) (h : Sim (tds t).calls.length (mds (t.take j)) i) :
  ∃ (a : Nat) (x : CI) (zf zv zc : Int) (kk : Nat), (tds t).owners[j]? = some (a : Int) ∧ (tds t).calls[a]? = some x ∧ i.on[a]? = some (5, zf, zv, (kk : Int), zc) ∧ kk < i.forts.length ∧
   ((x.par = -1 ∧ outP x.par = none) ∨ ∃ (o : Nat) (old : Rz), x.par = o ∧ outP x.par = some o ∧ i.on[o]? = some old ∧ Zok old i.forts.length) ∧ Sim (tds t).calls.length (mds (t.take (j + 1))) (unwindP i a (outP x.par) e.2.1) := by
 have hb : ¬ Beg e.1 := by unfold Beg; omega
 obtain ⟨a, O, k, hs, hak, _⟩ := (mds_ord hp he).unw h8
 have hv := mds_val hp j (Nat.le_of_lt (List.getElem?_eq_some_iff.1 he).1)
 obtain ⟨c, hc, hcp⟩ := par_top hp he hs
 have hk : k < (mds (t.take j)).pan.length := hv.on a (by rw [hs]; exact List.mem_cons_self) k hak
 have hz := h.on a (by rw [hs]; exact List.mem_cons_self)
 rw [hak] at hz
 have hz' := hz.trans (congrArg some (show rzE (mds (t.take j)).pan (some k) = _ from rzOf_some (List.getElem?_eq_getElem hk)))
 refine ⟨a.no, c, _, _, _, k, own_top hp he hb hs, hc, hz', by rw [h.flen]; exact hk, ?_, ?_⟩
 ·rw [hcp]
  exact out_of h hv hs
 ·rw [mds_take he, hcp]
  exact step8 h hv hs hak h8
theorem find9 (hp : (pds t).2 = true) (he : t[j]? = some e) (h9 : e.1 = 9) (h : Sim (tds t).calls.length (mds (t.take j)) i) :
  ∃ (a : Nat) (x : CI), (tds t).owners[j]? = some (a : Int) ∧ (tds t).calls[a]? = some x ∧ (x.par = -1 ∨ ∃ (o : Nat) (z : Rz), x.par = o ∧ i.on[o]? = some z ∧ Zok z i.forts.length) ∧ Sim (tds t).calls.length (mds (t.take (j + 1))) (exitP i x.par) := by
 have hb : ¬ Beg e.1 := by unfold Beg; omega
 obtain ⟨a, O, hs, _⟩ := (mds_ord hp he).exi h9
 have hv := mds_val hp j (Nat.le_of_lt (List.getElem?_eq_some_iff.1 he).1)
 obtain ⟨c, hc, hcp⟩ := par_top hp he hs
 refine ⟨a.no, c, own_top hp he hb hs, hc, ?_, ?_⟩
 ·rw [hcp]
  exact (out_of h hv hs).imp And.left (fun ⟨o, z, h1, _, h2, h3⟩ => ⟨o, z, h1, h2, h3⟩)
 ·rw [mds_take he, hcp]
  exact step9 h hv hs h9
theorem find0 (hp : (pds t).2 = true) (he : t[j]? = some e) (hk : e.1 ≠ 5 ∧ e.1 ≠ 6 ∧ e.1 ≠ 8 ∧ e.1 ≠ 9) (h : Sim (tds t).calls.length (mds (t.take j)) i) : Sim (tds t).calls.length (mds (t.take (j + 1))) i := by
 by_cases hb : Beg e.1
 ·exact step_beg hp he hb h
 ·rw [mds_take he]
  by_cases h7 : e.1 = 7
  ·obtain ⟨a, O, hs⟩ := (mds_ord hp he).top hb
   exact step7 h hs h7
  ·exact step_else h hb ⟨hk.1, hk.2.1, h7, hk.2.2.1, hk.2.2.2⟩
end
end Go.Proofs.Ytgcjlkdahlfjlaa.PL
