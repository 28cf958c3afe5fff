/-
  One round of the program over the blocks of a flow, from the last one to the first: what its goRound leaves.
-/
import Derived.RangeFuncNested
import Derived.RangeFuncBound
import Derived.RangeFuncCalls
import Derived.RangeFuncLeaves
import Derived.Shelf.Abstract
import Derived.Shelf.RegionOpen
import Derived.WalkKit
import Derived.OwnWalkIn
import Derived.TacticsInMore
import Derived.LoopNIn
import Derived.LoopIn
import Derived.Maps.OwnIn
import Derived.Sort.QuietIn
import Derived.Test.YtfmgbalfabpogaaProg
import Derived.Test.YtfmgbalfabpogaaBackwardB
import Derived.Test.YtfmgbalfabpogaaBackOps
import Derived.Test.YtfmgbalfabpogaaQuietRound
namespace Go.Proofs.Ytfmgbalfabpogaa.walks
open Go.RowKit Go.Shelf Go.Proofs.Ytfmgbalfabpogaa.math Go.Proofs.Ytfmgbalfabpogaa.ints
set_option linter.unusedVariables false
set_option linter.unusedSimpArgs false
set_option maxRecDepth 100000
attribute [local go_sem] Oper.semAt_some

theorem results_one {fn : Func} {t : Tmp} (h : fn.results = #[.tmp t]) (tmps : Array Value) (P : Program) (w : World) : (results fn tmps).run P w = .ok (tmps.getD t undef) w := by
  simp [results, h]
/-- What a round leaves. -/
def RoundAns (p : Bool) (f : Nat → Bv) (n nb bb cap : Nat) (s0 : Ls) (W : World) (e : Ending) (W' : World) : Prop :=
  ∃ c M s, e = .returned (.bool c) ∧ NeedsAt W' nb bb n cap M s ∧ RndL p f n s0 s (fun _ => True) c ∧ W.grownBy W' (some nb)
theorem step_slice (o d a b n : Int) : ∀ x y z, stepV o d a b n ≠ .slice x y z := by
  intro x y z
  unfold stepV
  repeat' split
  all_goals simp
theorem BlocksAt.far {w w' : World} {bb n nb cap : Nat} {A S : Nat → Option Addr × Nat} {f : Nat → Bv} {M : Nat → Option Nat} {s : Ls} (h : BlocksAt w bb n A S f) (hn : NeedsAt w nb bb n cap M s) (h0 : 0 < n) (hg : w.grownBy w' (some nb)) : BlocksAt w' bb n A S f ∧ bb ≠ nb := by
  have hne : bb ≠ nb := by
    rintro rfl
    have q1 := h.cell 1 (by omega)
    have q2 := (hn.cell 0 (by omega)).1
    rw [show 1 = 0 * 5 + 1 by omega, cell5_1] at q1
    rw [q1] at q2
    cases q2
  refine ⟨⟨Nat.lt_of_lt_of_le h.lt hg.size, fun i hi => hg.cell (h.cell i hi) (by simpa using hne), fun j hj => ?_⟩, hne⟩
  rcases h.step j hj with q | ⟨b, q, hl, hc⟩
  · exact Or.inl q
  · by_cases hz : (f j).len = 0
    · exact Or.inl hz
    · refine Or.inr ⟨b, q, Nat.lt_of_lt_of_le hl hg.size, fun i hi => hg.cell (hc i hi) ?_⟩
      have hb : b ≠ nb := by
        rintro rfl
        have := hc 0 (by omega)
        rw [hn.blk] at this
        exact step_slice _ _ _ _ _ _ _ _ (Option.some.inj this).symm
      simpa using hb
theorem NeedsAt.turn {w w' : World} {nb bb n cap : Nat} {M : Nat → Option Nat} {s : Ls} {row : Option Nat} (h : NeedsAt w nb bb n cap M s) (hg : w.grownBy w' row) (hr : ∀ r, row = some r → nb ≠ r ∧ ∃ x, w.heap[r]? = some (.loop x)) : NeedsAt w' nb bb n cap M s := by
  have hne : some nb ≠ row := fun e => (hr nb e.symm).1 rfl
  refine ⟨Nat.lt_of_lt_of_le h.lt hg.size, hg.cell h.blk (by simpa using hne), fun k hk => ⟨hg.cell (h.cell k hk).1 (by simpa using hne), (World.frozen?_of_block (hg.block nb h.lt hne)).trans (h.cell k hk).2⟩, fun k hk => (h.set k hk).far hg (fun r e q => ?_)⟩
  obtain ⟨_, x, ho⟩ := hr r e
  rcases h.set k hk with ⟨q', _⟩ | ⟨b, q', hs⟩
  · rw [q'] at q; cases q
  · rw [q'] at q
    cases q
    obtain ⟨es, clock, hb, _⟩ := hs
    rw [hb] at ho
    cases ho
/-- The names after the steps of a list of numbers, one behind the other. -/
def backsP (p : Bool) (zs : List Int) {len : Nat} (f : Nat → Bool) (pre : List (Fin len)) : Nat → Bool := pre.foldl (fun g i => stepBack p zs i.val g) f
theorem backsP_snoc (p : Bool) (zs : List Int) {len : Nat} (f : Nat → Bool) (pre : List (Fin len)) (x : Fin len) : backsP p zs f (pre ++ [x]) = stepBack p zs x.val (backsP p zs f pre) := by simp [backsP]
theorem backsP_all (p : Bool) (zs : List Int) (len : Nat) (f : Nat → Bool) : ∀ m, m ≤ len → backsP p zs f (downTo len m) = backK p zs len f m
  | 0, _ => rfl
  | m + 1, hm => by
    have e := downTo_next (len := len) (q := len - (m + 1)) (by omega)
    rw [show len - (len - (m + 1)) = m + 1 by omega, show len - (len - (m + 1) + 1) = m by omega] at e
    rw [e, backsP_snoc, backsP_all p zs len f m (by omega)]
    show stepBack p zs (len - (m + 1)) _ = stepBack p zs (len - 1 - m) _
    rw [show len - (m + 1) = len - 1 - m by omega]
theorem grow_row {W w w' : World} {mb : Nat} {row : Option Nat} (h : W.grownBy w (some mb)) (k : w.grownBy w' row) (hr : ∀ r, row = some r → W.heap.size ≤ r) : W.grownBy w' (some mb) :=
  ⟨k.os.trans h.os, k.tape.trans h.tape, k.output.trans h.output, Nat.le_trans h.size k.size, fun i hi hne => (k.block i (Nat.lt_of_lt_of_le hi h.size) (fun e => by have := hr i e.symm; omega)).trans (h.block i hi hne)⟩
theorem SetIs.len {w : World} {mb : Nat} {x : Nat → Bool} (h : SetIs w mb x) (hx : ∀ i, 8 ≤ i → x i = false) (ty : TypeId) : (Builtin.len_ #[56] ty #[.map (some mb)]).run Try.prog w = .ok (.int .i64 ((cntL x : Nat) : Int)) w := by
  have q := World.ownsMap.len h Try.underlying56 ty
  rw [sd_size, listS_names hx] at q
  exact q
theorem SetOr.len {w : World} {m : Option Nat} {x : Nat → Bool} (h : SetOr w m x) (hx : ∀ i, 8 ≤ i → x i = false) (ty : TypeId) : (Builtin.len_ #[56] ty #[.map m]).run Try.prog w = .ok (.int .i64 ((cntL x : Nat) : Int)) w := by
  rcases h with ⟨rfl, hz⟩ | ⟨b, rfl, hs⟩
  · have e : cntL x = 0 := by
      have q : x = fun _ => false := funext fun i => by
        by_cases hi : i < 64
        · exact hz i hi
        · exact hx i (by omega)
      rw [q]; rfl
    rw [e]
    exact Go.Maps.len_nil Try.underlying56 ty
  · exact hs.len hx ty
/-- Between two blocks: what the round has come to. -/
structure RInv (p : Bool) (f : Nat → Bv) (n nb bb cap : Nat) (s0 : Ls) (W X : World) (g0 : Nat) (bf : Value) (D : Nat → Prop) (c : Bool) (W1 : World) : Prop where
  need : ∃ M s, NeedsAt W1 nb bb n cap M s ∧ RndL p f n s0 s D c
  ch : Boxed W1 (g0 + 1 + 1) 4 (.bool c)
  pn : W1.cell? ⟨g0, 0, none⟩ = some (.pointer (some ⟨nb, 0, none⟩))
  pf : W1.cell? ⟨g0 + 1, 0, none⟩ = some bf
  gr : W.grownBy W1 (some nb)
  sz : X.heap.size ≤ W1.heap.size
/-- The numbers of a list. -/
def Dn {n : Nat} (pre : List (Fin n)) (j : Nat) : Prop := ∃ x ∈ pre, x.val = j
def RInvE (p : Bool) (f : Nat → Bv) (n nb bb cap : Nat) (s0 : Ls) (W X : World) (g0 : Nat) (bf : Value) (D : Nat → Prop) (W1 : World) : Prop := ∃ c, RInv p f n nb bb cap s0 W X g0 bf D c W1
theorem RInv.own {p : Bool} {f : Nat → Bv} {n nb bb cap : Nat} {s0 : Ls} {W X : World} {g0 : Nat} {bf : Value} {β : Type} {D : β → Nat → Prop} (hX : W.heap.size ≤ X.heap.size) (hnb : nb < X.heap.size) : OwnM X.heap.size (fun (s : β) W1 => RInvE p f n nb bb cap s0 W X g0 bf (D s) W1) := by
  rintro s A B row ⟨c, h⟩ hg hr
  have hc : ∀ r, row = some r → ∃ o : Obj, A.heap[r]? = some o ∧ o.isCells = false := fun r e => by obtain ⟨_, x, ho⟩ := hr r e; exact ⟨_, ho, rfl⟩
  obtain ⟨M, s1, hn, hR⟩ := h.need
  refine ⟨c, ⟨M, s1, hn.turn hg (fun r e => ⟨fun q => by have := (hr r e).1; omega, (hr r e).2⟩), hR⟩, boxed_own _ _ (fun (_ : Unit) => Value.bool c) () A B row h.ch hg hc, cell_kept h.pn hg hc, cell_kept h.pf hg hc, ?_, Nat.le_trans h.sz hg.size⟩
  exact ⟨hg.os.trans h.gr.os, hg.tape.trans h.gr.tape, hg.output.trans h.gr.output, Nat.le_trans h.gr.size hg.size, fun k hk hne => (hg.block k (Nat.lt_of_lt_of_le hk h.gr.size) (fun e => by have := (hr k e.symm).1; omega)).trans (h.gr.block k hk hne)⟩
theorem NeedsAt.map_ne {w : World} {nb bb n cap b : Nat} {M : Nat → Option Nat} {s : Ls} {x : Nat → Bool} (h : NeedsAt w nb bb n cap M s) (hs : SetIs w b x) : b ≠ nb := by
  rintro rfl
  obtain ⟨es, clock, hb, _⟩ := hs
  have := h.blk
  simp [World.cell?, hb] at this
theorem NeedsAt.putD {w : World} {nb bb n cap D : Nat} {M : Nat → Option Nat} {s : Ls} {q : Option (List Deferred)} (h : NeedsAt w nb bb n cap M s) (hD : w.heap[D]? = some (.deferred q)) (o : Obj) (hne : nb ≠ D) : NeedsAt (w.putObj D o) nb bb n cap M s := by
  have hg := grownBy_putObj' w D o
  refine ⟨Nat.lt_of_lt_of_le h.lt hg.size, hg.cell h.blk (by simpa using hne), fun k hk => ⟨hg.cell (h.cell k hk).1 (by simpa using hne), (World.frozen?_of_block (hg.block nb h.lt (by simpa using hne))).trans (h.cell k hk).2⟩, fun k hk => (h.set k hk).far hg (fun r e q => ?_)⟩
  cases e
  rcases h.set k hk with ⟨q', _⟩ | ⟨b, q', hs⟩
  · rw [q'] at q; cases q
  · rw [q'] at q
    cases q
    obtain ⟨es, clock, hb, _⟩ := hs
    rw [hb] at hD
    cases hD
theorem downTo_mem (n : Nat) : ∀ m, m ≤ n → ∀ j, n - m ≤ j → j < n → Dn (downTo n m) j
  | 0, _, j, h1, h2 => by omega
  | m + 1, hm, j, h1, h2 => by
    have e := downTo_next (len := n) (q := n - (m + 1)) (by omega)
    rw [show n - (n - (m + 1)) = m + 1 by omega, show n - (n - (m + 1) + 1) = m by omega] at e
    rw [e]
    by_cases hj : n - m ≤ j
    · obtain ⟨x, hx, q⟩ := downTo_mem n m (by omega) j hj h2
      exact ⟨x, List.mem_append_left _ hx, q⟩
    · exact ⟨_, List.mem_append_right _ (List.mem_singleton.2 rfl), by show n - (m + 1) = j; omega⟩
theorem rnd_all {p : Bool} {f : Nat → Bv} {n : Nat} {s0 s : Ls} {c : Bool} (h : RndL p f n s0 s (Dn (downTo n n)) c) : RndL p f n s0 s (fun _ => True) c :=
  ⟨h.up0, h.up, h.le, fun e => ⟨(h.no e).1, fun k hk _ => (h.no e).2 k hk (downTo_mem n n (Nat.le_refl _) k (by omega) hk)⟩, h.yes⟩
theorem round_keep {W2 V : World} {mb : Nat} (B : Nat) (hG : W2.grownBy V (some mb)) (hm : W2.heap.size ≤ mb) : KeepsFrom B W2 V :=
  ⟨hG.size, fun k o _ hk _ => by have := (Array.getElem?_eq_some_iff.1 hk).1; rw [hG.block k this (by simp; omega)]; exact hk⟩
theorem round_still {p : Bool} {f : Nat → Bv} {n nb bb cap : Nat} {s0 s1 : Ls} {W X W2 V : World} {g0 mb B : Nat} {bf : Value} {M1 : Nat → Option Nat} {c : Bool} {pre : List (Fin n)} {x : Fin n} (hf : flowB f n = true) (hB : B ≤ W2.heap.size)
    (hR : RInv p f n nb bb cap s0 W X g0 bf (Dn pre) c W2) (hRnd : RndL p f n s0 s1 (Dn pre) c) (hN : NeedsAt V nb bb n cap M1 s1) (hG : W2.grownBy V (some mb)) (hm : W2.heap.size ≤ mb) (he : cntL (aheadL p f s1 x.val) ≤ cntL (s1 x.val)) :
    KeepsFrom B W2 V ∧ KeepTwo B nb (g0 + 1 + 1) W2 V ∧ RInvE p f n nb bb cap s0 W X g0 bf (Dn (pre ++ [x])) V := by
  have hl := hR.ch.lt
  refine ⟨round_keep B hG hm, ⟨hG.size, fun k hk _ _ => hG.block k (by omega) (by simp; omega)⟩, c, ⟨M1, s1, hN, ?_⟩, hR.ch.kept hG (by simp; omega), hG.cell hR.pn (by simp; omega), hG.cell hR.pf (by simp; omega), grow_row hR.gr hG (fun r e => ?_), Nat.le_trans hR.sz hG.size⟩
  · refine rnd_still hf hRnd x.isLt he (SameL.refl _ _) (fun j hj hd => ?_)
    obtain ⟨y, hy, rfl⟩ := hd
    rcases List.mem_append.1 hy with q | q
    · exact Or.inl ⟨y, q, rfl⟩
    · simp at q; subst q; exact Or.inr rfl
  · cases e
    exact Nat.le_trans hR.gr.size hm
theorem set_cell_kept {w : World} {mb : Nat} {x : Nat → Bool} (h : SetIs w mb x) (b i : Nat) (v : Value) (hne : mb ≠ b) : SetIs (w.setCell ⟨b, i, none⟩ v) mb x :=
  h.far (row := some b) ⟨rfl, rfl, rfl, by simp, fun k _ hk => Below.heap_setCell _ _ _ k (fun e => hk (by rw [e]))⟩ (by simpa using hne)
theorem NeedsAt.off {w : World} {nb bb n cap : Nat} {M : Nat → Option Nat} {s : Ls} (h : NeedsAt w nb bb n cap M s) {b : Nat} {t : TypeId} {u : Value} (hb : Boxed w b t u) (hne : b ≠ nb) (v : Value) : NeedsAt (w.setCell ⟨b, 0, none⟩ v) nb bb n cap M s := by
  refine ⟨by simpa using h.lt, by rw [World.cell?_setCell_other _ _ _ _ (by simp [hne])]; exact h.blk, fun k hk => ⟨by rw [World.cell?_setCell_other _ _ _ _ (by simp [hne])]; exact (h.cell k hk).1, by simpa using (h.cell k hk).2⟩, fun k hk => ?_⟩
  rcases h.set k hk with q | ⟨m, q, hs⟩
  · exact Or.inl q
  · refine Or.inr ⟨m, q, set_cell_kept hs b 0 v ?_⟩
    rintro rfl
    obtain ⟨es, clock, ho, _⟩ := hs
    rw [show w.heap[m]? = _ from hb] at ho
    cases ho
theorem NeedsAt.put {w : World} {nb bb n cap mb k : Nat} {M : Nat → Option Nat} {s : Ls} {x : Nat → Bool} (h : NeedsAt w nb bb n cap M s) (hs : SetIs w mb x) (hk : k < 8) : NeedsAt (w.setCell ⟨nb, 1 + k, none⟩ (.map (some mb))) nb bb n cap (fun j => if j = k then some mb else M j) (updL s k x) := by
  have hne := h.map_ne hs
  refine ⟨by simpa using h.lt, by rw [World.cell?_setCell_other _ _ _ _ (by simp)]; exact h.blk, fun j hj => ⟨?_, by simpa using (h.cell j hj).2⟩, fun j hj => ?_⟩
  · by_cases e : j = k
    · subst e
      simp only [if_true]
      exact World.cell?_setCell_same _ _ _ (h.cell j hj).1
    · rw [World.cell?_setCell_other _ _ _ _ (fun q => by simp at q <;> omega)]
      simp only [if_neg e]
      exact (h.cell j hj).1
  · by_cases e : j = k
    · subst e
      simp only [if_true, updL_same]
      exact Or.inr ⟨mb, rfl, set_cell_kept hs _ _ _ hne⟩
    · simp only [if_neg e, updL_other _ _ e]
      rcases h.set j hj with q | ⟨m, q, hm⟩
      · exact Or.inl q
      · exact Or.inr ⟨m, q, set_cell_kept hm _ _ _ (h.map_ne hm)⟩
theorem NeedsAt.drew1 {w : World} {nb bb n cap : Nat} {M : Nat → Option Nat} {s : Ls} (h : NeedsAt w nb bb n cap M s) : NeedsAt w.drew nb bb n cap M s := ⟨h.lt, h.blk, h.cell, h.set⟩
theorem round_more {p : Bool} {f : Nat → Bv} {n nb bb cap : Nat} {s0 s1 : Ls} {W X W2 V : World} {g0 mb B : Nat} {bf : Value} {M1 : Nat → Option Nat} {c : Bool} {pre : List (Fin n)} {x : Fin n} {t : TypeId} (hf : flowB f n = true) (hB : B ≤ W2.heap.size) (hg0 : W.heap.size ≤ g0) (hnb : nb < W.heap.size)
    (hR : RInv p f n nb bb cap s0 W X g0 bf (Dn pre) c W2) (hRnd : RndL p f n s0 s1 (Dn pre) c) (hN : NeedsAt V nb bb n cap M1 s1) (hS : SetIs V mb (aheadL p f s1 x.val)) (hG : W2.grownBy V (some mb)) (hm : W2.heap.size ≤ mb) (he : cntL (s1 x.val) < cntL (aheadL p f s1 x.val)) :
    KeepsFrom B W2 ((V.setCell ⟨nb, 1 + x.val, none⟩ (.map (some mb))).setCell ⟨g0 + 1 + 1, 0, none⟩ (.bool true)).drew ∧ KeepTwo B nb (g0 + 1 + 1) W2 ((V.setCell ⟨nb, 1 + x.val, none⟩ (.map (some mb))).setCell ⟨g0 + 1 + 1, 0, none⟩ (.bool true)).drew ∧ RInvE p f n nb bb cap s0 W X g0 bf (Dn (pre ++ [x])) ((V.setCell ⟨nb, 1 + x.val, none⟩ (.map (some mb))).setCell ⟨g0 + 1 + 1, 0, none⟩ (.bool true)).drew := by
  have hl := hR.ch.lt
  have hn8 : n ≤ 8 := (flow_out hf).1.2
  have hx8 : x.val < 8 := Nat.lt_of_lt_of_le x.isLt hn8
  have hsz := hG.size
  have hb : Boxed (V.setCell ⟨nb, 1 + x.val, none⟩ (.map (some mb))) (g0 + 1 + 1) 4 (.bool c) := (Below.heap_setCell _ _ _ (g0 + 1 + 1) (by simp; omega)).trans (hR.ch.kept hG (by simp; omega))
  have hblk : ∀ k, k ≠ nb → k ≠ g0 + 1 + 1 → ((V.setCell ⟨nb, 1 + x.val, none⟩ (.map (some mb))).setCell ⟨g0 + 1 + 1, 0, none⟩ (.bool true)).heap[k]? = V.heap[k]? := fun k h1 h2 => (Below.heap_setCell _ _ _ k h2).trans (Below.heap_setCell _ _ _ k h1)
  have hsize : ((V.setCell ⟨nb, 1 + x.val, none⟩ (.map (some mb))).setCell ⟨g0 + 1 + 1, 0, none⟩ (.bool true)).heap.size = V.heap.size := by simp
  refine ⟨(round_keep B hG hm).trans ((((KeepsOthers.setCell _ _ _).from B).trans ((KeepsOthers.setCell _ _ _).from B)).trans ((KeepsOthers.drew _).from B)), ⟨by show _ ≤ Array.size (World.heap (World.setCell _ _ _)); rw [hsize]; exact hG.size, fun k hk h1 h2 => (hblk k h1 h2).trans (hG.block k (by omega) (by simp; omega))⟩, true, ⟨_, _, ((hN.put hS hx8).off hb (by omega) _).drew1, rnd_more hf hRnd x.isLt he _⟩, hb.set _, ?_, ?_, ?_, ?_⟩
  · exact (World.cell?_of_block (hblk g0 (by omega) (by omega))).trans (hG.cell hR.pn (by simp; omega))
  · exact (World.cell?_of_block (hblk (g0 + 1) (by omega) (by omega))).trans (hG.cell hR.pf (by simp; omega))
  · have h1 := hR.gr.size
    exact ⟨hG.os.trans hR.gr.os, hG.tape.trans hR.gr.tape, hG.output.trans hR.gr.output, by show _ ≤ Array.size (World.heap (World.setCell _ _ _)); rw [hsize]; omega, fun k hk hne => (hblk k (by simpa using hne) (by omega)).trans ((hG.block k (by omega) (by simp; omega)).trans (hR.gr.block k hk hne))⟩
  · have := hR.sz
    show _ ≤ Array.size (World.heap (World.setCell _ _ _))
    rw [hsize]
    omega

set_option maxHeartbeats 16000000 in
theorem impl_round_s (nb bb n cap : Nat) (A S : Nat → Option Addr × Nat) (f : Nat → Bv) (M : Nat → Option Nat) (s0 : Ls) (W : World) (hf : Hid (flowB f n = true)) (hb : Hid (BlocksAt W bb n A S f)) (h : Hid (NeedsAt W nb bb n cap M s0)) (hu : Hid (UpL false f n s0)) :
    Calls Try.prog 42 #[.pointer (some ⟨nb, 0, none⟩), .func (.func 23) #[] #[]] W fun e W' => RoundAns false f n nb bb cap s0 W e W' := by
  have hn8 : n ≤ 8 := (flow_out hf.out).1.2
  have hn1 : 1 ≤ n := (flow_out hf.out).1.1
  have d0 := h.out.blk
  have hnl := h.out.lt
  have d1 : (((W.alloc (.cells #[.pointer (some ⟨nb, 0, none⟩)] 50)).alloc (.cells #[.func (.func 23) #[] #[]] 71)).alloc (.cells #[.bool false] 4)).cell? ⟨nb, 0, none⟩ = some (.slice (some ⟨bb, 0, none⟩) n cap) := ((((Below.refl _ W).alloc (Nat.le_refl _) _).alloc (by simp) _).alloc (by simp; omega) _ |>.cell (p := ⟨nb, 0, none⟩) hnl).trans d0
  refine (callsIn_wide (n := 8)).1 ?_
  have f1 : Fence.wide.fn 60 := trivial
  have f2 : Fence.wide.fn 47 := trivial
  have f3 : Fence.wide.fn 23 := trivial
  have f4 : Fence.wide.fn 46 := trivial
  refine callsIn_of_wp_marks Try.func42 rfl trivial ?_ rfl
  simp only [Try.ntmps42, List.size_toArray, List.length_cons, List.length_nil, Nat.reduceAdd, Nat.reduceSub, Array.replicate_succ, Array.replicate_zero, List.push_toArray, List.append_toArray, List.nil_append, List.cons_append]
  gi_wp2_with (gi_at_call 60; refine (backwardB_in Fence.wide _ trivial rfl _ _ _ _).mono ?_; rintro e w' ⟨rfl, rfl⟩)
  have hB0 : Below W.heap.size W ((((W.alloc (.cells #[.pointer (some ⟨nb, 0, none⟩)] 50)).alloc (.cells #[.func (.func 23) #[] #[]] 71)).alloc (.cells #[.bool false] 4)).alloc (.cells #[.slice (some ⟨bb, 0, none⟩) n cap] 72)) := ((((Below.refl _ W).alloc (Nat.le_refl _) _).alloc (by simp) _).alloc (by simp; omega) _).alloc (by simp; omega) _
  have b0 := (((Boxed.new W 50 (.pointer (some ⟨nb, 0, none⟩))).alloc (.cells #[.func (.func 23) #[] #[]] 71)).alloc (.cells #[.bool false] 4)).alloc (.cells #[.slice (some ⟨bb, 0, none⟩) n cap] 72)
  have b1 := ((Boxed.new (W.alloc (.cells #[.pointer (some ⟨nb, 0, none⟩)] 50)) 71 (.func (.func 23) #[] #[])).alloc (.cells #[.bool false] 4)).alloc (.cells #[.slice (some ⟨bb, 0, none⟩) n cap] 72)
  have b2 := (Boxed.new ((W.alloc (.cells #[.pointer (some ⟨nb, 0, none⟩)] 50)).alloc (.cells #[.func (.func 23) #[] #[]] 71)) 4 (.bool false)).alloc (.cells #[.slice (some ⟨bb, 0, none⟩) n cap] 72)
  have b3 := Boxed.new (((W.alloc (.cells #[.pointer (some ⟨nb, 0, none⟩)] 50)).alloc (.cells #[.func (.func 23) #[] #[]] 71)).alloc (.cells #[.bool false] 4)) 72 (.slice (some ⟨bb, 0, none⟩) n cap)
  simp only [World.size_alloc] at b1 b2 b3
  obtain ⟨X, hX⟩ : ∃ X, Hid (((((W.alloc (.cells #[.pointer (some ⟨nb, 0, none⟩)] 50)).alloc (.cells #[.func (.func 23) #[] #[]] 71)).alloc (.cells #[.bool false] 4)).alloc (.cells #[.slice (some ⟨bb, 0, none⟩) n cap] 72)) = X) := ⟨_, rfl⟩
  have hXs : X.heap.size = W.heap.size + 1 + 1 + 1 + 1 := by rw [← hX.out]; simp
  rw [hX.out] at hB0 b0 b1 b2 b3 ⊢
  have hbl := hb.out.lt
  have hbn : bb ≠ nb := (hb.out.far h.out (by omega) (grow_same W (some nb))).2
  clear d0 d1
  refine loop_maps rfl (by omega) (gf := 74) (lb := #[.pointer (some ⟨W.heap.size + 1 + 1 + 1, 0, none⟩)]) rfl trivial (enters_of Try.func74 (by kernel_rfl) rfl)
    (backwardB_stops Fence.wide 7 trivial rfl (by omega) (W.heap.size + 1 + 1 + 1) X.heap.size nb (W.heap.size + 1 + 1) bb n cap A S f (by omega) X (Nat.le_refl _) (by omega) (by omega) (by omega) (by omega) hbn (by omega) b3.cell (fun i hi => (hB0.cell (p := ⟨bb, i, none⟩) hbl).trans (hb.out.cell i hi))) keepTwo_t (keepTwo_b (Nat.le_refl _)) (fun _ => rfl)
    (fun pre W1 => RInvE false f n nb bb cap s0 W X W.heap.size (.func (.func 23) #[] #[]) (Dn pre) W1)
    (RInv.own (by omega) (by omega))
    ⟨false, ⟨M, s0, h.out.kept hB0, rnd_start hu.out _ (fun k _ q => by obtain ⟨x, hx, _⟩ := q; cases hx)⟩, b2, b0.cell, b1.cell, below_grown hB0 _, Nat.le_refl _⟩
    (fun x a' W1 => ∃ Bx, X.heap.size ≤ Bx ∧ Bx < W1.heap.size ∧ W1.cell? ⟨Bx, 4, none⟩ = some (.slice (S x.val).1 (f x.val).len (S x.val).2) ∧ a' = { tmps := #[.pointer (some ⟨nb, 0, none⟩), .func (.func 23) #[] #[], .pointer (some ⟨W.heap.size, 0, none⟩), .pointer (some ⟨W.heap.size + 1, 0, none⟩), .bool false, .pointer (some ⟨W.heap.size + 1 + 1, 0, none⟩), .int .i64 (x.val : Int), .pointer (some ⟨Bx, 0, none⟩), undef, undef, undef, .pointer (some ⟨nb, 0, none⟩), .pointer (some ⟨nb, 0, none⟩), .pointer (some ⟨nb, 0, none⟩), .slice (some ⟨bb, 0, none⟩) n cap, .func (.func 74) #[] #[.pointer (some ⟨W.heap.size + 1 + 1 + 1, 0, none⟩)], .int .i64 (x.val : Int), blkV A S f x.val, undef, undef, undef, undef, undef, undef, undef, undef, undef, undef, undef, undef, undef, undef, undef, undef, undef, undef, undef, undef, undef, undef, undef, undef, undef, undef, undef, undef, undef], defers := [] })
    (fun x a' _ X1 Y1 row hs hg hr => by obtain ⟨Bx, h1, h2, h3, h4⟩ := hs; exact ⟨Bx, h1, Nat.lt_of_lt_of_le h2 hg.size, cell_kept h3 hg (fun r e => by obtain ⟨_, x, ho⟩ := hr r e; exact ⟨_, ho, rfl⟩), h4⟩)
    ?assign ?body ?done
  case assign =>
    rintro l pre x W1 K ⟨c, hR⟩ hK
    obtain ⟨ca, cc, t, th, el, sa, sc, ln, hv, hv4⟩ : ∃ ca cc t th el sa sc ln, blkV A S f x.val = .agg #[.slice ca ln cc, .int .i64 t, .int .i64 th, .int .i64 el, .slice sa ln sc] ∧ Value.slice (S x.val).1 (f x.val).len (S x.val).2 = .slice sa ln sc := ⟨_, _, _, _, _, _, _, _, rfl, rfl⟩
    rw [hv, hv4] at hK
    rw [hv]
    clear hv hv4
    gi_wp2
    have hWs := hR.sz
    exact hK _ _ ((KeepsOthers.alloc _ _).from _) ⟨by simp, fun k hk _ _ => Below.heap_alloc _ _ k (by omega)⟩ ((RInv.own (β := List (Fin n)) (D := fun pre => Dn pre) (by omega) (by omega)).new (s := pre) _ ⟨c, hR⟩) ⟨W1.heap.size, hWs, by simp, by simp, rfl⟩
  case body =>
    rintro l pre x a' W2 hl ⟨r, hr⟩ ⟨c, hR⟩ ⟨Bx, hBx, hBl, c4, rfl⟩ hlt
    obtain ⟨M1, s1, hn1', hRnd⟩ := hR.need
    have HN2 : Hid (NeedsAt W2 nb bb n cap M1 s1) := hn1'
    have HRnd : Hid (RndL false f n s0 s1 (Dn pre) c) := hRnd
    have HRI : Hid (RInv false f n nb bb cap s0 W X W.heap.size (.func (.func 23) #[] #[]) (Dn pre) c W2) := hR
    have hbW := (hb.out.far h.out (by omega) hR.gr).1
    have HB2 : Hid (BlocksAt W2 bb n A S f) := hbW
    have hW2s := hR.sz
    have cp := hR.pn
    have CB := impl_behind nb bb n cap x.val A S f M1 s1 W2 hf x.isLt HB2 HN2
    have hst : ∀ j, j < (f x.val).len → stepB (f x.val).zs j = true := by
      have hblk := (flow_out hf.out).2 x.val x.isLt
      simp only [blockB, Bool.and_eq_true] at hblk
      exact (code_out hblk.1.1.1).2
    have hll : (f x.val).len ≤ 30 := by
      have hblk := (flow_out hf.out).2 x.val x.isLt
      simp only [blockB, Bool.and_eq_true] at hblk
      exact (code_out hblk.1.1.1).1
    have HST : Hid (∀ j, j < (f x.val).len → stepB (f x.val).zs j = true) := hst
    have HStp : Hid (Steps W2 (S x.val).1 (f x.val).zs (f x.val).len) := hbW.step x.val x.isLt
    have HAH : Hid (aheadL false f s1 x.val = backK false (f x.val).zs (f x.val).len (behindL (f x.val) s1) (f x.val).len) := rfl
    obtain ⟨bz, hbz⟩ : ∃ bz, Hid (behindL (f x.val) s1 = bz) := ⟨_, rfl⟩
    have HBZ : Hid (∀ i, 8 ≤ i → bz i = false) := by show ∀ i, _ → _; rw [← hbz.out]; exact behind_hi hf.out x.isLt HRnd.out.up.hi
    rw [hbz.out] at CB HAH
    generalize blkV A S f x.val = bv
    generalize (f x.val).zs = zs at HST HStp HAH
    generalize (f x.val).len = len at c4 HST HStp hll HAH
    generalize (S x.val).1 = sa at c4 HStp
    generalize (S x.val).2 = sc at c4
    clear hR hn1' hRnd hst hbW
    gi_wp2_with fail
    refine (CallsIn.inRound l (callsIn_wide.2 CB)).mono ?_
    rintro e w3 ⟨mb, rfl, hmb, hS3, hB3⟩
    have hmbl := hS3.lt
    clear CB
    have HB3 : Hid (Below W2.heap.size W2 w3) := hB3
    have HS3 : Hid (SetIs w3 mb bz) := hS3
    have h3s := hB3.size
    have c4b : (w3.alloc (.cells #[.map (some mb)] 56)).cell? ⟨Bx, 4, none⟩ = some (.slice sa len sc) := (((Below.refl _ w3).alloc (Nat.le_refl _) _).cell (p := ⟨Bx, 4, none⟩) (by show Bx < _; omega)).trans ((hB3.cell (p := ⟨Bx, 4, none⟩) hBl).trans c4)
    clear hB3 hS3
    gi_wp2_with (gi_at_call 47; refine (CallsIn.inRound l (backward_in Fence.wide _ trivial rfl _ _ _ _)).mono ?_; rintro e w' ⟨rfl, rfl⟩)
    have hB4 : Below w3.heap.size w3 ((w3.alloc (.cells #[.map (some mb)] 56)).alloc (.cells #[.slice sa len sc] 85)) := ((Below.refl _ w3).alloc (Nat.le_refl _) _).alloc (by simp) _
    have bM := (Boxed.new w3 56 (.map (some mb))).alloc (.cells #[.slice sa len sc] 85)
    have bI := Boxed.new (w3.alloc (.cells #[.map (some mb)] 56)) 85 (.slice sa len sc)
    simp only [World.size_alloc] at bI
    obtain ⟨Y, hY⟩ : ∃ Y, Hid (((w3.alloc (.cells #[.map (some mb)] 56)).alloc (.cells #[.slice sa len sc] 85)) = Y) := ⟨_, rfl⟩
    have hYs : Y.heap.size = w3.heap.size + 1 + 1 := by rw [← hY.out]; simp
    rw [hY.out] at hB4 bM bI ⊢
    have HBY : Hid (Below W2.heap.size W2 Y) := HB3.out.trans (hB4.mono h3s)
    have hrl := (Array.getElem?_eq_some_iff.1 hr).1
    have hr' : Y.heap[l]? = some (.loop r) := (HBY.out.block l hrl).trans hr
    have pf4 : Y.cell? ⟨W.heap.size + 1, 0, none⟩ = some (.func (.func 23) #[] #[]) := (HBY.out.cell (p := ⟨W.heap.size + 1, 0, none⟩) (by show W.heap.size + 1 < _; omega)).trans HRI.out.pf
    have hab : ∀ b o, sa = some ⟨b, o, none⟩ → 0 < len → b < Y.heap.size ∧ b ≠ mb := by
      intro b o e h0
      rcases HStp.out with q | ⟨b', e', hlb, _⟩
      · omega
      · rw [e] at e'
        simp only [Option.some.injEq, Addr.mk.injEq] at e'
        obtain ⟨rfl, rfl, _⟩ := e'
        exact ⟨by omega, by omega⟩
    refine wpIn_rangeFunc_ownN (l₀ := l) (r₀ := r) rfl hr' (by omega) (gf := 64) (lb := #[.pointer (some ⟨w3.heap.size + 1, 0, none⟩)]) rfl trivial (enters_of Try.func64 (by kernel_rfl) rfl)
      ((backward_stops Fence.wide 5 trivial rfl (by omega) (w3.heap.size + 1) Y.heap.size mb sa len sc zs (by omega) Y (Nat.le_refl _) (by omega) (by omega) bI.cell (HStp.out.kept HBY.out) hab).inRound l) keepBut_t (keepBut_b (Nat.le_refl _)) (Below.refl _ _) (fun _ => rfl)
      (fun pre' W' => SetIs W' mb (backsP false zs bz pre') ∧ Y.grownBy W' (some mb))
      (fun _ _ _ => False)
      (fun s A B row hs hg hr => ⟨hs.1.far hg (fun e => by have := (hr _ e.symm).1; omega), grow_row hs.2 hg (fun r e => (hr r e).1)⟩)
      (fun _ _ _ _ _ hs _ _ => hs)
      ⟨HS3.out.kept hB4, grow_same _ _⟩
      (fun y a'' _ => a'' = { tmps := #[.pointer (some ⟨nb, 0, none⟩), .func (.func 23) #[] #[], .pointer (some ⟨W.heap.size, 0, none⟩), .pointer (some ⟨W.heap.size + 1, 0, none⟩), .bool false, .pointer (some ⟨W.heap.size + 1 + 1, 0, none⟩), .int .i64 (x.val : Int), .pointer (some ⟨Bx, 0, none⟩), .pointer (some ⟨w3.heap.size, 0, none⟩), undef, stepAt zs y.val, .pointer (some ⟨nb, 0, none⟩), .pointer (some ⟨nb, 0, none⟩), .pointer (some ⟨nb, 0, none⟩), .slice (some ⟨bb, 0, none⟩) n cap, .func (.func 74) #[] #[.pointer (some ⟨W.heap.size + 1 + 1 + 1, 0, none⟩)], .int .i64 (x.val : Int), bv, .pointer (some ⟨nb, 0, none⟩), .int .i64 (x.val : Int), .map (some mb), .pointer (some ⟨Bx, 4, none⟩), .slice sa len sc, .func (.func 64) #[] #[.pointer (some ⟨w3.heap.size + 1, 0, none⟩)], .int .i64 (y.val : Int), stepAt zs y.val, undef, undef, undef, undef, undef, undef, undef, undef, undef, undef, undef, undef, undef, undef, undef, undef, undef, undef, undef, undef, undef], defers := [] })
      (fun _ _ _ _ _ _ hs _ _ => hs)
      ?assign2 ?body2 ?done2 ?stop2
    case assign2 =>
      rintro l2 pre' y W' K hi hK
      generalize stepAt zs y.val = sv at hK ⊢
      gi_wp2
      exact hK _ _ (KeepsFrom.refl _ _) (KeepBut.refl _ _ _) hi rfl
    case body2 =>
      rintro l2 pre' y a'' W' _ _ ⟨hs', hg'⟩ rfl _
      have hst : stepB zs y.val = true := HST.out y.val y.isLt
      have C := impl_strong _ _ _ _ _ mb (backsP false zs bz pre') W' hst hs'
      have HPost : Hid (∀ w', SetIs w' mb (stepBack false zs y.val (backsP false zs bz pre')) → SetIs w' mb (backsP false zs bz (pre' ++ [y]))) := fun w' q => by rw [backsP_snoc]; exact q
      change Calls _ _ #[.map (some mb), stepAt zs y.val] _ _ at C
      generalize stepAt zs y.val = sv at C ⊢
      have cf : W'.cell? ⟨W.heap.size + 1, 0, none⟩ = some (.func (.func 23) #[] #[]) := hg'.cell pf4 (by simp; omega)
      have cm : W'.cell? ⟨w3.heap.size, 0, none⟩ = some (.map (some mb)) := hg'.cell bM.cell (by simp; omega)
      gi_wp2_with (gi_at_call 23; refine (CallsIn.inRound l2 (CallsIn.inRound l (callsIn_wide.2 C))).mono ?_; rintro e w' ⟨rfl, hS', hG'⟩)
      have hYW := hg'.size
      exact ⟨KeepsFrom.of_grownBy hG' (fun j e => by cases e; omega), ⟨hG'.size, fun k hk hne => hG'.block k (by omega) (by simpa using hne)⟩, HPost.out _ hS', grow_to hg' hG'⟩
    case stop2 =>
      rintro c pre' W' _ h
      exact h.elim
    case done2 =>
      rintro ys W' rfl ⟨hs', hg'⟩
      have hYW := hg'.size
      have HNY : Hid (NeedsAt Y nb bb n cap M1 s1) := HN2.out.kept HBY.out
      have hnb2 : nb < W2.heap.size := HN2.out.lt
      have HNW : Hid (NeedsAt W' nb bb n cap M1 s1) := HNY.out.but ⟨hg'⟩ (by omega) (fun k hk e => by have := HN2.out.old hk e; omega)
      obtain ⟨xx, hxx⟩ : ∃ xx, Hid (aheadL false f s1 x.val = xx) := ⟨_, rfl⟩
      have HSX : Hid (SetIs W' mb xx) := by
        show SetIs _ _ _
        rw [← hxx.out, HAH.out]
        have := hs'
        rw [backsP_all false zs len bz len (Nat.le_refl _)] at this
        exact this
      have HXh : Hid (∀ i, 8 ≤ i → xx i = false) := by show ∀ i, _ → _; rw [← hxx.out]; exact ahead_hi hf.out x.isLt HRnd.out.up.hi
      obtain ⟨m1, hm1⟩ : ∃ m1, Hid (cntL xx = m1) := ⟨_, rfl⟩
      obtain ⟨m2, hm2⟩ : ∃ m2, Hid (cntL (s1 x.val) = m2) := ⟨_, rfl⟩
      obtain ⟨om, hom⟩ : ∃ om, Hid (M1 x.val = om) := ⟨_, rfl⟩
      have L1 : ∀ q ty, (Builtin.len_ #[56] ty #[.map (some mb)]).run Try.prog (W'.drewN q) = .ok (.int .i64 (m1 : Int)) (W'.drewN q) := fun q ty => by rw [← hm1.out]; exact SetIs.len (w := W'.drewN q) HSX.out HXh.out ty
      have L2 : ∀ q ty, (Builtin.len_ #[56] ty #[.map om]).run Try.prog (W'.drewN q) = .ok (.int .i64 (m2 : Int)) (W'.drewN q) := fun q ty => by rw [← hm2.out, ← hom.out]; exact SetOr.len (w := W'.drewN q) (HNW.out.set x.val x.isLt) (HRnd.out.up.hi x.val x.isLt) ty
      have cm : W'.cell? ⟨w3.heap.size, 0, none⟩ = some (.map (some mb)) := hg'.cell bM.cell (by simp; omega)
      have cpn : W'.cell? ⟨W.heap.size, 0, none⟩ = some (.pointer (some ⟨nb, 0, none⟩)) := hg'.cell ((HBY.out.cell (p := ⟨W.heap.size, 0, none⟩) (by show W.heap.size < _; omega)).trans HRI.out.pn) (by simp; omega)
      have hx8 : x.val < 8 := by have := x.isLt; omega
      have hx8I : (x.val : Int) < 8 := by omega
      have ca1 : W'.cell? ⟨nb, 1 + x.val, none⟩ = some (.map om) := by rw [← hom.out]; exact (HNW.out.cell x.val hx8).1
      have HGW : Hid (W2.grownBy W' (some mb)) := grow_to (below_grown HBY.out _) hg'
      have HGY : Hid (Y.grownBy W' (some mb)) := hg'
      obtain ⟨xv, hxv⟩ : ∃ xv, Hid (x.val = xv) := ⟨_, rfl⟩
      clear hs' hg' c4 c4b cp pf4 bM bI hr' hr hB4
      have hmx : Try.prog.follows .mixedOrders = true := by kernel_rfl
      gi_wp2
      refine quiet_round rfl hmx (by kernel_rfl) (by kernel_rfl) ?_
      repeat (gi_big_quiet_step (fail))
      refine wpQuietIn_nil ?_
      intro _ hw'
      obtain ⟨nq, rfl⟩ := hw'
      clear L1 L2
      have HNq : Hid (NeedsAt (W'.drewN nq) nb bb n cap M1 s1) := ⟨HNW.out.lt, HNW.out.blk, HNW.out.cell, HNW.out.set⟩
      have HSq : Hid (SetIs (W'.drewN nq) mb xx) := HSX.out
      have HGq : Hid (W2.grownBy (W'.drewN nq) (some mb)) := ⟨HGW.out.os, HGW.out.tape, HGW.out.output, HGW.out.size, HGW.out.block⟩
      have HGYq : Hid (Y.grownBy (W'.drewN nq) (some mb)) := ⟨HGY.out.os, HGY.out.tape, HGY.out.output, HGY.out.size, HGY.out.block⟩
      have cmq : (W'.drewN nq).cell? ⟨w3.heap.size, 0, none⟩ = some (.map (some mb)) := cm
      have cpq : (W'.drewN nq).cell? ⟨W.heap.size, 0, none⟩ = some (.pointer (some ⟨nb, 0, none⟩)) := cpn
      have caq : (W'.drewN nq).cell? ⟨nb, 1 + x.val, none⟩ = some (.map om) := ca1
      have chq : (W'.drewN nq).cell? ⟨W.heap.size + 1 + 1, 0, none⟩ = some (.bool c) := HGW.out.cell HRI.out.ch.cell (by simp; omega)
      clear HNW HSX HGW HGY cm cpn ca1
      obtain ⟨V, hV⟩ : ∃ V, V = W'.drewN nq := ⟨_, rfl⟩
      have hVs : V.heap.size = W'.heap.size := by rw [hV]; rfl
      rw [← hV] at HNq HSq HGq HGYq cmq cpq caq chq ⊢
      clear hV
      by_cases hlt12 : m2 < m1
      · have dl : decide (m2 < m1) = true := decide_eq_true hlt12
        gi_wp2
        have fz1 : V.frozen? ⟨nb, 1 + x.val, none⟩ = false := (HNq.out.cell x.val hx8).2
        have fzb : V.frozen? ⟨W.heap.size + 1 + 1, 0, none⟩ = false := (HRI.out.ch.kept HGq.out (by simp; omega)).frozen
        gi_region_o
        all_goals try gi_wp2
        all_goals exact round_more (t := 0) hf.out (by omega) (Nat.le_refl _) hnl HRI.out HRnd.out HNq.out (by rw [hxx.out]; exact HSq.out) HGq.out hmb (by rw [hxx.out, hm1.out, hm2.out]; exact hlt12)
      · have dl : decide (m2 < m1) = false := decide_eq_false hlt12
        gi_wp2
        exact round_still hf.out (by omega) HRI.out HRnd.out HNq.out HGq.out hmb (by rw [hxx.out, hm1.out, hm2.out]; omega)
  case done =>
    rintro D ys W1 hD rfl ⟨c, hR⟩ hK
    have cc := hR.ch.cell
    have HR : Hid (RInv false f n nb bb cap s0 W X W.heap.size (.func (.func 23) #[] #[]) (Dn (downTo n n)) c W1) := hR
    clear hR
    gi_wp2
    refine ⟨by simp, .inl ⟨_, _, rfl, run_takeDeferred hK, ?_⟩⟩
    obtain ⟨M2, s2, hN, hRnd⟩ := HR.out.need
    refine ⟨_, results_one rfl _ _ _, c, M2, s2, rfl, hN.putD hK _ (by omega), rnd_all hRnd, ?_⟩
    exact grow_row HR.out.gr (grownBy_putObj' W1 D _) (fun r e => by cases e; omega)

set_option maxHeartbeats 16000000 in
theorem impl_round_p (nb bb n cap : Nat) (A S : Nat → Option Addr × Nat) (f : Nat → Bv) (M : Nat → Option Nat) (s0 : Ls) (W : World) (hf : Hid (flowB f n = true)) (hb : Hid (BlocksAt W bb n A S f)) (h : Hid (NeedsAt W nb bb n cap M s0)) (hu : Hid (UpL true f n s0)) :
    Calls Try.prog 42 #[.pointer (some ⟨nb, 0, none⟩), .func (.func 44) #[] #[]] W fun e W' => RoundAns true f n nb bb cap s0 W e W' := by
  have hn8 : n ≤ 8 := (flow_out hf.out).1.2
  have hn1 : 1 ≤ n := (flow_out hf.out).1.1
  have d0 := h.out.blk
  have hnl := h.out.lt
  have d1 : (((W.alloc (.cells #[.pointer (some ⟨nb, 0, none⟩)] 50)).alloc (.cells #[.func (.func 44) #[] #[]] 71)).alloc (.cells #[.bool false] 4)).cell? ⟨nb, 0, none⟩ = some (.slice (some ⟨bb, 0, none⟩) n cap) := ((((Below.refl _ W).alloc (Nat.le_refl _) _).alloc (by simp) _).alloc (by simp; omega) _ |>.cell (p := ⟨nb, 0, none⟩) hnl).trans d0
  refine (callsIn_wide (n := 8)).1 ?_
  have f1 : Fence.wide.fn 60 := trivial
  have f2 : Fence.wide.fn 47 := trivial
  have f3 : Fence.wide.fn 44 := trivial
  have f4 : Fence.wide.fn 46 := trivial
  refine callsIn_of_wp_marks Try.func42 rfl trivial ?_ rfl
  simp only [Try.ntmps42, List.size_toArray, List.length_cons, List.length_nil, Nat.reduceAdd, Nat.reduceSub, Array.replicate_succ, Array.replicate_zero, List.push_toArray, List.append_toArray, List.nil_append, List.cons_append]
  gi_wp2_with (gi_at_call 60; refine (backwardB_in Fence.wide _ trivial rfl _ _ _ _).mono ?_; rintro e w' ⟨rfl, rfl⟩)
  have hB0 : Below W.heap.size W ((((W.alloc (.cells #[.pointer (some ⟨nb, 0, none⟩)] 50)).alloc (.cells #[.func (.func 44) #[] #[]] 71)).alloc (.cells #[.bool false] 4)).alloc (.cells #[.slice (some ⟨bb, 0, none⟩) n cap] 72)) := ((((Below.refl _ W).alloc (Nat.le_refl _) _).alloc (by simp) _).alloc (by simp; omega) _).alloc (by simp; omega) _
  have b0 := (((Boxed.new W 50 (.pointer (some ⟨nb, 0, none⟩))).alloc (.cells #[.func (.func 44) #[] #[]] 71)).alloc (.cells #[.bool false] 4)).alloc (.cells #[.slice (some ⟨bb, 0, none⟩) n cap] 72)
  have b1 := ((Boxed.new (W.alloc (.cells #[.pointer (some ⟨nb, 0, none⟩)] 50)) 71 (.func (.func 44) #[] #[])).alloc (.cells #[.bool false] 4)).alloc (.cells #[.slice (some ⟨bb, 0, none⟩) n cap] 72)
  have b2 := (Boxed.new ((W.alloc (.cells #[.pointer (some ⟨nb, 0, none⟩)] 50)).alloc (.cells #[.func (.func 44) #[] #[]] 71)) 4 (.bool false)).alloc (.cells #[.slice (some ⟨bb, 0, none⟩) n cap] 72)
  have b3 := Boxed.new (((W.alloc (.cells #[.pointer (some ⟨nb, 0, none⟩)] 50)).alloc (.cells #[.func (.func 44) #[] #[]] 71)).alloc (.cells #[.bool false] 4)) 72 (.slice (some ⟨bb, 0, none⟩) n cap)
  simp only [World.size_alloc] at b1 b2 b3
  obtain ⟨X, hX⟩ : ∃ X, Hid (((((W.alloc (.cells #[.pointer (some ⟨nb, 0, none⟩)] 50)).alloc (.cells #[.func (.func 44) #[] #[]] 71)).alloc (.cells #[.bool false] 4)).alloc (.cells #[.slice (some ⟨bb, 0, none⟩) n cap] 72)) = X) := ⟨_, rfl⟩
  have hXs : X.heap.size = W.heap.size + 1 + 1 + 1 + 1 := by rw [← hX.out]; simp
  rw [hX.out] at hB0 b0 b1 b2 b3 ⊢
  have hbl := hb.out.lt
  have hbn : bb ≠ nb := (hb.out.far h.out (by omega) (grow_same W (some nb))).2
  clear d0 d1
  refine loop_maps rfl (by omega) (gf := 74) (lb := #[.pointer (some ⟨W.heap.size + 1 + 1 + 1, 0, none⟩)]) rfl trivial (enters_of Try.func74 (by kernel_rfl) rfl)
    (backwardB_stops Fence.wide 7 trivial rfl (by omega) (W.heap.size + 1 + 1 + 1) X.heap.size nb (W.heap.size + 1 + 1) bb n cap A S f (by omega) X (Nat.le_refl _) (by omega) (by omega) (by omega) (by omega) hbn (by omega) b3.cell (fun i hi => (hB0.cell (p := ⟨bb, i, none⟩) hbl).trans (hb.out.cell i hi))) keepTwo_t (keepTwo_b (Nat.le_refl _)) (fun _ => rfl)
    (fun pre W1 => RInvE true f n nb bb cap s0 W X W.heap.size (.func (.func 44) #[] #[]) (Dn pre) W1)
    (RInv.own (by omega) (by omega))
    ⟨false, ⟨M, s0, h.out.kept hB0, rnd_start hu.out _ (fun k _ q => by obtain ⟨x, hx, _⟩ := q; cases hx)⟩, b2, b0.cell, b1.cell, below_grown hB0 _, Nat.le_refl _⟩
    (fun x a' W1 => ∃ Bx, X.heap.size ≤ Bx ∧ Bx < W1.heap.size ∧ W1.cell? ⟨Bx, 4, none⟩ = some (.slice (S x.val).1 (f x.val).len (S x.val).2) ∧ a' = { tmps := #[.pointer (some ⟨nb, 0, none⟩), .func (.func 44) #[] #[], .pointer (some ⟨W.heap.size, 0, none⟩), .pointer (some ⟨W.heap.size + 1, 0, none⟩), .bool false, .pointer (some ⟨W.heap.size + 1 + 1, 0, none⟩), .int .i64 (x.val : Int), .pointer (some ⟨Bx, 0, none⟩), undef, undef, undef, .pointer (some ⟨nb, 0, none⟩), .pointer (some ⟨nb, 0, none⟩), .pointer (some ⟨nb, 0, none⟩), .slice (some ⟨bb, 0, none⟩) n cap, .func (.func 74) #[] #[.pointer (some ⟨W.heap.size + 1 + 1 + 1, 0, none⟩)], .int .i64 (x.val : Int), blkV A S f x.val, undef, undef, undef, undef, undef, undef, undef, undef, undef, undef, undef, undef, undef, undef, undef, undef, undef, undef, undef, undef, undef, undef, undef, undef, undef, undef, undef, undef, undef], defers := [] })
    (fun x a' _ X1 Y1 row hs hg hr => by obtain ⟨Bx, h1, h2, h3, h4⟩ := hs; exact ⟨Bx, h1, Nat.lt_of_lt_of_le h2 hg.size, cell_kept h3 hg (fun r e => by obtain ⟨_, x, ho⟩ := hr r e; exact ⟨_, ho, rfl⟩), h4⟩)
    ?assign ?body ?done
  case assign =>
    rintro l pre x W1 K ⟨c, hR⟩ hK
    obtain ⟨ca, cc, t, th, el, sa, sc, ln, hv, hv4⟩ : ∃ ca cc t th el sa sc ln, blkV A S f x.val = .agg #[.slice ca ln cc, .int .i64 t, .int .i64 th, .int .i64 el, .slice sa ln sc] ∧ Value.slice (S x.val).1 (f x.val).len (S x.val).2 = .slice sa ln sc := ⟨_, _, _, _, _, _, _, _, rfl, rfl⟩
    rw [hv, hv4] at hK
    rw [hv]
    clear hv hv4
    gi_wp2
    have hWs := hR.sz
    exact hK _ _ ((KeepsOthers.alloc _ _).from _) ⟨by simp, fun k hk _ _ => Below.heap_alloc _ _ k (by omega)⟩ ((RInv.own (β := List (Fin n)) (D := fun pre => Dn pre) (by omega) (by omega)).new (s := pre) _ ⟨c, hR⟩) ⟨W1.heap.size, hWs, by simp, by simp, rfl⟩
  case body =>
    rintro l pre x a' W2 hl ⟨r, hr⟩ ⟨c, hR⟩ ⟨Bx, hBx, hBl, c4, rfl⟩ hlt
    obtain ⟨M1, s1, hn1', hRnd⟩ := hR.need
    have HN2 : Hid (NeedsAt W2 nb bb n cap M1 s1) := hn1'
    have HRnd : Hid (RndL true f n s0 s1 (Dn pre) c) := hRnd
    have HRI : Hid (RInv true f n nb bb cap s0 W X W.heap.size (.func (.func 44) #[] #[]) (Dn pre) c W2) := hR
    have hbW := (hb.out.far h.out (by omega) hR.gr).1
    have HB2 : Hid (BlocksAt W2 bb n A S f) := hbW
    have hW2s := hR.sz
    have cp := hR.pn
    have CB := impl_behind nb bb n cap x.val A S f M1 s1 W2 hf x.isLt HB2 HN2
    have hst : ∀ j, j < (f x.val).len → stepB (f x.val).zs j = true := by
      have hblk := (flow_out hf.out).2 x.val x.isLt
      simp only [blockB, Bool.and_eq_true] at hblk
      exact (code_out hblk.1.1.1).2
    have hll : (f x.val).len ≤ 30 := by
      have hblk := (flow_out hf.out).2 x.val x.isLt
      simp only [blockB, Bool.and_eq_true] at hblk
      exact (code_out hblk.1.1.1).1
    have HST : Hid (∀ j, j < (f x.val).len → stepB (f x.val).zs j = true) := hst
    have HStp : Hid (Steps W2 (S x.val).1 (f x.val).zs (f x.val).len) := hbW.step x.val x.isLt
    have HAH : Hid (aheadL true f s1 x.val = backK true (f x.val).zs (f x.val).len (behindL (f x.val) s1) (f x.val).len) := rfl
    obtain ⟨bz, hbz⟩ : ∃ bz, Hid (behindL (f x.val) s1 = bz) := ⟨_, rfl⟩
    have HBZ : Hid (∀ i, 8 ≤ i → bz i = false) := by show ∀ i, _ → _; rw [← hbz.out]; exact behind_hi hf.out x.isLt HRnd.out.up.hi
    rw [hbz.out] at CB HAH
    generalize blkV A S f x.val = bv
    generalize (f x.val).zs = zs at HST HStp HAH
    generalize (f x.val).len = len at c4 HST HStp hll HAH
    generalize (S x.val).1 = sa at c4 HStp
    generalize (S x.val).2 = sc at c4
    clear hR hn1' hRnd hst hbW
    gi_wp2_with fail
    refine (CallsIn.inRound l (callsIn_wide.2 CB)).mono ?_
    rintro e w3 ⟨mb, rfl, hmb, hS3, hB3⟩
    have hmbl := hS3.lt
    clear CB
    have HB3 : Hid (Below W2.heap.size W2 w3) := hB3
    have HS3 : Hid (SetIs w3 mb bz) := hS3
    have h3s := hB3.size
    have c4b : (w3.alloc (.cells #[.map (some mb)] 56)).cell? ⟨Bx, 4, none⟩ = some (.slice sa len sc) := (((Below.refl _ w3).alloc (Nat.le_refl _) _).cell (p := ⟨Bx, 4, none⟩) (by show Bx < _; omega)).trans ((hB3.cell (p := ⟨Bx, 4, none⟩) hBl).trans c4)
    clear hB3 hS3
    gi_wp2_with (gi_at_call 47; refine (CallsIn.inRound l (backward_in Fence.wide _ trivial rfl _ _ _ _)).mono ?_; rintro e w' ⟨rfl, rfl⟩)
    have hB4 : Below w3.heap.size w3 ((w3.alloc (.cells #[.map (some mb)] 56)).alloc (.cells #[.slice sa len sc] 85)) := ((Below.refl _ w3).alloc (Nat.le_refl _) _).alloc (by simp) _
    have bM := (Boxed.new w3 56 (.map (some mb))).alloc (.cells #[.slice sa len sc] 85)
    have bI := Boxed.new (w3.alloc (.cells #[.map (some mb)] 56)) 85 (.slice sa len sc)
    simp only [World.size_alloc] at bI
    obtain ⟨Y, hY⟩ : ∃ Y, Hid (((w3.alloc (.cells #[.map (some mb)] 56)).alloc (.cells #[.slice sa len sc] 85)) = Y) := ⟨_, rfl⟩
    have hYs : Y.heap.size = w3.heap.size + 1 + 1 := by rw [← hY.out]; simp
    rw [hY.out] at hB4 bM bI ⊢
    have HBY : Hid (Below W2.heap.size W2 Y) := HB3.out.trans (hB4.mono h3s)
    have hrl := (Array.getElem?_eq_some_iff.1 hr).1
    have hr' : Y.heap[l]? = some (.loop r) := (HBY.out.block l hrl).trans hr
    have pf4 : Y.cell? ⟨W.heap.size + 1, 0, none⟩ = some (.func (.func 44) #[] #[]) := (HBY.out.cell (p := ⟨W.heap.size + 1, 0, none⟩) (by show W.heap.size + 1 < _; omega)).trans HRI.out.pf
    have hab : ∀ b o, sa = some ⟨b, o, none⟩ → 0 < len → b < Y.heap.size ∧ b ≠ mb := by
      intro b o e h0
      rcases HStp.out with q | ⟨b', e', hlb, _⟩
      · omega
      · rw [e] at e'
        simp only [Option.some.injEq, Addr.mk.injEq] at e'
        obtain ⟨rfl, rfl, _⟩ := e'
        exact ⟨by omega, by omega⟩
    refine wpIn_rangeFunc_ownN (l₀ := l) (r₀ := r) rfl hr' (by omega) (gf := 64) (lb := #[.pointer (some ⟨w3.heap.size + 1, 0, none⟩)]) rfl trivial (enters_of Try.func64 (by kernel_rfl) rfl)
      ((backward_stops Fence.wide 5 trivial rfl (by omega) (w3.heap.size + 1) Y.heap.size mb sa len sc zs (by omega) Y (Nat.le_refl _) (by omega) (by omega) bI.cell (HStp.out.kept HBY.out) hab).inRound l) keepBut_t (keepBut_b (Nat.le_refl _)) (Below.refl _ _) (fun _ => rfl)
      (fun pre' W' => SetIs W' mb (backsP true zs bz pre') ∧ Y.grownBy W' (some mb))
      (fun _ _ _ => False)
      (fun s A B row hs hg hr => ⟨hs.1.far hg (fun e => by have := (hr _ e.symm).1; omega), grow_row hs.2 hg (fun r e => (hr r e).1)⟩)
      (fun _ _ _ _ _ hs _ _ => hs)
      ⟨HS3.out.kept hB4, grow_same _ _⟩
      (fun y a'' _ => a'' = { tmps := #[.pointer (some ⟨nb, 0, none⟩), .func (.func 44) #[] #[], .pointer (some ⟨W.heap.size, 0, none⟩), .pointer (some ⟨W.heap.size + 1, 0, none⟩), .bool false, .pointer (some ⟨W.heap.size + 1 + 1, 0, none⟩), .int .i64 (x.val : Int), .pointer (some ⟨Bx, 0, none⟩), .pointer (some ⟨w3.heap.size, 0, none⟩), undef, stepAt zs y.val, .pointer (some ⟨nb, 0, none⟩), .pointer (some ⟨nb, 0, none⟩), .pointer (some ⟨nb, 0, none⟩), .slice (some ⟨bb, 0, none⟩) n cap, .func (.func 74) #[] #[.pointer (some ⟨W.heap.size + 1 + 1 + 1, 0, none⟩)], .int .i64 (x.val : Int), bv, .pointer (some ⟨nb, 0, none⟩), .int .i64 (x.val : Int), .map (some mb), .pointer (some ⟨Bx, 4, none⟩), .slice sa len sc, .func (.func 64) #[] #[.pointer (some ⟨w3.heap.size + 1, 0, none⟩)], .int .i64 (y.val : Int), stepAt zs y.val, undef, undef, undef, undef, undef, undef, undef, undef, undef, undef, undef, undef, undef, undef, undef, undef, undef, undef, undef, undef, undef], defers := [] })
      (fun _ _ _ _ _ _ hs _ _ => hs)
      ?assign2 ?body2 ?done2 ?stop2
    case assign2 =>
      rintro l2 pre' y W' K hi hK
      generalize stepAt zs y.val = sv at hK ⊢
      gi_wp2
      exact hK _ _ (KeepsFrom.refl _ _) (KeepBut.refl _ _ _) hi rfl
    case body2 =>
      rintro l2 pre' y a'' W' _ _ ⟨hs', hg'⟩ rfl _
      have hst : stepB zs y.val = true := HST.out y.val y.isLt
      have C := impl_plain _ _ _ _ _ mb (backsP true zs bz pre') W' hst hs'
      have HPost : Hid (∀ w', SetIs w' mb (stepBack true zs y.val (backsP true zs bz pre')) → SetIs w' mb (backsP true zs bz (pre' ++ [y]))) := fun w' q => by rw [backsP_snoc]; exact q
      change Calls _ _ #[.map (some mb), stepAt zs y.val] _ _ at C
      generalize stepAt zs y.val = sv at C ⊢
      have cf : W'.cell? ⟨W.heap.size + 1, 0, none⟩ = some (.func (.func 44) #[] #[]) := hg'.cell pf4 (by simp; omega)
      have cm : W'.cell? ⟨w3.heap.size, 0, none⟩ = some (.map (some mb)) := hg'.cell bM.cell (by simp; omega)
      gi_wp2_with (gi_at_call 44; refine (CallsIn.inRound l2 (CallsIn.inRound l (callsIn_wide.2 C))).mono ?_; rintro e w' ⟨rfl, hS', hG'⟩)
      have hYW := hg'.size
      exact ⟨KeepsFrom.of_grownBy hG' (fun j e => by cases e; omega), ⟨hG'.size, fun k hk hne => hG'.block k (by omega) (by simpa using hne)⟩, HPost.out _ hS', grow_to hg' hG'⟩
    case stop2 =>
      rintro c pre' W' _ h
      exact h.elim
    case done2 =>
      rintro ys W' rfl ⟨hs', hg'⟩
      have hYW := hg'.size
      have HNY : Hid (NeedsAt Y nb bb n cap M1 s1) := HN2.out.kept HBY.out
      have hnb2 : nb < W2.heap.size := HN2.out.lt
      have HNW : Hid (NeedsAt W' nb bb n cap M1 s1) := HNY.out.but ⟨hg'⟩ (by omega) (fun k hk e => by have := HN2.out.old hk e; omega)
      obtain ⟨xx, hxx⟩ : ∃ xx, Hid (aheadL true f s1 x.val = xx) := ⟨_, rfl⟩
      have HSX : Hid (SetIs W' mb xx) := by
        show SetIs _ _ _
        rw [← hxx.out, HAH.out]
        have := hs'
        rw [backsP_all true zs len bz len (Nat.le_refl _)] at this
        exact this
      have HXh : Hid (∀ i, 8 ≤ i → xx i = false) := by show ∀ i, _ → _; rw [← hxx.out]; exact ahead_hi hf.out x.isLt HRnd.out.up.hi
      obtain ⟨m1, hm1⟩ : ∃ m1, Hid (cntL xx = m1) := ⟨_, rfl⟩
      obtain ⟨m2, hm2⟩ : ∃ m2, Hid (cntL (s1 x.val) = m2) := ⟨_, rfl⟩
      obtain ⟨om, hom⟩ : ∃ om, Hid (M1 x.val = om) := ⟨_, rfl⟩
      have L1 : ∀ q ty, (Builtin.len_ #[56] ty #[.map (some mb)]).run Try.prog (W'.drewN q) = .ok (.int .i64 (m1 : Int)) (W'.drewN q) := fun q ty => by rw [← hm1.out]; exact SetIs.len (w := W'.drewN q) HSX.out HXh.out ty
      have L2 : ∀ q ty, (Builtin.len_ #[56] ty #[.map om]).run Try.prog (W'.drewN q) = .ok (.int .i64 (m2 : Int)) (W'.drewN q) := fun q ty => by rw [← hm2.out, ← hom.out]; exact SetOr.len (w := W'.drewN q) (HNW.out.set x.val x.isLt) (HRnd.out.up.hi x.val x.isLt) ty
      have cm : W'.cell? ⟨w3.heap.size, 0, none⟩ = some (.map (some mb)) := hg'.cell bM.cell (by simp; omega)
      have cpn : W'.cell? ⟨W.heap.size, 0, none⟩ = some (.pointer (some ⟨nb, 0, none⟩)) := hg'.cell ((HBY.out.cell (p := ⟨W.heap.size, 0, none⟩) (by show W.heap.size < _; omega)).trans HRI.out.pn) (by simp; omega)
      have hx8 : x.val < 8 := by have := x.isLt; omega
      have hx8I : (x.val : Int) < 8 := by omega
      have ca1 : W'.cell? ⟨nb, 1 + x.val, none⟩ = some (.map om) := by rw [← hom.out]; exact (HNW.out.cell x.val hx8).1
      have HGW : Hid (W2.grownBy W' (some mb)) := grow_to (below_grown HBY.out _) hg'
      have HGY : Hid (Y.grownBy W' (some mb)) := hg'
      obtain ⟨xv, hxv⟩ : ∃ xv, Hid (x.val = xv) := ⟨_, rfl⟩
      clear hs' hg' c4 c4b cp pf4 bM bI hr' hr hB4
      have hmx : Try.prog.follows .mixedOrders = true := by kernel_rfl
      gi_wp2
      refine quiet_round rfl hmx (by kernel_rfl) (by kernel_rfl) ?_
      repeat (gi_big_quiet_step (fail))
      refine wpQuietIn_nil ?_
      intro _ hw'
      obtain ⟨nq, rfl⟩ := hw'
      clear L1 L2
      have HNq : Hid (NeedsAt (W'.drewN nq) nb bb n cap M1 s1) := ⟨HNW.out.lt, HNW.out.blk, HNW.out.cell, HNW.out.set⟩
      have HSq : Hid (SetIs (W'.drewN nq) mb xx) := HSX.out
      have HGq : Hid (W2.grownBy (W'.drewN nq) (some mb)) := ⟨HGW.out.os, HGW.out.tape, HGW.out.output, HGW.out.size, HGW.out.block⟩
      have HGYq : Hid (Y.grownBy (W'.drewN nq) (some mb)) := ⟨HGY.out.os, HGY.out.tape, HGY.out.output, HGY.out.size, HGY.out.block⟩
      have cmq : (W'.drewN nq).cell? ⟨w3.heap.size, 0, none⟩ = some (.map (some mb)) := cm
      have cpq : (W'.drewN nq).cell? ⟨W.heap.size, 0, none⟩ = some (.pointer (some ⟨nb, 0, none⟩)) := cpn
      have caq : (W'.drewN nq).cell? ⟨nb, 1 + x.val, none⟩ = some (.map om) := ca1
      have chq : (W'.drewN nq).cell? ⟨W.heap.size + 1 + 1, 0, none⟩ = some (.bool c) := HGW.out.cell HRI.out.ch.cell (by simp; omega)
      clear HNW HSX HGW HGY cm cpn ca1
      obtain ⟨V, hV⟩ : ∃ V, V = W'.drewN nq := ⟨_, rfl⟩
      have hVs : V.heap.size = W'.heap.size := by rw [hV]; rfl
      rw [← hV] at HNq HSq HGq HGYq cmq cpq caq chq ⊢
      clear hV
      by_cases hlt12 : m2 < m1
      · have dl : decide (m2 < m1) = true := decide_eq_true hlt12
        gi_wp2
        have fz1 : V.frozen? ⟨nb, 1 + x.val, none⟩ = false := (HNq.out.cell x.val hx8).2
        have fzb : V.frozen? ⟨W.heap.size + 1 + 1, 0, none⟩ = false := (HRI.out.ch.kept HGq.out (by simp; omega)).frozen
        gi_region_o
        all_goals try gi_wp2
        all_goals exact round_more (t := 0) hf.out (by omega) (Nat.le_refl _) hnl HRI.out HRnd.out HNq.out (by rw [hxx.out]; exact HSq.out) HGq.out hmb (by rw [hxx.out, hm1.out, hm2.out]; exact hlt12)
      · have dl : decide (m2 < m1) = false := decide_eq_false hlt12
        gi_wp2
        exact round_still hf.out (by omega) HRI.out HRnd.out HNq.out HGq.out hmb (by rw [hxx.out, hm1.out, hm2.out]; omega)
  case done =>
    rintro D ys W1 hD rfl ⟨c, hR⟩ hK
    have cc := hR.ch.cell
    have HR : Hid (RInv true f n nb bb cap s0 W X W.heap.size (.func (.func 44) #[] #[]) (Dn (downTo n n)) c W1) := hR
    clear hR
    gi_wp2
    refine ⟨by simp, .inl ⟨_, _, rfl, run_takeDeferred hK, ?_⟩⟩
    obtain ⟨M2, s2, hN, hRnd⟩ := HR.out.need
    refine ⟨_, results_one rfl _ _ _, c, M2, s2, rfl, hN.putD hK _ (by omega), rnd_all hRnd, ?_⟩
    exact grow_row HR.out.gr (grownBy_putObj' W1 D _) (fun r e => by cases e; omega)
end Go.Proofs.Ytfmgbalfabpogaa.walks
