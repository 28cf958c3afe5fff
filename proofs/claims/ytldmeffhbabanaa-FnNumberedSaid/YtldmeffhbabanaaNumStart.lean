/-
  What the specification's l4Start leaves: the first words of the eight names.
-/
import Derived.Test.YtldmeffhbabanaaProg
import Derived.Test.YtldmeffhbabanaaNumFind
import Derived.WalkKit
import Derived.WalkSpells
import Derived.Below
import Derived.Handy
import Derived.Deep.AppendLies
namespace Go.Proofs.Ytldmeffhbabanaa.nums
open Go.RowKit Go.Proofs.Ytldmeffhbabanaa.ints
set_option linter.unusedVariables false

/-- The state's two lists, nil or not. -/
structure Parts (w : World) (B sb : Nat) (av : Option Addr) (cv : Nat) (an : Option Addr) (cn : Nat) (vs : List V) (ks : List Int) : Prop where
  heap : w.heap[sb]? = some (.cells #[.slice av vs.length cv, .slice an ks.length cn] 68 (0, 0))
  vals : w.ownsRow B 49 4 (.slice av vs.length cv) vs.length (flatV vs)
  nums : w.ownsRow B 3 1 (.slice an ks.length cn) ks.length (ks.map (Value.int .i64))
  n0 : Value.ownBlock (.slice av vs.length cv) ≠ some sb
  n1 : Value.ownBlock (.slice an ks.length cn) ≠ some sb
  n2 : ∀ g, Value.ownBlock (.slice av vs.length cv) = some g → Value.ownBlock (.slice an ks.length cn) ≠ some g
  low : B ≤ sb
theorem Parts.st {w : World} {B sb : Nat} {av an : Option Addr} {cv cn : Nat} {vs : List V} {ks : List Int} (h : Parts w B sb av cv an cn vs ks) : St w B sb vs ks := ⟨_, _, h.heap, h.vals, h.nums, h.n0, h.n1, h.n2, h.low⟩
theorem Parts.lt {w : World} {B sb : Nat} {av an : Option Addr} {cv cn : Nat} {vs : List V} {ks : List Int} (h : Parts w B sb av cv an cn vs ks) : sb < w.heap.size := (Array.getElem?_eq_some_iff.1 h.heap).1
theorem Parts.kept {w w' : World} {B sb : Nat} {av an : Option Addr} {cv cn : Nat} {vs : List V} {ks : List Int} (h : Parts w B sb av cv an cn vs ks) (hb : Below w.heap.size w w') : Parts w' B sb av cv an cn vs ks :=
  ⟨(hb.block sb h.lt).trans h.heap, own_below h.vals hb, own_below h.nums hb, h.n0, h.n1, h.n2, h.low⟩
theorem Parts.c0 {w : World} {B sb : Nat} {av an : Option Addr} {cv cn : Nat} {vs : List V} {ks : List Int} (h : Parts w B sb av cv an cn vs ks) : w.cell? ⟨sb, 0, none⟩ = some (.slice av vs.length cv) := by simp [World.cell?, h.heap]
theorem Parts.c1 {w : World} {B sb : Nat} {av an : Option Addr} {cv cn : Nat} {vs : List V} {ks : List Int} (h : Parts w B sb av cv an cn vs ks) : w.cell? ⟨sb, 1, none⟩ = some (.slice an ks.length cn) := by simp [World.cell?, h.heap]
theorem Parts.f {w : World} {B sb : Nat} {av an : Option Addr} {cv cn : Nat} {vs : List V} {ks : List Int} (h : Parts w B sb av cv an cn vs ks) (i : Nat) : w.frozen? ⟨sb, i, none⟩ = false := by simp [World.frozen?, h.heap]
theorem set_grown (w : World) (sb i : Nat) (u : Value) : w.grownBy (w.setCell ⟨sb, i, none⟩ u) (some sb) := ⟨rfl, rfl, rfl, by simp, fun k _ hk => heap_setCell_other w ⟨sb, i, none⟩ k _ (fun e => hk (by simp [e]))⟩
/-- One more value. -/
theorem Parts.moreV {w w1 : World} {B sb : Nat} {av an : Option Addr} {cv cn g cap : Nat} {vs : List V} {ks : List Int} {v : V} (h : Parts w B sb av cv an cn vs ks) (hown : w1.ownsRow B 49 4 (.slice (some ⟨g, 0, none⟩) (vs.length + 1) cap) (vs.length + 1) (flatV vs ++ [.int .i64 v.1, .int .i64 v.2.1, .int .i64 v.2.2.1, .int .i64 v.2.2.2]))
    (hgrow : w.grownBy w1 (Value.ownBlock (.slice av vs.length cv))) (hat : Value.ownBlock (.slice av vs.length cv) = some g ∨ w.heap.size ≤ g) : Parts (w1.setCell ⟨sb, 0, none⟩ (.slice (some ⟨g, 0, none⟩) (vs.length + 1) cap)) B sb (some ⟨g, 0, none⟩) cap an cn (vs ++ [v]) ks ∧ w1.heap[sb]? = w.heap[sb]? := by
  have l0 := h.lt
  have g0 : g ≠ sb := by
    rcases hat with e | e
    · intro e'; subst e'; exact h.n0 e
    · omega
  have hb : w1.heap[sb]? = w.heap[sb]? := hgrow.block sb l0 (fun e => h.n0 e.symm)
  have hset := set_grown w1 sb 0 (.slice (some ⟨g, 0, none⟩) (vs.length + 1) cap)
  have hne : ∀ k, Value.ownBlock (.slice an ks.length cn) = some k → some k ≠ Value.ownBlock (.slice av vs.length cv) := fun k hk e => h.n2 k e.symm hk
  refine ⟨⟨?_, ?_, ?_, by simpa [Value.ownBlock] using g0, h.n1, ?_, h.low⟩, hb⟩
  · have := heap_setCell_same w1 sb 0 #[.slice av vs.length cv, .slice an ks.length cn] 68 (.slice (some ⟨g, 0, none⟩) (vs.length + 1) cap) (hb.trans h.heap)
    simpa using this
  · have := hown.kept hset (Or.inr (by simpa [Value.ownBlock] using g0))
    simpa [flat_snoc] using this
  · have h1 : w1.ownsRow B 3 1 (.slice an ks.length cn) ks.length (ks.map (Value.int .i64)) := h.nums.kept hgrow (by
      cases e : Value.ownBlock (.slice an ks.length cn) with
      | none => exact Or.inl rfl
      | some k => exact Or.inr (hne k e))
    exact h1.kept hset (Or.inr h.n1)
  · intro k hk e
    simp [Value.ownBlock] at hk
    subst hk
    rcases hat with e' | e'
    · exact h.n2 g e' e
    · have := (h.nums.lt g e).2
      omega
/-- One more number. -/
theorem Parts.moreN {w w1 : World} {B sb : Nat} {av an : Option Addr} {cv cn g cap : Nat} {vs : List V} {ks : List Int} {x : Int} (h : Parts w B sb av cv an cn vs ks) (hown : w1.ownsRow B 3 1 (.slice (some ⟨g, 0, none⟩) (ks.length + 1) cap) (ks.length + 1) (ks.map (Value.int .i64) ++ [.int .i64 x]))
    (hgrow : w.grownBy w1 (Value.ownBlock (.slice an ks.length cn))) (hat : Value.ownBlock (.slice an ks.length cn) = some g ∨ w.heap.size ≤ g) : Parts (w1.setCell ⟨sb, 1, none⟩ (.slice (some ⟨g, 0, none⟩) (ks.length + 1) cap)) B sb av cv (some ⟨g, 0, none⟩) cap vs (ks ++ [x]) ∧ w1.heap[sb]? = w.heap[sb]? := by
  have l0 := h.lt
  have g0 : g ≠ sb := by
    rcases hat with e | e
    · intro e'; subst e'; exact h.n1 e
    · omega
  have hb : w1.heap[sb]? = w.heap[sb]? := hgrow.block sb l0 (fun e => h.n1 e.symm)
  have hset := set_grown w1 sb 1 (.slice (some ⟨g, 0, none⟩) (ks.length + 1) cap)
  refine ⟨⟨?_, ?_, ?_, h.n0, by simpa [Value.ownBlock] using g0, ?_, h.low⟩, hb⟩
  · have := heap_setCell_same w1 sb 1 #[.slice av vs.length cv, .slice an ks.length cn] 68 (.slice (some ⟨g, 0, none⟩) (ks.length + 1) cap) (hb.trans h.heap)
    simpa using this
  · have h1 : w1.ownsRow B 49 4 (.slice av vs.length cv) vs.length (flatV vs) := h.vals.kept hgrow (by
      cases e : Value.ownBlock (.slice av vs.length cv) with
      | none => exact Or.inl rfl
      | some k => exact Or.inr (fun e' => h.n2 k e e'.symm))
    exact h1.kept hset (Or.inr h.n0)
  · have := hown.kept hset (Or.inr (by simpa [Value.ownBlock] using g0))
    simpa using this
  · intro k hk e
    simp [Value.ownBlock] at e
    subst e
    rcases hat with e' | e'
    · exact h.n2 g hk e'
    · have := (h.vals.lt g hk).2
      omega
def kTo (k : Nat) : List Int := (List.range k).map (fun i : Nat => (i : Int))
theorem kTo_len (k : Nat) : (kTo k).length = k := by simp [kTo]
theorem kTo_succ (k : Nat) : kTo (k + 1) = kTo k ++ [(k : Int)] := by simp [kTo, List.range_succ]
theorem parts_new (W : World) : Parts (W.alloc (.cells #[.slice none 0 0, .slice none 0 0] 68)) W.heap.size W.heap.size none 0 none 0 (startTo 0) (kTo 0) :=
  ⟨(MapKept.heap_alloc W _).1, World.ownsRow_nil _ _ _ _, World.ownsRow_nil _ _ _ _, by simp [Value.ownBlock], by simp [Value.ownBlock], by simp [Value.ownBlock], Nat.le_refl _⟩
/-- What l4Start leaves. -/
def StartAns (W : World) (e : Ending) (W' : World) : Prop := e = .returned (.pointer (some ⟨W.heap.size, 0, none⟩)) ∧ St W' W.heap.size W.heap.size (startTo 8) (kTo 8) ∧ Below W.heap.size W W'
theorem start_v (k : Nat) {w : World} {B : Nat} {g cap : Nat} (h : w.ownsRow B 49 4 (.slice (some ⟨g, 0, none⟩) (k + 1) cap) (k + 1) (flatV (startTo k) ++ [.int .i64 8, .int .i64 0, .int .i64 0, .int .i64 (k : Int)])) : w.ownsRow B 49 4 (.slice (some ⟨g, 0, none⟩) ((startTo k).length + 1) cap) ((startTo k).length + 1) (flatV (startTo k) ++ [.int .i64 ((8, 0, 0, (k : Int)) : V).1, .int .i64 ((8, 0, 0, (k : Int)) : V).2.1, .int .i64 ((8, 0, 0, (k : Int)) : V).2.2.1, .int .i64 ((8, 0, 0, (k : Int)) : V).2.2.2]) := by
  rw [start_len]; exact h
set_option maxRecDepth 100000 in
set_option maxHeartbeats 4000000 in
theorem spec_start (W : World) : Calls Try.prog 30 #[] W fun e W' => StartAns W e W' := by
  obtain ⟨i0, hi, hz0, hz1, hz2⟩ := info_parts value_row
  obtain ⟨j0, hj, hy0, hy1, hy2⟩ := info_parts row_info
  go_enter Try.func30, Try.ntmps30
  go_wp2
  go_loopw [2] (fun vi wr => ∃ k : Nat, k ≤ 8 ∧ vi = .int .i64 k ∧ Hid (∃ av cv an cn, Parts wr W.heap.size W.heap.size av cv an cn (startTo k) (kTo k)) ∧ Hid (Below W.heap.size W wr)) (fun vi _ => 8 - (intOf vi).toNat)
  case atStart => exact ⟨0, Nat.zero_le _, rfl, ⟨none, 0, none, 0, parts_new W⟩, by show Below _ _ _; go_grown⟩
  case round =>
    obtain ⟨k, hk, rfl, HP, HB⟩ := hrel
    by_cases hlt : k < 8
    · have hlt' : (k : Int) < 8 := by omega
      obtain ⟨av, cv, an, cn, hP⟩ := HP.out
      have hsz := HB.out.size
      have hsl := hP.lt
      have e0 := hP.c0
      have e1 := hP.c1
      have f0 := hP.f 0
      have f1 := hP.f 1
      rw [start_len] at e0
      rw [kTo_len] at e1
      have HQ : Hid (Parts wr W.heap.size W.heap.size av cv an cn (startTo k) (kTo k)) := hP
      clear hP HP
      go_wp2_with (at_builtin; refine wpList_append_lies _ rfl _ _ 37 rfl W.heap.size 49 i0 _ 4 32 Try.underlying37 hi hz0 hz1 hz2 rfl (by omega) (.slice av k cv) k (flatV (startTo k)) rfl (by have h := (HQ.out.vals.alloc (.cells #[.int .i64 8, .int .i64 0, .int .i64 0, .int .i64 (k : Int)] 49)); rw [start_len] at h; exact h) ⟨wr.heap.size, 0, none⟩ 1 1 [.int .i64 8, .int .i64 0, .int .i64 0, .int .i64 (k : Int)] rfl rfl (four_cell _ _ _ _ _ (by go_simp) (by go_simp) (by go_simp) (by go_simp)) (four_of _ _ _ _) (by omega) (by unfold maxLen; omega) (by omega) (by simp; omega) (wr.heap.size + 1) (by simp) ?_)
      intro g cap w1 hown hgrow hat hgl
      obtain ⟨hP1, hb1⟩ := (HQ.out.kept (w' := wr.alloc (.cells #[.int .i64 8, .int .i64 0, .int .i64 0, .int .i64 (k : Int)] 49)) (by go_grown)).moreV (v := (8, 0, 0, (k : Int))) (start_v k hown) (by rw [start_len]; exact hgrow) (by rw [start_len]; rcases hat with e | e; exact Or.inl e; exact Or.inr (by simp; omega))
      rw [← start_succ, start_len] at hP1
      have HB1 : Hid (Below W.heap.size W w1) := by
        show Below _ _ _
        refine Below.grown (w := wr.alloc (.cells #[.int .i64 8, .int .i64 0, .int .i64 0, .int .i64 (k : Int)] 49)) (HB.out.alloc hsz _) hgrow (by simp; omega) (fun j hj => ?_)
        have h := HQ.out.vals.lt j
        rw [start_len] at h
        exact (h hj).1
      have G0 : w1.cell? ⟨W.heap.size, 0, none⟩ = some (.slice av k cv) := (World.cell?_of_block (a := ⟨W.heap.size, 0, none⟩) hb1).trans (by go_simp)
      have G1 : w1.cell? ⟨W.heap.size, 1, none⟩ = some (.slice an k cn) := (World.cell?_of_block (a := ⟨W.heap.size, 1, none⟩) hb1).trans (by go_simp)
      have F0 : w1.frozen? ⟨W.heap.size, 0, none⟩ = false := (World.frozen?_of_block (a := ⟨W.heap.size, 0, none⟩) hb1).trans (by go_simp)
      have F1 : w1.frozen? ⟨W.heap.size, 1, none⟩ = false := (World.frozen?_of_block (a := ⟨W.heap.size, 1, none⟩) hb1).trans (by go_simp)
      have HP1 : Hid (Parts (w1.setCell ⟨W.heap.size, 0, none⟩ (.slice (some ⟨g, 0, none⟩) (k + 1) cap)) W.heap.size W.heap.size (some ⟨g, 0, none⟩) cap an cn (startTo (k + 1)) (kTo k)) := hP1
      have hs1 : W.heap.size < w1.heap.size := by have := hP1.lt; simpa using this
      clear hown hgrow hat hP1 hb1
      go_wp2_with (at_builtin; refine wpList_append_lies _ rfl _ _ 24 rfl W.heap.size 3 j0 _ 1 8 Try.underlying24 hj hy0 hy1 hy2 rfl (by omega) (.slice an k cn) k ((kTo k).map (Value.int .i64)) rfl (by have h := (HP1.out.nums.alloc (.cells #[.int .i64 (k : Int)] 3)); rw [kTo_len] at h; exact h) ⟨w1.heap.size, 0, none⟩ 1 1 [.int .i64 (k : Int)] rfl rfl ?c1 (one_of _) (by omega) (by unfold maxLen; omega) (by omega) (by simp; omega) (w1.heap.size + 1) (by simp) ?_)
      case c1 =>
        intro j u hj'
        match j, hj' with
        | 0, hj' => simp at hj'; subst hj'; simp [Addr.add]; exact World.cell?_alloc_at _ _ _ _ (by simp [World.setCell])
      intro g2 cap2 w2 hown hgrow hat hgl2
      obtain ⟨hP2, hb2⟩ := (HP1.out.kept (w' := (w1.setCell ⟨W.heap.size, 0, none⟩ (.slice (some ⟨g, 0, none⟩) (k + 1) cap)).alloc (.cells #[.int .i64 (k : Int)] 3)) (by go_grown)).moreN (x := (k : Int)) (by rw [kTo_len]; exact hown) (by rw [kTo_len]; exact hgrow) (by rw [kTo_len]; rcases hat with e | e; exact Or.inl e; exact Or.inr (by simp; omega))
      rw [← kTo_succ, kTo_len] at hP2
      have HB2 : Hid (Below W.heap.size W w2) := by
        show Below _ _ _
        refine Below.grown (w := (w1.setCell ⟨W.heap.size, 0, none⟩ (.slice (some ⟨g, 0, none⟩) (k + 1) cap)).alloc (.cells #[.int .i64 (k : Int)] 3)) ((HB1.out.setCell (Nat.le_refl _) _).alloc (by simp; omega) _) hgrow (by simp; omega) (fun j hj => ?_)
        have h := HP1.out.nums.lt j
        rw [kTo_len] at h
        exact (h hj).1
      have G2 : w2.cell? ⟨W.heap.size, 1, none⟩ = some (.slice an k cn) := (World.cell?_of_block (a := ⟨W.heap.size, 1, none⟩) hb2).trans (by go_simp)
      have F2 : w2.frozen? ⟨W.heap.size, 1, none⟩ = false := (World.frozen?_of_block (a := ⟨W.heap.size, 1, none⟩) hb2).trans (by go_simp)
      have HP2 : Hid (∃ av cv an cn, Parts (w2.setCell ⟨W.heap.size, 1, none⟩ (.slice (some ⟨g2, 0, none⟩) (k + 1) cap2)) W.heap.size W.heap.size av cv an cn (startTo (k + 1)) (kTo (k + 1))) := ⟨_, _, _, _, hP2⟩
      clear hown hgrow hat hP2 hb2
      go_wp2
      go_roundw
      case rel => exact ⟨k + 1, by omega, by go_num, HP2, HB2.out.setCell (Nat.le_refl _) _⟩
      case measure => simp [intOf]; omega
    · have HE : Hid (k = 8) := by show k = 8; omega
      have hge : (8 : Int) ≤ k := by omega
      go_wp2
      go_ret
      rw [HE.out] at HP
      obtain ⟨av, cv, an, cn, hP⟩ := HP.out
      exact ⟨rfl, hP.st, HB.out⟩
end Go.Proofs.Ytldmeffhbabanaa.nums
