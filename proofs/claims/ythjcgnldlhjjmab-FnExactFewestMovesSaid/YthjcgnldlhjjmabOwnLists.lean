/-
  A list of lists of ints that a call has made itself, each list in a block of its own, by one append after the other.
-/
import Derived.Test.YthjcgnldlhjjmabProg
import Derived.Test.YthjcgnldlhjjmabInts
import Derived.Test.YthjcgnldlhjjmabOwnInts
import Derived.Test.YthjcgnldlhjjmabLists
import Derived.WalkKit
import Derived.WalkSpells
import Derived.Below
import Derived.Handy
import Derived.OwnWalk
namespace Go.Proofs.Ythjcgnldlhjjmab.lists
open Go.RowKit Go.Proofs.Ythjcgnldlhjjmab.ints
set_option linter.unusedVariables false
set_option maxRecDepth 100000

theorem row_low {w : World} {base base' size n : Nat} {e : TypeId} {v : Value} {xs : List Value} (h : w.ownsRow base e size v n xs) (hb : base' ≤ base) : w.ownsRow base' e size v n xs :=
  ⟨h.1, h.2.imp id fun ⟨g, cap, cur, a, b, r⟩ => ⟨g, cap, cur, a, Nat.le_trans hb b, r⟩⟩
theorem own_kept {w w' : World} {B : Nat} {v : Value} {zs : List Int} (h : Own w B v zs) (hb : Below w.heap.size w w') : Own w' B v zs :=
  World.ownsRow.kept h (row := none) ⟨hb.os, hb.tape, hb.output, hb.size, fun i hi _ => hb.block i hi⟩ (by
    cases q : v.ownBlock with
    | none => exact Or.inl rfl
    | some g => exact Or.inr (by simp))
theorem lists_info : (Try.prog.info? 43).map (fun i => (i.zero, i.size, i.bytes)) = some (some (.slice none 0 0), 1, 24) := by kernel_rfl
theorem lists_parts {e : TypeId} {z : Value} {a b : Nat} (h : (Try.prog.info? e).map (fun i => (i.zero, i.size, i.bytes)) = some (some z, a, b)) : ∃ i, Try.prog.info? e = some i ∧ i.zero = some z ∧ i.size = a ∧ i.bytes = b := by
  cases hi : Try.prog.info? e with
  | none => rw [hi] at h; cases h
  | some i =>
    rw [hi] at h
    simp at h
    exact ⟨i, rfl, h.1, h.2.1, h.2.2⟩
/-- The value v owns k lists, each in a block of its own, from B on. -/
structure OwnL (w : World) (B : Nat) (v : Value) (k : Nat) (Z : Nat → List Int) (X : Nat → Value) : Prop where
  row : w.ownsRow B 43 1 v k ((List.range k).map X)
  own : ∀ j, j < k → Own w B (X j) (Z j)
  ap : ∀ i j, i < k → j < k → i ≠ j → (X i).ownBlock = none ∨ (X i).ownBlock ≠ (X j).ownBlock
theorem ownL_nil (w : World) (B : Nat) (Z : Nat → List Int) (X : Nat → Value) : OwnL w B (.slice none 0 0) 0 Z X := ⟨World.ownsRow_nil _ _ _ _, fun j hj => by omega, fun i j hi => by omega⟩
/-- A row of lists and a list of ints don't lie in one block. -/
theorem rows_apart {w : World} {B B' : Nat} {v u : Value} {k : Nat} {xs : List Value} {zs : List Int} (h : w.ownsRow B 43 1 v k xs) (g : Own w B' u zs) : u.ownBlock = none ∨ u.ownBlock ≠ v.ownBlock := by
  rcases g.2 with ⟨rfl, _⟩ | ⟨b, c, cur, rfl, _, hb, _⟩
  · exact Or.inl rfl
  · refine Or.inr fun e => ?_
    rcases h.2 with ⟨rfl, _⟩ | ⟨b', c', cur', rfl, _, hb', _⟩
    · cases e
    · simp [Value.ownBlock] at e
      subst e
      rw [hb] at hb'
      simp at hb'
theorem OwnL.grow {w w' : World} {B : Nat} {v : Value} {k : Nat} {Z : Nat → List Int} {X : Nat → Value} (h : OwnL w B v k Z X) (hb : Below w.heap.size w w') : OwnL w' B v k Z X :=
  ⟨h.row.kept (row := none) ⟨hb.os, hb.tape, hb.output, hb.size, fun i hi _ => hb.block i hi⟩ (by
    cases q : v.ownBlock with
    | none => exact Or.inl rfl
    | some g => exact Or.inr (by simp)), fun j hj => World.ownsRow.kept (h.own j hj) (row := none) ⟨hb.os, hb.tape, hb.output, hb.size, fun i hi _ => hb.block i hi⟩ (by
    cases q : (X j).ownBlock with
    | none => exact Or.inl rfl
    | some g => exact Or.inr (by simp)), h.ap⟩
def addrOf : Value → Option Addr × Nat
  | .slice a _ c => (a, c)
  | _ => (none, 0)
theorem OwnL.mine {w : World} {B : Nat} {v : Value} {k : Nat} {Z : Nat → List Int} {X : Nat → Value} (h : OwnL w B v k Z X) : ∃ a c, v = .slice a k c ∧ MineL w B a k Z (fun j => addrOf (X j)) := by
  have hx : ∀ j, j < k → ∃ a c, X j = .slice a (Z j).length c ∧ Mine w B a (Z j) := fun j hj => (h.own j hj).mine
  have hm : ∀ j, j < k → Mine w B (addrOf (X j)).1 (Z j) := fun j hj => by
    obtain ⟨a, c, e, hm⟩ := hx j hj
    rw [e]; exact hm
  have hap : ∀ i j, i < k → j < k → i ≠ j → 0 < (Z i).length → 0 < (Z j).length → Apart (addrOf (X i)).1 (addrOf (X j)).1 := by
    intro i j hi hj hne _ _ b o b' o' e e' q
    obtain ⟨a, c, e1, _⟩ := hx i hi
    obtain ⟨a', c', e2, _⟩ := hx j hj
    rw [e1] at e
    rw [e2] at e'
    simp only [addrOf] at e e'
    subst e e' q
    have := h.ap i j hi hj hne
    rw [e1, e2] at this
    simp [Value.ownBlock] at this
  rcases h.row.2 with ⟨rfl, hk⟩ | ⟨g, cap, cur, rfl, hg, hw, _, _, _, _⟩
  · subst hk
    exact ⟨none, 0, rfl, Or.inl rfl, hm, hap⟩
  · refine ⟨some ⟨g, 0, none⟩, cap, rfl, Or.inr ⟨g, rfl, hg, (h.row.lt g rfl).2, fun j hj => ?_, fun j hj _ b' o e q => ?_⟩, hm, hap⟩
    · obtain ⟨a, c, e, _⟩ := hx j hj
      rw [h.row.cellAt j (by omega)]
      simp [hj, e, addrOf]
    · subst q
      obtain ⟨a, c, e1, _⟩ := hx j hj
      rw [e1] at e
      simp only [addrOf] at e
      subst e
      have := rows_apart h.row (h.own j hj)
      rw [e1] at this
      simp [Value.ownBlock] at this
def updX (X : Nat → Value) (k : Nat) (v : Value) : Nat → Value := fun j => if j = k then v else X j
theorem range_upd (X : Nat → Value) (k : Nat) (v : Value) : (List.range (k + 1)).map (updX X k v) = (List.range k).map X ++ [v] := by
  rw [List.range_succ, List.map_append]
  congr 1
  · refine List.map_congr_left fun j hj => ?_
    have : j < k := by simpa using hj
    simp [updX, Nat.ne_of_lt this]
  · simp [updX]
theorem new_cell (w : World) (v : Value) (t : TypeId) : ∀ (j : Nat) (u : Value), [v][j]? = some u → (w.alloc (.cells #[v] t)).cell? ((⟨w.heap.size, 0, none⟩ : Addr).add j) = some u := by
  intro j u hj
  match j, hj with
  | 0, hj => simp at hj; subst hj; simp [Addr.add]
/-- One list more. -/
theorem OwnL.snoc {w0 w1 w2 : World} {B B1 : Nat} {v v' u : Value} {k : Nat} {Z : Nat → List Int} {X : Nat → Value} (h : OwnL w0 B v k Z X) (hB : B ≤ w0.heap.size) (hb : Below w0.heap.size w0 w1) (hu : Own w1 w0.heap.size u (Z k)) {t : TypeId}
    (h2 : w2.ownsRow B 43 1 v' (k + 1) ((List.range k).map X ++ [u])) (hg : (w1.alloc (.cells #[u] t)).grownBy w2 v.ownBlock) : OwnL w2 B v' (k + 1) Z (updX X k u) := by
  have hw1 := h.grow hb
  refine ⟨by rw [range_upd]; exact h2, fun j hj => ?_, fun i j hi hj hne => ?_⟩
  · by_cases e : j = k
    · subst e
      simp only [updX, if_true]
      have q := rows_apart hw1.row hu
      exact World.ownsRow.kept (World.ownsRow.alloc (row_low hu hB) _) hg q
    · simp only [updX, if_neg e]
      have q := rows_apart hw1.row (hw1.own j (by omega))
      exact World.ownsRow.kept (World.ownsRow.alloc (hw1.own j (by omega)) _) hg q
  · have far : ∀ i, i < k → (X i).ownBlock = none ∨ (X i).ownBlock ≠ u.ownBlock := fun i hi => by
      cases q : (X i).ownBlock with
      | none => exact Or.inl rfl
      | some g =>
        refine Or.inr fun e => ?_
        have h1 := (World.ownsRow.lt (h.own i hi) g q).2
        have h3 := (World.ownsRow.lt hu g e.symm).1
        omega
    by_cases e : i = k
    · subst e
      simp only [updX, if_true, if_neg (Ne.symm hne)]
      rcases far j (by omega) with q | q
      · rw [q]
        cases u.ownBlock with
        | none => exact Or.inl rfl
        | some g => exact Or.inr (by simp)
      · exact Or.inr (Ne.symm q)
    · simp only [updX, if_neg e]
      by_cases e' : j = k
      · subst e'; simp only [if_true]; exact far i (by omega)
      · simp only [if_neg e']; exact h.ap i j (by omega) (by omega) hne
end Go.Proofs.Ythjcgnldlhjjmab.lists
