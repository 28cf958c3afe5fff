/-
  The laws' marks, from any number on: what they write is the list's own block alone.
-/
import Derived.Test.YtldmeffhbabanaaProg
import Derived.Test.YtldmeffhbabanaaInts
import Derived.WalkKit
import Derived.WalkSpells
import Derived.Below
import Derived.Handy
namespace Go.Proofs.Ytldmeffhbabanaa.ints
open Go.RowKit
set_option linter.unusedVariables false

/-- Nothing has turned but the block of the list at a, which lies from B on. -/
def Only (W W' : World) (B : Nat) (a : Option Addr) (len : Nat) : Prop := W'.heap.size = W.heap.size ∧ (W' = W ∨ 0 < len ∧ ∃ b off, a = some ⟨b, off, none⟩ ∧ B ≤ b ∧ W.grownBy W' (some b))
theorem Only.refl (W : World) (B : Nat) (a : Option Addr) (len : Nat) : Only W W B a len := ⟨rfl, Or.inl rfl⟩
theorem Only.below {W W' : World} {B : Nat} {a : Option Addr} {len : Nat} (h : Only W W' B a len) : Below B W W' := by
  rcases h.2 with rfl | ⟨_, b, off, _, hB, hg⟩
  · exact Below.refl _ _
  · exact ⟨hg.os, hg.tape, hg.output, hg.size, fun k hk => by
      by_cases e : k < W.heap.size
      · exact hg.block k e (by simp; omega)
      · rw [Array.getElem?_eq_none (by have := h.1; omega), Array.getElem?_eq_none (by omega)]⟩
/-- Two lists do not lie in one block. -/
def Apart (a a' : Option Addr) : Prop := ∀ b o b' o', a = some ⟨b, o, none⟩ → a' = some ⟨b', o', none⟩ → b ≠ b'
theorem Apart.symm {a a' : Option Addr} (h : Apart a a') : Apart a' a := fun b o b' o' e e' q => h b' o' b o e' e q.symm
theorem Only.ints {W W' : World} {B : Nat} {a a' : Option Addr} {zs : List Int} {len : Nat} (h : Only W W' B a len) (hi : Ints W a' zs) (hne : Apart a a') : Ints W' a' zs := by
  rcases h.2 with rfl | ⟨_, b, off, e, hB, hg⟩
  · exact hi
  · rcases hi with hi | ⟨b', off', e', hl, hc⟩
    · exact Or.inl hi
    · exact Or.inr ⟨b', off', e', Nat.lt_of_lt_of_le hl hg.size, fun i hi => hg.cell (hc i hi) (by simpa using fun q => hne _ _ _ _ e e' q.symm)⟩
theorem Only.mine {W W' : World} {B B' : Nat} {a a' : Option Addr} {zs : List Int} {len : Nat} (h : Only W W' B a len) (hi : Mine W B' a' zs) (hne : Apart a a') : Mine W' B' a' zs := by
  rcases h.2 with rfl | ⟨_, b, off, e, hB, hg⟩
  · exact hi
  · rcases hi with hi | ⟨b', off', e', h0, hl, hc⟩
    · exact Or.inl hi
    · have hb : some b' ≠ some b := by simpa using fun q => hne _ _ _ _ e e' q.symm
      exact Or.inr ⟨b', off', e', h0, Nat.lt_of_lt_of_le hl hg.size, fun i hi => ⟨hg.cell (hc i hi).1 (by simpa using hb), (World.frozen?_of_block (hg.block b' hl hb)).trans (hc i hi).2⟩⟩
theorem Only.new {W W' : World} {B B' x o : Nat} {a' : Option Addr} {zs : List Int} {len : Nat} (h : Only W W' B (some ⟨x, o, none⟩) len) (hx : 0 < len → x < B') (hi : Mine W B' a' zs) : Mine W' B' a' zs := by
  rcases h.2 with rfl | ⟨h0, b, off, e, hB, hg⟩
  · exact hi
  · simp only [Option.some.injEq, Addr.mk.injEq] at e
    obtain ⟨rfl, _⟩ := e
    have hx' := hx h0
    rcases hi with hi | ⟨b', off', e', h0', hl, hc⟩
    · exact Or.inl hi
    · have hb : some b' ≠ some x := by simp; omega
      exact Or.inr ⟨b', off', e', h0', Nat.lt_of_lt_of_le hl hg.size, fun i hi => ⟨hg.cell (hc i hi).1 (by simpa using hb), (World.frozen?_of_block (hg.block b' hl hb)).trans (hc i hi).2⟩⟩
theorem mine_lt {W : World} {B x o : Nat} {zs : List Int} (h : Mine W B (some ⟨x, o, none⟩) zs) (h0 : 0 < zs.length) : x < W.heap.size := by
  rcases h with e | ⟨b, off, e, _, hl, _⟩
  · rw [e] at h0; simp at h0
  · simp only [Option.some.injEq, Addr.mk.injEq] at e
    obtain ⟨rfl, _⟩ := e
    exact hl
theorem grow_refl' (w : World) (row : Option Nat) : w.grownBy w row := ⟨rfl, rfl, rfl, Nat.le_refl _, fun _ _ _ => rfl⟩
theorem grow_set' {w w' : World} {g : Nat} (h : w.grownBy w' (some g)) (i : Nat) (v : Value) : w.grownBy (w'.setCell ⟨g, i, none⟩ v) (some g) :=
  ⟨h.os, h.tape, h.output, by simpa [World.setCell] using h.size, fun k hk hne => (Below.heap_setCell _ _ _ _ (by simpa using hne)).trans (h.block k hk hne)⟩
end Go.Proofs.Ytldmeffhbabanaa.ints
