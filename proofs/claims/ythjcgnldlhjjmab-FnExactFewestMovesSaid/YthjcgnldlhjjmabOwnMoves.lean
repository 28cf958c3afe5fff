/-
  A list of moves that a call has made itself, by one append after the other, told as one flat list of ints.
-/
import Derived.Test.YthjcgnldlhjjmabProg
import Derived.Test.YthjcgnldlhjjmabInts
import Derived.Test.YthjcgnldlhjjmabOwnInts
import Derived.Test.YthjcgnldlhjjmabRecsMove
import Derived.WalkKit
import Derived.WalkSpells
import Derived.Below
import Derived.Handy
import Derived.OwnWalk
import Derived.Laws.OwnMore
namespace Go.Proofs.Ythjcgnldlhjjmab.ints
open Go.RowKit
set_option linter.unusedVariables false

def OwnM (w : World) (B : Nat) (v : Value) (m : Nat) (zs : List Int) : Prop := w.ownsRow B 33 2 v m (zs.map (Value.int .i64))
theorem move_parts : ∃ i, Try.prog.info? 33 = some i ∧ i.zero = some (.agg #[.int .i64 0, .int .i64 0]) ∧ i.size = 2 ∧ i.bytes = 16 := by
  have h : (Try.prog.info? 33).map (fun i => (i.zero, i.size, i.bytes)) = some (some (.agg #[.int .i64 0, .int .i64 0]), 2, 16) := by kernel_rfl
  cases hi : Try.prog.info? 33 with
  | none => rw [hi] at h; cases h
  | some i =>
    rw [hi] at h
    simp at h
    exact ⟨i, rfl, h.1, h.2.1, h.2.2⟩
theorem ownM_nil (w : World) (B : Nat) : OwnM w B (.slice none 0 0) 0 [] := World.ownsRow_nil _ _ _ _
theorem OwnM.len {w : World} {B : Nat} {v : Value} {m : Nat} {zs : List Int} (h : OwnM w B v m zs) : zs.length = m * 2 := by
  have := h.1
  simpa using this
theorem OwnM.mine {w : World} {B : Nat} {v : Value} {m : Nat} {zs : List Int} (h : OwnM w B v m zs) : ∃ a cap, v = .slice a m cap ∧ m ≤ cap ∧ cap ≤ maxLen ∧ Mine w B a zs := by
  have h0 := h
  have hl := h.len
  rcases h.2 with ⟨rfl, hn⟩ | ⟨g, cap, cur, rfl, hg, hw, hmc, hcm, _, hcur⟩
  · subst hn
    exact ⟨none, 0, rfl, Nat.le_refl _, by unfold maxLen; omega, Or.inl (List.length_eq_zero_iff.1 hl)⟩
  · refine ⟨some ⟨g, 0, none⟩, cap, rfl, hmc, hcm, Or.inr ⟨g, 0, rfl, hg, (World.ownsRow.lt h0 g rfl).2, fun i hi => ⟨?_, ?_⟩⟩⟩
    · have := World.ownsRow.cellAt h0 i (by omega)
      simp only [Nat.zero_add]
      rw [this]
      simp [List.getD, List.getElem?_eq_getElem hi]
    · have := World.ownsRow.frozenAt h0 i
      simpa using this
theorem OwnM.kept {w w' : World} {B : Nat} {v : Value} {m : Nat} {zs : List Int} (h : OwnM w B v m zs) (hb : Below w.heap.size w w') : OwnM w' B v m zs :=
  World.ownsRow.kept h (row := none) ⟨hb.os, hb.tape, hb.output, hb.size, fun i hi _ => hb.block i hi⟩ (by
    cases q : v.ownBlock with
    | none => exact Or.inl rfl
    | some g => exact Or.inr (by simp))
theorem OwnM.low {w : World} {B B' : Nat} {v : Value} {m : Nat} {zs : List Int} (h : OwnM w B v m zs) (hB : B' ≤ B) : OwnM w B' v m zs :=
  ⟨h.1, h.2.imp id fun ⟨g, cap, cur, a, b, r⟩ => ⟨g, cap, cur, a, Nat.le_trans hB b, r⟩⟩
theorem new_two (w : World) (x y : Int) (t : TypeId) : ∀ (j : Nat) (u : Value), [Value.int .i64 x, .int .i64 y][j]? = some u → (w.alloc (.cells #[Value.int .i64 x, .int .i64 y] t)).cell? ((⟨w.heap.size, 0, none⟩ : Addr).add j) = some u := by
  intro j u hj
  match j, hj with
  | 0, hj => simp at hj; subst hj; simp [Addr.add]
  | 1, hj => simp at hj; subst hj; simp [Addr.add]
theorem two_of (x y : Int) : ∀ u ∈ [Value.int .i64 x, .int .i64 y], u.oneCell' = true := by
  intro u hu
  simp at hu
  rcases hu with rfl | rfl <;> rfl
theorem OwnM.snoc {W wr w1 : World} {B B' m : Nat} {u v' : Value} {zs : List Int} {x y : Int} {o : Obj} (hown : OwnM wr B u m zs) (hB : B' ≤ B) (hBw : B ≤ wr.heap.size) (hb : Below B' W wr)
    (hown' : w1.ownsRow B 33 2 v' (m + 1) (zs.map (Value.int .i64) ++ [.int .i64 x, .int .i64 y])) (hgrow : (wr.alloc o).grownBy w1 u.ownBlock) : OwnM w1 B v' (m + 1) (zs ++ [x, y]) ∧ Below B' W w1 ∧ B ≤ w1.heap.size := by
  refine ⟨by unfold OwnM; simpa using hown', (hb.alloc (by omega) o).grown hgrow (by simp; omega) (fun j hj => Nat.le_trans hB (World.ownsRow.lt hown j hj).1), ?_⟩
  have := hgrow.size
  simp at this
  omega
/-- A row elsewhere stays, where a list grows. -/
theorem row_stays {wr w1 : World} {B m g n : Nat} {t : TypeId} {f : Nat → Value} {u : Value} {zs : List Int} {o : Obj} (hown : OwnM wr B u m zs) (hr : wr.rowIs g t n f) (hg : g < B) (hgrow : (wr.alloc o).grownBy w1 u.ownBlock) : w1.rowIs g t n f := by
  refine (hr.alloc o).of_block (hgrow.block g (by have := hr.lt; simp; omega) ?_)
  intro e
  have := (World.ownsRow.lt hown g e.symm).1
  omega
end Go.Proofs.Ythjcgnldlhjjmab.ints
