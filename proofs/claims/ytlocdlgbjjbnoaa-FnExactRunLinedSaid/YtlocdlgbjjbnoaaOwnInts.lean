/-
  A list of ints that a call has made itself, by one append after the other.
-/
import Derived.Test.YtlocdlgbjjbnoaaProg
import Derived.Test.YtlocdlgbjjbnoaaInts
import Derived.WalkKit
import Derived.WalkSpells
import Derived.Below
namespace Go.Proofs.Ytlocdlgbjjbnoaa.ints
open Go.RowKit

/-- The value v owns the numbers zs, in a block from B on (or it is nil, and they are none). -/
def Own (w : World) (B : Nat) (v : Value) (zs : List Int) : Prop := w.ownsRow B 3 1 v zs.length (zs.map (Value.int .i64))
theorem own_nil (w : World) (B : Nat) : Own w B (.slice none 0 0) [] := World.ownsRow_nil _ _ _ _
theorem Own.mine {w : World} {B : Nat} {v : Value} {zs : List Int} (h : Own w B v zs) : ∃ a cap, v = .slice a zs.length cap ∧ Mine w B a zs := by
  have h0 := h
  rcases h.2 with ⟨rfl, hn⟩ | ⟨g, cap, cur, rfl, hg, hw, _, _, _, hcur⟩
  · exact ⟨none, 0, by rw [hn], Or.inl (List.length_eq_zero_iff.1 hn)⟩
  · refine ⟨some ⟨g, 0, none⟩, cap, rfl, Or.inr ⟨g, 0, rfl, hg, (h0.lt g rfl).2, fun i hi => ⟨?_, ?_⟩⟩⟩
    · have := h0.cellAt i (by simpa using hi)
      simp only [Nat.zero_add]
      rw [this]
      simp [List.getD, List.getElem?_eq_getElem hi]
    · have := h0.frozenAt i
      simpa using this
theorem Own.snoc {W wr w1 : World} {B : Nat} {u v' : Value} {zs : List Int} {x : Int} {o : Obj} (hown : Own wr B u zs) (hB : B ≤ wr.heap.size) (hb : Below B W wr)
    (hown' : w1.ownsRow B 3 1 v' (zs.length + 1) (zs.map (Value.int .i64) ++ [.int .i64 x])) (hgrow : (wr.alloc o).grownBy w1 u.ownBlock) : Own w1 B v' (zs ++ [x]) ∧ Below B W w1 ∧ B ≤ w1.heap.size := by
  refine ⟨by unfold Own; simpa using hown', (hb.alloc hB o).grown hgrow (by simp; omega) (fun j hj => (World.ownsRow.lt hown j hj).1), ?_⟩
  have := hgrow.size
  simp at this
  omega
theorem new_one (w : World) (x : Int) (t : TypeId) : ∀ (j : Nat) (u : Value), [Value.int .i64 x][j]? = some u → (w.alloc (.cells #[Value.int .i64 x] t)).cell? ((⟨w.heap.size, 0, none⟩ : Addr).add j) = some u := by
  intro j u hj
  match j, hj with
  | 0, hj => simp at hj; subst hj; simp [Addr.add]
theorem one_of (x : Int) : ∀ u ∈ [Value.int .i64 x], u.oneCell' = true := by
  intro u hu; simp at hu; subst hu; rfl
end Go.Proofs.Ytlocdlgbjjbnoaa.ints
