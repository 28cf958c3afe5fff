/-
  What the laws' own helpers on lists of Value do, at every list: they copy it, hold it against another one, number it, and hold it against these numbers.
-/
import Derived.Test.YtldmeffhbabanaaProg
import Derived.Test.YtldmeffhbabanaaInts
import Derived.WalkKit
import Derived.WalkSpells
import Derived.Below
import Derived.Handy
import Derived.Deep.OwnRows
import Derived.Deep.RegionWith
import Derived.Laws.MakeOwn
namespace Go.Proofs.Ytldmeffhbabanaa.ints
open Go.RowKit
set_option linter.unusedVariables false

/-- The n cells from off on in block b hold the numbers f i, and none is barred. -/
def ValueCells (w : World) (b off n : Nat) (f : Nat → Int) : Prop := ∀ i, i < n → w.cell? ⟨b, off + i, none⟩ = some (.int .i64 (f i)) ∧ w.frozen? ⟨b, off + i, none⟩ = false
theorem ValueCells.set {w : World} {b off n : Nat} {f : Nat → Int} (h : ValueCells w b off n f) (j : Nat) (hj : j < n) (x : Int) : ValueCells (w.setCell ⟨b, off + j, none⟩ (.int .i64 x)) b off n (fun i => if i = j then x else f i) := by
  intro i hi
  obtain ⟨e0, e1⟩ := h i hi
  refine ⟨?_, by simpa using e1⟩
  by_cases e : i = j
  · subst e
    rw [World.cell?_setCell_same _ _ _ e0]; simp
  · rw [World.cell?_setCell_other _ _ _ _ (by simp; try omega), e0]; simp [e]
theorem ValueCells.congr {w : World} {b off n : Nat} {f g : Nat → Int} (h : ValueCells w b off n f) (e : ∀ i, i < n → f i = g i) : ValueCells w b off n g := by
  intro i hi
  rw [← e i hi]; exact h i hi
theorem Value_info : (Try.prog.info? 49).map (fun i => (i.zero, i.size, i.bytes)) = some (some (.agg #[.int .i64 0, .int .i64 0, .int .i64 0, .int .i64 0]), 4, 32) := by kernel_rfl
theorem Value_made (n i : Nat) (hi : i < n) : (madeCells #[.int .i64 0, .int .i64 0, .int .i64 0, .int .i64 0] n)[i]? = some (.int .i64 0) := by
  have h : i % 4 < 4 := Nat.mod_lt _ (by decide)
  simp only [madeCells, Array.getElem?_map, Array.getElem?_range, hi, if_true, Option.map_some]
  generalize i % 4 = j at h
  congr 1
  match j, h with
  | 0, _ => rfl
  | 1, _ => rfl
  | 2, _ => rfl
  | 3, _ => rfl
  | j + 4, h => omega
/-- The 4 numbers of one element. -/
theorem Value_at {W wr : World} {a : Option Addr} {zs : List Int} {len k : Nat} (h : Ints W a zs) (hz : zs.length = len * 4) (hB : Below W.heap.size W wr) (hk : k < len) : ∃ b off, a = some ⟨b, off, none⟩ ∧ b < W.heap.size ∧ wr.cell? ⟨b, off + k * 4, none⟩ = some (.int .i64 (zs.getD (k * 4) 0)) ∧ wr.cell? ⟨b, off + k * 4 + 1, none⟩ = some (.int .i64 (zs.getD (k * 4 + 1) 0)) ∧ wr.cell? ⟨b, off + k * 4 + 2, none⟩ = some (.int .i64 (zs.getD (k * 4 + 2) 0)) ∧ wr.cell? ⟨b, off + k * 4 + 3, none⟩ = some (.int .i64 (zs.getD (k * 4 + 3) 0)) := by
  rcases h with h | ⟨b, off, rfl, hb, hc⟩
  · rw [h] at hz; simp at hz; omega
  · have g : ∀ j, j < len * 4 → wr.cell? ⟨b, off + j, none⟩ = some (.int .i64 (zs.getD j 0)) := fun j hj => (hB.cell (p := ⟨b, off + j, none⟩) hb).trans (hc j (by omega))
    refine ⟨b, off, rfl, hb, ?_, ?_, ?_, ?_⟩
    · exact g (k * 4) (by omega)
    · exact g (k * 4 + 1) (by omega)
    · exact g (k * 4 + 2) (by omega)
    · exact g (k * 4 + 3) (by omega)



end Go.Proofs.Ytldmeffhbabanaa.ints
