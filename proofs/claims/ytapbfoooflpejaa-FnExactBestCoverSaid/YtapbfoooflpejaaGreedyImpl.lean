/-
  What the program's GreedyCover answers; it makes new memory alone.
-/
import Derived.Test.YtapbfoooflpejaaProg
import Derived.Test.YtapbfoooflpejaaIsCoverSpec
import Derived.Test.YtapbfoooflpejaaCoverBy
namespace Go.Proofs.Ytapbfoooflpejaa.walks
open Go.RowKit Go.Proofs.Ytapbfoooflpejaa.math Go.Proofs.Ytapbfoooflpejaa.ints
set_option linter.unusedVariables false
set_option maxRecDepth 100000

/-- The greedy cover. -/
def grO (t : List Int) (f : Nat → Pv) (n : Nat) : Option (List (Nat × Nat)) := if (treeB t && patsB f n) = true then pcs t f (chG t f n) [0] else none
theorem grO_bad {t : List Int} {f : Nat → Pv} {n : Nat} (h : (treeB t && patsB f n) = false) : grO t f n = none := by unfold grO; rw [if_neg (by rw [h]; simp)]
theorem grO_yes {t : List Int} {f : Nat → Pv} {n : Nat} (h : (treeB t && patsB f n) = true) : grO t f n = pcs t f (chG t f n) [0] := by unfold grO; rw [if_pos h]
/-- What a call of a covering function answers. -/
def GrAns (f : Nat → Pv) (o : Option (List (Nat × Nat))) (W : World) (e : Ending) (W' : World) : Prop := Below W.heap.size W W' ∧ ((o = none ∧ e = .returned (.tuple #[.slice none 0 0, .int .i64 0, .bool false])) ∨ ∃ ps v, o = some ps ∧ e = .returned (.tuple #[v, .int .i64 (costP f ps), .bool true]) ∧ OwnQ W' W.heap.size v ps)
theorem row_low9 {w : World} {B B' size m : Nat} {ty : TypeId} {v : Value} {L : List Value} (h : w.ownsRow B ty size v m L) (hB : B' ≤ B) : w.ownsRow B' ty size v m L := by
  refine ⟨h.1, ?_⟩
  rcases h.2 with q | ⟨g, c, cur, h1, h2, h3⟩
  · exact Or.inl q
  · exact Or.inr ⟨g, c, cur, h1, Nat.le_trans hB h2, h3⟩
end Go.Proofs.Ytapbfoooflpejaa.walks
