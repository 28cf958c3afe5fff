/-
  What the program's cover answers by the greatest patterns.
-/
import Derived.Test.YtapbfoooflpejaaProg
import Derived.Test.YtapbfoooflpejaaCoverImpl
import Derived.Test.YtapbfoooflpejaaPiecesSpec
import Derived.Test.YtapbfoooflpejaaGreatestImpl
import Derived.WalkKit
import Derived.WalkSpells
import Derived.Below
import Derived.Handy
import Derived.OwnWalk
import Derived.Maps.AppendAt
import Derived.Laws.EntriesVeiled
import Derived.Deep.RegionHeld3
namespace Go.Proofs.Ytapbfoooflpejaa.walks
open Go.RowKit Go.Proofs.Ytapbfoooflpejaa.math Go.Proofs.Ytapbfoooflpejaa.ints
set_option linter.unusedVariables false
set_option maxRecDepth 100000

/-- What pieces cost. -/
def costP (f : Nat → Pv) : List (Nat × Nat) → Int
  | [] => 0
  | p :: ps => (f p.2).c + costP f ps
theorem costP_snoc (f : Nat → Pv) (a k : Nat) : ∀ ps, costP f (ps ++ [(a, k)]) = costP f ps + (f k).c
  | [] => by simp [costP]
  | p :: ps => by
    have := costP_snoc f a k ps
    simp only [List.cons_append, costP]
    omega
theorem OwnQ.kept9 {w w' : World} {B : Nat} {v : Value} {ps : List (Nat × Nat)} (h : OwnQ w B v ps) (hb : Below w.heap.size w w') : OwnQ w' B v ps :=
  World.ownsRow.kept h (row := none) ⟨hb.os, hb.tape, hb.output, hb.size, fun i hi _ => hb.block i hi⟩ (by
    cases q : v.ownBlock with
    | none => exact Or.inl rfl
    | some g => exact Or.inr (by simp))
/-- What a call of cover answers, by a choice. -/
def CovBy (f : Nat → Pv) (o : Option (List (Nat × Nat))) (W : World) (e : Ending) (W' : World) : Prop := Below W.heap.size W W' ∧ ((o = none ∧ e = .returned (.tuple #[.slice none 0 0, .int .i64 0, .bool false])) ∨ ∃ ps v, o = some ps ∧ e = .returned (.tuple #[v, .int .i64 (costP f ps), .bool true]) ∧ OwnQ W' (W.heap.size + 1) v ps)
end Go.Proofs.Ytapbfoooflpejaa.walks
