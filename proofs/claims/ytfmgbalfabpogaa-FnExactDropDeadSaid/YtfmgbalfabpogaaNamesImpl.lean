/-
  What the program's markSet, rising and NamesSet answer: the names that are set, rising, in memory of their own.
-/
import Derived.Test.YtfmgbalfabpogaaProg
import Derived.Test.YtfmgbalfabpogaaMagMath
import Derived.Test.YtfmgbalfabpogaaCodeMath
import Derived.Test.YtfmgbalfabpogaaRunMath
import Derived.Test.YtfmgbalfabpogaaNamesMath
import Derived.Test.YtfmgbalfabpogaaInts
import Derived.Test.YtfmgbalfabpogaaOwnInts
import Derived.Test.YtfmgbalfabpogaaRecsInstr
import Derived.Test.YtfmgbalfabpogaaStepImpl
import Derived.Test.YtfmgbalfabpogaaStepKinds
import Derived.Test.YtfmgbalfabpogaaStepsOf
import Derived.Test.YtfmgbalfabpogaaSetBy
import Derived.WalkKit
import Derived.WalkSpells
import Derived.Below
import Derived.Handy
import Derived.Deep.OwnRows
namespace Go.Proofs.Ytfmgbalfabpogaa.walks
open Go.RowKit Go.Proofs.Ytfmgbalfabpogaa.math Go.Proofs.Ytfmgbalfabpogaa.ints
set_option linter.unusedVariables false
set_option maxRecDepth 100000

/-- What rising leaves. -/
def RisAns (W : World) (zs : List Int) (e : Ending) (W' : World) : Prop := ∃ v, e = .returned v ∧ Own W' W.heap.size v zs ∧ Below W.heap.size W W'
theorem ris_yes {f : Nat → Bool} {k : Nat} (h : f k = true) : risingTo f (k + 1) = risingTo f k ++ [(k : Int)] := by simp [risingTo, h]
theorem ris_no {f : Nat → Bool} {k : Nat} (h : f k = false) : risingTo f (k + 1) = risingTo f k := by simp [risingTo, h]
/-- What NamesSet and NamesNeeded answer. -/
def NamesTold (c : Bool) (ns : List Int) (W : World) (e : Ending) (W' : World) : Prop :=
  (c = true ∧ (∃ a cap, e = .returned (.tuple #[.slice a ns.length cap, .bool true]) ∧ Mine W' W.heap.size a ns) ∧ Below W.heap.size W W') ∨ (c = false ∧ e = .returned (.tuple #[.slice none 0 0, .bool false]) ∧ Below W.heap.size W W')
theorem mine_low {w : World} {B B' : Nat} {a : Option Addr} {zs : List Int} (h : Mine w B a zs) (hB : B' ≤ B) : Mine w B' a zs := by
  rcases h with h | ⟨b, off, e, h0, r⟩
  · exact Or.inl h
  · exact Or.inr ⟨b, off, e, Nat.le_trans hB h0, r⟩
end Go.Proofs.Ytfmgbalfabpogaa.walks
