/-
  What the program's markSet, rising and NamesSet answer: the names that are set, rising, in memory of their own.
-/
import Derived.Test.YtngjodklbkahbaaProg
import Derived.Test.YtngjodklbkahbaaMagMath
import Derived.Test.YtngjodklbkahbaaCodeMath
import Derived.Test.YtngjodklbkahbaaRunMath
import Derived.Test.YtngjodklbkahbaaNamesMath
import Derived.Test.YtngjodklbkahbaaInts
import Derived.Test.YtngjodklbkahbaaOwnInts
import Derived.Test.YtngjodklbkahbaaRecsInstr
import Derived.Test.YtngjodklbkahbaaStepImpl
import Derived.Test.YtngjodklbkahbaaStepKinds
import Derived.Test.YtngjodklbkahbaaStepsOf
import Derived.Test.YtngjodklbkahbaaSetBy
import Derived.WalkKit
import Derived.WalkSpells
import Derived.Below
import Derived.Handy
import Derived.Deep.OwnRows
namespace Go.Proofs.Ytngjodklbkahbaa.walks
open Go.RowKit Go.Proofs.Ytngjodklbkahbaa.math Go.Proofs.Ytngjodklbkahbaa.ints
set_option linter.unusedVariables false
set_option maxRecDepth 100000

/-- What rising leaves. -/
def RisAns (W : World) (zs : List Int) (e : Ending) (W' : World) : Prop := ∃ v, e = .returned v ∧ Own W' W.heap.size v zs ∧ Below W.heap.size W W'
theorem ris_yes {f : Nat → Bool} {k : Nat} (h : f k = true) : risingTo f (k + 1) = risingTo f k ++ [(k : Int)] := by simp [risingTo, h]
theorem ris_no {f : Nat → Bool} {k : Nat} (h : f k = false) : risingTo f (k + 1) = risingTo f k := by simp [risingTo, h]
/-- What NamesSet and NamesNeeded answer. -/
def NamesTold (c : Bool) (ns : List Int) (W : World) (e : Ending) (W' : World) : Prop :=
  (c = true ∧ (∃ a cap, e = .returned (.tuple #[.slice a ns.length cap, .bool true]) ∧ Mine W' W.heap.size a ns) ∧ Below W.heap.size W W') ∨ (c = false ∧ e = .returned (.tuple #[.slice none 0 0, .bool false]) ∧ Below W.heap.size W W')
theorem mine_low {w : World} {B B' : Nat} {a : Option Addr} {zs : List Int} (h : Mine w B a zs) (hB : B' ≤ B) : Mine w B' a zs := by
  rcases h with h | ⟨b, off, e, h0, r⟩
  · exact Or.inl h
  · exact Or.inr ⟨b, off, e, Nat.le_trans hB h0, r⟩
end Go.Proofs.Ytngjodklbkahbaa.walks
