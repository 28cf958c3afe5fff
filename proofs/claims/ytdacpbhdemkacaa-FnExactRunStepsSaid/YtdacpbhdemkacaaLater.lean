/-
  A region that draws its order of evaluation, whose operations only read, and whose callees answer the same in every later world (they may make memory): one walk in the order of the text serves every order.
-/
import Derived.WalkKit
import Derived.Below
import Derived.Deep.QuietTactic
import Derived.BigQuiet
namespace Go.Proofs.Ytdacpbhdemkacaa.deep
open Go.RowKit
set_option linter.unusedVariables false

/-- A world that has only grown since X. -/
structure Later (X : World) where
  w : World
  bel : Below X.heap.size X w
instance (X : World) : Nonempty (Later X) := ⟨⟨X, Below.refl _ _⟩⟩
theorem wp_region_later {P : Program} (X : World) {id : Nat} {Q : Exit → Act → World → Prop} {a : Act} {w : World} {l : List Oper} (hm : P.follows .mixedOrders = true) (hB : Region.lexB .any l.toArray = true) (hX : Below X.heap.size X w)
    (h : wpQuiet P l.toArray (fun w' => ∃ q : Later X, w' = q.w) (fun a' => ∀ q : Later X, Q .normal a' q.w) l a) : (Code.region id l.toArray true).wp P Q a w := by
  refine wp_region_quiet (C := fun w' => ∃ q : Later X, w' = q.w) hm hB ⟨⟨w.drew, hX.drew⟩, rfl⟩ ?_
  have e : (fun a' => ∀ w', (∃ q : Later X, w' = q.w) → Q .normal a' w') = (fun a' => ∀ q : Later X, Q .normal a' q.w) := by
    funext a'
    exact propext ⟨fun k q => k _ ⟨q, rfl⟩, fun k w' ⟨q, e⟩ => e ▸ k q⟩
  rw [e]
  simpa using h
theorem calls_later {P : Program} {f : FuncId} {args : Array Value} {X : World} {q : Later X} {v : Value} (h : Calls P f args q.w fun e w' => e = .returned v ∧ Below q.w.heap.size q.w w') : Calls P f args q.w fun e w'' => e = .returned v ∧ ∃ q' : Later X, w'' = q'.w :=
  h.mono fun _ w' ⟨he, hb⟩ => ⟨he, ⟨w', q.bel.trans (hb.mono q.bel.size)⟩, rfl⟩
theorem calls_later_same {P : Program} {f : FuncId} {args : Array Value} {X : World} {q : Later X} {v : Value} (h : Calls P f args q.w fun e w' => e = .returned v ∧ w' = q.w) : Calls P f args q.w fun e w'' => e = .returned v ∧ ∃ q' : Later X, w'' = q'.w :=
  h.mono fun _ w' ⟨he, hb⟩ => ⟨he, q, hb⟩
/-- Cells of a block that lay there. -/
theorem Later.cell {X : World} {b o : Nat} {v : Value} (hb : b < X.heap.size) (h : X.cell? ⟨b, o, none⟩ = some v) : ∀ q : Later X, q.w.cell? ⟨b, o, none⟩ = some v := fun q => (q.bel.cell (p := ⟨b, o, none⟩) hb).trans h
end Go.Proofs.Ytdacpbhdemkacaa.deep
