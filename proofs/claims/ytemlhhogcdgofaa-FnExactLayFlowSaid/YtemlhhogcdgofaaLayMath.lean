/-
  Flows that are laid in another order.
-/
import Derived.Test.YtemlhhogcdgofaaFlowMath
import Derived.Test.YtemlhhogcdgofaaEdgeMath
import Derived.Test.YtemlhhogcdgofaaGoneMath
namespace Go.Proofs.Ytemlhhogcdgofaa.math
set_option linter.unusedVariables false

/-- A number at new numbers: the end stays. -/
def newV (p : Nat → Int) (x : Int) : Int := if x < 0 then -1 else p x.toNat
def plcF (zs : List Int) (n : Nat) : Nat → Int := fun i => plcTo zs n (i : Int)
/-- The flow, laid. -/
def layF (f : Nat → Bv) (zs : List Int) (n : Nat) (i : Nat) : Bv := ⟨(f (zs.getD i 0).toNat).zs, (f (zs.getD i 0).toNat).len, (f (zs.getD i 0).toNat).t, newV (plcF zs n) (f (zs.getD i 0).toNat).th, newV (plcF zs n) (f (zs.getD i 0).toNat).el⟩
def okLay (f : Nat → Bv) (n : Nat) (zs : List Int) : Bool := flowB f n && layB zs (n : Int)
theorem okLay_out {f : Nat → Bv} {n : Nat} {zs : List Int} (h : okLay f n zs = true) : flowB f n = true ∧ layB zs (n : Int) = true := by
  simp only [okLay, Bool.and_eq_true] at h; exact h
/-- What is known of a layout's places. -/
theorem lay_in {zs : List Int} {n : Nat} (h : layB zs (n : Int) = true) : zs.length = n ∧ orderB zs (n : Int) = true ∧ ∀ i, i < n → 0 ≤ zs.getD i 0 ∧ zs.getD i 0 < (n : Int) := by
  obtain ⟨_, _, h1, _⟩ := lay_out h
  obtain ⟨h2, h3⟩ := order_out h1
  refine ⟨by omega, h1, fun i hi => ?_⟩
  have := h3 i (by omega)
  exact ⟨this.1, this.2.1⟩
end Go.Proofs.Ytemlhhogcdgofaa.math
