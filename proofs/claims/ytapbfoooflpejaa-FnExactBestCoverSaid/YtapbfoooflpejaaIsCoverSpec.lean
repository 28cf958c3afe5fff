/-
  What the specification's l9Sum and IsCover answer; they make new memory alone.
-/
import Derived.Test.YtapbfoooflpejaaProg
import Derived.Test.YtapbfoooflpejaaCoverSpec
import Derived.Test.YtapbfoooflpejaaCoverCost
namespace Go.Proofs.Ytapbfoooflpejaa.walks
open Go.RowKit Go.Proofs.Ytapbfoooflpejaa.math Go.Proofs.Ytapbfoooflpejaa.ints
set_option linter.unusedVariables false
set_option maxRecDepth 100000

theorem goC_in (t : List Int) (f : Nat → Pv) (n : Nat) (z : List Int) : ∀ (fu i : Nat) (os : List Nat) (j : Nat), goC t f n z fu i os = some j → ∀ q, i ≤ q → q < j → 0 ≤ z.getD (q * 2 + 1) 0 ∧ z.getD (q * 2 + 1) 0 < (n : Int)
  | fu, i, [], j, h => by rw [goC_nil] at h; cases h; intro q h1 h2; omega
  | 0, i, a :: os, j, h => by simp [goC] at h
  | fu + 1, i, a :: os, j, h => by
    cases r : pieceO t f n (z.getD (i * 2) 0) (z.getD (i * 2 + 1) 0) a with
    | none => rw [goC_none r] at h; cases h
    | some hs =>
      rw [goC_some r] at h
      intro q h1 h2
      by_cases e : q = i
      · subst e
        unfold pieceO at r
        split at r
        · rename_i c
          exact c.2
        · cases r
      · exact goC_in t f n z fu (i + 1) (hs ++ os) j h q (by omega) h2
theorem good_of {f : Nat → Pv} {n : Nat} (h : patsB f n = true) : n ≤ 12 ∧ GoodPs f n := by
  have := of_decide_eq_true h
  exact ⟨this.1, fun k hk => pat_out (this.2 k hk)⟩
/-- What IsCover answers. -/
structure IsR where
  cost : Int
  cov : Bool
  good : Bool
def isR (t : List Int) (f : Nat → Pv) (n : Nat) (z : List Int) (len : Nat) : IsR := if (treeB t && patsB f n) = true then (if goC t f n z len 0 [0] = some len then ⟨costTo f z len, true, true⟩ else ⟨0, false, true⟩) else ⟨0, false, false⟩
theorem isR_bad {t : List Int} {f : Nat → Pv} {n : Nat} {z : List Int} {len : Nat} (h : (treeB t && patsB f n) = false) : isR t f n z len = ⟨0, false, false⟩ := by unfold isR; rw [if_neg (by rw [h]; simp)]
theorem isR_no {t : List Int} {f : Nat → Pv} {n : Nat} {z : List Int} {len : Nat} (h : (treeB t && patsB f n) = true) (hg : goC t f n z len 0 [0] ≠ some len) : isR t f n z len = ⟨0, false, true⟩ := by unfold isR; rw [if_pos h, if_neg hg]
theorem isR_yes {t : List Int} {f : Nat → Pv} {n : Nat} {z : List Int} {len : Nat} (h : (treeB t && patsB f n) = true) (hg : goC t f n z len 0 [0] = some len) : isR t f n z len = ⟨costTo f z len, true, true⟩ := by unfold isR; rw [if_pos h, if_pos hg]
end Go.Proofs.Ytapbfoooflpejaa.walks
