/-
  Facts as plain data: which are good, what two of them join to, what a step of two makes of them.
-/
import Derived.Test.YtfplpabnfhkmlaaMagMath
import Derived.Test.YtfplpabnfhkmlaaRunMath
import Derived.WalkKit
namespace Go.Proofs.Ytfplpabnfhkmlaa.math

/-- A fact: not come to; known; what. -/
structure Fv where
  t : Bool
  k : Bool
  n : Int
deriving DecidableEq
def Fv.val (f : Fv) : Value := .agg #[.bool f.t, .bool f.k, .int .i64 f.n]
def any : Fv := ⟨false, false, 0⟩
def goodF (t k : Bool) (n : Int) : Bool := match t, k with
  | false, true => inR n 0 65535
  | true, true => false
  | _, false => n == 0
def Fv.good (f : Fv) : Bool := goodF f.t f.k f.n
def joinF (a b : Fv) : Fv := if a.t = true then b else if b.t = true ∨ a = b then a else any
def joinsV (f g : Fv) : Fv := if f.good = true ∧ g.good = true then joinF f g else any
theorem good_word {f : Fv} (h : f.good = true) (k : f.k = true) : f.t = false ∧ 0 ≤ f.n ∧ f.n ≤ 65535 := by
  obtain ⟨t, k', n⟩ := f
  simp at k
  subst k
  cases t
  · exact ⟨rfl, inR_out h⟩
  · simp [Fv.good, goodF] at h
theorem good_else {f : Fv} (h : f.good = true) (k : f.k = false) : f.n = 0 := by
  obtain ⟨t, k', n⟩ := f
  simp at k
  subst k
  cases t <;> simpa [Fv.good, goodF] using h
theorem good_top {f : Fv} (h : f.good = true) (k : f.t = true) : f = ⟨true, false, 0⟩ := by
  obtain ⟨t, k', n⟩ := f
  simp at k
  subst k
  cases k'
  · simp [Fv.good, goodF] at h; simp [h]
  · simp [Fv.good, goodF] at h
theorem good_any : any.good = true := rfl
theorem good_join {a b : Fv} (ha : a.good = true) (hb : b.good = true) : (joinF a b).good = true := by
  unfold joinF
  split
  · exact hb
  · split
    · exact ha
    · rfl
end Go.Proofs.Ytfplpabnfhkmlaa.math
