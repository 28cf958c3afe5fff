/-
  Plain facts on straight code: which steps are good: no Go program in sight.
-/
import Derived.Test.YtbjfhcbgghpdaaaMagMath
namespace Go.Proofs.Ytbjfhcbgghpdaaa.math
open Go

/-- Whether a step is a good one. -/
def goodI (o d a b n : Int) : Bool := if o = 1 then (inR d 0 7 && (a == 0) && (b == 0) && inR n 0 65535) else if o = 2 then (inR d 0 7 && inR a 0 7 && (b == 0) && (n == 0)) else if o = 8 then ((d == 0) && inR a 0 7 && (b == 0) && (n == 0)) else (inR o 3 7 && inR d 0 7 && inR a 0 7 && inR b 0 7 && (n == 0))
theorem goodI_1 (d a b n : Int) : goodI 1 d a b n = (inR d 0 7 && (a == 0) && (b == 0) && inR n 0 65535) := rfl
theorem goodI_2 (d a b n : Int) : goodI 2 d a b n = (inR d 0 7 && inR a 0 7 && (b == 0) && (n == 0)) := rfl
theorem goodI_8 (d a b n : Int) : goodI 8 d a b n = ((d == 0) && inR a 0 7 && (b == 0) && (n == 0)) := rfl
theorem goodI_o (o d a b n : Int) (h1 : o ≠ 1) (h2 : o ≠ 2) (h8 : o ≠ 8) : goodI o d a b n = (inR o 3 7 && inR d 0 7 && inR a 0 7 && inR b 0 7 && (n == 0)) := by unfold goodI; rw [if_neg h1, if_neg h2, if_neg h8]
/-- One step of a flat list, and whether all of the first len are good. -/
def stepB (zs : List Int) (k : Nat) : Bool := goodI (zs.getD (k * 5) 0) (zs.getD (k * 5 + 1) 0) (zs.getD (k * 5 + 2) 0) (zs.getD (k * 5 + 3) 0) (zs.getD (k * 5 + 4) 0)
def codeB (zs : List Int) (len : Nat) : Bool := decide (len ≤ 30 ∧ ∀ k, k < len → stepB zs k = true)
theorem code_mk {zs : List Int} {len : Nat} (h : len ≤ 30) (g : ∀ k, k < len → stepB zs k = true) : codeB zs len = true := decide_eq_true ⟨h, g⟩
theorem code_long {zs : List Int} {len : Nat} (h : 30 < len) : codeB zs len = false := decide_eq_false (by omega)
theorem code_bad {zs : List Int} {len k : Nat} (h : k < len) (g : stepB zs k = false) : codeB zs len = false := decide_eq_false (fun ⟨_, hg⟩ => by rw [hg k h] at g; cases g)
theorem code_out {zs : List Int} {len : Nat} (h : codeB zs len = true) : len ≤ 30 ∧ ∀ k, k < len → stepB zs k = true := of_decide_eq_true h
end Go.Proofs.Ytbjfhcbgghpdaaa.math
