/-
  Flows as plain data: which are good.
-/
import Derived.Test.YtemlhhogcdgofaaMagMath
import Derived.Test.YtemlhhogcdgofaaCodeMath
import Derived.Test.YtemlhhogcdgofaaRunMath
import Derived.WalkKit
namespace Go.Proofs.Ytemlhhogcdgofaa.math

/-- A block: its steps told flat, their number, what it tests, where it goes on. -/
structure Bv where
  zs : List Int
  len : Nat
  t : Int
  th : Int
  el : Int
def noB : Bv := ⟨[], 0, 0, 0, 0⟩
def blockB (b : Bv) (n : Nat) : Bool := codeB b.zs b.len && inR b.t 0 7 && inR b.th (-1) ((n : Int) - 1) && inR b.el (-1) ((n : Int) - 1)
def flowB (f : Nat → Bv) (n : Nat) : Bool := decide ((1 ≤ n ∧ n ≤ 8) ∧ ∀ k, k < n → blockB (f k) n = true)
theorem flow_out {f : Nat → Bv} {n : Nat} (h : flowB f n = true) : (1 ≤ n ∧ n ≤ 8) ∧ ∀ k, k < n → blockB (f k) n = true := of_decide_eq_true h
theorem flow_mk {f : Nat → Bv} {n : Nat} (h0 : 1 ≤ n) (h1 : n ≤ 8) (h : ∀ k, k < n → blockB (f k) n = true) : flowB f n = true := decide_eq_true ⟨⟨h0, h1⟩, h⟩
theorem flow_no {f : Nat → Bv} {n : Nat} (h : ¬ (1 ≤ n ∧ n ≤ 8)) : flowB f n = false := decide_eq_false (fun q => h q.1)
theorem flow_bad {f : Nat → Bv} {n k : Nat} (hk : k < n) (h : blockB (f k) n = false) : flowB f n = false := decide_eq_false (fun q => by rw [q.2 k hk] at h; cases h)
/-- What is left of the size when k blocks have been counted. -/
def leftTo (f : Nat → Bv) (l : Int) : Nat → Int
  | 0 => l
  | k + 1 => leftTo f l k - ((f k).len : Int)
theorem left_le (f : Nat → Bv) (l : Int) : ∀ k, leftTo f l k ≤ l
  | 0 => Int.le_refl _
  | k + 1 => by have := left_le f l k; simp only [leftTo]; omega
theorem left_mono (f : Nat → Bv) (l : Int) : ∀ (m k : Nat), k ≤ m → leftTo f l m ≤ leftTo f l k
  | 0, k, h => by obtain rfl : k = 0 := by omega
                  exact Int.le_refl _
  | m + 1, k, h => by
    by_cases e : k = m + 1
    · subst e; exact Int.le_refl _
    · have := left_mono f l m k (by omega)
      simp only [leftTo]; omega
theorem left_len {f : Nat → Bv} {l : Int} {n k : Nat} (hk : k < n) (h : 0 ≤ leftTo f l n) : ((f k).len : Int) ≤ l := by
  have h1 := left_mono f l n (k + 1) (by omega)
  have h2 := left_le f l k
  simp only [leftTo] at h1
  omega
end Go.Proofs.Ytemlhhogcdgofaa.math
