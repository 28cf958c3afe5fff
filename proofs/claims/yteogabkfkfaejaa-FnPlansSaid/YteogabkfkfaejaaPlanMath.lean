/-
  Plain facts on rows of shifts: which are good, what they come to: no Go program in sight.
-/
import Derived.Laws.BitsAllLaws
import Derived.Laws.Bits128
import Derived.Test.YteogabkfkfaejaaMagMath
namespace Go.Proofs.Yteogabkfkfaejaa.math
open Go

/-- Whether a number tells a shift; what n comes to by it. -/
def shB (z : Int) : Bool := decide ((1 ≤ z ∧ z ≤ 20) ∨ (-20 ≤ z ∧ z ≤ -1))
def shV (n z : Int) : Int := if z < 0 then -(n * 2 ^ ((-z).toNat - 1)) else n * 2 ^ (z.toNat - 1)
theorem sh_pos {z : Int} (h0 : 1 ≤ z) (h1 : z ≤ 20) : shB z = true := decide_eq_true (Or.inl ⟨h0, h1⟩)
theorem sh_neg {z : Int} (h0 : -20 ≤ z) (h1 : z ≤ -1) : shB z = true := decide_eq_true (Or.inr ⟨h0, h1⟩)
theorem sh_out {z : Int} (h : shB z = true) : (1 ≤ z ∧ z ≤ 20) ∨ (-20 ≤ z ∧ z ≤ -1) := of_decide_eq_true h
theorem sh_no {z : Int} (h : shB z = false) : z < -20 ∨ z = 0 ∨ 20 < z := by
  have := of_decide_eq_false h
  omega
theorem pow19 {y : Nat} (h1 : y ≤ 19) : 1 ≤ (2 : Int) ^ y ∧ (2 : Int) ^ y ≤ 524288 := by
  have h := pow_pos y
  have k : (2 : Int) ^ y ≤ 2 ^ 19 := pow_le h1
  have e : (2 : Int) ^ 19 = 524288 := by decide
  omega
theorem mul_sym {n p : Int} (a : -65535 ≤ n) (b : n ≤ 65535) (c : 1 ≤ p) (d : p ≤ 524288) : -34359214080 ≤ n * p ∧ n * p ≤ 34359214080 := by
  have h1 := Int.mul_nonneg (show 0 ≤ 65535 - n by omega) (show 0 ≤ p by omega)
  have h2 := Int.mul_nonneg (show 0 ≤ 65535 + n by omega) (show 0 ≤ p by omega)
  rw [Int.sub_mul] at h1
  rw [Int.add_mul] at h2
  omega
/-- What the first k numbers of a row come to. -/
def sumN (n : Int) (zs : List Int) : Nat → Int
  | 0 => 0
  | k + 1 => sumN n zs k + shV n (zs.getD k 0)
theorem shV_bd {n z : Int} (a : -65535 ≤ n) (b : n ≤ 65535) (h : shB z = true) : -34359214080 ≤ shV n z ∧ shV n z ≤ 34359214080 := by
  unfold shV
  rcases sh_out h with ⟨h0, h1⟩ | ⟨h0, h1⟩
  · rw [if_neg (by omega)]
    obtain ⟨p0, p1⟩ := pow19 (y := z.toNat - 1) (by omega)
    exact mul_sym a b p0 p1
  · rw [if_pos (by omega)]
    obtain ⟨p0, p1⟩ := pow19 (y := (-z).toNat - 1) (by omega)
    have := mul_sym a b p0 p1
    omega
theorem sum_bd {n : Int} {zs : List Int} (a : -65535 ≤ n) (b : n ≤ 65535) : ∀ k : Nat, (∀ i, i < k → shB (zs.getD i 0) = true) → -34359214080 * (k : Int) ≤ sumN n zs k ∧ sumN n zs k ≤ 34359214080 * (k : Int)
  | 0, _ => by simp [sumN]
  | k + 1, h => by
    have h1 := sum_bd a b k (fun i hi => h i (by omega))
    have h2 := shV_bd a b (h k (by omega))
    simp only [sumN]
    omega
end Go.Proofs.Yteogabkfkfaejaa.math
