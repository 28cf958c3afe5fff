/-
  Plain facts on a number's digits -1, 0 and 1 of which no two side by side are other than 0: no Go program in sight.
-/
import Derived.Laws.BitsAllLaws
import Derived.Laws.Bits128
import Derived.Test.YteogabkfkfaejaaMath
import Derived.Test.YteogabkfkfaejaaMagMath
namespace Go.Proofs.Yteogabkfkfaejaa.math
open Go

theorem and_three (n : Int) : bits .and .i64 n 3 = n % 4 := and_low 2 (by decide) n
/-- The lowest digit of x; what is left of b behind k digits; the row that the first k digits tell. -/
def dg (x : Int) : Int := if x % 2 = 0 then 0 else 2 - x % 4
def stN (b : Int) : Nat → Int
  | 0 => b
  | k + 1 => (stN b k - dg (stN b k)) / 2
def planTo (b : Int) : Nat → List Int
  | 0 => []
  | k + 1 => planTo b k ++ (if dg (stN b k) = 0 then [] else [dg (stN b k) * ((k : Int) + 1)])
theorem dg_even {x : Int} (h : x % 2 = 0) : dg x = 0 := if_pos h
theorem dg_one {x : Int} (h : x % 4 = 1) : dg x = 1 := by unfold dg; rw [if_neg (by omega)]; omega
theorem dg_three {x : Int} (h : x % 4 = 3) : dg x = -1 := by unfold dg; rw [if_neg (by omega)]; omega
theorem dg_bd (x : Int) : -1 ≤ dg x ∧ dg x ≤ 1 := by unfold dg; split <;> omega
theorem st_bd {b : Int} (h0 : 0 ≤ b) (h1 : b ≤ 65535) : ∀ (k m : Nat), k + m = 16 → 0 ≤ stN b k ∧ stN b k ≤ 2 ^ m
  | 0, m, h => by
    have : m = 16 := by omega
    subst this
    show 0 ≤ b ∧ b ≤ 2 ^ 16
    have e : (2 : Int) ^ 16 = 65536 := by decide
    omega
  | k + 1, m, h => by
    obtain ⟨a, c⟩ := st_bd h0 h1 k (m + 1) (by omega)
    have e : (2 : Int) ^ (m + 1) = 2 * 2 ^ m := by rw [Int.pow_succ]; omega
    show 0 ≤ (stN b k - dg (stN b k)) / 2 ∧ (stN b k - dg (stN b k)) / 2 ≤ 2 ^ m
    have hp := pow_pos m
    unfold dg
    split <;> omega
theorem st_bound {b : Int} (h0 : 0 ≤ b) (h1 : b ≤ 65535) (k : Nat) (hk : k ≤ 16) : 0 ≤ stN b k ∧ stN b k ≤ 65536 := by
  obtain ⟨a, c⟩ := st_bd h0 h1 k (16 - k) (by omega)
  have : (2 : Int) ^ (16 - k) ≤ 2 ^ 16 := pow_le (by omega)
  have e : (2 : Int) ^ 16 = 65536 := by decide
  omega
theorem st_last {b : Int} (h0 : 0 ≤ b) (h1 : b ≤ 65535) : stN b 17 = 0 := by
  obtain ⟨a, c⟩ := st_bd h0 h1 16 0 rfl
  have e : (2 : Int) ^ 0 = 1 := by decide
  show (stN b 16 - dg (stN b 16)) / 2 = 0
  unfold dg
  split <;> omega
theorem st_zero {b : Int} {k : Nat} (h : stN b k = 0) : ∀ d, stN b (k + d) = 0 ∧ planTo b (k + d) = planTo b k
  | 0 => ⟨h, rfl⟩
  | d + 1 => by
    obtain ⟨h1, h2⟩ := st_zero h d
    refine ⟨?_, ?_⟩
    · show (stN b (k + d) - dg (stN b (k + d))) / 2 = 0
      rw [h1]; rfl
    · show planTo b (k + d) ++ (if dg (stN b (k + d)) = 0 then [] else _) = _
      rw [h1, h2]; simp [dg]
theorem st_end {b : Int} {k : Nat} (hk : k ≤ 17) (h : stN b k = 0) : planTo b k = planTo b 17 := by
  have := (st_zero h (17 - k)).2
  rw [show k + (17 - k) = 17 by omega] at this
  exact this.symm
theorem plan_len (b : Int) : ∀ k, (planTo b k).length ≤ k
  | 0 => Nat.le_refl _
  | k + 1 => by
    have := plan_len b k
    simp only [planTo, List.length_append]
    split <;> simp <;> omega
theorem plan_even {b : Int} {k : Nat} (h : dg (stN b k) = 0) : planTo b (k + 1) = planTo b k := by
  show planTo b k ++ _ = _
  rw [if_pos h]; simp
theorem plan_odd {b : Int} {k : Nat} (h : dg (stN b k) ≠ 0) : planTo b (k + 1) = planTo b k ++ [dg (stN b k) * ((k : Int) + 1)] := by
  show planTo b k ++ _ = _
  rw [if_neg h]
end Go.Proofs.Yteogabkfkfaejaa.math
