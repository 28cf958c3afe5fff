/-
  Plain facts: a row that the digits tell multiplies rightly, tells shifts alone, no two side by side, nine at most: no Go program in sight.
-/
import Derived.Test.YteogabkfkfaejaaPlanMath
import Derived.Test.YteogabkfkfaejaaPlanDigMath
namespace Go.Proofs.Yteogabkfkfaejaa.math
open Go

theorem sum_left (n : Int) (zs ys : List Int) : ∀ k : Nat, k ≤ zs.length → sumN n (zs ++ ys) k = sumN n zs k
  | 0, _ => rfl
  | k + 1, h => by
    show sumN n (zs ++ ys) k + shV n ((zs ++ ys).getD k 0) = sumN n zs k + shV n (zs.getD k 0)
    rw [sum_left n zs ys k (by omega)]
    have e : (zs ++ ys).getD k 0 = zs.getD k 0 := by simp [List.getD, List.getElem?_append_left (show k < zs.length by omega)]
    rw [e]
theorem sum_snoc (n : Int) (zs : List Int) (x : Int) : sumN n (zs ++ [x]) (zs ++ [x]).length = sumN n zs zs.length + shV n x := by
  rw [List.length_append]
  show sumN n (zs ++ [x]) zs.length + shV n ((zs ++ [x]).getD zs.length 0) = _
  rw [sum_left n zs [x] zs.length (Nat.le_refl _)]
  simp
theorem shV_digit (n d : Int) (k : Nat) (h : d = 1 ∨ d = -1) : shV n (d * ((k : Int) + 1)) = d * (n * 2 ^ k) := by
  rcases h with rfl | rfl
  · unfold shV
    rw [if_neg (by omega), Int.one_mul, Int.one_mul, show ((k : Int) + 1).toNat - 1 = k by omega]
  · unfold shV
    rw [if_pos (by omega), show (-(-1 * ((k : Int) + 1))).toNat - 1 = k by omega]
    omega
theorem dg_odd {x : Int} (h : dg x ≠ 0) : (dg x = 1 ∧ x % 4 = 1) ∨ (dg x = -1 ∧ x % 4 = 3) := by
  unfold dg at *
  split at h
  · exact (h rfl).elim
  · rename_i h2; rw [if_neg h2]; omega
theorem dg_next {b : Int} {k : Nat} (h : dg (stN b k) ≠ 0) : dg (stN b (k + 1)) = 0 := by
  refine dg_even ?_
  show (stN b k - dg (stN b k)) / 2 % 2 = 0
  rcases dg_odd h with ⟨e, m⟩ | ⟨e, m⟩ <;> rw [e] <;> omega
theorem plan_sum (n b : Int) : ∀ k : Nat, sumN n (planTo b k) (planTo b k).length + n * 2 ^ k * stN b k = n * b
  | 0 => by simp [planTo, sumN, stN]
  | k + 1 => by
    have ih := plan_sum n b k
    have e2 : n * 2 ^ (k + 1) * stN b (k + 1) = n * 2 ^ k * (2 * stN b (k + 1)) := by
      rw [Int.pow_succ, ← Int.mul_assoc, Int.mul_assoc (n * 2 ^ k)]
    rw [e2]
    by_cases h : dg (stN b k) = 0
    · rw [plan_even h]
      have : 2 * stN b (k + 1) = stN b k := by
        show 2 * ((stN b k - dg (stN b k)) / 2) = stN b k
        have hm : stN b k % 2 = 0 := by
          apply Classical.byContradiction; intro hc
          unfold dg at h; rw [if_neg hc] at h; omega
        rw [h]; omega
      rw [this]; exact ih
    · rw [plan_odd h, sum_snoc]
      have hd := dg_odd h
      have : 2 * stN b (k + 1) = stN b k - dg (stN b k) := by
        show 2 * ((stN b k - dg (stN b k)) / 2) = stN b k - dg (stN b k)
        rcases hd with ⟨e, m⟩ | ⟨e, m⟩ <;> rw [e] <;> omega
      rw [this, shV_digit n _ k (by rcases hd with ⟨e, _⟩ | ⟨e, _⟩; exact Or.inl e; exact Or.inr e), Int.mul_sub, Int.mul_comm (dg (stN b k))]
      omega
/-- THE ROW MULTIPLIES RIGHTLY. -/
theorem plan_right {n b : Int} (h0 : 0 ≤ b) (h1 : b ≤ 65535) : sumN n (planTo b 17) (planTo b 17).length = b * n := by
  have h := plan_sum n b 17
  rw [st_last h0 h1, Int.mul_zero, Int.add_zero] at h
  rw [h, Int.mul_comm]
def absI (z : Int) : Int := if z < 0 then -z else z
theorem plan_mem (b : Int) : ∀ (k : Nat) (z : Int), z ∈ planTo b k → 1 ≤ absI z ∧ absI z ≤ (k : Int)
  | 0, z, h => by simp [planTo] at h
  | k + 1, z, h => by
    by_cases hd : dg (stN b k) = 0
    · rw [plan_even hd] at h
      have := plan_mem b k z h
      omega
    · rw [plan_odd hd, List.mem_append] at h
      rcases h with h | h
      · have := plan_mem b k z h
        omega
      · simp at h
        rw [h]
        unfold absI
        rcases dg_odd hd with ⟨e, _⟩ | ⟨e, _⟩ <;> rw [e] <;> split <;> omega
theorem getD_mem {zs : List Int} {i : Nat} (h : i < zs.length) : zs.getD i 0 ∈ zs := by
  have : zs.getD i 0 = zs[i] := by simp [List.getD, h]
  rw [this]; exact List.getElem_mem h
theorem plan_good (b : Int) : ∀ i, i < (planTo b 17).length → shB ((planTo b 17).getD i 0) = true := by
  intro i hi
  have := plan_mem b 17 _ (getD_mem hi)
  unfold absI at this
  by_cases h : (planTo b 17).getD i 0 < 0
  · rw [if_pos h] at this; exact sh_neg (by omega) (by omega)
  · rw [if_neg h] at this; exact sh_pos (by omega) (by omega)
theorem plan_nine (b : Int) : ∀ k : Nat, 2 * (planTo b k).length ≤ k + 1 ∧ 2 * (planTo b (k + 1)).length ≤ k + 2
  | 0 => by
    have := plan_len b (0 + 1)
    exact ⟨by simp [planTo], by omega⟩
  | k + 1 => by
    obtain ⟨h0, h1⟩ := plan_nine b k
    refine ⟨h1, ?_⟩
    by_cases hd : dg (stN b (k + 1)) = 0
    · rw [plan_even hd]; omega
    · rw [plan_odd hd, List.length_append]
      have he : dg (stN b k) = 0 := by
        apply Classical.byContradiction; intro hc
        exact hd (dg_next hc)
      rw [plan_even he]
      simp
      omega
/-- No two side by side. -/
def Apart (zs : List Int) : Prop := ∀ i, i + 1 < zs.length → absI (zs.getD i 0) + 2 ≤ absI (zs.getD (i + 1) 0)
theorem apart_snoc {zs : List Int} {x : Int} (h : Apart zs) (hx : ∀ z ∈ zs, absI z + 2 ≤ absI x) : Apart (zs ++ [x]) := by
  intro i hi
  rw [List.length_append] at hi
  simp at hi
  have e : ∀ j, j < zs.length → (zs ++ [x]).getD j 0 = zs.getD j 0 := fun j hj => by simp [List.getD, List.getElem?_append_left hj]
  rw [e i (by omega)]
  by_cases hl : i + 1 < zs.length
  · rw [e (i + 1) hl]; exact h i hl
  · have e2 : (zs ++ [x]).getD (i + 1) 0 = x := by rw [show i + 1 = zs.length by omega]; simp
    rw [e2]; exact hx _ (getD_mem (by omega))
theorem plan_apart (b : Int) : ∀ k : Nat, Apart (planTo b k)
  | 0 => fun i hi => by simp [planTo] at hi
  | k + 1 => by
    by_cases hd : dg (stN b k) = 0
    · rw [plan_even hd]; exact plan_apart b k
    · rw [plan_odd hd]
      refine apart_snoc (plan_apart b k) ?_
      intro z hz
      have hx : absI (dg (stN b k) * ((k : Int) + 1)) = (k : Int) + 1 := by
        unfold absI
        rcases dg_odd hd with ⟨e, _⟩ | ⟨e, _⟩ <;> rw [e] <;> split <;> omega
      rw [hx]
      cases k with
      | zero => simp [planTo] at hz
      | succ j =>
        have he : dg (stN b j) = 0 := by
          apply Classical.byContradiction; intro hc
          exact hd (dg_next hc)
        rw [plan_even he] at hz
        have := plan_mem b j z hz
        omega
end Go.Proofs.Yteogabkfkfaejaa.math
