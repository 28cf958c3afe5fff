/-
  Plain facts on rings: none has less than two places: no Go program in sight.
-/
import Derived.Test.YthjcgnldlhjjmabLeftMath
namespace Go.Proofs.Ythjcgnldlhjjmab.math
open Go

theorem ring_two {s : Int → Int} {p : Int} (h : ringL s p ≠ []) : 2 ≤ (ringL s p).length := by
  unfold ringL at h ⊢
  by_cases q : perTo s p 10 ≤ 1
  · rw [if_pos q] at h; exact absurd rfl h
  · rw [if_neg q]
    simp only [List.length_cons, down_len]
    omega
theorem rings_two {s : Int → Int} : ∀ n r, r ∈ ringsTo s n → 2 ≤ r.length
  | 0, r, h => by cases h
  | n + 1, r, h => by
    have h' : r ∈ (if leastR s (n : Int) = true then ringsTo s n ++ [ringL s (n : Int)] else ringsTo s n) := h
    by_cases q : leastR s (n : Int) = true
    · rw [if_pos q] at h'
      rcases List.mem_append.1 h' with k | k
      · exact rings_two n r k
      · have e : r = ringL s (n : Int) := by simpa using k
        rw [e]
        unfold leastR at q
        rw [Bool.and_eq_true] at q
        exact ring_two (of_decide_eq_true q.1)
    · rw [if_neg q] at h'; exact rings_two n r h'
theorem ring_at_two {s : Int → Int} {k : Nat} (h : k < (ringsTo s 10).length) : 2 ≤ ((ringsTo s 10).getD k []).length := by
  refine rings_two (s := s) 10 _ ?_
  simp only [List.getD, List.getElem?_eq_getElem h, Option.getD_some]
  exact List.getElem_mem h
end Go.Proofs.Ythjcgnldlhjjmab.math
